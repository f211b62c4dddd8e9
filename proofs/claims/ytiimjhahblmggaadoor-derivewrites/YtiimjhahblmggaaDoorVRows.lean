/- Lists of the call's own that grow, and stay where others are written. -/
import Derived.Test.YtiimjhahblmggaaDoorDRows
import Derived.Test.YtiimjhahblmggaaDoorVMac
namespace Go.Proofs.YtiimjhahblmggaaDoor
open Go.RowKit
set_option linter.unusedVariables false
set_option linter.unusedSimpArgs false

theorem getD_app (pss : List (List Int)) (p : List Int) (j : Nat) (hj : j < pss.length) : (pss ++ [p]).getD j [] = pss.getD j [] := by
  simp [List.getD, List.getElem?_append_left hj]
theorem getD_last (pss : List (List Int)) (p : List Int) (k : Nat) (hk : pss.length = k) : (pss ++ [p]).getD k [] = p := by
  subst hk; simp [List.getD]
theorem OwnH.grow {base : Nat} {w : World} {v : Value} {k : Nat} {pss : List (List Int)} {hd : List Value} (h : OwnH base w v k pss hd) (hl : pss.length = k) (p : List Int) : OwnH base w v k (pss ++ [p]) hd :=
  ⟨h.outer, fun j hj => by rw [getD_app pss p j (by omega)]; exact h.inner j hj⟩
theorem ownsRow_kept {S : Nat → Prop} {w w' : World} {base : Nat} {e : TypeId} {size : Nat} {v : Value} {n : Nat} {xs : List Value} (h : w.ownsRow base e size v n xs) (hk : Kept S w w') (hS : ∀ b, S b → ∃ t vs, Blk w b t vs ∧ t ≠ e) : w'.ownsRow base e size v n xs := by
  refine ⟨h.1, ?_⟩
  rcases h.2 with h0 | ⟨g, cap, cur, rfl, hg, hh, r⟩
  · exact .inl h0
  · refine .inr ⟨g, cap, cur, rfl, hg, ?_, r⟩
    rw [hk.block g (lt_of_block hh) (fun hs => ?_)]
    · exact hh
    · obtain ⟨t, vs, hb, ht⟩ := hS g hs
      unfold Blk at hb
      rw [hb] at hh
      simp at hh
      exact ht hh.2
theorem row_not {S : Nat → Prop} {w : World} {g : Nat} {zs : List Int} (h : RowAt w g zs) (hS : ∀ b, S b → ∃ t vs, Blk w b t vs ∧ t ≠ 5) : ¬ S g := fun hs => by
  obtain ⟨t, vs, hb, ht⟩ := hS g hs
  obtain ⟨rest, hr⟩ := h
  unfold Blk at hb
  rw [hb] at hr
  simp at hr
  exact ht hr.2
theorem OwnH.kept {S : Nat → Prop} {base : Nat} {w w' : World} {v : Value} {k : Nat} {pss : List (List Int)} {hd : List Value} (h : OwnH base w v k pss hd) (hk : Kept S w w') (hS : ∀ b, S b → ∃ t vs, Blk w b t vs ∧ t ≠ 5 ∧ t ≠ 22) : OwnH base w' v k pss hd :=
  ⟨ownsRow_kept h.outer hk (fun b hb => by obtain ⟨t, vs, x, _, y⟩ := hS b hb; exact ⟨t, vs, x, y⟩), fun j hj => by
    obtain ⟨so, c, e, hc, hr⟩ := h.inner j hj
    refine ⟨so, c, e, hc, fun h0 => ?_⟩
    obtain ⟨g, rfl, hg, hrow⟩ := hr h0
    exact ⟨g, rfl, hg, hrow.kept hk (row_not hrow (fun b hb => by obtain ⟨t, vs, x, y, _⟩ := hS b hb; exact ⟨t, vs, x, y⟩))⟩⟩
theorem OwnH.below {base : Nat} {w w' : World} {v : Value} {k : Nat} {pss : List (List Int)} {hd : List Value} (h : OwnH base w v k pss hd) (hb : Below w.heap.size w w') : OwnH base w' v k pss hd :=
  h.kept (Kept.new (fun _ => False) hb) (fun b hb => hb.elim)
theorem Holds.blk {w : World} {g : Nat} {m : List Int} (h : Holds w g m) : ∃ t vs, Blk w g t vs ∧ t ≠ 5 ∧ t ≠ 22 := ⟨_, _, h.hash.blk, by decide, by decide⟩
theorem Kept.ofGrown {w w' : World} {row : Option Nat} (hg : w.grownBy w' row) : Kept (fun b => row = some b) w w' :=
  ⟨hg.os, hg.tape, hg.output, hg.size, fun k hk hs => hg.block k hk (fun e => hs e.symm)⟩
theorem own_ne {w : World} {base : Nat} {e : TypeId} {size : Nat} {v : Value} {n : Nat} {xs : List Value} (h : w.ownsRow base e size v n xs) {b : Nat} {t : TypeId} {vs : List Value} (hb : Blk w b t vs) (ht : t ≠ e) : ¬ v.ownBlock = some b := by
  rcases h.2 with ⟨rfl, _⟩ | ⟨g, cap, cur, rfl, hg, hh, r⟩
  · intro e; cases e
  · intro e
    simp [Value.ownBlock] at e
    subst e
    unfold Blk at hb
    rw [hb] at hh
    simp at hh
    exact ht hh.2
theorem MacAt.grown {wr w3 w4 : World} {P g g' base : Nat} {key text : List Int} {v : Value} {k : Nat} {hd : List Value} {o : Obj} (m : MacAt wr P g g' key text) (l3 : Below wr.heap.size wr w3) (ho : w3.ownsRow base 22 1 v k hd) (hg : (w3.alloc o).grownBy w4 v.ownBlock) : MacAt w4 P g g' key text := by
  have m3 := (m.now l3).now ((Below.refl _ _).alloc (Nat.le_refl _) o)
  have ho3 := ho.alloc o
  exact m3.kept (Kept.ofGrown hg) (own_ne ho3 m3.blk (by decide)) (own_ne ho3 m3.kd.inn.hash.blk (by decide)) (own_ne ho3 m3.kd.out.hash.blk (by decide))
/-- A list more: its twin was made behind wr, then its header was appended. -/
theorem own_list_more {w wr w1 w2 : World} {v v' : Value} {pss : List (List Int)} {p : List Int} {hd : List Value} {k : Nat} {so : Option Addr} {c : Nat} (hl : pss.length = k)
    (hb : Below w.heap.size w wr) (ho : OwnH w.heap.size wr v k pss hd) (hb1 : Below wr.heap.size wr w1) (hc : p.length ≤ c) (hs : ∀ b o, so = some ⟨b, o, none⟩ → wr.heap.size ≤ b ∧ b < w1.heap.size ∧ o = 0 ∧ RowAt w1 b p) (hse : Seen w1 so p.length p)
    (hown' : w2.ownsRow w.heap.size 22 1 v' (k + 1) (hd ++ [.slice so p.length c])) (hg : (w1.alloc (.cells #[.slice so p.length c] 22)).grownBy w2 v.ownBlock) :
    OwnH w.heap.size w2 v' (k + 1) (pss ++ [p]) (hd ++ [.slice so p.length c]) ∧ Below w.heap.size w w2 := by
  have e := getD_last pss p k hl
  have := rows_step (pss := pss ++ [p]) hb (ho.grow hl p) hb1 (so := so) (c := c) (by rw [e]; exact hc) (by
    rw [e]; intro h0
    obtain ⟨b, o, rfl, _⟩ := hse.cells h0
    obtain ⟨x1, x2, rfl, x4⟩ := hs b o rfl
    exact ⟨b, rfl, x1, x4⟩) (by rw [e]; exact hown') (by rw [e]; exact hg)
  rw [e] at this
  exact this
end Go.Proofs.YtiimjhahblmggaaDoor
