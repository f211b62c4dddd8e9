/- The statements' helper CopyRows. -/
import Derived.Test.YtiimjhahblmggaaDoorDCopy
namespace Go.Proofs.YtiimjhahblmggaaDoor
open Go.RowKit
set_option linter.unusedVariables false
set_option linter.unusedSimpArgs false

theorem info_bytes : (Tryd.prog.info? 22).map (fun i => (i.zero, i.size, i.bytes)) = some (some (.slice none 0 0), 1, 24) := by kernel_rfl
/-- Lists of the call's own: a row of headers, and each list in a row of its own. -/
structure OwnH (base : Nat) (w : World) (v : Value) (k : Nat) (pss : List (List Int)) (hd : List Value) : Prop where
  outer : w.ownsRow base 22 1 v k hd
  inner : ∀ j, j < k → ∃ so c, hd[j]? = some (.slice so (pss.getD j []).length c) ∧ (pss.getD j []).length ≤ c ∧ (0 < (pss.getD j []).length → ∃ g, so = some ⟨g, 0, none⟩ ∧ base ≤ g ∧ RowAt w g (pss.getD j []))
theorem row_ne {w : World} {g base : Nat} {zs : List Int} {v : Value} {k : Nat} {hd : List Value} (h : RowAt w g zs) (ho : w.ownsRow base 22 1 v k hd) : some g ≠ v.ownBlock := by
  obtain ⟨rest, h⟩ := h
  rcases ho.2 with ⟨rfl, _⟩ | ⟨g', cap, cur, rfl, _, hh, _⟩
  · intro e; cases e
  · intro e
    simp [Value.ownBlock] at e
    subst e
    rw [hh] at h
    simp at h
theorem rows_step {w wr w1 w2 : World} {v v' : Value} {pss : List (List Int)} {hd : List Value} {k : Nat} {so : Option Addr} {c : Nat}
    (hb : Below w.heap.size w wr) (ho : OwnH w.heap.size wr v k pss hd) (hb1 : Below wr.heap.size wr w1) (hc : (pss.getD k []).length ≤ c) (hs : 0 < (pss.getD k []).length → ∃ g, so = some ⟨g, 0, none⟩ ∧ wr.heap.size ≤ g ∧ RowAt w1 g (pss.getD k []))
    (hown' : w2.ownsRow w.heap.size 22 1 v' (k + 1) (hd ++ [.slice so (pss.getD k []).length c])) (hg : (w1.alloc (.cells #[.slice so (pss.getD k []).length c] 22)).grownBy w2 v.ownBlock) :
    OwnH w.heap.size w2 v' (k + 1) pss (hd ++ [.slice so (pss.getD k []).length c]) ∧ Below w.heap.size w w2 := by
  have hl : hd.length = k := by have := ho.outer.1; omega
  have hB : Below w.heap.size w w1 := hb.trans (hb1.mono hb.size)
  have ho1 : w1.ownsRow w.heap.size 22 1 v k hd := ownsRow_below ho.outer hb1
  have keep : ∀ g zs, RowAt w1 g zs → RowAt w2 g zs := fun g zs h => (h.alloc _).block (hg.block g (by have := h.lt; simp; omega) (row_ne h ho1))
  refine ⟨⟨hown', ?_⟩, ?_⟩
  · intro j hj
    by_cases h : j < k
    · obtain ⟨so', c', e', hc', hr⟩ := ho.inner j h
      refine ⟨so', c', by rw [List.getElem?_append_left (by omega)]; exact e', hc', fun hn => ?_⟩
      obtain ⟨g, rfl, hge, hr'⟩ := hr hn
      exact ⟨g, rfl, hge, keep g _ (hr'.later hb1 (Nat.le_refl _))⟩
    · obtain rfl : j = k := by omega
      refine ⟨so, c, by rw [List.getElem?_append_right (by omega)]; simp [hl], hc, fun hn => ?_⟩
      obtain ⟨g, rfl, hge, hr⟩ := hs hn
      exact ⟨g, rfl, Nat.le_trans hb.size hge, keep g _ hr⟩
  · exact (hB.alloc hB.size _).grown hg (by have := hB.size; simp; omega) (fun j hj => (ho.outer.lt j hj).1)
/-- Lists of the call's own, read as data. -/
theorem OwnH.data {base : Nat} {w : World} {v : Value} {n : Nat} {pss : List (List Int)} {hd : List Value} (h : OwnH base w v n pss hd) (hn : pss.length = n) (hb : ∀ j, j < n → Bytes (pss.getD j []) ∧ (pss.getD j []).length ≤ 140737488355328) :
    ∃ vo cap, v = .slice vo n cap ∧ SeenP w vo n pss ∧ n ≤ cap := by
  rcases h.outer.2 with ⟨rfl, h0⟩ | ⟨g, cap, cur, rfl, hg, hh, hc, hm, hs, ht⟩
  · subst h0
    exact ⟨none, 0, rfl, ⟨hn, fun i hi => by omega⟩, Nat.le_refl _⟩
  · refine ⟨_, cap, rfl, ⟨hn, fun i hi => ?_⟩, hc⟩
    obtain ⟨so, c, e, hlc, hr⟩ := h.inner i hi
    refine ⟨g, 0, so, c, rfl, lt_of_block hh, ?_, ?_, hlc⟩
    · rw [cell_of_row _ _ _ _ _ _ hh, Nat.zero_add, ← e, ← ht, Nat.mul_one, List.getElem?_take, if_pos hi]; simp
    · rcases Nat.eq_zero_or_pos (pss.getD i []).length with h0 | h0
      · rw [List.length_eq_zero_iff.1 h0]; exact Seen.empty _ _
      · obtain ⟨g', rfl, _, hr'⟩ := hr h0
        have := Seen.of_row (n := (pss.getD i []).length) hr' (Nat.le_refl _) (hb i hi).2 (hb i hi).1
        rwa [List.take_length] at this
end Go.Proofs.YtiimjhahblmggaaDoor
