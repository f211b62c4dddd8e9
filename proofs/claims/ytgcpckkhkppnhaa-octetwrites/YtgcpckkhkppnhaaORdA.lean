/- Layer octet: the statements' read: one step of both readers. -/
import Derived.Test.YtgcpckkhkppnhaaORRead2
import Derived.Test.YtgcpckkhkppnhaaOSteps
import Derived.Test.YtgcpckkhkppnhaaOMem
import Derived.Test.YtgcpckkhkppnhaaSHeld
import Derived.Test.YtgcpckkhkppnhaaRInv
namespace Go.Proofs.Ytgcpckkhkppnhaa
open Go.RowKit
set_option linter.unusedVariables false
set_option linter.unusedSimpArgs false

/-- A step's cells. -/
def stepC (it : Item) (so : Option Addr) (cs : Nat) : List Value := [.int .i64 it.d, .int .i64 it.n, .int .u64 it.v, .slice so it.data.length cs]
/-- Two readers of the same bytes at the same place, apart from one another. -/
structure Two (w : World) (r : Nat) (ao : Option Addr) (c : Nat) (q : Nat) (ao2 : Option Addr) (c2 : Nat) (zs : List Int) (p : Nat) (e : Int) : Prop where
  one : Rd w r ao c zs p e
  two : Rd w q ao2 c2 zs p e
  ne : r ≠ q
  r1 : ∀ g, ao = some ⟨g, 0, none⟩ → g ≠ q
  r2 : ∀ g, ao2 = some ⟨g, 0, none⟩ → g ≠ r
theorem Two.kept {S : Nat → Prop} {w w' : World} {r : Nat} {ao : Option Addr} {c q : Nat} {ao2 : Option Addr} {c2 : Nat} {zs : List Int} {p : Nat} {e : Int} (h : Two w r ao c q ao2 c2 zs p e) (hk : Kept S w w') (h1 : ¬ S r) (h2 : ¬ S q) (h3 : ∀ g, ao = some ⟨g, 0, none⟩ → ¬ S g) (h4 : ∀ g, ao2 = some ⟨g, 0, none⟩ → ¬ S g) : Two w' r ao c q ao2 c2 zs p e :=
  ⟨h.one.kept hk h1 h3, h.two.kept hk h2 h4, h.ne, h.r1, h.r2⟩
theorem Two.later {w w' : World} {r : Nat} {ao : Option Addr} {c q : Nat} {ao2 : Option Addr} {c2 : Nat} {zs : List Int} {p : Nat} {e : Int} (h : Two w r ao c q ao2 c2 zs p e) (l : Below w.heap.size w w') : Two w' r ao c q ao2 c2 zs p e := ⟨h.one.later l (Nat.le_refl _), h.two.later l (Nat.le_refl _), h.ne, h.r1, h.r2⟩
theorem Two.dn {w : World} {r : Nat} {ao : Option Addr} {c q : Nat} {ao2 : Option Addr} {c2 : Nat} {zs : List Int} {p : Nat} {e : Int} (h : Two w r ao c q ao2 c2 zs p e) (k : Nat) : Two (w.drewN k) r ao c q ao2 c2 zs p e := h.later (below_dn (Below.refl _ _) k)
theorem Rd.row_lt {w : World} {r : Nat} {ao : Option Addr} {c : Nat} {zs : List Int} {p : Nat} {e : Int} (h : Rd w r ao c zs p e) (g : Nat) (hg : ao = some ⟨g, 0, none⟩) : g < w.heap.size := (h.own.lt g (by rw [hg]; rfl)).2
def Reads (r q : Nat) (ao : Option Addr) (c : Nat) (ao2 : Option Addr) (c2 : Nat) (zs : List Int) (w : World) (en : Ending) (w' : World) : Prop :=
  en = .returned (.bool true) ∧ ∃ p e, Two w' r ao c q ao2 c2 zs p e ∧ Kept (fun k => k = r ∨ k = q) w w'

set_option maxRecDepth 20000 in
set_option maxHeartbeats 1000000 in
theorem read_num (r q : Nat) (ao : Option Addr) (c : Nat) (ao2 : Option Addr) (c2 : Nat) (zs : List Int) (p : Nat) (e : Int) (it : Item) (so : Option Addr) (cs : Nat) (w : World) (x : Two w r ao c q ao2 c2 zs p e) (hd : 0 < wd it.d) :
    Calls Try.prog 9 #[.pointer (some ⟨r, 0, none⟩), .pointer (some ⟨q, 0, none⟩), .agg (stepC it so cs).toArray] w (Reads r q ao c ao2 c2 zs w) := by
  have X : Hid (Two w r ao c q ao2 c2 zs p e) := x
  have i1 : (0 : Int) < (wd it.d : Int) := by omega
  have w8 := wd_le it.d
  have HV : Hid (leV (wd it.d) (nxL zs p e (wd it.d)).length (nxL zs p e (wd it.d)) = tkV zs p e it.d) := rfl
  clear x
  go_enter Try.func9, Try.ntmps9
  go_wp2_with (first | (refine wpList_box_new rfl 35 _ rfl (stepC it so cs) rfl ?_; intro w1 b1 s1 l1; have cd := b1.cell 0; rw [show (stepC it so cs)[0]? = some (.int .i64 it.d) from rfl] at cd) | (go_at_call 20; refine (width_any it.d _).mono ?_; rintro e w' ⟨rfl, rfl⟩))
  have V1 : Hid (Blk w1 w.heap.size 35 (stepC it so cs) ∧ Below w.heap.size w w1) := ⟨b1, l1⟩
  clear b1 s1 l1 cd
  refine wp_region_noPanic (till_region 10 (fun W => W.cell? ⟨w.heap.size, 0, none⟩ = some (.int .i64 it.d)) (by kernel_rfl) ?_)
  obtain ⟨w3, hw3⟩ : ∃ q, ({ heap := w1.heap, tape := w1.tape, drawn := w1.drawn + 1, os := w1.os, output := w1.output } : World) = q := ⟨_, rfl⟩
  have V3 : Hid (Blk w3 w.heap.size 35 (stepC it so cs) ∧ Below w.heap.size w w3) := by rw [← hw3]; exact ⟨V1.out.1, ⟨V1.out.2.os, V1.out.2.tape, V1.out.2.output, V1.out.2.size, V1.out.2.block⟩⟩
  rw [hw3]
  clear hw3
  have hS : (fun W : World => W.cell? ⟨w.heap.size, 0, none⟩ = some (.int .i64 it.d)) w3 := V3.out.1.cell 0
  refine tTake 0 (some 14) (.pointer (some ⟨r, 0, none⟩)) rfl rfl (by kernel_rfl) (by kernel_rfl) (by kernel_rfl) (by decide) (fun _ _ _ h => h) (by rfl) (fun W' => by go_simp) hS ?_
  simp only [Act.put, List.setIfInBounds_toArray, List.set_cons_zero, List.set_cons_succ]
  refine tTake 1 (some 15) (.pointer (some ⟨w.heap.size, 0, none⟩)) rfl rfl (by kernel_rfl) (by kernel_rfl) (by kernel_rfl) (by decide) (fun _ _ _ h => h) (by rfl) (fun W' => by go_simp) hS ?_
  simp only [Act.put, List.setIfInBounds_toArray, List.set_cons_zero, List.set_cons_succ]
  refine tLoad 2 (some 16) (.int .i64 it.d) rfl rfl (by kernel_rfl) (by kernel_rfl) (by kernel_rfl) (by decide) (by kernel_rfl) (by kernel_rfl) (fun _ _ _ h => h) (by rfl) (fun W' hS' => by have s1 := hS'; go_simp) hS ?_
  simp only [Act.put, List.setIfInBounds_toArray, List.set_cons_zero, List.set_cons_succ]
  refine tTake 4 (some 18) (.pointer (some ⟨q, 0, none⟩)) rfl rfl (by kernel_rfl) (by kernel_rfl) (by kernel_rfl) (by decide) (fun _ _ _ h => h) (by rfl) (fun W' => by go_simp) hS ?_
  simp only [Act.put, List.setIfInBounds_toArray, List.set_cons_zero, List.set_cons_succ]
  refine tTake 5 (some 19) (.pointer (some ⟨w.heap.size, 0, none⟩)) rfl rfl (by kernel_rfl) (by kernel_rfl) (by kernel_rfl) (by decide) (fun _ _ _ h => h) (by rfl) (fun W' => by go_simp) hS ?_
  simp only [Act.put, List.setIfInBounds_toArray, List.set_cons_zero, List.set_cons_succ]
  refine tLoad 6 (some 20) (.int .i64 it.d) rfl rfl (by kernel_rfl) (by kernel_rfl) (by kernel_rfl) (by decide) (by kernel_rfl) (by kernel_rfl) (fun _ _ _ h => h) (by rfl) (fun W' hS' => by have s1 := hS'; go_simp) hS ?_
  simp only [Act.put, List.setIfInBounds_toArray, List.set_cons_zero, List.set_cons_succ]
  refine till_ready 3 (by kernel_rfl) rfl (fun K hK => ?_)
  go_simp
  go_wp2_with (go_at_call 21; refine (taken_any r ao c zs p e it.d hd w3 (X.out.one.later V3.out.2 (Nat.le_refl _))).mono ?_; rintro e4 w4 ⟨rfl, r4, k4⟩)
  have lr := X.out.one.lt
  have lq := X.out.two.lt
  have hS4 : (fun W : World => W.cell? ⟨w.heap.size, 0, none⟩ = some (.int .i64 it.d)) w4 := (k4.cell (p := ⟨w.heap.size, 0, none⟩) V3.out.1.lt (by show ¬ w.heap.size = r; omega)).trans hS
  refine ⟨hS4, ?_⟩
  have V4 : Hid (Rd w4 r ao c zs (nxP zs p e (wd it.d)) (nxE zs p e (wd it.d)) ∧ Rd w4 q ao2 c2 zs p e ∧ Kept (fun k => k = r ∨ k = q) w w4) := ⟨r4, (X.out.two.later V3.out.2 (Nat.le_refl _)).kept k4 (fun h => X.out.ne h.symm) X.out.r2, (kept_of_below V3.out.2 (Nat.le_refl _)).trans (k4.mono (fun k h => .inl h))⟩
  clear r4 k4 hS
  refine till_ready 7 (by kernel_rfl) rfl (fun K hK => ?_)
  go_simp
  go_wp2_with (go_at_call 20; refine (width_any it.d _).mono ?_; rintro e5 w5 ⟨rfl, rfl⟩)
  refine ⟨hS4, ?_⟩
  refine till_ready 8 (by kernel_rfl) rfl (fun K hK => ?_)
  go_simp
  go_wp2_with (go_at_call 22; refine (rnumber_any q ao2 c2 zs p e (wd it.d) hd w8 w4 V4.out.2.1).mono ?_; rintro e6 w6 ⟨rfl, r6, k6⟩)
  rw [HV.out]
  have hS6 : (fun W : World => W.cell? ⟨w.heap.size, 0, none⟩ = some (.int .i64 it.d)) w6 := (k6.cell (p := ⟨w.heap.size, 0, none⟩) (World.block_lt_of_cell? _ _ hS4) (by show ¬ w.heap.size = q; omega)).trans hS4
  refine ⟨hS6, ?_⟩
  have V6 : Hid (Two w6 r ao c q ao2 c2 zs (nxP zs p e (wd it.d)) (nxE zs p e (wd it.d)) ∧ Kept (fun k => k = r ∨ k = q) w w6) := ⟨⟨V4.out.1.kept k6 X.out.ne X.out.r1, r6, X.out.ne, X.out.r1, X.out.r2⟩, V4.out.2.2.trans (k6.mono (fun k h => .inr h))⟩
  clear r6 k6 hS4
  refine tTake 9 (some 23) (.bool true) rfl rfl (by kernel_rfl) (by kernel_rfl) (by kernel_rfl) (by decide) (fun _ _ _ h => h) (by rfl) (fun W' => by go_simp) hS6 ?_
  simp only [Act.put, List.setIfInBounds_toArray, List.set_cons_zero, List.set_cons_succ]
  clear hS6
  refine till_at (by kernel_rfl) ?_
  refine wpAny_ready (rs := [10]) (by kernel_rfl) (by simp) (AllReady.cons rfl (fun K hK => ?_) AllReady.nil)
  rw [if_pos (by rfl)]
  refine last_assign (.tmp 23) rfl (some 6) rfl (.bool true) rfl ?_
  refine hK _ _ ?_
  simp only [Act.put, List.setIfInBounds_toArray, List.set_cons_zero, List.set_cons_succ]
  refine wpAny_done (by kernel_rfl) (NoPanic.normal ?_) _
  go_wp2_with fail
  go_ret
  exact ⟨rfl, _, _, V6.out.1, V6.out.2⟩
end Go.Proofs.Ytgcpckkhkppnhaa
