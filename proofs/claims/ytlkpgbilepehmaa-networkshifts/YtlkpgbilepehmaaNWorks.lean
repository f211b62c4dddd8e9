/- Layer network: the statements' works; rows of numbers compared. -/
import Derived.Deep.QuietTactic
import Derived.BigQuiet
import Derived.Deep.Draws
import Derived.Test.YtlkpgbilepehmaaNSort
namespace Go.Proofs.Ytlkpgbilepehmaa
open Go.RowKit
set_option linter.unusedVariables false
set_option linter.unusedSimpArgs false

set_option maxRecDepth 20000 in
set_option maxHeartbeats 1000000 in
theorem eqInts_any (ao bo : Option Addr) (n m c d : Nat) (zs ys : List Int) (w : World) (hs : SeenZ w ao n zs) (ht : SeenZ w bo m ys) (hn : n ≤ 140737488355328) (hm : m ≤ 140737488355328) :
    Calls Try.prog 24 #[.slice ao n c, .slice bo m d] w fun e w' => e = .returned (.bool (decide (zs = ys))) ∧ ∃ q, w' = w.drewN q := by
  have HS : Hid (SeenZ w ao n zs) := hs
  have HT : Hid (SeenZ w bo m ys) := ht
  clear hs ht
  by_cases hnm : n = m
  · subst hnm
    go_enter Try.func24, Try.ntmps24
    go_wp2_with (fail)
    go_loopw [5] (fun v wr => ∃ k : Nat, k ≤ n ∧ v = .int .i64 k ∧ (∀ t, t < k → zs.getD t 0 = ys.getD t 0) ∧ ∃ q, wr = w.drewN q) (fun v _ => n - (intOf v).toNat)
    case atStart => exact ⟨0, Nat.zero_le _, rfl, fun t ht => by omega, 0, rfl⟩
    case round =>
      obtain ⟨k, hk, rfl, hno, q, rfl⟩ := hrel
      by_cases hlt : k < n
      · obtain ⟨b, o, rfl, hb, hc⟩ := HS.out.cells (by omega)
        obtain ⟨b2, o2, rfl, hb2, hc2⟩ := HT.out.cells (by omega)
        have c1 : w.cell? ⟨b, o + k, none⟩ = _ := hc k hlt
        have c2 : w.cell? ⟨b2, o2 + k, none⟩ = _ := hc2 k hlt
        obtain ⟨X, hX⟩ : ∃ X, zs.getD k 0 = X := ⟨_, rfl⟩
        obtain ⟨Y, hY⟩ : ∃ Y, ys.getD k 0 = Y := ⟨_, rfl⟩
        rw [hX] at c1
        rw [hY] at c2
        have HX : Hid (zs.getD k 0 = X ∧ ys.getD k 0 = Y ∧ ∀ t, t < k → zs.getD t 0 = ys.getD t 0) := ⟨hX, hY, hno⟩
        have i1 : (0 : Int) ≤ (k : Int) := by omega
        have i2 : (k : Int) < (n : Int) := by omega
        clear hX hY hc hc2 hno hb hb2
        by_cases e : X = Y
        · have hd : (X != Y) = false := by simp [e]
          have HE : Hid (X = Y) := e
          clear e
          go_wp2
          go_quiet (fail)
          go_wp2
          go_roundw
          case rel =>
            refine ⟨k + 1, by omega, by go_num, fun t ht => ?_, _, rfl⟩
            by_cases e : t = k
            · subst e; rw [HX.out.1, HX.out.2.1]; exact HE.out
            · exact HX.out.2.2 t (by omega)
          case measure => simp [intOf]; omega
        · have hd : (X != Y) = true := by simp [e]
          have HE : Hid (¬ X = Y) := e
          clear e
          have HN : Hid (decide (zs = ys) = false) := by
            show _ = _
            apply decide_eq_false
            intro h
            exact HE.out (by rw [← HX.out.1, ← HX.out.2.1, h])
          go_wp2
          go_quiet (fail)
          go_wp2
          go_ret
          exact ⟨by rw [HN.out]; rfl, _, World.drewN_drewN _ _ _⟩
      · obtain rfl : k = n := by omega
        have he : zs = ys := by
          refine List.ext_getElem (by rw [HS.out.len, HT.out.len]) fun i h1 h2 => ?_
          have := hno i (by rw [HS.out.len] at h1; exact h1)
          simpa [List.getD, h1, h2] using this
        have HE : Hid (zs = ys) := he
        clear hno he
        go_wp2_with (fail)
        go_ret
        exact ⟨by rw [decide_eq_true HE.out]; rfl, q, rfl⟩
  · have h1 : ((n : Int) == (m : Int)) = false := by simp; omega
    have h1' : ¬ (n : Int) = (m : Int) := by omega
    have he : zs ≠ ys := fun e => hnm (by rw [← HS.out.len, ← HT.out.len, e])
    have HE : Hid (zs ≠ ys) := he
    clear he hnm
    go_enter Try.func24, Try.ntmps24
    go_wp2_with (fail)
    go_ret
    exact ⟨by rw [decide_eq_false HE.out]; rfl, 0, rfl⟩
theorem ltI (a b : Int) (w : World) : Calls Try.prog 44 #[.int .i64 a, .int .i64 b] w fun e w' => e = .returned (.bool (decide (a < b))) ∧ w = w' := by
  go_enter Try.func44, Try.ntmps44
  go_wp2
  go_ret
  exact ⟨rfl, rfl⟩
theorem four_sorted : gfold (fun a b : Int => decide (a < b)) [3, 1, 2, 0] (gatesL 2) = [0, 1, 2, 3] := by decide +kernel
theorem own_four {w : World} {t : TypeId} (a b c d : Int) (hw : w = w) : SeenZ (w.alloc (.cells #[.int .i64 a, .int .i64 b, .int .i64 c, .int .i64 d] t)) (some ⟨w.heap.size, 0, none⟩) 4 [a, b, c, d] := by
  refine ⟨rfl, fun _ => ⟨w.heap.size, 0, rfl, by simp, fun i hi => ?_⟩⟩
  rw [Nat.zero_add, cell_of_row _ _ _ _ t (0, 0) (World.alloc_heap_new w _)]
  match i, hi with
  | 0, _ => rfl
  | 1, _ => rfl
  | 2, _ => rfl
  | 3, _ => rfl
theorem four_any (w : World) : Calls Try.prog 23 #[.slice (some ⟨w.heap.size, 0, none⟩) 4 4, .func (.func 44) #[] #[]] (w.alloc (.cells #[.int .i64 3, .int .i64 1, .int .i64 2, .int .i64 0] 3)) fun e w' =>
    ∃ g cp, e = .returned (.tuple #[.slice (some ⟨g, 0, none⟩) 4 cp, .int .i64 0]) ∧ RowI w' g cp [0, 1, 2, 3] ∧ Below w.heap.size w w' := by
  refine (sort_yes 2 (by omega) 4 rfl (some ⟨w.heap.size, 0, none⟩) 4 [3, 1, 2, 0] 44 #[] (fun a b : Int => decide (a < b)) _ (own_four 3 1 2 0 rfl) (fun h => by cases h) (enters_of Try.func44 (by kernel_rfl) rfl) (fun a b W _ => (ltI a b W).mono ?_)).mono ?_
  · rintro e W' ⟨rfl, rfl⟩; exact ⟨rfl, Below.refl _ _⟩
  · rintro e w' ⟨g, cp, rfl, hg, hcp, r, b⟩
    rw [four_sorted] at r
    exact ⟨g, cp, rfl, r, ((Below.refl _ w).alloc (Nat.le_refl _) _).trans ⟨b.os, b.tape, b.output, b.size, fun k hk => b.block k (by simp; omega)⟩⟩
set_option maxRecDepth 20000 in
set_option maxHeartbeats 1000000 in
theorem nworks_any (w : World) : Calls Try.prog 26 #[] w fun e w' => e = .returned (.bool true) ∧ Below w.heap.size w w' := by
  have hp5 : ∀ w, Calls Try.prog 11 #[.int .i64 5] w fun e w' => e = .returned (.int .i64 8) ∧ w = w' := fun w => by
    have := pad_any 5 w
    rwa [show padI 5 = 8 by decide +kernel] at this
  go_enter Try.func26, Try.ntmps26
  go_wp2_with (first
    | (go_at_call 23; refine (four_any w).mono ?_; rintro e w1 ⟨g, cp, rfl, r1, b1⟩)
    | (go_at_call 24; refine (eqInts_any (some ⟨g, 0, none⟩) (some ⟨w1.heap.size, 0, none⟩) 4 4 cp 4 [0, 1, 2, 3] [0, 1, 2, 3] _ (r1.block (Below.heap_alloc _ _ _ r1.lt)).seen (own_four 0 1 2 3 rfl) (by omega) (by omega)).mono ?_; rintro e w2 ⟨rfl, q, rfl⟩)
    | (go_at_call 11; refine (hp5 _).mono ?_; rintro e w3 ⟨rfl, rfl⟩))
  go_ret
  have b2 := b1.alloc b1.size (.cells #[.int .i64 0, .int .i64 1, .int .i64 2, .int .i64 3] 3)
  exact ⟨rfl, b2.os, b2.tape, b2.output, b2.size, b2.block⟩
end Go.Proofs.Ytlkpgbilepehmaa
