/- EqBytes of the statements, either way. -/
import Derived.Test.YtmgkjldjeomcmaaDoorOMem
namespace Go.Proofs.YtmgkjldjeomcmaaDoor
open Go.RowKit
set_option linter.unusedVariables false
set_option linter.unusedSimpArgs false

set_option maxRecDepth 20000 in
set_option maxHeartbeats 1000000 in
theorem reqb_any (ao bo : Option Addr) (n n' c c' : Nat) (xs ys : List Int) (w : World) (hx : Seen w ao n xs) (hy : Seen w bo n' ys) :
    Calls Tryd.prog 12 #[.slice ao n c, .slice bo n' c'] w fun e w' => e = .returned (.bool (decide (xs = ys))) ∧ ∃ q, w' = w.drewN q := by
  have t1 := hx.top
  have t2 := hy.top
  by_cases hne : n = n'
  · subst hne
    have HL : Hid (xs.length = n ∧ ys.length = n) := ⟨hx.len, hy.len⟩
    go_enter Tryd.func12, Tryd.ntmps12
    go_wp2
    go_loopw [5] (fun i wr => ∃ k : Nat, k ≤ n ∧ i = .int .i64 k ∧ xs.take k = ys.take k ∧ ∃ q, wr = w.drewN q) (fun i _ => n - (intOf i).toNat)
    case atStart => exact ⟨0, Nat.zero_le _, rfl, by simp, 0, rfl⟩
    case round =>
      obtain ⟨k, hk, rfl, hs, q, rfl⟩ := hrel
      by_cases hlt : k < n
      · obtain ⟨b, o, rfl, hb, hc⟩ := hx.cells (by omega)
        obtain ⟨b', o', rfl, hb', hc'⟩ := hy.cells (by omega)
        have c1 := hc k hlt
        have c2 := hc' k hlt
        have HT := take_same_succ xs ys k (by have := HL.out.1; omega) (by have := HL.out.2; omega)
        obtain ⟨X, hX⟩ : ∃ X, xs.getD k 0 = X := ⟨_, rfl⟩
        obtain ⟨Y, hY⟩ : ∃ Y, ys.getD k 0 = Y := ⟨_, rfl⟩
        rw [hX] at c1 HT
        rw [hY] at c2 HT
        have HS : Hid (xs.take k = ys.take k) := hs
        have HT' : Hid (xs.take (k + 1) = ys.take (k + 1) ↔ xs.take k = ys.take k ∧ X = Y) := HT
        have i1 : (0 : Int) ≤ (k : Int) := by omega
        have i2 : (k : Int) < (n : Int) := by omega
        clear hX hY hc hc' hx hy hs HT hb hb'
        by_cases e : X = Y
        · have hd : (X != Y) = false := by simp [e]
          have HE : Hid (X = Y) := e
          clear e
          go_wp2
          go_quiet (fail)
          go_wp2
          go_roundw
          case rel => exact ⟨k + 1, by omega, by go_num, HT'.out.2 ⟨HS.out, HE.out⟩, _, rfl⟩
          case measure => simp [intOf]; omega
        · have hd : (X != Y) = true := by simp [e]
          have HE : Hid (¬ X = Y) := e
          clear e
          have HN : Hid (decide (xs = ys) = false) := by
            show _ = _
            apply decide_eq_false
            intro h
            exact HE.out (HT'.out.1 (by rw [h])).2
          go_wp2
          go_quiet (fail)
          go_wp2
          go_ret
          exact ⟨ret_bool HN.out.symm, _, World.drewN_drewN _ _ _⟩
      · have HE : Hid (decide (xs = ys) = true) := by
          show _ = _
          apply decide_eq_true
          have e1 : xs.take k = xs := List.take_of_length_le (by have := HL.out.1; omega)
          have e2 : ys.take k = ys := List.take_of_length_le (by have := HL.out.2; omega)
          rw [← e1, ← e2]; exact hs
        clear hs
        go_wp2
        go_ret
        exact ⟨ret_bool HE.out.symm, _, rfl⟩
  · have h : ((n : Int) != (n' : Int)) = true := by simp; omega
    have HN : Hid (decide (xs = ys) = false) := by
      show _ = _
      apply decide_eq_false
      intro h
      exact hne (by rw [← hx.len, ← hy.len, h])
    go_enter Tryd.func12, Tryd.ntmps12
    go_wp2
    go_ret
    exact ⟨ret_bool HN.out.symm, 0, rfl⟩
end Go.Proofs.YtmgkjldjeomcmaaDoor
