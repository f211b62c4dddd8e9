/- Layer network: the statements' size. -/
import Derived.Test.YthjjkfelpdkfpaaNRow
import Derived.Test.YthjjkfelpdkfpaaNLen2
namespace Go.Proofs.Ythjjkfelpdkfpaa
open Go.RowKit
set_option linter.unusedVariables false
set_option linter.unusedSimpArgs false
theorem and_pred (n : Nat) (h1 : 1 ≤ n) (h2 : n ≤ 65536) : n &&& (n - 1) = 0 ↔ IsSz (n : Int) := by
  rw [Nat.and_sub_one_eq_zero_iff_isPowerOfTwo (by omega)]
  constructor
  · rintro ⟨L, rfl⟩
    refine ⟨L, ?_, rfl⟩
    rcases Nat.lt_or_ge L 17 with h | h
    · omega
    · have : 2 ^ 17 ≤ 2 ^ L := Nat.pow_le_pow_right (by decide) h
      omega
  · rintro ⟨L, hL, e⟩
    exact ⟨L, by omega⟩
theorem size_yes (n : Int) (h : IsSz n) (w : World) : Calls Try.prog 32 #[.int .i64 n] w fun e w' => e = .returned (.bool true) ∧ w = w' := by
  obtain ⟨L, hL, rfl⟩ := h
  have hp := pow_le16 L hL
  have ha := i64_and_nat (2 ^ L) (2 ^ L - 1) (by omega) (by omega)
  rw [(and_pred (2 ^ L) hp.1 hp.2).2 ⟨L, hL, rfl⟩] at ha
  obtain ⟨n, hn⟩ : ∃ n, 2 ^ L = n := ⟨_, rfl⟩
  rw [hn] at ha hp ⊢
  clear hn
  have e1 : (n : Int) - 1 = ((n - 1 : Nat) : Int) := by omega
  rw [← e1] at ha
  have i1 : (1 : Int) ≤ (n : Int) := by omega
  have i2 : (n : Int) ≤ 65536 := by omega
  clear e1
  go_enter Try.func32, Try.ntmps32
  go_wp2
  go_ret
  exact ⟨rfl, rfl⟩
theorem size_no (n : Int) (h : ¬ IsSz n) (w : World) : Calls Try.prog 32 #[.int .i64 n] w fun e w' => e = .returned (.bool false) ∧ w = w' := by
  by_cases h1 : 1 ≤ n
  · by_cases h2 : n ≤ 65536
    · obtain ⟨x, rfl⟩ : ∃ x : Nat, n = (x : Int) := ⟨n.toNat, by omega⟩
      have ha := i64_and_nat x (x - 1) (by omega) (by omega)
      have hz : ¬ x &&& (x - 1) = 0 := fun e => h ((and_pred x (by omega) (by omega)).1 e)
      obtain ⟨y, hy⟩ : ∃ y, x &&& (x - 1) = y := ⟨_, rfl⟩
      rw [hy] at ha hz
      have e1 : (x : Int) - 1 = ((x - 1 : Nat) : Int) := by omega
      rw [← e1] at ha
      have z1 : ((y : Int) == 0) = false := by simp; omega
      clear e1 hy h
      have z2 : ¬ (y : Int) = 0 := by omega
      go_enter Try.func32, Try.ntmps32
      go_wp2
      go_ret
      exact ⟨rfl, rfl⟩
    · go_enter Try.func32, Try.ntmps32
      go_wp2
      go_ret
      exact ⟨rfl, rfl⟩
  · go_enter Try.func32, Try.ntmps32
    go_wp2
    go_ret
    exact ⟨rfl, rfl⟩
end Go.Proofs.Ythjjkfelpdkfpaa
