/- Layer tag, plain mathematics: words, pairs, numbers of three and four words; products, folding, taking away the prime. -/
import Derived.Test.YtlaegbabpiepeaaOPlain
import Derived.Lib.Mul64
namespace Go.Proofs.Ytlaegbabpiepeaa
open Go.RowKit
set_option linter.unusedVariables false
set_option linter.unusedSimpArgs false

def u64s (l : List Int) : List Value := l.map (Value.int .u64)
theorem u64s_length (l : List Int) : (u64s l).length = l.length := List.length_map ..
theorem u64s_one (l : List Int) : ∀ v ∈ u64s l, v.oneCell' = true := by
  intro v hv
  obtain ⟨z, _, rfl⟩ := List.mem_map.1 hv
  rfl
/-- A number in two words, in three, in four. -/
def pr (v : Int) : List Int := [v % 18446744073709551616, v / 18446744073709551616]
def nm (v : Int) : List Int := [v % 18446744073709551616, v / 18446744073709551616 % 18446744073709551616, v / 340282366920938463463374607431768211456]
def q4 (v : Int) : List Int := [v % 18446744073709551616, v / 18446744073709551616 % 18446744073709551616, v / 340282366920938463463374607431768211456 % 18446744073709551616, v / 6277101735386680763835789423207666416102355444464034512896]
/-- What stands from 2^130 on, five times, beside the rest. -/
def fold5 (v : Int) : Int := v % 1361129467683753853853498429727072845824 + 5 * (v / 1361129467683753853853498429727072845824)
/-- The prime. -/
abbrev prime : Int := 1361129467683753853853498429727072845819
theorem fold5_mod (v : Int) : fold5 v % prime = v % prime := by unfold fold5 prime; omega
theorem fold5_bd (v : Int) (h0 : 0 ≤ v) (h1 : v < 57896044618658097711785492504343953926634992332820282019728792003956564819968) : 0 ≤ fold5 v ∧ fold5 v < 1701411834604692317316873037158841057280 := by unfold fold5; omega
theorem and3 (x : Int) (h0 : 0 ≤ x) (h1 : x < 18446744073709551616) : bits .and .u64 x 3 = x % 4 := by
  rw [u64_and _ _ h0 h1 (by decide) (by decide)]
  obtain ⟨a, rfl⟩ := Int.eq_ofNat_of_zero_le h0
  have : a &&& 3 = a % 4 := Nat.and_two_pow_sub_one_eq_mod a 2
  simp only [Int.toNat_natCast, Int.reduceToNat, this]; omega
theorem andNot3 (x : Int) (h0 : 0 ≤ x) (h1 : x < 18446744073709551616) : bits .andNot .u64 x 3 = x - x % 4 := by
  rw [u64_andNot _ _ h0 h1 (by decide) (by decide)]
  obtain ⟨a, rfl⟩ := Int.eq_ofNat_of_zero_le h0
  simp only [Int.toNat_natCast, Int.reduceToNat, Nat.reduceSub]
  have e : a &&& 18446744073709551612 = a - a % 4 := by
    apply Nat.eq_of_testBit_eq
    intro i
    have e1 : a - a % 4 = 2 ^ 2 * (a / 4) := by omega
    rw [e1, Nat.testBit_and, Nat.testBit_two_pow_mul]
    have e2 : (18446744073709551612 : Nat) = 2 ^ 2 * (2 ^ 62 - 1) := by decide
    rw [e2, Nat.testBit_two_pow_mul, Nat.testBit_two_pow_sub_one]
    by_cases hi : 2 ≤ i
    · have e3 : (a / 4).testBit (i - 2) = a.testBit i := by
        rw [show (4 : Nat) = 2 ^ 2 from rfl, Nat.testBit_div_two_pow]; congr 1; omega
      simp only [hi, decide_true, Bool.true_and, e3, ge_iff_le]
      by_cases h62 : i - 2 < 62
      · simp [h62]
      · have : a.testBit i = false := Nat.testBit_lt_two_pow (Nat.lt_of_lt_of_le (by omega : a < 2 ^ 64) (Nat.pow_le_pow_right (by decide) (by omega)))
        simp [this]
    · simp [hi]
  rw [e]; omega
theorem or_high (x y : Int) (hx : 0 ≤ x ∧ x < 4611686018427387904) (hy : 0 ≤ y ∧ y < 4) : bits .or .u64 x (y * 4611686018427387904) = x + y * 4611686018427387904 := by
  rw [u64_or _ _ hx.1 (by omega) (by omega) (by omega)]
  obtain ⟨a, rfl⟩ := Int.eq_ofNat_of_zero_le hx.1
  obtain ⟨b, rfl⟩ := Int.eq_ofNat_of_zero_le hy.1
  have h := Nat.shiftLeft_add_eq_or_of_lt (i := 62) (b := a) (by omega) b
  have e1 : ((b : Int) * 4611686018427387904).toNat = b <<< 62 := by rw [Nat.shiftLeft_eq]; omega
  rw [e1, Int.toNat_natCast, Nat.or_comm, ← h, Nat.shiftLeft_eq]; omega
/-- The products of a number of three words and one of two. -/
theorem times_code (x0 x1 x2 r0 r1 : Int) (h0 : 0 ≤ x0 ∧ x0 < 18446744073709551616) (h1 : 0 ≤ x1 ∧ x1 < 18446744073709551616) (h2 : 0 ≤ x2 ∧ x2 < 8) (g0 : 0 ≤ r0 ∧ r0 < 1152921504606846976) (g1 : 0 ≤ r1 ∧ r1 < 1152921504606846976) :
    ∃ a b c d e f : Int, x0 * r0 = a ∧ x0 * r1 = b ∧ x1 * r0 = c ∧ x1 * r1 = d ∧ x2 * r0 = e ∧ x2 * r1 = f ∧
      (x0 + 18446744073709551616 * x1 + 340282366920938463463374607431768211456 * x2) * (r0 + 18446744073709551616 * r1) = a + 18446744073709551616 * (b + c) + 340282366920938463463374607431768211456 * (d + e) + 6277101735386680763835789423207666416102355444464034512896 * f ∧
      0 ≤ a ∧ a ≤ 21267647932558653966460912964485513216 ∧ 0 ≤ b ∧ b ≤ 21267647932558653966460912964485513216 ∧ 0 ≤ c ∧ c ≤ 21267647932558653966460912964485513216 ∧ 0 ≤ d ∧ d ≤ 21267647932558653966460912964485513216 ∧ 0 ≤ e ∧ e ≤ 8070450532247928832 ∧ 0 ≤ f ∧ f ≤ 8070450532247928832 := by
  have big : ∀ x r : Int, 0 ≤ x ∧ x < 18446744073709551616 → 0 ≤ r ∧ r < 1152921504606846976 → 0 ≤ x * r ∧ x * r ≤ 21267647932558653966460912964485513216 := by
    intro x r hx hr
    refine ⟨Int.mul_nonneg hx.1 hr.1, ?_⟩
    have := Int.mul_le_mul (Int.le_of_lt hx.2) (Int.le_of_lt hr.2) hr.1 (by decide)
    exact Int.le_trans this (by decide)
  have small : ∀ x r : Int, 0 ≤ x ∧ x < 8 → 0 ≤ r ∧ r < 1152921504606846976 → 0 ≤ x * r ∧ x * r ≤ 8070450532247928832 := by
    intro x r hx hr
    refine ⟨Int.mul_nonneg hx.1 hr.1, ?_⟩
    have := Int.mul_le_mul (show x ≤ 7 by omega) (Int.le_of_lt hr.2) hr.1 (by decide)
    exact Int.le_trans this (by decide)
  refine ⟨_, _, _, _, _, _, rfl, rfl, rfl, rfl, rfl, rfl, ?_, (big _ _ h0 g0).1, (big _ _ h0 g0).2, (big _ _ h0 g1).1, (big _ _ h0 g1).2, (big _ _ h1 g0).1, (big _ _ h1 g0).2, (big _ _ h1 g1).1, (big _ _ h1 g1).2, (small _ _ h2 g0).1, (small _ _ h2 g0).2, (small _ _ h2 g1).1, (small _ _ h2 g1).2⟩
  simp only [Int.add_mul, Int.mul_add]
  have e1 : x0 * (18446744073709551616 * r1) = 18446744073709551616 * (x0 * r1) := Int.mul_left_comm ..
  have e2 : 18446744073709551616 * x1 * r0 = 18446744073709551616 * (x1 * r0) := Int.mul_assoc ..
  have e3 : 18446744073709551616 * x1 * (18446744073709551616 * r1) = 340282366920938463463374607431768211456 * (x1 * r1) := by rw [Int.mul_assoc, Int.mul_left_comm x1, ← Int.mul_assoc]; rfl
  have e4 : 340282366920938463463374607431768211456 * x2 * r0 = 340282366920938463463374607431768211456 * (x2 * r0) := Int.mul_assoc ..
  have e5 : 340282366920938463463374607431768211456 * x2 * (18446744073709551616 * r1) = 6277101735386680763835789423207666416102355444464034512896 * (x2 * r1) := by rw [Int.mul_assoc, Int.mul_left_comm x2, ← Int.mul_assoc]; rfl
  rw [e1, e2, e3, e4, e5]; omega
end Go.Proofs.Ytlaegbabpiepeaa
