/- What Fermat's theorem gives: inverses modulo the prime. -/
import Derived.Test.YtnifolefhelmcaaFPrime
namespace Go.Proofs.Ytnifolefhelmcaa
open Go.RowKit
set_option linter.unusedVariables false
set_option linter.unusedSimpArgs false

/-- The prime less two. -/
def p2 : Nat := 57896044618658097711785492504343953926634992332820282019728792003956564819947
/-- x to the power p - 2. -/
def inv (x : Int) : Int := x ^ p2 % PR
theorem fermat (x : Int) (h : 0 < x ∧ x < PR) : x ^ (p2 + 1) % PR = 1 := by
  obtain ⟨n, rfl⟩ := Int.eq_ofNat_of_zero_le (Int.le_of_lt h.1)
  have hc := FT.c57896044618658097711785492504343953926634992332820282019728792003956564819949.2 n (by omega) (by have := h.2; unfold PR at this; omega)
  rw [show (57896044618658097711785492504343953926634992332820282019728792003956564819949 - 1 : Nat) = p2 + 1 from by decide] at hc
  generalize p2 + 1 = e at hc
  have h2 : ((n ^ e : Nat) : Int) = (n : Int) ^ e := Int.natCast_pow n e
  rw [← h2]
  generalize n ^ e = m at hc
  unfold PR
  omega
theorem inv_bd (x : Int) : 0 ≤ inv x ∧ inv x < PR := ⟨Int.emod_nonneg _ (by decide), Int.emod_lt_of_pos _ (by decide)⟩
theorem inv_mul (x : Int) (h : 0 ≤ x ∧ x < PR) (hx : x ≠ 0) : (x * inv x) % PR = 1 := by
  have hf := fermat x ⟨by omega, h.2⟩
  unfold inv
  generalize p2 = e at hf
  rw [pm_r, Int.mul_comm, ← Int.pow_succ]
  exact hf
theorem p2_pos : ∃ e, p2 = e + 1 := ⟨57896044618658097711785492504343953926634992332820282019728792003956564819946, by decide⟩
theorem inv_zero : inv 0 = 0 := by
  obtain ⟨e, he⟩ := p2_pos
  unfold inv
  rw [he]
  generalize e = k
  rw [Int.pow_succ, Int.mul_zero]; rfl
theorem inv_ne (x : Int) (h : 0 ≤ x ∧ x < PR) (hx : x ≠ 0) : inv x ≠ 0 := fun e => by
  have := inv_mul x h hx
  rw [e, Int.mul_zero] at this
  revert this; decide
/-- What makes 1 with u is its inverse. -/
theorem inv_only (x y u : Int) (hx : 0 ≤ x ∧ x < PR) (hy : 0 ≤ y ∧ y < PR) (h1 : (u * x) % PR = 1) (h2 : (u * y) % PR = 1) : x = y := by
  have e1 : (x * ((u * y) % PR)) % PR = x := by rw [h2, Int.mul_one, mod_id hx]
  have e2 : (y * ((u * x) % PR)) % PR = y := by rw [h1, Int.mul_one, mod_id hy]
  rw [pm_r] at e1 e2
  have e3 : x * (u * y) = y * (u * x) := by rw [Int.mul_left_comm, Int.mul_left_comm y u x, Int.mul_comm x y]
  rw [e3, e2] at e1
  exact e1.symm
theorem inv_inv (x : Int) (h : 0 ≤ x ∧ x < PR) : inv (inv x) = x := by
  by_cases hx : x = 0
  · rw [hx, inv_zero, inv_zero]
  · exact inv_only _ _ (inv x) (inv_bd _) h (inv_mul _ (inv_bd _) (inv_ne x h hx)) (by rw [Int.mul_comm]; exact inv_mul x h hx)
theorem pow_mod (a : Int) (e : Nat) : (a % PR) ^ e % PR = a ^ e % PR := by
  induction e with
  | zero => rw [Int.pow_zero, Int.pow_zero]
  | succ e ih => rw [Int.pow_succ, Int.pow_succ, pm_r, ← pm_l, ih, pm_l]
theorem pow_mul' (a b : Int) (e : Nat) : (a * b) ^ e = a ^ e * b ^ e := by
  induction e with
  | zero => rw [Int.pow_zero, Int.pow_zero, Int.pow_zero]; rfl
  | succ e ih => rw [Int.pow_succ, ih, Int.pow_succ, Int.pow_succ, Int.mul_assoc, Int.mul_assoc, Int.mul_left_comm (b ^ e) a b]
theorem inv_prod (x y : Int) : inv ((x * y) % PR) = (inv x * inv y) % PR := by
  unfold inv
  generalize p2 = e
  rw [pow_mod, pow_mul', pm_l, pm_r]
theorem prod_zero (x y : Int) (hx : 0 ≤ x ∧ x < PR) (hy : 0 ≤ y ∧ y < PR) : (x * y) % PR = 0 ↔ x = 0 ∨ y = 0 := by
  constructor
  · intro h
    by_cases h0 : x = 0
    · exact .inl h0
    · right
      have e : (inv x * ((x * y) % PR)) % PR = y := by
        rw [pm_r, ← Int.mul_assoc, ← pm_l, Int.mul_comm (inv x) x, inv_mul x hx h0, Int.one_mul, mod_id hy]
      rw [← e, h, Int.mul_zero]; rfl
  · rintro (rfl | rfl)
    · rw [Int.zero_mul]; rfl
    · rw [Int.mul_zero]; rfl
theorem back_mul (x y : Int) (hx : 0 ≤ x ∧ x < PR) (hy : 0 ≤ y ∧ y < PR) (h0 : x ≠ 0) : y = ((y * x) % PR * inv x) % PR := by
  rw [pm_l, Int.mul_assoc, ← pm_r, inv_mul x hx h0, Int.mul_one, mod_id hy]
theorem pow_prime (x : Int) (hx : 0 ≤ x ∧ x < PR) : x ^ (p2 + 2) % PR = x := by
  by_cases h0 : x = 0
  · rw [h0]
    generalize p2 + 1 = e
    show (0 : Int) ^ (e + 1) % PR = 0
    rw [Int.pow_succ, Int.mul_zero]; rfl
  · have hf := fermat x ⟨by omega, hx.2⟩
    show x ^ (p2 + 1 + 1) % PR = x
    generalize p2 + 1 = e at hf
    rw [Int.pow_succ, ← pm_l, hf, Int.one_mul, mod_id hx]
end Go.Proofs.Ytnifolefhelmcaa
