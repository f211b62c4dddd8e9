/- Layer octet, numbers: width, fits, byteAt, Little, Big at each type. -/
import Derived.Test.YtobcolpdkcppoaaOPlain
namespace Go.Proofs.Ytobcolpdkcppoaa
open Go.RowKit
set_option linter.unusedVariables false
set_option linter.unusedSimpArgs false


/-- The error of so many bytes for a number that has k. -/
def fit (n k : Nat) : Int := if n < k then 20 else if k < n then 21 else 0
theorem fit_short {n k : Nat} (h : n < k) : fit n k = 20 := by unfold fit; rw [if_pos h]
theorem fit_rest {n k : Nat} (h : k < n) : fit n k = 21 := by unfold fit; rw [if_neg (by omega), if_pos h]
theorem fit_ok (n : Nat) : fit n n = 0 := by unfold fit; rw [if_neg (by omega), if_neg (by omega)]
theorem byteAt_eq (v : Int) (i : Nat) : v / 2 ^ (8 * i) % 256 = v / 256 ^ i % 256 := by
  have : (256 : Int) ^ i = 2 ^ (8 * i) := by rw [Int.pow_mul]; rfl
  rw [this]


/-- What Little tells. -/
def leV (k n : Nat) (zs : List Int) : Int := if n = k then le zs else 0
theorem leV_ok (n : Nat) (zs : List Int) : leV n n zs = le zs := by simp [leV]
theorem leV_no {n k : Nat} (zs : List Int) (h : n ≠ k) : leV k n zs = 0 := by simp [leV, h]

end Go.Proofs.Ytobcolpdkcppoaa
