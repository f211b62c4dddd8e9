/- The laws of numbers modulo the prime. -/
import Derived.Test.YtnifolefhelmcaaFMath
namespace Go.Proofs.Ytnifolefhelmcaa
open Go.RowKit
set_option linter.unusedVariables false
set_option linter.unusedSimpArgs false

theorem Fe.eq {l : List Int} {x y : Int} (h : Fe l x) (e : x = y) : Fe l y := e ▸ h
theorem mod_id {x : Int} (h : 0 ≤ x ∧ x < PR) : x % PR = x := Int.emod_eq_of_lt h.1 h.2
theorem pm_l (a b : Int) : (a % PR * b) % PR = (a * b) % PR := by rw [Int.mul_emod (a % PR), Int.emod_emod_of_dvd _ (Int.dvd_refl _), ← Int.mul_emod]
theorem pm_r (a b : Int) : (a * (b % PR)) % PR = (a * b) % PR := by rw [Int.mul_comm, pm_l, Int.mul_comm]
theorem pa_l (a b : Int) : (a % PR + b) % PR = (a + b) % PR := by unfold PR; omega
theorem pa_r (a b : Int) : (a + b % PR) % PR = (a + b) % PR := by unfold PR; omega
theorem ps_l (a b : Int) : (a % PR - b) % PR = (a - b) % PR := by unfold PR; omega
theorem ps_r (a b : Int) : (a - b % PR) % PR = (a - b) % PR := by unfold PR; omega
theorem rg1 (x y : Int) : (y + x) % PR = (x + y) % PR := by rw [Int.add_comm]
theorem rg2 (x y z : Int) : (x + (y + z) % PR) % PR = ((x + y) % PR + z) % PR := by rw [pa_l, pa_r, Int.add_assoc]
theorem rg3 (x : Int) (h : 0 ≤ x ∧ x < PR) : x = (x + 0) % PR := by rw [Int.add_zero, mod_id h]
theorem rg4 (x y : Int) (h : 0 ≤ x ∧ x < PR) : x = ((x - y) % PR + y) % PR := by rw [pa_l, Int.sub_add_cancel, mod_id h]
theorem rg5 (x y : Int) : (x + (0 - y) % PR) % PR = (x - y) % PR := by rw [pa_r]; congr 1; omega
theorem rg6 (x : Int) : (x - x) % PR = 0 := by rw [Int.sub_self]; rfl
theorem rg7 (x : Int) (h : 0 ≤ x ∧ x < PR) : x = (0 - (0 - x) % PR) % PR := by rw [ps_r, show (0 - (0 - x)) = x by omega, mod_id h]
theorem rg8 (x y : Int) : (y * x) % PR = (x * y) % PR := by rw [Int.mul_comm]
theorem rg9 (x y z : Int) : (x * ((y * z) % PR)) % PR = ((x * y) % PR * z) % PR := by rw [pm_l, pm_r, Int.mul_assoc]
theorem rg10 (x : Int) (h : 0 ≤ x ∧ x < PR) : x = (x * 1) % PR := by rw [Int.mul_one, mod_id h]
theorem rg11 (x : Int) : (x * 0) % PR = 0 := by rw [Int.mul_zero]; rfl
theorem rg13 (x y z : Int) : ((x * y) % PR + (x * z) % PR) % PR = (x * ((y + z) % PR)) % PR := by rw [pa_l, pa_r, pm_r, Int.mul_add]
theorem rg14 (x y : Int) : ((x * x) % PR - (y * y) % PR) % PR = (((x + y) % PR) * ((x - y) % PR)) % PR := by
  rw [pm_l, pm_r, ps_l, ps_r, Int.add_mul, Int.mul_sub, Int.mul_sub, Int.mul_comm y x]
  congr 1; omega
end Go.Proofs.Ytnifolefhelmcaa
