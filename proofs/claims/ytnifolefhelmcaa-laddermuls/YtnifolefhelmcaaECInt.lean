/- The ladder's plain mathematics over the numbers that the program's limbs stand for. -/
import Derived.Test.YtnifolefhelmcaaECAll
import Derived.Test.YtnifolefhelmcaaFInvM
namespace Go.Proofs.Ytnifolefhelmcaa
open Go.RowKit
set_option linter.unusedVariables false
set_option linter.unusedSimpArgs false

/-- A number modulo the prime. -/
def phi (x : Int) : Fin EC.PN := ⟨(x % PR).toNat, by unfold PR EC.PN; omega⟩
theorem phi_mod (x : Int) : phi (x % PR) = phi x := Fin.ext (by show (x % PR % PR).toNat = (x % PR).toNat; unfold PR; omega)
theorem phi_add (x y : Int) : phi (x + y) = phi x + phi y := Fin.ext (by
  show ((x + y) % PR).toNat = ((x % PR).toNat + (y % PR).toNat) % EC.PN
  unfold PR EC.PN; omega)
theorem phi_sub (x y : Int) : phi (x - y) = phi x - phi y := Fin.ext (by
  show ((x - y) % PR).toNat = (EC.PN - (y % PR).toNat + (x % PR).toNat) % EC.PN
  unfold PR EC.PN; omega)
theorem phi_mul (x y : Int) : phi (x * y) = phi x * phi y := Fin.ext (by
  show ((x * y) % PR).toNat = ((x % PR).toNat * (y % PR).toNat) % EC.PN
  rw [Int.mul_emod]
  have h1 : 0 ≤ x % PR := Int.emod_nonneg _ (by decide)
  have h2 : 0 ≤ y % PR := Int.emod_nonneg _ (by decide)
  obtain ⟨a, ha⟩ := Int.eq_ofNat_of_zero_le h1
  obtain ⟨b, hb⟩ := Int.eq_ofNat_of_zero_le h2
  rw [ha, hb, Int.toNat_natCast, Int.toNat_natCast, ← Int.natCast_mul]
  generalize a * b = c
  unfold PR EC.PN; omega)
theorem phi_inj {x y : Int} (hx : 0 ≤ x ∧ x < PR) (hy : 0 ≤ y ∧ y < PR) (h : phi x = phi y) : x = y := by
  have h2 : (x % PR).toNat = (y % PR).toNat := congrArg Fin.val h
  unfold PR at *; omega
theorem phi_val (x : Int) (hx : 0 ≤ x ∧ x < PR) : ((phi x).val : Int) = x := by
  show (((x % PR).toNat : Nat) : Int) = x
  unfold PR at *; omega
theorem phi_inv (x : Int) : phi (inv x) = EC.iv (phi x) := Fin.ext (by
  show (x ^ p2 % PR % PR).toNat = (x % PR).toNat ^ (EC.PN - 2) % EC.PN
  rw [show EC.PN - 2 = p2 by decide, ← pow_mod]
  have h1 : 0 ≤ x % PR := Int.emod_nonneg _ (by decide)
  obtain ⟨a, ha⟩ := Int.eq_ofNat_of_zero_le h1
  rw [ha, Int.toNat_natCast]
  generalize p2 = e
  rw [← Int.natCast_pow]
  generalize a ^ e = c
  unfold PR EC.PN; omega)
/-- One step of the ladder, as the program makes it. -/
def stI (u x2 z2 x3 z3 : Int) : Int × Int × Int × Int :=
  (((x2 + z2) % PR * ((x2 + z2) % PR) % PR) * ((x2 - z2) % PR * ((x2 - z2) % PR) % PR) % PR,
   (((x2 + z2) % PR * ((x2 + z2) % PR) % PR) - ((x2 - z2) % PR * ((x2 - z2) % PR) % PR)) % PR * ((((x2 + z2) % PR * ((x2 + z2) % PR) % PR) + ((((x2 + z2) % PR * ((x2 + z2) % PR) % PR) - ((x2 - z2) % PR * ((x2 - z2) % PR) % PR)) % PR * 121665 % PR)) % PR) % PR,
   (((x3 - z3) % PR * ((x2 + z2) % PR) % PR) + ((x3 + z3) % PR * ((x2 - z2) % PR) % PR)) % PR * ((((x3 - z3) % PR * ((x2 + z2) % PR) % PR) + ((x3 + z3) % PR * ((x2 - z2) % PR) % PR)) % PR) % PR,
   u * ((((x3 - z3) % PR * ((x2 + z2) % PR) % PR) - ((x3 + z3) % PR * ((x2 - z2) % PR) % PR)) % PR * ((((x3 - z3) % PR * ((x2 + z2) % PR) % PR) - ((x3 + z3) % PR * ((x2 - z2) % PR) % PR)) % PR) % PR) % PR)
def bstI (u : Int) (b : Bool) (s : Int × Int × Int × Int) : Int × Int × Int × Int :=
  if b then ((stI u s.2.2.1 s.2.2.2 s.1 s.2.1).2.2.1, (stI u s.2.2.1 s.2.2.2 s.1 s.2.1).2.2.2, (stI u s.2.2.1 s.2.2.2 s.1 s.2.1).1, (stI u s.2.2.1 s.2.2.2 s.1 s.2.1).2.1)
  else stI u s.1 s.2.1 s.2.2.1 s.2.2.2
/-- The first j steps for the number n. -/
def ladI (u : Int) (n : Nat) : Nat → Int × Int × Int × Int
  | 0 => (1, 0, u, 1)
  | j + 1 => bstI u (n.testBit (255 - 1 - j)) (ladI u n j)
/-- The product. -/
def mulI (n : Nat) (u : Int) : Int := (ladI u n 255).1 * inv (ladI u n 255).2.1 % PR
def phi4 (s : Int × Int × Int × Int) : Fin EC.PN × Fin EC.PN × Fin EC.PN × Fin EC.PN := (phi s.1, phi s.2.1, phi s.2.2.1, phi s.2.2.2)
theorem phi_k : phi 121665 = 121665 := by decide
theorem phi_st (u x2 z2 x3 z3 : Int) : phi4 (stI u x2 z2 x3 z3) = EC.lst 121665 (phi u) (phi x2) (phi z2) (phi x3) (phi z3) := by
  have hc : ∀ a : Fin EC.PN, a * 121665 = 121665 * a := fun a => by generalize (121665 : Fin EC.PN) = k; grind
  unfold phi4 stI EC.lst
  simp only [phi_mod, phi_add, phi_sub, phi_mul, phi_k, hc]
theorem phi_bst (u : Int) (b : Bool) (s : Int × Int × Int × Int) : phi4 (bstI u b s) = EC.bst 121665 (phi u) b (phi4 s) := by
  cases b
  · exact phi_st u _ _ _ _
  · have h := phi_st u s.2.2.1 s.2.2.2 s.1 s.2.1
    show (phi (stI u s.2.2.1 s.2.2.2 s.1 s.2.1).2.2.1, phi (stI u s.2.2.1 s.2.2.2 s.1 s.2.1).2.2.2, phi (stI u s.2.2.1 s.2.2.2 s.1 s.2.1).1, phi (stI u s.2.2.1 s.2.2.2 s.1 s.2.1).2.1) = ((EC.lst 121665 (phi u) (phi s.2.2.1) (phi s.2.2.2) (phi s.1) (phi s.2.1)).2.2.1, (EC.lst 121665 (phi u) (phi s.2.2.1) (phi s.2.2.2) (phi s.1) (phi s.2.1)).2.2.2, (EC.lst 121665 (phi u) (phi s.2.2.1) (phi s.2.2.2) (phi s.1) (phi s.2.1)).1, (EC.lst 121665 (phi u) (phi s.2.2.1) (phi s.2.2.2) (phi s.1) (phi s.2.1)).2.1)
    rw [← h]; rfl
theorem phi_lad (u : Int) (n : Nat) : ∀ j, phi4 (ladI u n j) = EC.lad 121665 (phi u) n 255 j
  | 0 => by show (phi 1, phi 0, phi u, phi 1) = _; rw [show phi 1 = 1 by decide, show phi 0 = 0 by decide]; rfl
  | j + 1 => by
      show phi4 (bstI u (n.testBit (255 - 1 - j)) (ladI u n j)) = EC.bst 121665 (phi u) (n.testBit (255 - 1 - j)) (EC.lad 121665 (phi u) n 255 j)
      rw [phi_bst, phi_lad u n j]
theorem phi_mulI (n : Nat) (u : Int) : phi (mulI n u) = EC.mulU 121665 (phi u) n 255 := by
  unfold mulI EC.mulU
  rw [phi_mod, phi_mul, phi_inv, ← phi_lad]; rfl
theorem mulI_bd (n : Nat) (u : Int) : 0 ≤ mulI n u ∧ mulI n u < PR := ⟨Int.emod_nonneg _ (by decide), Int.emod_lt_of_pos _ (by decide)⟩
/-- What counts of a public key is its number modulo the prime. -/
theorem mulI_mod (n : Nat) (u v : Int) (h : u % PR = v % PR) : mulI n u = mulI n v := by
  refine phi_inj (mulI_bd _ _) (mulI_bd _ _) ?_
  rw [phi_mulI, phi_mulI, ← phi_mod u, ← phi_mod v, h]
theorem meetI (a b : Nat) (u : Int) (ha : EC.Cl a) (hb : EC.Cl b) : mulI a (mulI b u) = mulI b (mulI a u) := by
  refine phi_inj (mulI_bd _ _) (mulI_bd _ _) ?_
  rw [phi_mulI, phi_mulI, phi_mulI, phi_mulI]
  exact EC.meetF (phi u) a b ha.lt hb.lt
theorem phi_zero : phi 0 = 0 := by decide
theorem phi_nine : phi 9 = 9 := by decide
theorem baseI (n : Nat) (h : EC.Cl n) : mulI n 9 ≠ 0 := fun q => EC.baseF n h (by rw [← phi_nine, ← phi_mulI, q, phi_zero])
theorem secretI (m n : Nat) (hm : EC.Cl m) (h : EC.Cl n) : mulI m (mulI n 9) ≠ 0 := fun q => EC.secretF m n hm h (by rw [← phi_nine, ← phi_mulI, ← phi_mulI, q, phi_zero])
theorem weakI (u : Int) (n : Nat) (h : EC.Cl n) (hu : phi u = 0 ∨ (EC.dblF (EC.dblF (EC.dblF (phi u, 1)))).2 = 0) : mulI n u = 0 := by
  refine phi_inj (mulI_bd _ _) ⟨by decide, by decide⟩ ?_
  rw [phi_mulI, phi_zero]
  exact EC.weakF (phi u) n h hu
end Go.Proofs.Ytnifolefhelmcaa
