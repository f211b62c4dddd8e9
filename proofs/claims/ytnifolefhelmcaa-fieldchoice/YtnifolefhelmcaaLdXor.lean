/- The lowest bit of two words against one another. -/
import Derived.Test.YtnifolefhelmcaaTPlain
import Derived.Test.YtnifolefhelmcaaPlain
namespace Go.Proofs.Ytnifolefhelmcaa
open Go.RowKit
set_option linter.unusedVariables false
set_option linter.unusedSimpArgs false

theorem xorw_par (x y : Int) (hx : Word x) (hy : Word y) : Word (bits .xor .u64 x y) ∧ (bits .xor .u64 x y % 2 == 1) = ((x % 2 == 1) != (y % 2 == 1)) := by
  rw [u64_xor x y hx.1 hx.2 hy.1 hy.2]
  have h1 : x.toNat < 2 ^ 64 := by have := hx.2; have := hx.1; omega
  have h2 : y.toNat < 2 ^ 64 := by have := hy.2; have := hy.1; omega
  have h3 := Nat.xor_lt_two_pow h1 h2
  have h4 : (x.toNat ^^^ y.toNat) % 2 = (x.toNat + y.toNat) % 2 := by
    have h := Nat.testBit_xor x.toNat y.toNat 0
    rw [Nat.testBit_zero, Nat.testBit_zero, Nat.testBit_zero] at h
    rcases Nat.mod_two_eq_zero_or_one x.toNat with q | q <;> rcases Nat.mod_two_eq_zero_or_one y.toNat with r | r <;> rcases Nat.mod_two_eq_zero_or_one (x.toNat ^^^ y.toNat) with s | s <;> rw [Nat.add_mod, q, r, s] <;> rw [q, r, s] at h <;> first | rfl | (exfalso; revert h; decide)
  generalize x.toNat ^^^ y.toNat = z at *
  refine ⟨⟨by omega, by omega⟩, ?_⟩
  obtain ⟨a, rfl⟩ := Int.eq_ofNat_of_zero_le hx.1
  obtain ⟨b, rfl⟩ := Int.eq_ofNat_of_zero_le hy.1
  simp only [Int.toNat_natCast] at h4
  have e : ∀ n : Nat, ((n : Int) % 2 == 1) = (n % 2 == 1) := fun n => by
    rcases Nat.mod_two_eq_zero_or_one n with q | q
    · rw [q, show (n : Int) % 2 = 0 by omega]; rfl
    · rw [q, show (n : Int) % 2 = 1 by omega]; rfl
  rw [e, e, e, h4]
  rcases Nat.mod_two_eq_zero_or_one a with q | q <;> rcases Nat.mod_two_eq_zero_or_one b with r | r <;> rw [q, r, Nat.add_mod, q, r] <;> rfl
end Go.Proofs.Ytnifolefhelmcaa
