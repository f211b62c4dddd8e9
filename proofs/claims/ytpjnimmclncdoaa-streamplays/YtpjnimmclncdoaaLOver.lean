/- Layer stream: Xor whatever the length; laid over twice it is the text again. -/
import Derived.Test.YtpjnimmclncdoaaSXor
namespace Go.Proofs.Ytpjnimmclncdoaa
open Go.RowKit
set_option linter.unusedVariables false
set_option linter.unusedSimpArgs false

theorem xor8_b (x y : Int) (hx : 0 ≤ x ∧ x < 256) (hy : 0 ≤ y ∧ y < 256) : 0 ≤ bits .xor .u8 x y ∧ bits .xor .u8 x y < 256 := by
  rw [u8_xor x y hx.1 hx.2 hy.1 hy.2]
  have : x.toNat ^^^ y.toNat < 2 ^ 8 := Nat.xor_lt_two_pow (by omega) (by omega)
  omega
theorem xor_back (x k : Int) (hx : 0 ≤ x ∧ x < 256) (hk : 0 ≤ k ∧ k < 256) : bits .xor .u8 (bits .xor .u8 x k) k = x := by
  have h1 : x.toNat ^^^ k.toNat < 2 ^ 8 := Nat.xor_lt_two_pow (by omega) (by omega)
  rw [u8_xor x k hx.1 hx.2 hk.1 hk.2, u8_xor _ k (by omega) (by omega) hk.1 hk.2, Int.toNat_natCast, Nat.xor_assoc, Nat.xor_self, Nat.xor_zero]
  omega
theorem xor_both (x y k : Int) (hx : 0 ≤ x ∧ x < 256) (hy : 0 ≤ y ∧ y < 256) (hk : 0 ≤ k ∧ k < 256) : bits .xor .u8 (bits .xor .u8 x k) (bits .xor .u8 y k) = bits .xor .u8 x y := by
  have h1 : x.toNat ^^^ k.toNat < 2 ^ 8 := Nat.xor_lt_two_pow (by omega) (by omega)
  have h2 : y.toNat ^^^ k.toNat < 2 ^ 8 := Nat.xor_lt_two_pow (by omega) (by omega)
  rw [u8_xor x k hx.1 hx.2 hk.1 hk.2, u8_xor y k hy.1 hy.2 hk.1 hk.2, u8_xor _ _ (by omega) (by omega) (by omega) (by omega), u8_xor x y hx.1 hx.2 hy.1 hy.2, Int.toNat_natCast, Int.toNat_natCast]
  congr 1
  rw [Nat.xor_assoc, ← Nat.xor_assoc k.toNat, Nat.xor_comm k.toNat y.toNat, Nat.xor_assoc y.toNat, Nat.xor_self, Nat.xor_zero]
theorem over_bytes (key nonce : List Int) (p : Nat) (zs : List Int) (hb : Bytes zs) : Bytes (over key nonce p zs) := by
  intro z hz
  simp only [over, List.mem_map, List.mem_range] at hz
  obtain ⟨i, hi, rfl⟩ := hz
  exact xor8_b _ _ (hb.at i hi) (ks_byte _ _ _)
/-- Laid over twice it is the text again. -/
theorem over_over (key nonce : List Int) (p : Nat) (zs : List Int) (hb : Bytes zs) : over key nonce p (over key nonce p zs) = zs := by
  apply List.ext_getElem
  · simp [over_length]
  · intro i h1 h2
    have e1 := over_at key nonce p (over key nonce p zs) i (by rw [over_length]; exact h2)
    rw [over_at _ _ _ _ _ h2, xor_back _ _ (hb.at i h2) (ks_byte _ _ _)] at e1
    simpa [List.getD, h1, h2] using e1
end Go.Proofs.Ytpjnimmclncdoaa
