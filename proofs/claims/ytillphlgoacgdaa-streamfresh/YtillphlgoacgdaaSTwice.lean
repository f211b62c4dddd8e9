/- Layer stream: what StreamTwice leans on: Xor whatever the length; laid over twice; left. -/
import Derived.Test.YtillphlgoacgdaaSAwake
namespace Go.Proofs.Ytillphlgoacgdaa
open Go.RowKit
set_option linter.unusedVariables false
set_option linter.unusedSimpArgs false

theorem xor_back (x k : Int) (hx : 0 ≤ x ∧ x < 256) (hk : 0 ≤ k ∧ k < 256) : bits .xor .u8 (bits .xor .u8 x k) k = x := by
  have h1 : x.toNat ^^^ k.toNat < 2 ^ 8 := Nat.xor_lt_two_pow (by omega) (by omega)
  rw [u8_xor x k hx.1 hx.2 hk.1 hk.2, u8_xor _ k (by omega) (by omega) hk.1 hk.2, Int.toNat_natCast, Nat.xor_assoc, Nat.xor_self, Nat.xor_zero]
  omega
theorem xor_both (x y k : Int) (hx : 0 ≤ x ∧ x < 256) (hy : 0 ≤ y ∧ y < 256) (hk : 0 ≤ k ∧ k < 256) : bits .xor .u8 (bits .xor .u8 x k) (bits .xor .u8 y k) = bits .xor .u8 x y := by
  have h1 : x.toNat ^^^ k.toNat < 2 ^ 8 := Nat.xor_lt_two_pow (by omega) (by omega)
  have h2 : y.toNat ^^^ k.toNat < 2 ^ 8 := Nat.xor_lt_two_pow (by omega) (by omega)
  rw [u8_xor x k hx.1 hx.2 hk.1 hk.2, u8_xor y k hy.1 hy.2 hk.1 hk.2, u8_xor _ _ (by omega) (by omega) (by omega) (by omega), u8_xor x y hx.1 hx.2 hy.1 hy.2, Int.toNat_natCast, Int.toNat_natCast]
  congr 1
  rw [Nat.xor_assoc, ← Nat.xor_assoc k.toNat, Nat.xor_comm k.toNat y.toNat, Nat.xor_assoc y.toNat, Nat.xor_self, Nat.xor_zero]
theorem over_bytes (key nonce : List Int) (p : Nat) (zs : List Int) (hb : Bytes zs) : Bytes (over key nonce p zs) := by
  intro z hz
  simp only [over, List.mem_map, List.mem_range] at hz
  obtain ⟨i, hi, rfl⟩ := hz
  exact xor8_bd _ _ (hb.at i hi) (ks_byte _ _ _)
/-- Laid over twice it is the text again. -/
theorem over_over (key nonce : List Int) (p : Nat) (zs : List Int) (hb : Bytes zs) : over key nonce p (over key nonce p zs) = zs := by
  apply List.ext_getElem
  · simp [over_length]
  · intro i h1 h2
    have e1 := over_at key nonce p (over key nonce p zs) i (by rw [over_length]; exact h2)
    rw [over_at _ _ _ _ _ h2, xor_back _ _ (hb.at i h2) (ks_byte _ _ _)] at e1
    simpa [List.getD, h1, h2] using e1
theorem left_any (ctr : Nat) (hct : ctr < 4294967296) (w : World) : Calls Try.prog 23 #[.int .u32 ctr] w fun e w' => e = .returned (.int .u64 (274877906944 - 64 * (ctr : Int))) ∧ w = w' := by
  go_enter Try.func23, Try.ntmps23
  go_wp2_with fail
  go_ret
  refine ⟨?_, rfl⟩
  show Ending.returned (.int .u64 ((4294967296 - (ctr : Int)) * 64)) = _
  exact ret_int (by omega)
theorem xor_all (key nonce : List Int) (ctr n c : Nat) (ao : Option Addr) (zs : List Int) (hk : key.length = 32) (hno : nonce.length = 12) (hkb : Bytes key) (hnb : Bytes nonce) (hct : ctr < 4294967296) (w : World) (hx : Seen w ao n zs) :
    Calls Try.prog 17 #[.agg (u8s key).toArray, .agg (u8s nonce).toArray, .int .u32 ctr, .slice ao n c] w fun e w' => ∃ (vo : Option Addr) (m vc : Nat) (R : List Int) (E : Int), e = .returned (.tuple #[.slice vo m vc, .int .i64 E]) ∧
      ((n + 64 * ctr ≤ 274877906944 ∧ m = n ∧ E = 0 ∧ R = over key nonce (64 * ctr) zs) ∨ (274877906944 < n + 64 * ctr ∧ m = 0 ∧ E = 50 ∧ R = [])) ∧ Seen w' vo m R ∧ (vo = none → vc = 0) ∧ (∀ b o, vo = some ⟨b, o, none⟩ → w.heap.size ≤ b) ∧ m ≤ vc ∧ Below w.heap.size w w' := by
  have ht := hx.top
  by_cases hc : n + 64 * ctr ≤ 274877906944
  · refine (xor_any key nonce ctr n c ao zs hk hno hkb hnb hct hc w hx).mono ?_
    rintro e w1 ⟨v, rfl, o1, l1⟩
    have hl : (over key nonce (64 * ctr) zs).length = n := (over_length _ _ _ _).trans hx.len
    have hb := over_bytes key nonce (64 * ctr) zs hx.bytes
    rcases own_len hl o1 with ⟨rfl, hn0⟩ | ⟨r, cap, rfl, r1, g1, c1, m1⟩
    · subst hn0
      have e : over key nonce (64 * ctr) zs = [] := List.length_eq_zero_iff.1 hl
      exact ⟨none, 0, 0, _, 0, rfl, .inl ⟨hc, rfl, rfl, rfl⟩, by rw [e]; exact Seen.empty _ _, fun _ => rfl, fun b o h => (by cases h), Nat.le_refl _, l1⟩
    · refine ⟨_, n, cap, _, 0, rfl, .inl ⟨hc, rfl, rfl, rfl⟩, ?_, fun h => (by cases h), fun b o h => (by simp at h; omega), c1, l1⟩
      have := Seen.of_row (n := n) r1 (by omega) ht hb
      rwa [List.take_of_length_le (by omega)] at this
  · refine (xor_bad key nonce ctr n c ao hk hno hkb hnb hct ht (by omega) w).mono ?_
    rintro e w1 ⟨rfl, l1⟩
    exact ⟨none, 0, 0, [], 50, rfl, .inr ⟨by omega, rfl, rfl, rfl⟩, Seen.empty _ _, fun _ => rfl, fun b o h => (by cases h), Nat.le_refl _, l1⟩
end Go.Proofs.Ytillphlgoacgdaa
