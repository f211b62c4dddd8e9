/- Layer field: numbers in five limbs of 51 bits, plain. -/
import Derived.Test.YtnifolefhelmcaaTPlain
namespace Go.Proofs.Ytnifolefhelmcaa
open Go.RowKit
set_option linter.unusedVariables false
set_option linter.unusedSimpArgs false

/-- The prime 2^255 - 19. -/
abbrev PR : Int := 57896044618658097711785492504343953926634992332820282019728792003956564819949
/-- What five limbs stand for. -/
def v5 (a b c d e : Int) : Int := a + 2251799813685248 * b + 5070602400912917605986812821504 * c + 11417981541647679048466287755595961091061972992 * d + 25711008708143844408671393477458601640355247900524685364822016 * e
def vl : List Int → Int
  | [a, b, c, d, e] => v5 a b c d e
  | _ => 0
/-- Limbs as calls leave them. -/
def Lim (z : Int) : Prop := 0 ≤ z ∧ z < 2251799813701632
/-- The limbs l stand for the number x. -/
structure Fe (l : List Int) (x : Int) : Prop where
  len : l.length = 5
  lim : ∀ z ∈ l, Lim z
  num : vl l % PR = x
theorem five {l : List Int} (h : l.length = 5) : ∃ a b c d e, l = [a, b, c, d, e] := by
  match l, h with
  | [a, b, c, d, e], _ => exact ⟨a, b, c, d, e, rfl⟩
theorem Fe.parts {l : List Int} {x : Int} (h : Fe l x) : ∃ a b c d e, l = [a, b, c, d, e] ∧ Lim a ∧ Lim b ∧ Lim c ∧ Lim d ∧ Lim e ∧ v5 a b c d e % PR = x := by
  obtain ⟨a, b, c, d, e, rfl⟩ := five h.len
  exact ⟨a, b, c, d, e, rfl, h.lim _ (by simp), h.lim _ (by simp), h.lim _ (by simp), h.lim _ (by simp), h.lim _ (by simp), h.num⟩
theorem Fe.of {a b c d e x : Int} (ha : Lim a) (hb : Lim b) (hc : Lim c) (hd : Lim d) (he : Lim e) (h : v5 a b c d e % PR = x) : Fe [a, b, c, d, e] x := by
  refine ⟨rfl, fun z hz => ?_, h⟩
  simp only [List.mem_cons, List.not_mem_nil, or_false] at hz
  rcases hz with rfl | rfl | rfl | rfl | rfl <;> assumption
theorem Fe.bd {l : List Int} {x : Int} (h : Fe l x) : 0 ≤ x ∧ x < PR := by
  have := h.num
  unfold PR at *
  omega
/-- All carries at once. -/
def cr (a b c d e : Int) : List Int := [a % 2251799813685248 + e / 2251799813685248 * 19, b % 2251799813685248 + a / 2251799813685248, c % 2251799813685248 + b / 2251799813685248, d % 2251799813685248 + c / 2251799813685248, e % 2251799813685248 + d / 2251799813685248]
theorem cr_fe (a b c d e : Int) (ha : 0 ≤ a ∧ a < 1152921504606846976) (hb : 0 ≤ b ∧ b < 1152921504606846976) (hc : 0 ≤ c ∧ c < 1152921504606846976) (hd : 0 ≤ d ∧ d < 1152921504606846976) (he : 0 ≤ e ∧ e < 1152921504606846976) : Fe (cr a b c d e) (v5 a b c d e % PR) := by
  refine Fe.of ⟨by omega, by omega⟩ ⟨by omega, by omega⟩ ⟨by omega, by omega⟩ ⟨by omega, by omega⟩ ⟨by omega, by omega⟩ ?_
  unfold v5 PR
  omega
theorem and51 (x : Int) (h0 : 0 ≤ x) (h1 : x < 18446744073709551616) : bits .and .u64 x 2251799813685247 = x % 2251799813685248 := by
  rw [u64_and _ _ h0 h1 (by decide) (by decide)]
  obtain ⟨a, rfl⟩ := Int.eq_ofNat_of_zero_le h0
  have : a &&& 2251799813685247 = a % 2251799813685248 := Nat.and_two_pow_sub_one_eq_mod a 51
  simp only [Int.toNat_natCast, Int.reduceToNat, this]; omega
/-- y's bits behind x's. -/
theorem or_behind (k : Nat) (x y : Int) (hx : 0 ≤ x ∧ x < (2 ^ k : Nat)) (hy : 0 ≤ y) (hs : y * (2 ^ k : Nat) < 18446744073709551616) (hk : k ≤ 64) : bits .or .u64 (y * (2 ^ k : Nat)) x = x + y * (2 ^ k : Nat) := by
  obtain ⟨a, rfl⟩ := Int.eq_ofNat_of_zero_le hx.1
  obtain ⟨b, rfl⟩ := Int.eq_ofNat_of_zero_le hy
  have h2 : (2 : Nat) ^ k ≤ 2 ^ 64 := Nat.pow_le_pow_right (by decide) hk
  have h3 := hx.2
  have h4 : (a : Int) < 18446744073709551616 := by omega
  rw [u64_or _ _ (Int.mul_nonneg hy (Int.natCast_nonneg _)) hs (by omega) h4]
  have h := Nat.shiftLeft_add_eq_or_of_lt (i := k) (b := a) (by omega) b
  have e1 : ((b : Int) * (2 ^ k : Nat)).toNat = b <<< k := by rw [Nat.shiftLeft_eq, ← Int.natCast_mul]; exact Int.toNat_natCast _
  rw [e1, Int.toNat_natCast, ← h, Nat.shiftLeft_eq]
  simp [Int.add_comm]
/-- The limbs, the first k cut to 51 bits. -/
def lowK : Nat → List Int → List Int
  | k + 1, z :: l => z % 2251799813685248 :: lowK k l
  | _, l => l
theorem lowK_length : ∀ k l, (lowK k l).length = l.length
  | 0, l => by cases l <;> rfl
  | k + 1, [] => rfl
  | k + 1, z :: l => by simp [lowK, lowK_length k l]
theorem lowK_at : ∀ (k : Nat) (l : List Int), k < l.length → (lowK k l)[k]? = l[k]?
  | 0, l, _ => by cases l <;> rfl
  | k + 1, [], h => by simp at h
  | k + 1, z :: l, h => by simpa [lowK] using lowK_at k l (by simpa using h)
theorem lowK_set : ∀ (k : Nat) (l : List Int) (h : k < l.length), (lowK k l).set k (l[k] % 2251799813685248) = lowK (k + 1) l
  | 0, z :: l, _ => by cases l <;> rfl
  | k + 1, z :: l, h => by simpa [lowK] using lowK_set k l (by simpa using h)
theorem u64s_set (l : List Int) (k : Nat) (z : Int) : (u64s l).set k (.int .u64 z) = u64s (l.set k z) := by simp [u64s, List.map_set]
theorem u64s_getD {l : List Int} {k : Nat} (h : k < l.length) : (u64s l)[k]? = some (.int .u64 l[k]) := by simp [u64s, h]
end Go.Proofs.Ytnifolefhelmcaa
