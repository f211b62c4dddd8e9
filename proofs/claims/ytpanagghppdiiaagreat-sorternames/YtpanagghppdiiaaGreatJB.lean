/- Joined by program: what the theorem reaches. -/
import Derived.Laws.BitsAllLaws
import Derived.RowKit
namespace Go.Proofs.YtpanagghppdiiaaGreat
open Go.RowKit
def mk (p : Bool) : Int := bif p then 18446744073709551615 else 0
theorem mk_true : mk true = 18446744073709551615 := rfl
theorem mk_false : mk false = 0 := rfl
theorem mk_bd (p : Bool) : 0 ≤ mk p ∧ mk p < 18446744073709551616 := by cases p <;> decide
def pkN (m x y : Nat) : Nat := y ^^^ ((x ^^^ y) &&& m)
def pk (m x y : Int) : Int := ((pkN m.toNat x.toNat y.toNat : Nat) : Int)
theorem pkN_testBit (m x y i : Nat) : (pkN m x y).testBit i = if m.testBit i then x.testBit i else y.testBit i := by
 unfold pkN
 rw [Nat.testBit_xor, Nat.testBit_and, Nat.testBit_xor]
 cases m.testBit i <;> cases x.testBit i <;> cases y.testBit i <;> rfl
theorem pkN_lt {n m x y : Nat} (hx : x < 2 ^ n) (hy : y < 2 ^ n) : pkN m x y < 2 ^ n := by
 unfold pkN
 exact Nat.xor_lt_two_pow hy (Nat.lt_of_le_of_lt Nat.and_le_left (Nat.xor_lt_two_pow hx hy))
theorem pk_bd (m x y : Int) (hx : 0 ≤ x ∧ x < 18446744073709551616) (hy : 0 ≤ y ∧ y < 18446744073709551616) : 0 ≤ pk m x y ∧ pk m x y < 18446744073709551616 := by
 have := @pkN_lt 64 m.toNat x.toNat y.toNat (by omega) (by omega)
 unfold pk; omega
theorem choose_u64 (m x y : Int) (hm : 0 ≤ m ∧ m < 18446744073709551616) (hx : 0 ≤ x ∧ x < 18446744073709551616) (hy : 0 ≤ y ∧ y < 18446744073709551616) :
  bits .xor .u64 y (bits .and .u64 (bits .xor .u64 x y) m) = pk m x y := by
 obtain ⟨m, rfl⟩ := Int.eq_ofNat_of_zero_le hm.1
 obtain ⟨x, rfl⟩ := Int.eq_ofNat_of_zero_le hx.1
 obtain ⟨y, rfl⟩ := Int.eq_ofNat_of_zero_le hy.1
 have h1 : x ^^^ y < 2 ^ 64 := Nat.xor_lt_two_pow (by omega) (by omega)
 have h2 : (x ^^^ y) &&& m < 2 ^ 64 := Nat.lt_of_le_of_lt Nat.and_le_left h1
 rw [u64_xor_nat x y (by omega) (by omega), u64_and_nat _ m (by omega) (by omega), u64_xor_nat y _ (by omega) (by omega)]
 simp [pk, pkN]
theorem pkN_low (n m x y : Nat) (hx : x < 2 ^ n) (hy : y < 2 ^ n) : pkN (m % 2 ^ n) x y = pkN m x y := by
 apply Nat.eq_of_testBit_eq
 intro i
 rw [pkN_testBit, pkN_testBit, Nat.testBit_mod_two_pow]
 by_cases h : i < n
 ·simp [h]
 ·have hp : 2 ^ n ≤ 2 ^ i := Nat.pow_le_pow_right (by decide) (by omega)
  rw [Nat.testBit_lt_two_pow (Nat.lt_of_lt_of_le hx hp), Nat.testBit_lt_two_pow (Nat.lt_of_lt_of_le hy hp)]
  simp
theorem choose_u8 (m x y : Int) (hm : 0 ≤ m ∧ m < 18446744073709551616) (hx : 0 ≤ x ∧ x < 256) (hy : 0 ≤ y ∧ y < 256) :
  bits .xor .u8 y (bits .and .u8 (bits .xor .u8 x y) (m % 256)) = pk m x y := by
 obtain ⟨m, rfl⟩ := Int.eq_ofNat_of_zero_le hm.1
 obtain ⟨x, rfl⟩ := Int.eq_ofNat_of_zero_le hx.1
 obtain ⟨y, rfl⟩ := Int.eq_ofNat_of_zero_le hy.1
 have e : ((m : Int) % 256) = ((m % 256 : Nat) : Int) := by omega
 have h1 : x ^^^ y < 2 ^ 8 := Nat.xor_lt_two_pow (by omega) (by omega)
 have h2 : (x ^^^ y) &&& (m % 256) < 2 ^ 8 := Nat.lt_of_le_of_lt Nat.and_le_left h1
 rw [e, u8_xor_nat x y (by omega) (by omega), u8_and_nat _ (m % 256) (by omega) (by omega), u8_xor_nat y _ (by omega) (by omega)]
 have := pkN_low 8 m x y (by omega) (by omega)
 simp only [pk, Int.toNat_natCast]
 unfold pkN at *
 rw [← this]
theorem and_one (x : Int) (hx : 0 ≤ x ∧ x < 18446744073709551616) : bits .and .u64 x 1 = x % 2 := by
 rw [u64_and x 1 hx.1 hx.2 (by decide) (by decide)]
 show ((x.toNat &&& 1 : Nat) : Int) = _
 rw [nat_mask1]; omega
theorem bit_code (x : Int) (hx : 0 ≤ x ∧ x < 18446744073709551616) : IntKind.u64.wrap (wrap64 (-wrap64 (bits .and .u64 x 1))) = mk (x % 2 == 1) := by
 rw [and_one x hx, IntKind.wrap_u64]
 have : x % 2 = 0 ∨ x % 2 = 1 := by omega
 rcases this with h | h <;> rw [h] <;> decide
theorem top_code (x : Int) (hx : 0 ≤ x ∧ x < 18446744073709551616) : bits .or .u64 x (IntKind.u64.wrap (-x)) / 9223372036854775808 = if x = 0 then 0 else 1 := by
 rw [IntKind.wrap_u64, u64_or x _ hx.1 hx.2 (by omega) (by omega)]
 by_cases h : x = 0
 ·subst h; decide
 ·have e : (-x) % 18446744073709551616 = 18446744073709551616 - x := by omega
  rw [if_neg h, e]
  have h3 : x.toNat ≤ x.toNat ||| (18446744073709551616 - x).toNat := Nat.left_le_or
  have h4 : (18446744073709551616 - x).toNat ≤ x.toNat ||| (18446744073709551616 - x).toNat := Nat.right_le_or
  have h5 : x.toNat ||| (18446744073709551616 - x).toNat < 2 ^ 64 := Nat.or_lt_two_pow (by omega) (by omega)
  omega
theorem not_mk (p : Bool) : bits .xor .u64 IntKind.u64.max (mk p) = mk (!p) := by cases p <;> decide
theorem xor_zero_iff (x y : Int) (hx : 0 ≤ x ∧ x < 18446744073709551616) (hy : 0 ≤ y ∧ y < 18446744073709551616) : (bits .xor .u64 x y == 0) = (x == y) := by
 rw [u64_xor x y hx.1 hx.2 hy.1 hy.2, Bool.eq_iff_iff]
 simp
 constructor
 ·intro h
  have e : x.toNat = y.toNat := by
   have := congrArg (· ^^^ y.toNat) h
   simpa [Nat.xor_assoc] using this
  omega
 ·intro h; subst h; simp
theorem xor_bd (x y : Int) (hx : 0 ≤ x ∧ x < 18446744073709551616) (hy : 0 ≤ y ∧ y < 18446744073709551616) : 0 ≤ bits .xor .u64 x y ∧ bits .xor .u64 x y < 18446744073709551616 := by
 rw [u64_xor x y hx.1 hx.2 hy.1 hy.2]
 have : x.toNat ^^^ y.toNat < 2 ^ 64 := Nat.xor_lt_two_pow (by omega) (by omega)
 omega
theorem pk_zero (x y : Int) (hy : 0 ≤ y) : pk 0 x y = y := by simp [pk, pkN]; omega
theorem and_ones (n x : Nat) (hx : x < 2 ^ n) : x &&& (2 ^ n - 1) = x := by rw [Nat.and_two_pow_sub_one_eq_mod]; exact Nat.mod_eq_of_lt hx
theorem pk_ones (x y : Int) (hx : 0 ≤ x ∧ x < 18446744073709551616) (hy : 0 ≤ y ∧ y < 18446744073709551616) : pk 18446744073709551615 x y = x := by
 unfold pk pkN
 have h1 : x.toNat ^^^ y.toNat < 2 ^ 64 := Nat.xor_lt_two_pow (by omega) (by omega)
 have h2 := and_ones 64 _ h1
 show ((y.toNat ^^^ ((x.toNat ^^^ y.toNat) &&& (2 ^ 64 - 1)) : Nat) : Int) = x
 rw [h2, Nat.xor_comm x.toNat, ← Nat.xor_assoc, Nat.xor_self, Nat.zero_xor]; omega
end Go.Proofs.YtpanagghppdiiaaGreat
namespace Go.Proofs.YtpanagghppdiiaaGreat
def bef : List Int → List Int → Bool
 | [], [] => false
 | [], _ :: _ => true
 | _ :: _, [] => false
 | x :: xs, y :: ys => if x = y then bef xs ys else decide (x < y)
theorem bef_drop (xs ys : List Int) (k : Nat) (hx : k < xs.length) (hy : k < ys.length) :
  bef (xs.drop k) (ys.drop k) = if xs.getD k 0 = ys.getD k 0 then bef (xs.drop (k + 1)) (ys.drop (k + 1)) else decide (xs.getD k 0 < ys.getD k 0) := by
 rw [List.drop_eq_getElem_cons hx, List.drop_eq_getElem_cons hy]
 simp [bef, List.getD, hx, hy]
theorem bef_end (xs ys : List Int) (k : Nat) (hk : k = min xs.length ys.length) : bef (xs.drop k) (ys.drop k) = decide (xs.length < ys.length) := by
 rcases Nat.lt_trichotomy xs.length ys.length with h | h | h
 ·have e : xs.drop k = [] := List.drop_eq_nil_of_le (by omega)
  have hk' : k < ys.length := by omega
  rw [e, List.drop_eq_getElem_cons hk']; simp [bef, h]
 ·have e : xs.drop k = [] := List.drop_eq_nil_of_le (by omega)
  have e' : ys.drop k = [] := List.drop_eq_nil_of_le (by omega)
  rw [e, e']; simp [bef, h]
 ·have e : ys.drop k = [] := List.drop_eq_nil_of_le (by omega)
  have hk' : k < xs.length := by omega
  rw [e, List.drop_eq_getElem_cons hk']; simp [bef]; omega
theorem mtake_same_succ (xs ys : List Int) (k : Nat) (hx : k < xs.length) (hy : k < ys.length) : (xs.take (k + 1) = ys.take (k + 1)) ↔ (xs.take k = ys.take k ∧ xs.getD k 0 = ys.getD k 0) := by
 rw [List.take_succ_eq_append_getElem hx, List.take_succ_eq_append_getElem hy]
 have e1 : xs.getD k 0 = xs[k] := by simp [List.getD, hx]
 have e2 : ys.getD k 0 = ys[k] := by simp [List.getD, hy]
 rw [e1, e2]
 constructor
 ·intro h
  have := List.append_inj h (by simp; omega)
  simpa using this
 ·rintro ⟨h1, h2⟩; rw [h1, h2]
theorem orxor_bd (u x y : Int) (hu : 0 ≤ u ∧ u < 256) (hx : 0 ≤ x ∧ x < 256) (hy : 0 ≤ y ∧ y < 256) :
  (0 ≤ bits .or .u8 u (bits .xor .u8 x y) ∧ bits .or .u8 u (bits .xor .u8 x y) < 256) ∧ (bits .or .u8 u (bits .xor .u8 x y) = 0 ↔ (u = 0 ∧ x = y)) := by
 have h1 : x.toNat ^^^ y.toNat < 2 ^ 8 := Nat.xor_lt_two_pow (by omega) (by omega)
 rw [u8_xor x y hx.1 hx.2 hy.1 hy.2, u8_or u _ hu.1 hu.2 (by omega) (by omega)]
 have h2 : u.toNat ||| ((x.toNat ^^^ y.toNat : Nat) : Int).toNat < 2 ^ 8 := Nat.or_lt_two_pow (by omega) (by omega)
 refine ⟨by omega, ?_⟩
 rw [Int.toNat_natCast]
 constructor
 ·intro h
  have h3 : u.toNat ≤ u.toNat ||| (x.toNat ^^^ y.toNat) := Nat.left_le_or
  have h4 : (x.toNat ^^^ y.toNat) ≤ u.toNat ||| (x.toNat ^^^ y.toNat) := Nat.right_le_or
  have h5 : x.toNat ^^^ y.toNat = 0 := by omega
  have e : x.toNat = y.toNat := by
   have := congrArg (· ^^^ y.toNat) h5
   simpa [Nat.xor_assoc] using this
  omega
 ·rintro ⟨rfl, rfl⟩; simp
end Go.Proofs.YtpanagghppdiiaaGreat
