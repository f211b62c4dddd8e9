/- Plain mathematics for layer mask: masks, picks bit by bit, the pick's loop. Nothing of the dump. -/
import Derived.Laws.BitsAllLaws
import Derived.RowKit
namespace Go.Proofs.YtnagndnpamcbbaaGreat
open Go.RowKit

/-- The mask of a bool. -/
def mk (p : Bool) : Int := bif p then 18446744073709551615 else 0
theorem mk_true : mk true = 18446744073709551615 := rfl
theorem mk_false : mk false = 0 := rfl
theorem mk_bd (p : Bool) : 0 ≤ mk p ∧ mk p < 18446744073709551616 := by cases p <;> decide

/-- x where m has ones, else y. -/
def pkN (m x y : Nat) : Nat := y ^^^ ((x ^^^ y) &&& m)
def pk (m x y : Int) : Int := ((pkN m.toNat x.toNat y.toNat : Nat) : Int)

theorem pkN_testBit (m x y i : Nat) : (pkN m x y).testBit i = if m.testBit i then x.testBit i else y.testBit i := by
  unfold pkN
  rw [Nat.testBit_xor, Nat.testBit_and, Nat.testBit_xor]
  cases m.testBit i <;> cases x.testBit i <;> cases y.testBit i <;> rfl
theorem pkN_lt {n m x y : Nat} (hx : x < 2 ^ n) (hy : y < 2 ^ n) : pkN m x y < 2 ^ n := by
  unfold pkN
  exact Nat.xor_lt_two_pow hy (Nat.lt_of_le_of_lt Nat.and_le_left (Nat.xor_lt_two_pow hx hy))
theorem pk_bd (m x y : Int) (hx : 0 ≤ x ∧ x < 18446744073709551616) (hy : 0 ≤ y ∧ y < 18446744073709551616) : 0 ≤ pk m x y ∧ pk m x y < 18446744073709551616 := by
  have := @pkN_lt 64 m.toNat x.toNat y.toNat (by omega) (by omega)
  unfold pk; omega
theorem pk_bd8 (m x y : Int) (hx : 0 ≤ x ∧ x < 256) (hy : 0 ≤ y ∧ y < 256) : 0 ≤ pk m x y ∧ pk m x y < 256 := by
  have := @pkN_lt 8 m.toNat x.toNat y.toNat (by omega) (by omega)
  unfold pk; omega

/-! ### The code's own terms -/
theorem choose_u64 (m x y : Int) (hm : 0 ≤ m ∧ m < 18446744073709551616) (hx : 0 ≤ x ∧ x < 18446744073709551616) (hy : 0 ≤ y ∧ y < 18446744073709551616) :
    bits .xor .u64 y (bits .and .u64 (bits .xor .u64 x y) m) = pk m x y := by
  obtain ⟨m, rfl⟩ := Int.eq_ofNat_of_zero_le hm.1
  obtain ⟨x, rfl⟩ := Int.eq_ofNat_of_zero_le hx.1
  obtain ⟨y, rfl⟩ := Int.eq_ofNat_of_zero_le hy.1
  have h1 : x ^^^ y < 2 ^ 64 := Nat.xor_lt_two_pow (by omega) (by omega)
  have h2 : (x ^^^ y) &&& m < 2 ^ 64 := Nat.lt_of_le_of_lt Nat.and_le_left h1
  rw [u64_xor_nat x y (by omega) (by omega), u64_and_nat _ m (by omega) (by omega), u64_xor_nat y _ (by omega) (by omega)]
  simp [pk, pkN]
theorem pkN_low (n m x y : Nat) (hx : x < 2 ^ n) (hy : y < 2 ^ n) : pkN (m % 2 ^ n) x y = pkN m x y := by
  apply Nat.eq_of_testBit_eq
  intro i
  rw [pkN_testBit, pkN_testBit, Nat.testBit_mod_two_pow]
  by_cases h : i < n
  · simp [h]
  · have hp : 2 ^ n ≤ 2 ^ i := Nat.pow_le_pow_right (by decide) (by omega)
    rw [Nat.testBit_lt_two_pow (Nat.lt_of_lt_of_le hx hp), Nat.testBit_lt_two_pow (Nat.lt_of_lt_of_le hy hp)]
    simp
theorem choose_u8 (m x y : Int) (hm : 0 ≤ m ∧ m < 18446744073709551616) (hx : 0 ≤ x ∧ x < 256) (hy : 0 ≤ y ∧ y < 256) :
    bits .xor .u8 y (bits .and .u8 (bits .xor .u8 x y) (m % 256)) = pk m x y := by
  obtain ⟨m, rfl⟩ := Int.eq_ofNat_of_zero_le hm.1
  obtain ⟨x, rfl⟩ := Int.eq_ofNat_of_zero_le hx.1
  obtain ⟨y, rfl⟩ := Int.eq_ofNat_of_zero_le hy.1
  have e : ((m : Int) % 256) = ((m % 256 : Nat) : Int) := by omega
  have h1 : x ^^^ y < 2 ^ 8 := Nat.xor_lt_two_pow (by omega) (by omega)
  have h2 : (x ^^^ y) &&& (m % 256) < 2 ^ 8 := Nat.lt_of_le_of_lt Nat.and_le_left h1
  rw [e, u8_xor_nat x y (by omega) (by omega), u8_and_nat _ (m % 256) (by omega) (by omega), u8_xor_nat y _ (by omega) (by omega)]
  have := pkN_low 8 m x y (by omega) (by omega)
  simp only [pk, Int.toNat_natCast]
  unfold pkN at *
  rw [← this]

theorem ofInt_wrap (k : IntKind) (z : Int) : BitVec.ofInt k.bits (k.wrap z) = BitVec.ofInt k.bits z := by
  apply BitVec.eq_of_toInt_eq
  rw [BitVec.toInt_ofInt, BitVec.toInt_ofInt]
  cases k <;> simp [IntKind.wrap, IntKind.bits, IntKind.signed, Int.bmod_def] <;> omega
theorem wrap_of_ofInt (k : IntKind) (a b : Int) (h : BitVec.ofInt k.bits a = BitVec.ofInt k.bits b) : k.wrap a = k.wrap b := by
  have h1 := congrArg BitVec.toNat h
  rw [BitVec.toNat_ofInt, BitVec.toNat_ofInt] at h1
  cases k <;> simp [IntKind.wrap, IntKind.bits, IntKind.signed] at h1 ⊢ <;> omega
theorem ofInt_toNat {n : Nat} (v : BitVec n) : BitVec.ofInt n (v.toNat : Int) = v := by
  rw [BitVec.ofInt_natCast, BitVec.ofNat_toNat]; simp
theorem ofNat_pkN (n m x y : Nat) : BitVec.ofNat n (pkN m x y) = BitVec.ofNat n y ^^^ ((BitVec.ofNat n x ^^^ BitVec.ofNat n y) &&& BitVec.ofNat n m) := by
  apply BitVec.eq_of_getLsbD_eq
  intro i hi
  simp [hi, pkN]
/-- Choose at every kind, of numbers cut to that kind. -/
theorem choose_kind (k : IntKind) (m x y : Int) (hm : 0 ≤ m) (hx : 0 ≤ x) (hy : 0 ≤ y) :
    bits .xor k (k.wrap y) (bits .and k (bits .xor k (k.wrap x) (k.wrap y)) (k.wrap m)) = k.wrap (pk m x y) := by
  obtain ⟨m, rfl⟩ := Int.eq_ofNat_of_zero_le hm
  obtain ⟨x, rfl⟩ := Int.eq_ofNat_of_zero_le hx
  obtain ⟨y, rfl⟩ := Int.eq_ofNat_of_zero_le hy
  apply wrap_of_ofInt
  show BitVec.ofInt k.bits ((BitVec.ofInt k.bits (k.wrap y) ^^^ BitVec.ofInt k.bits (k.wrap ((BitVec.ofInt k.bits (k.wrap ((BitVec.ofInt k.bits (k.wrap x) ^^^ BitVec.ofInt k.bits (k.wrap y)).toNat : Int)) &&& BitVec.ofInt k.bits (k.wrap m)).toNat : Int))).toNat : Int) = _
  simp only [ofInt_toNat, ofInt_wrap]
  show _ = BitVec.ofInt k.bits ((pkN m x y : Nat) : Int)
  rw [BitVec.ofInt_natCast, BitVec.ofInt_natCast, BitVec.ofInt_natCast, BitVec.ofInt_natCast, ofNat_pkN]

theorem and_one (x : Int) (hx : 0 ≤ x ∧ x < 18446744073709551616) : bits .and .u64 x 1 = x % 2 := by
  rw [u64_and x 1 hx.1 hx.2 (by decide) (by decide)]
  show ((x.toNat &&& 1 : Nat) : Int) = _
  rw [nat_mask1]; omega
theorem bit_code (x : Int) (hx : 0 ≤ x ∧ x < 18446744073709551616) : IntKind.u64.wrap (wrap64 (-wrap64 (bits .and .u64 x 1))) = mk (x % 2 == 1) := by
  rw [and_one x hx, IntKind.wrap_u64]
  have : x % 2 = 0 ∨ x % 2 = 1 := by omega
  rcases this with h | h <;> rw [h] <;> decide
/-- The top bit of x | -x. -/
theorem top_code (x : Int) (hx : 0 ≤ x ∧ x < 18446744073709551616) : bits .or .u64 x (IntKind.u64.wrap (-x)) / 9223372036854775808 = if x = 0 then 0 else 1 := by
  rw [IntKind.wrap_u64, u64_or x _ hx.1 hx.2 (by omega) (by omega)]
  by_cases h : x = 0
  · subst h; decide
  · have e : (-x) % 18446744073709551616 = 18446744073709551616 - x := by omega
    rw [if_neg h, e]
    have h3 : x.toNat ≤ x.toNat ||| (18446744073709551616 - x).toNat := Nat.left_le_or
    have h4 : (18446744073709551616 - x).toNat ≤ x.toNat ||| (18446744073709551616 - x).toNat := Nat.right_le_or
    have h5 : x.toNat ||| (18446744073709551616 - x).toNat < 2 ^ 64 := Nat.or_lt_two_pow (by omega) (by omega)
    omega
theorem not_mk (p : Bool) : bits .xor .u64 IntKind.u64.max (mk p) = mk (!p) := by cases p <;> decide
theorem xor_zero_iff (x y : Int) (hx : 0 ≤ x ∧ x < 18446744073709551616) (hy : 0 ≤ y ∧ y < 18446744073709551616) : (bits .xor .u64 x y == 0) = (x == y) := by
  rw [u64_xor x y hx.1 hx.2 hy.1 hy.2, Bool.eq_iff_iff]
  simp
  constructor
  · intro h
    have e : x.toNat = y.toNat := by
      have := congrArg (· ^^^ y.toNat) h
      simpa [Nat.xor_assoc] using this
    omega
  · intro h; subst h; simp
theorem xor_bd (x y : Int) (hx : 0 ≤ x ∧ x < 18446744073709551616) (hy : 0 ≤ y ∧ y < 18446744073709551616) : 0 ≤ bits .xor .u64 x y ∧ bits .xor .u64 x y < 18446744073709551616 := by
  rw [u64_xor x y hx.1 hx.2 hy.1 hy.2]
  have : x.toNat ^^^ y.toNat < 2 ^ 64 := Nat.xor_lt_two_pow (by omega) (by omega)
  omega

/-! ### The laws of picks -/
theorem pkN_same (m x : Nat) : pkN m x x = x := by simp [pkN]
theorem pk_same (m x : Int) (hx : 0 ≤ x) : pk m x x = x := by unfold pk; rw [pkN_same]; omega
theorem pk_zero (x y : Int) (hy : 0 ≤ y) : pk 0 x y = y := by simp [pk, pkN]; omega
theorem and_ones (n x : Nat) (hx : x < 2 ^ n) : x &&& (2 ^ n - 1) = x := by rw [Nat.and_two_pow_sub_one_eq_mod]; exact Nat.mod_eq_of_lt hx
theorem pk_ones (x y : Int) (hx : 0 ≤ x ∧ x < 18446744073709551616) (hy : 0 ≤ y ∧ y < 18446744073709551616) : pk 18446744073709551615 x y = x := by
  unfold pk pkN
  have h1 : x.toNat ^^^ y.toNat < 2 ^ 64 := Nat.xor_lt_two_pow (by omega) (by omega)
  have h2 := and_ones 64 _ h1
  show ((y.toNat ^^^ ((x.toNat ^^^ y.toNat) &&& (2 ^ 64 - 1)) : Nat) : Int) = x
  rw [h2, Nat.xor_comm x.toNat, ← Nat.xor_assoc, Nat.xor_self, Nat.zero_xor]; omega
theorem pkN_back (m x y : Nat) : pkN m (pkN m x y) (pkN m y x) = x := by
  apply Nat.eq_of_testBit_eq; intro i
  rw [pkN_testBit, pkN_testBit, pkN_testBit]
  cases m.testBit i <;> simp
theorem pk_back (m x y : Int) (hx : 0 ≤ x) : pk m (pk m x y) (pk m y x) = x := by
  show ((pkN m.toNat ((pkN m.toNat x.toNat y.toNat : Nat) : Int).toNat ((pkN m.toNat y.toNat x.toNat : Nat) : Int).toNat : Nat) : Int) = x
  rw [Int.toNat_natCast, Int.toNat_natCast, pkN_back]; omega
theorem pkN_xor (m x y : Nat) : pkN m y x ^^^ pkN m x y = x ^^^ y := by
  apply Nat.eq_of_testBit_eq; intro i
  rw [Nat.testBit_xor, Nat.testBit_xor, pkN_testBit, pkN_testBit]
  cases m.testBit i <;> simp [Bool.xor_comm]
theorem pk_xor (m x y : Int) (hx : 0 ≤ x ∧ x < 18446744073709551616) (hy : 0 ≤ y ∧ y < 18446744073709551616) : bits .xor .u64 (pk m y x) (pk m x y) = bits .xor .u64 x y := by
  have b1 := pk_bd m x y hx hy
  have b2 := pk_bd m y x hy hx
  rw [u64_xor _ _ b2.1 b2.2 b1.1 b1.2, u64_xor _ _ hx.1 hx.2 hy.1 hy.2]
  unfold pk
  rw [Int.toNat_natCast, Int.toNat_natCast, pkN_xor]
theorem or_add (a b : Nat) (h : a &&& b = 0) : a ||| b = a + b := by
  have hw : ∃ n, a < 2 ^ n ∧ b < 2 ^ n := ⟨a + b, Nat.lt_of_le_of_lt (Nat.le_add_right _ _) Nat.lt_two_pow_self, Nat.lt_of_le_of_lt (Nat.le_add_left _ _) Nat.lt_two_pow_self⟩
  obtain ⟨n, ha, hb⟩ := hw
  have hp : 2 ^ (n + 1) = 2 * 2 ^ n := by rw [Nat.pow_succ]; omega
  have h0 : BitVec.ofNat (n + 1) a &&& BitVec.ofNat (n + 1) b = 0#(n + 1) := by
    apply BitVec.eq_of_toNat_eq
    simp [Nat.mod_eq_of_lt (show a < 2 ^ (n + 1) by omega), Nat.mod_eq_of_lt (show b < 2 ^ (n + 1) by omega), h]
  have h1 := congrArg BitVec.toNat (BitVec.add_eq_or_of_and_eq_zero _ _ h0)
  rw [BitVec.toNat_add, BitVec.toNat_or, BitVec.toNat_ofNat, BitVec.toNat_ofNat, Nat.mod_eq_of_lt (show a < 2 ^ (n + 1) by omega), Nat.mod_eq_of_lt (show b < 2 ^ (n + 1) by omega), Nat.mod_eq_of_lt (by omega)] at h1
  exact h1.symm
theorem add_and_andNot (x m : Nat) : x = (x &&& m) + (x ^^^ (x &&& m)) := by
  have h : (x &&& m) &&& (x ^^^ (x &&& m)) = 0 := by
    apply Nat.eq_of_testBit_eq; intro i
    simp
    cases x.testBit i <;> cases m.testBit i <;> simp
  have h2 : (x &&& m) ||| (x ^^^ (x &&& m)) = x := by
    apply Nat.eq_of_testBit_eq; intro i
    simp
    cases x.testBit i <;> cases m.testBit i <;> simp
  have h3 := or_add _ _ h
  omega
theorem pkN_parts (m x y : Nat) : pkN m x y = (x &&& m) + (y ^^^ (y &&& m)) := by
  have h : (x &&& m) &&& (y ^^^ (y &&& m)) = 0 := by
    apply Nat.eq_of_testBit_eq; intro i
    simp
    cases x.testBit i <;> cases y.testBit i <;> cases m.testBit i <;> simp
  rw [← or_add _ _ h]
  apply Nat.eq_of_testBit_eq; intro i
  rw [pkN_testBit]; simp
  cases x.testBit i <;> cases y.testBit i <;> cases m.testBit i <;> simp
theorem pkN_add (m x y : Nat) : pkN m y x + pkN m x y = x + y := by
  have h1 := pkN_parts m x y
  have h2 := pkN_parts m y x
  have h3 := add_and_andNot x m
  have h4 := add_and_andNot y m
  omega
theorem pk_add (m x y : Int) (hx : 0 ≤ x) (hy : 0 ≤ y) : pk m y x + pk m x y = x + y := by
  have := pkN_add m.toNat x.toNat y.toNat
  unfold pk; omega

/-! ### The document's pick, by its loop: what is out behind k rounds -/
def part (m x y : Int) (k : Nat) : Int := pk m x y % 2 ^ k
def bitI (x : Int) (k : Nat) : Int := x / 2 ^ k % 2
theorem part_zero (m x y : Int) : part m x y 0 = 0 := by simp [part]
theorem part_all (m x y : Int) (hx : 0 ≤ x ∧ x < 18446744073709551616) (hy : 0 ≤ y ∧ y < 18446744073709551616) : part m x y 64 = pk m x y := by
  have := pk_bd m x y hx hy
  unfold part; omega
theorem bitI_01 (x : Int) (k : Nat) : bitI x k = 0 ∨ bitI x k = 1 := by unfold bitI; omega
theorem bitI_nat (x k : Nat) : bitI (x : Int) k = ((x.testBit k).toNat : Int) := by
  unfold bitI
  rw [Nat.testBit_eq_decide_div_mod_eq]
  have e : ((x : Int) / 2 ^ k % 2) = ((x / 2 ^ k % 2 : Nat) : Int) := by simp
  rw [e]
  have : x / 2 ^ k % 2 = 0 ∨ x / 2 ^ k % 2 = 1 := by omega
  rcases this with h | h <;> simp [h]
theorem bitI_pk (m x y : Int) (hm : 0 ≤ m) (hx : 0 ≤ x) (hy : 0 ≤ y) (k : Nat) : bitI (pk m x y) k = if bitI m k = 1 then bitI x k else bitI y k := by
  obtain ⟨m, rfl⟩ := Int.eq_ofNat_of_zero_le hm
  obtain ⟨x, rfl⟩ := Int.eq_ofNat_of_zero_le hx
  obtain ⟨y, rfl⟩ := Int.eq_ofNat_of_zero_le hy
  show bitI ((pkN m x y : Nat) : Int) k = _
  rw [bitI_nat, bitI_nat, bitI_nat, bitI_nat, pkN_testBit]
  cases m.testBit k <;> simp
theorem part_succ (m x y : Int) (hm : 0 ≤ m) (hx : 0 ≤ x) (hy : 0 ≤ y) (k : Nat) :
    part m x y (k + 1) = part m x y k + (if bitI m k = 1 then bitI x k else bitI y k) * 2 ^ k := by
  rw [← bitI_pk m x y hm hx hy]
  unfold part bitI
  generalize pk m x y = p
  have h := Int.mul_ediv_add_emod p (2 ^ k)
  have e1 : (2 : Int) ^ (k + 1) = 2 ^ k * 2 := Int.pow_succ ..
  rw [e1]
  have hp : (0 : Int) < 2 ^ k := Int.pow_pos (by decide)
  have h2 := Int.mul_ediv_add_emod (p / 2 ^ k) 2
  have b1 := Int.emod_nonneg p (Int.ne_of_gt hp)
  have b2 := Int.emod_lt_of_pos p hp
  have b3 : 0 ≤ p / 2 ^ k % 2 ∧ p / 2 ^ k % 2 < 2 := by omega
  have key : p = (2 ^ k * 2) * (p / 2 ^ k / 2) + (p % 2 ^ k + p / 2 ^ k % 2 * 2 ^ k) := by
    have : (2 ^ k * 2) * (p / 2 ^ k / 2) + (p % 2 ^ k + p / 2 ^ k % 2 * 2 ^ k) = 2 ^ k * (2 * (p / 2 ^ k / 2) + p / 2 ^ k % 2) + p % 2 ^ k := by
      rw [Int.mul_add, Int.mul_assoc, Int.mul_comm (p / 2 ^ k % 2)]; omega
    rw [this, h2, h]
  have hlt : p % 2 ^ k + p / 2 ^ k % 2 * 2 ^ k < 2 ^ k * 2 := by
    have : p / 2 ^ k % 2 * 2 ^ k ≤ 1 * 2 ^ k := Int.mul_le_mul_of_nonneg_right (by omega) (by omega)
    omega
  have hnn : 0 ≤ p % 2 ^ k + p / 2 ^ k % 2 * 2 ^ k := by
    have : 0 ≤ p / 2 ^ k % 2 * 2 ^ k := Int.mul_nonneg b3.1 (by omega)
    omega
  have : p % (2 ^ k * 2) = p % 2 ^ k + p / 2 ^ k % 2 * 2 ^ k := by
    conv => lhs; rw [key]
    rw [Int.mul_add_emod_self_left]
    exact Int.emod_eq_of_lt hnn hlt
  exact this
theorem part_bd (m x y : Int) (k : Nat) : 0 ≤ part m x y k ∧ part m x y k < 2 ^ k := by
  have hp : (0 : Int) < 2 ^ k := Int.pow_pos (by decide)
  exact ⟨Int.emod_nonneg _ (Int.ne_of_gt hp), Int.emod_lt_of_pos _ hp⟩
end Go.Proofs.YtnagndnpamcbbaaGreat
