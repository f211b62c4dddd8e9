/- Layer tag, plain mathematics: what a poly holds as a function of its bytes; the code. -/
import Derived.Test.YtlaegbabpiepeaaTPlain
namespace Go.Proofs.Ytlaegbabpiepeaa
open Go.RowKit
set_option linter.unusedVariables false
set_option linter.unusedSimpArgs false

/-- What a becomes by one more chunk, of number c. -/
def step5 (r a c : Int) : Int := fold5 ((a + c) * r)
/-- Behind the first k whole chunks. -/
def accK (r : Int) (m : List Int) : Nat → Int
  | 0 => 0
  | k + 1 => step5 r (accK r m k) (le ((m.drop (16 * k)).take 16) + 340282366920938463463374607431768211456)
def acc (r : Int) (m : List Int) : Int := accK r m (m.length / 16)
def rest16 (m : List Int) : List Int := m.drop (16 * (m.length / 16))
theorem rest16_length (m : List Int) : (rest16 m).length = m.length % 16 := by unfold rest16; rw [List.length_drop]; omega
theorem rest16_bytes {m : List Int} (h : Bytes m) : Bytes (rest16 m) := bytes_drop h _
theorem accK_app (r : Int) (m x : List Int) : ∀ k, 16 * k ≤ m.length → accK r (m ++ x) k = accK r m k
  | 0, _ => rfl
  | k + 1, h => by
    rw [accK, accK, accK_app r m x k (by omega)]
    have e : ((m ++ x).drop (16 * k)).take 16 = (m.drop (16 * k)).take 16 := by
      rw [List.drop_append_of_le_length (by omega), List.take_append_of_le_length (by rw [List.length_drop]; omega)]
    rw [e]
theorem acc_less (r : Int) (m x : List Int) (h : m.length % 16 + x.length < 16) : acc r (m ++ x) = acc r m ∧ rest16 (m ++ x) = rest16 m ++ x := by
  have e : (m ++ x).length / 16 = m.length / 16 := by rw [List.length_append]; omega
  constructor
  · rw [acc, e, accK_app r m x _ (by omega)]; rfl
  · rw [rest16, e, List.drop_append_of_le_length (by omega)]; rfl
theorem acc_full (r : Int) (m x : List Int) (h : m.length % 16 + x.length = 16) : acc r (m ++ x) = step5 r (acc r m) (le (rest16 m ++ x) + 340282366920938463463374607431768211456) ∧ rest16 (m ++ x) = [] := by
  have e : (m ++ x).length / 16 = m.length / 16 + 1 := by rw [List.length_append]; omega
  constructor
  · rw [acc, e, accK, accK_app r m x _ (by omega)]
    have e2 : ((m ++ x).drop (16 * (m.length / 16))).take 16 = rest16 m ++ x := by
      rw [List.drop_append_of_le_length (by omega), List.take_of_length_le (by rw [List.length_append, List.length_drop]; omega)]; rfl
    rw [e2]; rfl
  · rw [rest16, e]
    exact List.drop_eq_nil_of_le (by rw [List.length_append]; omega)
theorem prod_bd (x r : Int) (hx : 0 ≤ x ∧ x < 2722258935367507707706996859454145691648) (hr : 0 ≤ r ∧ r < 21267647932558653966460912964485513216) : 0 ≤ x * r ∧ x * r < 57896044618658097711785492504343953926634992332820282019728792003956564819968 := by
  refine ⟨Int.mul_nonneg hx.1 hr.1, ?_⟩
  have h1 := Int.mul_le_mul (show x ≤ 2722258935367507707706996859454145691647 by omega) (show r ≤ 21267647932558653966460912964485513215 by omega) hr.1 (by decide)
  have h2 : (2722258935367507707706996859454145691647 : Int) * 21267647932558653966460912964485513215 < 57896044618658097711785492504343953926634992332820282019728792003956564819968 := by decide
  omega
theorem step5_bd (r a c : Int) (hr : 0 ≤ r ∧ r < 21267647932558653966460912964485513216) (ha : 0 ≤ a ∧ a < 1701411834604692317316873037158841057280) (hc : 0 ≤ c ∧ c < 680564733841876926926749214863536422912) : 0 ≤ step5 r a c ∧ step5 r a c < 1701411834604692317316873037158841057280 := by
  have := prod_bd (a + c) r ⟨by omega, by omega⟩ hr
  exact fold5_bd _ this.1 this.2
theorem le16_bd (l : List Int) (hb : Bytes l) (hl : l.length ≤ 16) : 0 ≤ le l ∧ le l < 340282366920938463463374607431768211456 := by
  have h := le_bd l hb
  have : (256 : Int) ^ l.length ≤ 256 ^ 16 := by
    show ((256 : Nat) : Int) ^ _ ≤ ((256 : Nat) : Int) ^ 16
    rw [← Int.natCast_pow, ← Int.natCast_pow]
    exact Int.ofNat_le.2 (Nat.pow_le_pow_right (by decide) hl)
  have e : (256 : Int) ^ 16 = 340282366920938463463374607431768211456 := by decide
  omega
theorem accK_bd (r : Int) (m : List Int) (hr : 0 ≤ r ∧ r < 21267647932558653966460912964485513216) (hm : Bytes m) : ∀ k, 0 ≤ accK r m k ∧ accK r m k < 1701411834604692317316873037158841057280
  | 0 => ⟨by rw [accK]; decide, by rw [accK]; decide⟩
  | k + 1 => by
    rw [accK]
    have h := le16_bd ((m.drop (16 * k)).take 16) (bytes_take (bytes_drop hm _) _) (by rw [List.length_take]; omega)
    exact step5_bd r _ _ hr (accK_bd r m hr hm k) ⟨by omega, by omega⟩
theorem acc_bd (r : Int) (m : List Int) (hr : 0 ≤ r ∧ r < 21267647932558653966460912964485513216) (hm : Bytes m) : 0 ≤ acc r m ∧ acc r m < 1701411834604692317316873037158841057280 := accK_bd r m hr hm _
/-- Zeros. -/
def zs0 (k : Nat) : List Int := List.replicate k 0
theorem zs0_length (k : Nat) : (zs0 k).length = k := List.length_replicate
theorem zs0_bytes (k : Nat) : Bytes (zs0 k) := fun z hz => by
  obtain ⟨_, rfl⟩ := List.mem_replicate.1 hz
  decide
/-- The open chunk, as it lies in a poly; with the byte 01 behind what waits. -/
def openB (m : List Int) : List Int := rest16 m ++ zs0 (16 - m.length % 16)
def lastB (m : List Int) : List Int := rest16 m ++ (1 :: zs0 (15 - m.length % 16))
theorem openB_length (m : List Int) : (openB m).length = 16 := by rw [openB, List.length_append, rest16_length, zs0_length]; omega
theorem lastB_length (m : List Int) : (lastB m).length = 16 := by rw [lastB, List.length_append, rest16_length, List.length_cons, zs0_length]; omega
theorem openB_bytes {m : List Int} (h : Bytes m) : Bytes (openB m) := bytes_app (rest16_bytes h) (zs0_bytes _)
theorem lastB_bytes {m : List Int} (h : Bytes m) : Bytes (lastB m) := bytes_app (rest16_bytes h) (fun z hz => by
  rcases List.mem_cons.1 hz with rfl | hz
  · decide
  · exact zs0_bytes _ z hz)
theorem open_set (m : List Int) : (openB m).set (m.length % 16) 1 = lastB m := by
  have hl := rest16_length m
  rw [openB, lastB, List.set_append_right _ _ (by omega), hl, Nat.sub_self]
  have e : zs0 (16 - m.length % 16) = 0 :: zs0 (15 - m.length % 16) := by
    rw [zs0, zs0, show 16 - m.length % 16 = 15 - m.length % 16 + 1 by omega, List.replicate_succ]
  rw [e, List.set_cons_zero]
/-- What a becomes in the end. -/
def accE (r : Int) (m : List Int) : Int := if 0 < m.length % 16 then step5 r (acc r m) (le (lastB m)) else acc r m
theorem accE_bd (r : Int) (m : List Int) (hr : 0 ≤ r ∧ r < 21267647932558653966460912964485513216) (hm : Bytes m) : 0 ≤ accE r m ∧ accE r m < 1701411834604692317316873037158841057280 := by
  unfold accE
  split
  · have h := le16_bd (lastB m) (lastB_bytes hm) (by rw [lastB_length]; omega)
    exact step5_bd r _ _ hr (acc_bd r m hr hm) ⟨h.1, by omega⟩
  · exact acc_bd r m hr hm
/-- The code's number, and its bytes. -/
def codeN (r s : Int) (m : List Int) : Int := (accE r m % prime % 340282366920938463463374607431768211456 + s) % 340282366920938463463374607431768211456
def codeB (r s : Int) (m : List Int) : List Int := leB 16 (codeN r s m)
theorem codeB_length (r s : Int) (m : List Int) : (codeB r s m).length = 16 := leB_length _ _
theorem codeB_bytes (r s : Int) (m : List Int) : Bytes (codeB r s m) := leB_bytes _ _
theorem leB_split (a b : Nat) (v : Int) : leB a (v % 256 ^ a) ++ leB b (v / 256 ^ a) = leB (a + b) v := by
  induction a generalizing v with
  | zero => simp [leB]
  | succ a ih =>
    have hp : (0 : Int) < 256 ^ a := Int.pow_pos (by decide)
    rw [show a + 1 + b = (a + b) + 1 by omega, leB, leB, List.cons_append]
    have e : (256 : Int) ^ (a + 1) = 256 * 256 ^ a := by rw [Int.pow_succ, Int.mul_comm]
    have e1 : v % 256 ^ (a + 1) % 256 = v % 256 := by
      rw [e]; exact Int.emod_emod_of_dvd v ⟨_, rfl⟩
    have e2 : v % 256 ^ (a + 1) / 256 = v / 256 % 256 ^ a := by
      rw [e]
      have h1 := Int.mul_ediv_add_emod v 256
      have h2 := Int.mul_ediv_add_emod (v / 256) (256 ^ a)
      have b1 := Int.emod_nonneg (v / 256) (Int.ne_of_gt hp)
      have b2 := Int.emod_lt_of_pos (v / 256) hp
      have key : v = (256 * 256 ^ a) * (v / 256 / 256 ^ a) + (v % 256 + 256 * (v / 256 % 256 ^ a)) := by
        rw [Int.mul_assoc]; omega
      have g : v % (256 * 256 ^ a) = v % 256 + 256 * (v / 256 % 256 ^ a) := by
        conv => lhs; rw [key]
        rw [Int.mul_add_emod_self_left]
        exact Int.emod_eq_of_lt (by omega) (by omega)
      rw [g]; omega
    have e3 : v / 256 ^ (a + 1) = v / 256 / 256 ^ a := by
      rw [e, Int.ediv_ediv_of_nonneg (by decide)]
    rw [e1, e2, e3, ih]
theorem code_split (v : Int) : leB 8 (v % 18446744073709551616) ++ leB 8 (v / 18446744073709551616) = leB 16 v := leB_split 8 8 v
/-- r and s of a key. -/
def rLow (key : List Int) : Int := bits .and .u64 (le (key.take 8)) 1152921487695413247
def rHigh (key : List Int) : Int := bits .and .u64 (le ((key.drop 8).take 8)) 1152921487695413244
def rOf (key : List Int) : Int := rLow key + 18446744073709551616 * rHigh key
def sOf (key : List Int) : Int := le ((key.drop 16).take 16)
theorem and_le (x : Int) (c : Nat) (hx : 0 ≤ x ∧ x < 18446744073709551616) (hc : c < 1152921504606846976) : 0 ≤ bits .and .u64 x c ∧ bits .and .u64 x c < 1152921504606846976 := by
  rw [u64_and _ _ hx.1 hx.2 (by omega) (by omega)]
  have : x.toNat &&& (c : Int).toNat ≤ (c : Int).toNat := Nat.and_le_right
  omega
theorem le8_bd (l : List Int) (hb : Bytes l) (hl : l.length ≤ 8) : 0 ≤ le l ∧ le l < 18446744073709551616 := by
  have h := le_bd l hb
  have : (256 : Int) ^ l.length ≤ 256 ^ 8 := by
    show ((256 : Nat) : Int) ^ _ ≤ ((256 : Nat) : Int) ^ 8
    rw [← Int.natCast_pow, ← Int.natCast_pow]
    exact Int.ofNat_le.2 (Nat.pow_le_pow_right (by decide) hl)
  have e : (256 : Int) ^ 8 = 18446744073709551616 := by decide
  omega
theorem rLow_bd (key : List Int) (h : Bytes key) : 0 ≤ rLow key ∧ rLow key < 1152921504606846976 := and_le _ 1152921487695413247 (le8_bd _ (bytes_take h _) (by rw [List.length_take]; omega)) (by decide)
theorem rHigh_bd (key : List Int) (h : Bytes key) : 0 ≤ rHigh key ∧ rHigh key < 1152921504606846976 := and_le _ 1152921487695413244 (le8_bd _ (bytes_take (bytes_drop h _) _) (by rw [List.length_take]; omega)) (by decide)
theorem rOf_bd (key : List Int) (h : Bytes key) : 0 ≤ rOf key ∧ rOf key < 21267647932558653966460912964485513216 := by
  have h1 := rLow_bd key h
  have h2 := rHigh_bd key h
  unfold rOf; omega
theorem sOf_bd (key : List Int) (h : Bytes key) : 0 ≤ sOf key ∧ sOf key < 340282366920938463463374607431768211456 := le16_bd _ (bytes_take (bytes_drop h _) _) (by rw [List.length_take]; omega)
/-- The number of sixteen bytes, in two words. -/
theorem le_app (xs ys : List Int) : le (xs ++ ys) = le xs + 256 ^ xs.length * le ys := by
  induction xs with
  | nil => simp [le]
  | cons x xs ih => rw [List.cons_append, le, le, ih, List.length_cons, Int.pow_succ, Int.mul_comm (256 ^ xs.length) 256, Int.mul_add, Int.add_assoc, Int.mul_assoc]
theorem le_pr (cs : List Int) (hl : cs.length = 16) (hb : Bytes cs) : pr (le cs) = [le (cs.take 8), le ((cs.drop 8).take 8)] := by
  have e : le cs = le (cs.take 8) + 18446744073709551616 * le ((cs.drop 8).take 8) := by
    conv => lhs; rw [← List.take_append_drop 8 cs, le_app]
    have e1 : (cs.take 8).length = 8 := by rw [List.length_take]; omega
    have e2 : (cs.drop 8).take 8 = cs.drop 8 := List.take_of_length_le (by rw [List.length_drop]; omega)
    rw [e1, e2]; rfl
  have h1 := le8_bd (cs.take 8) (bytes_take hb _) (by rw [List.length_take]; omega)
  unfold pr
  rw [e]
  refine List.cons_eq_cons.2 ⟨by omega, List.cons_eq_cons.2 ⟨by omega, rfl⟩⟩
end Go.Proofs.Ytlaegbabpiepeaa
