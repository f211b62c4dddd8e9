/- Plain mathematics for layer octet: numbers and their bytes, the lowest first; digits. Nothing of the dump. -/
import Derived.Laws.BitsAllLaws
import Derived.RowKit
import Derived.Test.YtmgkjldjeomcmaaDoorOBase
namespace Go.Proofs.YtmgkjldjeomcmaaDoor
open Go.RowKit

/-- The number whose bytes these are, the lowest first. -/
def le : List Int → Int
  | [] => 0
  | z :: zs => z + 256 * le zs
/-- The bytes of a number, so many, the lowest first. -/
def leB : Nat → Int → List Int
  | 0, _ => []
  | k + 1, v => v % 256 :: leB k (v / 256)
theorem leB_length (k : Nat) (v : Int) : (leB k v).length = k := by
  induction k generalizing v with
  | zero => rfl
  | succ k ih => simp [leB, ih]
theorem leB_bytes (k : Nat) (v : Int) : Bytes (leB k v) := by
  induction k generalizing v with
  | zero => intro z hz; cases hz
  | succ k ih =>
    intro z hz
    simp only [leB, List.mem_cons] at hz
    rcases hz with rfl | hz
    · omega
    · exact ih _ z hz
theorem le_bd (zs : List Int) (h : Bytes zs) : 0 ≤ le zs ∧ le zs < 256 ^ zs.length := by
  induction zs with
  | nil => simp [le]
  | cons z zs ih =>
    have hz := h z (by simp)
    have := ih (fun y hy => h y (by simp [hy]))
    simp only [le, List.length_cons, Int.pow_succ]
    omega
theorem le_leB (k : Nat) (v : Int) : le (leB k v) = v % 256 ^ k := by
  induction k generalizing v with
  | zero => simp [leB, le]
  | succ k ih =>
    simp only [leB, le, ih]
    have hp : (0 : Int) < 256 ^ k := Int.pow_pos (by decide)
    have h1 := Int.mul_ediv_add_emod v 256
    have h2 := Int.mul_ediv_add_emod (v / 256) (256 ^ k)
    have b1 := Int.emod_nonneg (v / 256) (Int.ne_of_gt hp)
    have b2 := Int.emod_lt_of_pos (v / 256) hp
    have e : (256 : Int) ^ (k + 1) = 256 ^ k * 256 := Int.pow_succ ..
    have key : v = (256 ^ k * 256) * (v / 256 / 256 ^ k) + (v % 256 + 256 * (v / 256 % 256 ^ k)) := by
      have : (256 ^ k * 256) * (v / 256 / 256 ^ k) = 256 * (256 ^ k * (v / 256 / 256 ^ k)) := by
        rw [Int.mul_comm (256 ^ k) 256, Int.mul_assoc]
      rw [this]; omega
    rw [e]
    have g : v % (256 ^ k * 256) = v % 256 + 256 * (v / 256 % 256 ^ k) := by
      conv => lhs; rw [key]
      rw [Int.mul_add_emod_self_left]
      exact Int.emod_eq_of_lt (by omega) (by omega)
    exact g.symm
theorem leB_le (zs : List Int) (h : Bytes zs) : leB zs.length (le zs) = zs := by
  induction zs with
  | nil => rfl
  | cons z zs ih =>
    have hz := h z (by simp)
    simp only [List.length_cons, leB, le]
    have e1 : (z + 256 * le zs) % 256 = z := by omega
    have e2 : (z + 256 * le zs) / 256 = le zs := by omega
    rw [e1, e2, ih (fun y hy => h y (by simp [hy]))]
theorem leB_at (k : Nat) (v : Int) (i : Nat) (hi : i < k) : (leB k v).getD i 0 = v / 256 ^ i % 256 := by
  induction k generalizing v i with
  | zero => omega
  | succ k ih =>
    cases i with
    | zero => simp [leB]
    | succ i =>
      simp only [leB, List.getD_cons_succ]
      rw [ih _ _ (by omega), Int.ediv_ediv_of_nonneg (by decide)]
      congr 2
      rw [Int.pow_succ, Int.mul_comm]
theorem le_drop (zs : List Int) (k : Nat) (hk : k < zs.length) : le (zs.drop k) = zs.getD k 0 + 256 * le (zs.drop (k + 1)) := by
  rw [List.drop_eq_getElem_cons hk]
  simp [le, List.getD, hk]
theorem bytes_drop {zs : List Int} (h : Bytes zs) (k : Nat) : Bytes (zs.drop k) := fun z hz => h z (List.mem_of_mem_drop hz)
theorem bytes_take {zs : List Int} (h : Bytes zs) (k : Nat) : Bytes (zs.take k) := fun z hz => h z (List.mem_of_mem_take hz)
theorem bytes_app {xs ys : List Int} (hx : Bytes xs) (hy : Bytes ys) : Bytes (xs ++ ys) := fun z hz => by
  rcases List.mem_append.1 hz with h | h
  · exact hx z h
  · exact hy z h
theorem bytes_rev {zs : List Int} (h : Bytes zs) : Bytes zs.reverse := fun z hz => h z (List.mem_reverse.1 hz)
/-- A byte laid below a number. -/
theorem or_low (a b : Int) (ha : 0 ≤ a ∧ a * 256 < 18446744073709551616) (hb : 0 ≤ b ∧ b < 256) : bits .or .u64 (a * 256) b = b + 256 * a := by
  rw [u64_or _ _ (by omega) ha.2 hb.1 (by omega)]
  obtain ⟨a, rfl⟩ := Int.eq_ofNat_of_zero_le ha.1
  obtain ⟨b, rfl⟩ := Int.eq_ofNat_of_zero_le hb.1
  have h := Nat.shiftLeft_add_eq_or_of_lt (i := 8) (b := b) (by omega) a
  have e1 : ((a : Int) * 256).toNat = a <<< 8 := by rw [Nat.shiftLeft_eq]; omega
  rw [e1, Int.toNat_natCast, ← h, Nat.shiftLeft_eq]; omega
theorem le_drop_bd (zs : List Int) (h : Bytes zs) (n k : Nat) (hl : zs.length = n) (hn : n ≤ 8) (hk : 0 < k) : 0 ≤ le (zs.drop k) ∧ le (zs.drop k) * 256 < 18446744073709551616 := by
  have b := le_bd _ (bytes_drop h k)
  have hle : (256 : Int) ^ (zs.drop k).length ≤ 256 ^ 7 := by
    rw [List.length_drop]
    have : 256 ^ (zs.length - k) ≤ 256 ^ 7 := Nat.pow_le_pow_right (by decide) (by omega)
    show ((256 : Nat) : Int) ^ _ ≤ ((256 : Nat) : Int) ^ 7
    rw [← Int.natCast_pow, ← Int.natCast_pow]
    exact Int.ofNat_le.2 this
  omega
end Go.Proofs.YtmgkjldjeomcmaaDoor
