/- The document's numbers: digits to the base 2^16; plain. -/
import Derived.Test.YtnifolefhelmcaaFBytes
namespace Go.Proofs.Ytnifolefhelmcaa
open Go.RowKit
set_option linter.unusedVariables false
set_option linter.unusedSimpArgs false

def i64s (l : List Int) : List Value := l.map (Value.int .i64)
theorem i64s_length (l : List Int) : (i64s l).length = l.length := List.length_map ..
theorem i64s_one (l : List Int) : ∀ v ∈ i64s l, v.oneCell' = true := one_ints _ _
theorem i64s_set (l : List Int) (k : Nat) (z : Int) : (i64s l).set k (.int .i64 z) = i64s (l.set k z) := by simp [i64s, List.map_set]
theorem i64s_cell {w : World} {g : Nat} {t : TypeId} {zs : List Int} (h : Blk w g t (i64s zs)) (j : Nat) (hj : j < zs.length) : w.cell? ⟨g, j, none⟩ = some (.int .i64 (zs.getD j 0)) := by
  rw [h.cell]; simp [i64s, hj, List.getD]
/-- What digits stand for. -/
def vd : List Int → Int
  | [] => 0
  | z :: l => z + 65536 * vd l
/-- The digits of a number. -/
def ldD : Nat → Int → List Int
  | 0, _ => []
  | k + 1, v => v % 65536 :: ldD k (v / 65536)
theorem ldD_length : ∀ n v, (ldD n v).length = n
  | 0, _ => rfl
  | n + 1, v => by simp [ldD, ldD_length n]
theorem ldD_bd : ∀ n v, ∀ z ∈ ldD n v, 0 ≤ z ∧ z < 65536
  | 0, _, z, h => by cases h
  | n + 1, v, z, h => by
    rcases List.mem_cons.1 h with rfl | h
    · omega
    · exact ldD_bd n _ z h
theorem vd_ldD : ∀ n v, vd (ldD n v) = v % 65536 ^ n
  | 0, v => by simp [ldD, vd, Int.emod_one]
  | n + 1, v => by
    rw [ldD, vd, vd_ldD n, Int.pow_succ', ← Int.emod_add_mul_ediv v 65536]
    have e1 : (v % 65536 + 65536 * (v / 65536)) % 65536 = v % 65536 := by omega
    have e2 : (v % 65536 + 65536 * (v / 65536)) / 65536 = v / 65536 := by omega
    rw [e1, e2]
    have hp : (0 : Int) < 65536 ^ n := Int.pow_pos (by decide)
    generalize (65536 : Int) ^ n = m at hp
    have hr : 0 ≤ v % 65536 ∧ v % 65536 < 65536 := by omega
    generalize v % 65536 = r at hr
    generalize v / 65536 = q
    have h1 := Int.emod_nonneg q (Int.ne_of_gt hp)
    have h2 := Int.emod_lt_of_pos q hp
    have h3 := Int.emod_add_mul_ediv q m
    have e3 : r + 65536 * q = (r + 65536 * (q % m)) + (65536 * m) * (q / m) := by
      rw [Int.mul_assoc, Int.add_assoc, ← Int.mul_add, h3]
    rw [e3, Int.add_mul_emod_self_left]
    symm
    exact Int.emod_eq_of_lt (by omega) (by omega)
/-- Digits brought below the base, with what comes in. -/
def chD : List Int → Int → List Int
  | [], _ => []
  | z :: l, c => (z + c) % 65536 :: chD l ((z + c) / 65536)
def chC : List Int → Int → Int
  | [], c => c
  | z :: l, c => chC l ((z + c) / 65536)
theorem chD_length : ∀ l c, (chD l c).length = l.length
  | [], _ => rfl
  | z :: l, c => by simp [chD, chD_length l]
theorem chD_app : ∀ (a : List Int) (z c : Int), chD (a ++ [z]) c = chD a c ++ [(z + chC a c) % 65536]
  | [], z, c => rfl
  | y :: a, z, c => by simp [chD, chC, chD_app a]
theorem chC_app : ∀ (a : List Int) (z c : Int), chC (a ++ [z]) c = (z + chC a c) / 65536
  | [], z, c => rfl
  | y :: a, z, c => by simp [chC, chC_app a]
theorem chD_eq : ∀ (l : List Int) (c : Int), chD l c = ldD l.length (vd l + c)
  | [], c => rfl
  | z :: l, c => by
    rw [chD, chD_eq l, List.length_cons, ldD, vd]
    congr 1
    · omega
    · congr 1; omega
theorem chC_eq : ∀ (l : List Int) (c : Int), chC l c = (vd l + c) / 65536 ^ l.length
  | [], c => by simp [chC, vd]
  | z :: l, c => by
    rw [chC, chC_eq l, List.length_cons, vd, Int.pow_succ', ← Int.ediv_ediv_of_nonneg (by decide)]
    congr 1; omega
theorem chC_bd : ∀ (l : List Int) (c B : Int), (∀ z ∈ l, 0 ≤ z ∧ z < B) → 0 ≤ c ∧ c ≤ B → 0 < B → 0 ≤ chC l c ∧ chC l c ≤ B
  | [], c, B, _, hc, _ => hc
  | z :: l, c, B, h, hc, hB => by
    rw [chC]
    have := h z (by simp)
    exact chC_bd l _ B (fun y hy => h y (by simp [hy])) ⟨by omega, by omega⟩ hB
theorem take_succ_getD (l : List Int) (k : Nat) (hk : k < l.length) : l.take (k + 1) = l.take k ++ [l.getD k 0] := by
  rw [List.take_succ_eq_append_getElem hk]; simp [List.getD, hk]
theorem drop_getD (l : List Int) (k : Nat) (hk : k < l.length) : l.drop k = l.getD k 0 :: l.drop (k + 1) := by
  rw [List.drop_eq_getElem_cons hk]; simp [List.getD, hk]
/-- The digits, the first k of them brought below the base. -/
def caK (l : List Int) (k : Nat) : List Int := chD (l.take k) 0 ++ l.drop k
theorem caK_length (l : List Int) (k : Nat) (hk : k ≤ l.length) : (caK l k).length = l.length := by
  rw [caK, List.length_append, chD_length, List.length_take, List.length_drop]; omega
theorem caK_at (l : List Int) (k : Nat) (hk : k < l.length) : (caK l k).getD k 0 = l.getD k 0 := by
  have h : (chD (l.take k) 0).length = k := by rw [chD_length, List.length_take]; omega
  rw [caK, drop_getD l k hk]
  simp only [List.getD]
  rw [List.getElem?_append_right (by omega), h, Nat.sub_self]; rfl
theorem caK_set (l : List Int) (k : Nat) (hk : k < l.length) : (caK l k).set k ((l.getD k 0 + chC (l.take k) 0) % 65536) = caK l (k + 1) := by
  have h : (chD (l.take k) 0).length = k := by rw [chD_length, List.length_take]; omega
  rw [caK, drop_getD l k hk, List.set_append_right _ _ (by omega), h, Nat.sub_self, List.set_cons_zero, caK, take_succ_getD l k hk, chD_app]
  simp
theorem caK_all (l : List Int) : caK l l.length = ldD l.length (vd l) := by
  rw [caK, List.take_length, List.drop_length, List.append_nil, chD_eq, Int.add_zero]
theorem caC_succ (l : List Int) (k : Nat) (hk : k < l.length) : chC (l.take (k + 1)) 0 = (l.getD k 0 + chC (l.take k) 0) / 65536 := by rw [take_succ_getD l k hk, chC_app]
theorem caC_all (l : List Int) : chC (l.take l.length) 0 = vd l / 65536 ^ l.length := by rw [List.take_length, chC_eq, Int.add_zero]
theorem ldD_vd : ∀ (l : List Int), (∀ z ∈ l, 0 ≤ z ∧ z < 65536) → ldD l.length (vd l) = l
  | [], _ => rfl
  | z :: l, h => by
    have hz := h z (by simp)
    rw [List.length_cons, ldD, vd, show (z + 65536 * vd l) / 65536 = vd l by omega, ldD_vd l (fun y hy => h y (by simp [hy]))]
    congr 1; omega
theorem vd_bd : ∀ (l : List Int) (B : Int), (∀ z ∈ l, 0 ≤ z ∧ z < B) → 0 ≤ vd l
  | [], _, _ => by simp [vd]
  | z :: l, B, h => by
    have := h z (by simp); have := vd_bd l B (fun y hy => h y (by simp [hy]))
    rw [vd]; omega
end Go.Proofs.Ytnifolefhelmcaa
