/- Layer octet, texts: digitOf, Hex, Unhex. -/
import Derived.Test.YtgcpckkhkppnhaaOMem
import Derived.Laws.BytesArg
namespace Go.Proofs.Ytgcpckkhkppnhaa
open Go.RowKit
set_option linter.unusedVariables false
set_option linter.unusedSimpArgs false

/-- The sign of a digit; the digits of bytes. -/
def dig (n : Int) : Int := if n < 10 then 48 + n else 87 + n
def hexL : List Int → List Int
  | [] => []
  | z :: zs => dig (z / 16) :: dig (z % 16) :: hexL zs
theorem hexL_length (zs : List Int) : (hexL zs).length = 2 * zs.length := by
  induction zs with
  | nil => rfl
  | cons z zs ih => simp [hexL, ih]; omega
theorem hexL_app (xs ys : List Int) : hexL (xs ++ ys) = hexL xs ++ hexL ys := by
  induction xs with
  | nil => rfl
  | cons x xs ih => simp [hexL, ih]
theorem dig_bd (n : Int) (h : 0 ≤ n ∧ n < 16) : 48 ≤ dig n ∧ dig n < 103 := by unfold dig; split <;> omega
theorem hexL_bytes (zs : List Int) (h : Bytes zs) : Bytes (hexL zs) := by
  induction zs with
  | nil => intro z hz; cases hz
  | cons z zs ih =>
    have hz := h z (by simp)
    have h1 := dig_bd (z / 16) (by omega)
    have h2 := dig_bd (z % 16) (by omega)
    have h3 := ih (fun y hy => h y (by simp [hy]))
    intro y hy
    simp only [hexL, List.mem_cons] at hy
    rcases hy with rfl | rfl | hy
    · omega
    · omega
    · exact h3 y hy
theorem hexL_take (zs : List Int) (k : Nat) (hk : k < zs.length) : hexL (zs.take (k + 1)) = hexL (zs.take k) ++ [dig (zs.getD k 0 / 16), dig (zs.getD k 0 % 16)] := by
  rw [List.take_succ_eq_append_getElem hk, hexL_app]
  simp [hexL, List.getD, hk]

abbrev digitsS : ByteArray := { data := #[48, 49, 50, 51, 52, 53, 54, 55, 56, 57, 97, 98, 99, 100, 101, 102] }
set_option maxRecDepth 20000 in
theorem dig_index (x : Int) (hx : 0 ≤ x ∧ x < 16) (w : World) : (Instr.index 9 (.string digitsS) (.int .u8 x)).run Try.prog w = .ok (.int .u8 (dig x)) w := by
  obtain ⟨x, rfl⟩ := Int.eq_ofNat_of_zero_le hx.1
  have h : x < 16 := by omega
  rcases (by omega : x = 0 ∨ x = 1 ∨ x = 2 ∨ x = 3 ∨ x = 4 ∨ x = 5 ∨ x = 6 ∨ x = 7 ∨ x = 8 ∨ x = 9 ∨ x = 10 ∨ x = 11 ∨ x = 12 ∨ x = 13 ∨ x = 14 ∨ x = 15) with rfl | rfl | rfl | rfl | rfl | rfl | rfl | rfl | rfl | rfl | rfl | rfl | rfl | rfl | rfl | rfl <;> rfl
theorem and15 (z : Int) (hz : 0 ≤ z ∧ z < 256) : bits .and .u8 z 15 = z % 16 := by
  rw [u8_and z 15 hz.1 hz.2 (by decide) (by decide)]
  have := Nat.and_two_pow_sub_one_eq_mod z.toNat 4
  show ((z.toNat &&& 15 : Nat) : Int) = _
  rw [show (15 : Nat) = 2 ^ 4 - 1 from rfl, this]; omega

theorem cell_two_new (w : World) (x y : Value) (t : TypeId) : ∀ j u, [x, y][j]? = some u → ((w.drew).alloc (.cells #[x, y] t)).cell? ((⟨w.heap.size, 0, none⟩ : Addr).add j) = some u := by
  intro j u hj
  rw [add_at, Nat.zero_add]
  have h : ((w.drew).alloc (.cells #[x, y] t)).heap[w.heap.size]? = some (.cells [x, y].toArray t (0, 0)) := heap_alloc_new w.drew _
  rw [cell_of_row _ _ j _ t (0, 0) h]
  simpa using hj
def isDig (s : Int) : Bool := decide (48 ≤ s ∧ s ≤ 57) || decide (97 ≤ s ∧ s ≤ 102)
def dv (s : Int) : Int := if 48 ≤ s ∧ s ≤ 57 then s - 48 else if 97 ≤ s ∧ s ≤ 102 then s - 87 else 0
theorem dv_bd (s : Int) : 0 ≤ dv s ∧ dv s < 16 := by
  unfold dv
  split
  · omega
  · split <;> omega
end Go.Proofs.Ytgcpckkhkppnhaa
