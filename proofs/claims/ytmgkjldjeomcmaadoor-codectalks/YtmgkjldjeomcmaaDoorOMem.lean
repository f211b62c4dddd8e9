/- Layer octet: the statements' lent, still, same. -/
import Derived.Test.YtmgkjldjeomcmaaDoorOPut
namespace Go.Proofs.YtmgkjldjeomcmaaDoor
open Go.RowKit
set_option linter.unusedVariables false
set_option linter.unusedSimpArgs false

theorem take_same_succ (xs ys : List Int) (k : Nat) (hx : k < xs.length) (hy : k < ys.length) : (xs.take (k + 1) = ys.take (k + 1)) ↔ (xs.take k = ys.take k ∧ xs.getD k 0 = ys.getD k 0) := by
  rw [List.take_succ_eq_append_getElem hx, List.take_succ_eq_append_getElem hy]
  have e1 : xs.getD k 0 = xs[k] := by simp [List.getD, hx]
  have e2 : ys.getD k 0 = ys[k] := by simp [List.getD, hy]
  rw [e1, e2]
  constructor
  · intro h
    have := List.append_inj h (by simp; omega)
    simpa using this
  · rintro ⟨h1, h2⟩; rw [h1, h2]
/-- The marks behind what lent lends. -/
def marks : List Int := (List.range 90).map fun i => ((160 + i % 80 : Nat) : Int)
theorem marks_length : marks.length = 90 := by simp [marks]
theorem marks_getD (k : Nat) (hk : k < 90) : marks.getD k 0 = 160 + (k : Int) % 80 := by simp [marks, List.getD, hk]
theorem marks_bytes : Bytes marks := by
  intro z hz
  simp only [marks, List.mem_map, List.mem_range] at hz
  obtain ⟨i, hi, rfl⟩ := hz
  omega
theorem bytes_marks {xs : List Int} (h : Bytes xs) : Bytes (xs ++ marks) := bytes_app h marks_bytes

/-- The bytes that were lent, seen; written. -/
theorem Seen.lent {w : World} {g n : Nat} {ys : List Int} (h : RowAt w g (ys ++ marks)) (hl : ys.length = n) (hb : Bytes ys) (ht : n ≤ 140737488355328) : Seen w (some ⟨g, 0, none⟩) n ys := by
  have h1 := h.take n
  rw [List.take_append_of_le_length (by omega), List.take_of_length_le (by omega)] at h1
  have := Seen.of_row (n := n) h1 (by omega) ht hb
  rwa [List.take_of_length_le (by omega)] at this
theorem bytes_set {us : List Int} (h : Bytes us) (m : Nat) (z : Int) (hz : 0 ≤ z ∧ z < 256) : Bytes (us.set m z) := by
  intro y hy
  rcases List.mem_or_eq_of_mem_set hy with h1 | h1
  · exact h y h1
  · rw [h1]; exact hz
theorem RowAt.lentSet {w : World} {g m : Nat} {us : List Int} (h : RowAt w g (us ++ marks)) (hm : m < us.length) (z : Int) : RowAt (w.setCell ⟨g, m, none⟩ (.int .u8 z)) g (us.set m z ++ marks) := by
  have h1 := h.set m (by simp; omega) z
  rwa [List.set_append_left _ _ hm] at h1
theorem RowAt.lentCell {w : World} {g m : Nat} {us : List Int} (h : RowAt w g (us ++ marks)) (hm : m < us.length) : w.cell? ⟨g, m, none⟩ = some (.int .u8 (us.getD m 0)) := by
  rw [h.cell m (by simp; omega)]
  simp [List.getD, List.getElem?_append, hm]
theorem xor8_bd (x y : Int) (hx : 0 ≤ x ∧ x < 256) (hy : 0 ≤ y ∧ y < 256) : 0 ≤ bits .xor .u8 x y ∧ bits .xor .u8 x y < 256 := by
  rw [u8_xor x y hx.1 hx.2 hy.1 hy.2]
  have : x.toNat ^^^ y.toNat < 2 ^ 8 := Nat.xor_lt_two_pow (by omega) (by omega)
  omega
end Go.Proofs.YtmgkjldjeomcmaaDoor
