/- The statements' helpers: Spare, EqBytes, Kept. -/
import Derived.Test.YtpjnimmclncdoaaDCopy
import Derived.Laws.OwnMore
namespace Go.Proofs.Ytpjnimmclncdoaa
open Go.RowKit
set_option linter.unusedVariables false
set_option linter.unusedSimpArgs false

/-- The mark at a place of the room behind a list. -/
def markB (i : Nat) : Int := bits .xor .i64 165 (i : Int) % 256
def spared (zs : List Int) : List Int := zs ++ (List.range 80).map (fun j => markB (zs.length + j))
theorem spared_length (zs : List Int) : (spared zs).length = zs.length + 80 := by simp [spared]
theorem spared_front (zs : List Int) (i : Nat) (hi : i < zs.length) : (spared zs).getD i 0 = zs.getD i 0 := by
  simp [spared, List.getD, List.getElem?_append_left hi]
theorem spared_mark (zs : List Int) (i : Nat) (h1 : zs.length ≤ i) (h2 : i < zs.length + 80) : (spared zs).getD i 0 = markB i := by
  obtain ⟨j, rfl⟩ : ∃ j, i = zs.length + j := ⟨i - zs.length, by omega⟩
  have hj : j < 80 := by omega
  simp [spared, List.getD, hj]
theorem take_next (xs : List Int) (k : Nat) (hk : k < xs.length) (n : Nat) : (xs.take k ++ List.replicate (n + 1) 0).set k (xs.getD k 0) = xs.take (k + 1) ++ List.replicate n 0 := by
  have e : (xs.take k).length = k := by simp; omega
  have h := set_next (xs.take k) n (xs.getD k 0) 0
  rw [e] at h
  rw [h, List.take_succ_eq_append_getElem hk]
  simp [List.getD, hk]
theorem made_zero (n : Nat) : (madeCells #[Value.int .u8 0] n) = (u8s (List.replicate n 0)).toArray := by
  apply Array.ext'
  rw [toList_madeCells_one]
  simp [u8s]
/-- A list with marked room, as data. -/
theorem spared_seen {w : World} {g : Nat} {zs : List Int} (h : Blk w g 5 (u8s (spared zs))) (hb : Bytes zs) (ht : zs.length ≤ 35184372088832) : Seen w (some ⟨g, 0, none⟩) zs.length zs :=
  ⟨rfl, by omega, hb, fun _ => ⟨g, 0, rfl, h.lt, fun i hi => by rw [Nat.zero_add, u8s_cell h i (by rw [spared_length]; omega), spared_front zs i hi]⟩⟩
end Go.Proofs.Ytpjnimmclncdoaa
