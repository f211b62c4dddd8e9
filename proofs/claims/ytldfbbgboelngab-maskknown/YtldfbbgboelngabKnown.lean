/- The closed statement: words at their ends, lists of unlike lengths, rows of all sorts, and the chapter's examples: trystlaw01.MaskKnown returns true. No condition. -/
import Derived.Test.YtldfbbgboelngabWordsLawWalk
import Derived.Test.YtldfbbgboelngabChooseWalk
import Derived.Test.YtldfbbgboelngabListsLawWalk
import Derived.Test.YtldfbbgboelngabMovesLawWalk
import Derived.Test.YtldfbbgboelngabRowsLaw
import Derived.Deep.RegionHeld3
import Derived.Deep.DrawnRows
namespace Go.Proofs.Ytldfbbgboelngab.maskKnown
open Go.ChangeShapes Go.WideShapes Go.ChangeAt Go.RowKit
set_option linter.unusedVariables false
set_option linter.unusedSimpArgs false
attribute [local go_sem ↓] Go.wp_at_zero Go.wp_at_succ

def ends : List Int := [0, 1, 2, 3, 127, 128, 255, 256, 2147483648, 4294967295, 4611686018427387904, 9223372036854775807, 9223372036854775808, 9223372036854775809, 18446744073709551614, 18446744073709551615]
abbrev endsW (w : World) : World := w.alloc (.cells #[.int .u64 0, .int .u64 1, .int .u64 2, .int .u64 3, .int .u64 127, .int .u64 128, .int .u64 255, .int .u64 256, .int .u64 2147483648, .int .u64 4294967295, .int .u64 4611686018427387904, .int .u64 9223372036854775807, .int .u64 9223372036854775808, .int .u64 9223372036854775809, .int .u64 18446744073709551614, .int .u64 18446744073709551615] 22)
theorem ends_cell (w : World) (i : Nat) (hi : i < 16) : (endsW w).cell? ⟨w.heap.size, i, none⟩ = some (.int .u64 (ends.getD i 0)) := by
  rw [cell_of_row _ w.heap.size i _ 22 (0, 0) (heap_alloc_new w _)]
  match i, hi with
  | 0, _ => rfl
  | 1, _ => rfl
  | 2, _ => rfl
  | 3, _ => rfl
  | 4, _ => rfl
  | 5, _ => rfl
  | 6, _ => rfl
  | 7, _ => rfl
  | 8, _ => rfl
  | 9, _ => rfl
  | 10, _ => rfl
  | 11, _ => rfl
  | 12, _ => rfl
  | 13, _ => rfl
  | 14, _ => rfl
  | 15, _ => rfl
  | m + 16, h => exact absurd h (by omega)
theorem ends_word (i : Nat) (hi : i < 16) : Word (ends.getD i 0) := by
  have h : ∀ i, i < 16 → 0 ≤ ends.getD i 0 ∧ ends.getD i 0 < 18446744073709551616 := by decide
  exact h i hi
def LZ : List (List Int) := [[], [0], [0, 0], [1], [1, 0], [0, 1], [255], [255, 0], [1, 2, 3], [1, 2, 4], [1, 3, 3], [2, 2, 3], [1, 2]]
abbrev rowsW (w : World) : World := ((((((((((((w.alloc (.cells #[.int .u8 0] 5)).alloc (.cells #[.int .u8 0, .int .u8 0] 5)).alloc (.cells #[.int .u8 1] 5)).alloc (.cells #[.int .u8 1, .int .u8 0] 5)).alloc (.cells #[.int .u8 0, .int .u8 1] 5)).alloc (.cells #[.int .u8 255] 5)).alloc (.cells #[.int .u8 255, .int .u8 0] 5)).alloc (.cells #[.int .u8 1, .int .u8 2, .int .u8 3] 5)).alloc (.cells #[.int .u8 1, .int .u8 2, .int .u8 4] 5)).alloc (.cells #[.int .u8 1, .int .u8 3, .int .u8 3] 5)).alloc (.cells #[.int .u8 2, .int .u8 2, .int .u8 3] 5)).alloc (.cells #[.int .u8 1, .int .u8 2] 5))
abbrev listsW (w : World) : World := (rowsW w).alloc (.cells #[.slice none 0 0, .slice (some ⟨w.heap.size, 0, none⟩) 1 1, .slice (some ⟨w.heap.size + 1, 0, none⟩) 2 2, .slice (some ⟨w.heap.size + 1 + 1, 0, none⟩) 1 1, .slice (some ⟨w.heap.size + 1 + 1 + 1, 0, none⟩) 2 2, .slice (some ⟨w.heap.size + 1 + 1 + 1 + 1, 0, none⟩) 2 2, .slice (some ⟨w.heap.size + 1 + 1 + 1 + 1 + 1, 0, none⟩) 1 1, .slice (some ⟨w.heap.size + 1 + 1 + 1 + 1 + 1 + 1, 0, none⟩) 2 2, .slice (some ⟨w.heap.size + 1 + 1 + 1 + 1 + 1 + 1 + 1, 0, none⟩) 3 3, .slice (some ⟨w.heap.size + 1 + 1 + 1 + 1 + 1 + 1 + 1 + 1, 0, none⟩) 3 3, .slice (some ⟨w.heap.size + 1 + 1 + 1 + 1 + 1 + 1 + 1 + 1 + 1, 0, none⟩) 3 3, .slice (some ⟨w.heap.size + 1 + 1 + 1 + 1 + 1 + 1 + 1 + 1 + 1 + 1, 0, none⟩) 3 3, .slice (some ⟨w.heap.size + 1 + 1 + 1 + 1 + 1 + 1 + 1 + 1 + 1 + 1 + 1, 0, none⟩) 2 2] 23)
theorem row_new (w : World) (zs : List Int) (b : Nat) (hb : w.heap.size = b) : RowAt (w.alloc (.cells (zs.map (Value.int .u8)).toArray 5)) b zs := by
  subst hb; exact RowAt.new w zs
theorem row0 (w : World) : RowAt (listsW w) (w.heap.size) [0] :=
  ((((((((((((row_new w [0] (w.heap.size) (by simp)).alloc _).alloc _).alloc _).alloc _).alloc _).alloc _).alloc _).alloc _).alloc _).alloc _).alloc _).alloc _
theorem row1 (w : World) : RowAt (listsW w) (w.heap.size + 1) [0, 0] :=
  (((((((((((row_new (w.alloc (.cells #[.int .u8 0] 5)) [0, 0] (w.heap.size + 1) (by simp)).alloc _).alloc _).alloc _).alloc _).alloc _).alloc _).alloc _).alloc _).alloc _).alloc _).alloc _
theorem row2 (w : World) : RowAt (listsW w) (w.heap.size + 1 + 1) [1] :=
  ((((((((((row_new ((w.alloc (.cells #[.int .u8 0] 5)).alloc (.cells #[.int .u8 0, .int .u8 0] 5)) [1] (w.heap.size + 1 + 1) (by simp)).alloc _).alloc _).alloc _).alloc _).alloc _).alloc _).alloc _).alloc _).alloc _).alloc _
theorem row3 (w : World) : RowAt (listsW w) (w.heap.size + 1 + 1 + 1) [1, 0] :=
  (((((((((row_new (((w.alloc (.cells #[.int .u8 0] 5)).alloc (.cells #[.int .u8 0, .int .u8 0] 5)).alloc (.cells #[.int .u8 1] 5)) [1, 0] (w.heap.size + 1 + 1 + 1) (by simp)).alloc _).alloc _).alloc _).alloc _).alloc _).alloc _).alloc _).alloc _).alloc _
theorem row4 (w : World) : RowAt (listsW w) (w.heap.size + 1 + 1 + 1 + 1) [0, 1] :=
  ((((((((row_new ((((w.alloc (.cells #[.int .u8 0] 5)).alloc (.cells #[.int .u8 0, .int .u8 0] 5)).alloc (.cells #[.int .u8 1] 5)).alloc (.cells #[.int .u8 1, .int .u8 0] 5)) [0, 1] (w.heap.size + 1 + 1 + 1 + 1) (by simp)).alloc _).alloc _).alloc _).alloc _).alloc _).alloc _).alloc _).alloc _
theorem row5 (w : World) : RowAt (listsW w) (w.heap.size + 1 + 1 + 1 + 1 + 1) [255] :=
  (((((((row_new (((((w.alloc (.cells #[.int .u8 0] 5)).alloc (.cells #[.int .u8 0, .int .u8 0] 5)).alloc (.cells #[.int .u8 1] 5)).alloc (.cells #[.int .u8 1, .int .u8 0] 5)).alloc (.cells #[.int .u8 0, .int .u8 1] 5)) [255] (w.heap.size + 1 + 1 + 1 + 1 + 1) (by simp)).alloc _).alloc _).alloc _).alloc _).alloc _).alloc _).alloc _
theorem row6 (w : World) : RowAt (listsW w) (w.heap.size + 1 + 1 + 1 + 1 + 1 + 1) [255, 0] :=
  ((((((row_new ((((((w.alloc (.cells #[.int .u8 0] 5)).alloc (.cells #[.int .u8 0, .int .u8 0] 5)).alloc (.cells #[.int .u8 1] 5)).alloc (.cells #[.int .u8 1, .int .u8 0] 5)).alloc (.cells #[.int .u8 0, .int .u8 1] 5)).alloc (.cells #[.int .u8 255] 5)) [255, 0] (w.heap.size + 1 + 1 + 1 + 1 + 1 + 1) (by simp)).alloc _).alloc _).alloc _).alloc _).alloc _).alloc _
theorem row7 (w : World) : RowAt (listsW w) (w.heap.size + 1 + 1 + 1 + 1 + 1 + 1 + 1) [1, 2, 3] :=
  (((((row_new (((((((w.alloc (.cells #[.int .u8 0] 5)).alloc (.cells #[.int .u8 0, .int .u8 0] 5)).alloc (.cells #[.int .u8 1] 5)).alloc (.cells #[.int .u8 1, .int .u8 0] 5)).alloc (.cells #[.int .u8 0, .int .u8 1] 5)).alloc (.cells #[.int .u8 255] 5)).alloc (.cells #[.int .u8 255, .int .u8 0] 5)) [1, 2, 3] (w.heap.size + 1 + 1 + 1 + 1 + 1 + 1 + 1) (by simp)).alloc _).alloc _).alloc _).alloc _).alloc _
theorem row8 (w : World) : RowAt (listsW w) (w.heap.size + 1 + 1 + 1 + 1 + 1 + 1 + 1 + 1) [1, 2, 4] :=
  ((((row_new ((((((((w.alloc (.cells #[.int .u8 0] 5)).alloc (.cells #[.int .u8 0, .int .u8 0] 5)).alloc (.cells #[.int .u8 1] 5)).alloc (.cells #[.int .u8 1, .int .u8 0] 5)).alloc (.cells #[.int .u8 0, .int .u8 1] 5)).alloc (.cells #[.int .u8 255] 5)).alloc (.cells #[.int .u8 255, .int .u8 0] 5)).alloc (.cells #[.int .u8 1, .int .u8 2, .int .u8 3] 5)) [1, 2, 4] (w.heap.size + 1 + 1 + 1 + 1 + 1 + 1 + 1 + 1) (by simp)).alloc _).alloc _).alloc _).alloc _
theorem row9 (w : World) : RowAt (listsW w) (w.heap.size + 1 + 1 + 1 + 1 + 1 + 1 + 1 + 1 + 1) [1, 3, 3] :=
  (((row_new (((((((((w.alloc (.cells #[.int .u8 0] 5)).alloc (.cells #[.int .u8 0, .int .u8 0] 5)).alloc (.cells #[.int .u8 1] 5)).alloc (.cells #[.int .u8 1, .int .u8 0] 5)).alloc (.cells #[.int .u8 0, .int .u8 1] 5)).alloc (.cells #[.int .u8 255] 5)).alloc (.cells #[.int .u8 255, .int .u8 0] 5)).alloc (.cells #[.int .u8 1, .int .u8 2, .int .u8 3] 5)).alloc (.cells #[.int .u8 1, .int .u8 2, .int .u8 4] 5)) [1, 3, 3] (w.heap.size + 1 + 1 + 1 + 1 + 1 + 1 + 1 + 1 + 1) (by simp)).alloc _).alloc _).alloc _
theorem row10 (w : World) : RowAt (listsW w) (w.heap.size + 1 + 1 + 1 + 1 + 1 + 1 + 1 + 1 + 1 + 1) [2, 2, 3] :=
  ((row_new ((((((((((w.alloc (.cells #[.int .u8 0] 5)).alloc (.cells #[.int .u8 0, .int .u8 0] 5)).alloc (.cells #[.int .u8 1] 5)).alloc (.cells #[.int .u8 1, .int .u8 0] 5)).alloc (.cells #[.int .u8 0, .int .u8 1] 5)).alloc (.cells #[.int .u8 255] 5)).alloc (.cells #[.int .u8 255, .int .u8 0] 5)).alloc (.cells #[.int .u8 1, .int .u8 2, .int .u8 3] 5)).alloc (.cells #[.int .u8 1, .int .u8 2, .int .u8 4] 5)).alloc (.cells #[.int .u8 1, .int .u8 3, .int .u8 3] 5)) [2, 2, 3] (w.heap.size + 1 + 1 + 1 + 1 + 1 + 1 + 1 + 1 + 1 + 1) (by simp)).alloc _).alloc _
theorem row11 (w : World) : RowAt (listsW w) (w.heap.size + 1 + 1 + 1 + 1 + 1 + 1 + 1 + 1 + 1 + 1 + 1) [1, 2] :=
  (row_new (((((((((((w.alloc (.cells #[.int .u8 0] 5)).alloc (.cells #[.int .u8 0, .int .u8 0] 5)).alloc (.cells #[.int .u8 1] 5)).alloc (.cells #[.int .u8 1, .int .u8 0] 5)).alloc (.cells #[.int .u8 0, .int .u8 1] 5)).alloc (.cells #[.int .u8 255] 5)).alloc (.cells #[.int .u8 255, .int .u8 0] 5)).alloc (.cells #[.int .u8 1, .int .u8 2, .int .u8 3] 5)).alloc (.cells #[.int .u8 1, .int .u8 2, .int .u8 4] 5)).alloc (.cells #[.int .u8 1, .int .u8 3, .int .u8 3] 5)).alloc (.cells #[.int .u8 2, .int .u8 2, .int .u8 3] 5)) [1, 2] (w.heap.size + 1 + 1 + 1 + 1 + 1 + 1 + 1 + 1 + 1 + 1 + 1) (by simp)).alloc _
theorem bytes_of {zs : List Int} (h : zs.all (fun z => decide (0 ≤ z ∧ z < 256)) = true) : Bytes zs := by
  intro z hz
  have := List.all_eq_true.1 h z hz
  simpa using this
theorem lists_seen (w : World) : SeenL (listsW w) (some ⟨w.heap.size + 1 + 1 + 1 + 1 + 1 + 1 + 1 + 1 + 1 + 1 + 1 + 1, 0, none⟩) 13 LZ := by
  have hh : (listsW w).heap[w.heap.size + 1 + 1 + 1 + 1 + 1 + 1 + 1 + 1 + 1 + 1 + 1 + 1]? = some (.cells #[.slice none 0 0, .slice (some ⟨w.heap.size, 0, none⟩) 1 1, .slice (some ⟨w.heap.size + 1, 0, none⟩) 2 2, .slice (some ⟨w.heap.size + 1 + 1, 0, none⟩) 1 1, .slice (some ⟨w.heap.size + 1 + 1 + 1, 0, none⟩) 2 2, .slice (some ⟨w.heap.size + 1 + 1 + 1 + 1, 0, none⟩) 2 2, .slice (some ⟨w.heap.size + 1 + 1 + 1 + 1 + 1, 0, none⟩) 1 1, .slice (some ⟨w.heap.size + 1 + 1 + 1 + 1 + 1 + 1, 0, none⟩) 2 2, .slice (some ⟨w.heap.size + 1 + 1 + 1 + 1 + 1 + 1 + 1, 0, none⟩) 3 3, .slice (some ⟨w.heap.size + 1 + 1 + 1 + 1 + 1 + 1 + 1 + 1, 0, none⟩) 3 3, .slice (some ⟨w.heap.size + 1 + 1 + 1 + 1 + 1 + 1 + 1 + 1 + 1, 0, none⟩) 3 3, .slice (some ⟨w.heap.size + 1 + 1 + 1 + 1 + 1 + 1 + 1 + 1 + 1 + 1, 0, none⟩) 3 3, .slice (some ⟨w.heap.size + 1 + 1 + 1 + 1 + 1 + 1 + 1 + 1 + 1 + 1 + 1, 0, none⟩) 2 2] 23 (0, 0)) := by
    have := heap_alloc_new (rowsW w) (.cells #[.slice none 0 0, .slice (some ⟨w.heap.size, 0, none⟩) 1 1, .slice (some ⟨w.heap.size + 1, 0, none⟩) 2 2, .slice (some ⟨w.heap.size + 1 + 1, 0, none⟩) 1 1, .slice (some ⟨w.heap.size + 1 + 1 + 1, 0, none⟩) 2 2, .slice (some ⟨w.heap.size + 1 + 1 + 1 + 1, 0, none⟩) 2 2, .slice (some ⟨w.heap.size + 1 + 1 + 1 + 1 + 1, 0, none⟩) 1 1, .slice (some ⟨w.heap.size + 1 + 1 + 1 + 1 + 1 + 1, 0, none⟩) 2 2, .slice (some ⟨w.heap.size + 1 + 1 + 1 + 1 + 1 + 1 + 1, 0, none⟩) 3 3, .slice (some ⟨w.heap.size + 1 + 1 + 1 + 1 + 1 + 1 + 1 + 1, 0, none⟩) 3 3, .slice (some ⟨w.heap.size + 1 + 1 + 1 + 1 + 1 + 1 + 1 + 1 + 1, 0, none⟩) 3 3, .slice (some ⟨w.heap.size + 1 + 1 + 1 + 1 + 1 + 1 + 1 + 1 + 1 + 1, 0, none⟩) 3 3, .slice (some ⟨w.heap.size + 1 + 1 + 1 + 1 + 1 + 1 + 1 + 1 + 1 + 1 + 1, 0, none⟩) 2 2] 23)
    have e : (rowsW w).heap.size = w.heap.size + 1 + 1 + 1 + 1 + 1 + 1 + 1 + 1 + 1 + 1 + 1 + 1 := by simp
    rw [e] at this
    exact this
  have hlt : w.heap.size + 1 + 1 + 1 + 1 + 1 + 1 + 1 + 1 + 1 + 1 + 1 + 1 < (listsW w).heap.size := by simp
  refine ⟨rfl, by decide, fun i hi => ?_⟩
  have hc := fun j => cell_of_row (listsW w) (w.heap.size + 1 + 1 + 1 + 1 + 1 + 1 + 1 + 1 + 1 + 1 + 1 + 1) j _ 23 (0, 0) hh
  match i, hi with
  | 0, _ => exact ⟨_, 0, none, 0, rfl, hlt, by rw [hc]; rfl, Seen.empty _ _⟩
  | 1, _ => exact ⟨_, 0, _, 1, rfl, hlt, by rw [hc]; rfl, Seen.of_row (n := 1) (row0 w) (by decide) (by decide) (bytes_of (by decide))⟩
  | 2, _ => exact ⟨_, 0, _, 2, rfl, hlt, by rw [hc]; rfl, Seen.of_row (n := 2) (row1 w) (by decide) (by decide) (bytes_of (by decide))⟩
  | 3, _ => exact ⟨_, 0, _, 1, rfl, hlt, by rw [hc]; rfl, Seen.of_row (n := 1) (row2 w) (by decide) (by decide) (bytes_of (by decide))⟩
  | 4, _ => exact ⟨_, 0, _, 2, rfl, hlt, by rw [hc]; rfl, Seen.of_row (n := 2) (row3 w) (by decide) (by decide) (bytes_of (by decide))⟩
  | 5, _ => exact ⟨_, 0, _, 2, rfl, hlt, by rw [hc]; rfl, Seen.of_row (n := 2) (row4 w) (by decide) (by decide) (bytes_of (by decide))⟩
  | 6, _ => exact ⟨_, 0, _, 1, rfl, hlt, by rw [hc]; rfl, Seen.of_row (n := 1) (row5 w) (by decide) (by decide) (bytes_of (by decide))⟩
  | 7, _ => exact ⟨_, 0, _, 2, rfl, hlt, by rw [hc]; rfl, Seen.of_row (n := 2) (row6 w) (by decide) (by decide) (bytes_of (by decide))⟩
  | 8, _ => exact ⟨_, 0, _, 3, rfl, hlt, by rw [hc]; rfl, Seen.of_row (n := 3) (row7 w) (by decide) (by decide) (bytes_of (by decide))⟩
  | 9, _ => exact ⟨_, 0, _, 3, rfl, hlt, by rw [hc]; rfl, Seen.of_row (n := 3) (row8 w) (by decide) (by decide) (bytes_of (by decide))⟩
  | 10, _ => exact ⟨_, 0, _, 3, rfl, hlt, by rw [hc]; rfl, Seen.of_row (n := 3) (row9 w) (by decide) (by decide) (bytes_of (by decide))⟩
  | 11, _ => exact ⟨_, 0, _, 3, rfl, hlt, by rw [hc]; rfl, Seen.of_row (n := 3) (row10 w) (by decide) (by decide) (bytes_of (by decide))⟩
  | 12, _ => exact ⟨_, 0, _, 2, rfl, hlt, by rw [hc]; rfl, Seen.of_row (n := 2) (row11 w) (by decide) (by decide) (bytes_of (by decide))⟩
theorem built3 {W : World} {s1 s2 s3 : Option Addr} {n1 n2 n3 c1 c2 c3 : Nat} {z1 z2 z3 : List Int} (h1 : Seen W s1 n1 z1) (h2 : Seen W s2 n2 z2) (h3 : Seen W s3 n3 z3) :
    SeenL (W.alloc (.cells #[.slice s1 n1 c1, .slice s2 n2 c2, .slice s3 n3 c3] 23)) (some ⟨W.heap.size, 0, none⟩) 3 [z1, z2, z3] := by
  have hb : Below W.heap.size W (W.alloc (.cells #[.slice s1 n1 c1, .slice s2 n2 c2, .slice s3 n3 c3] 23)) := (Below.refl _ _).alloc (Nat.le_refl _) _
  have g1 := h1.later hb (Nat.le_refl _)
  have g2 := h2.later hb (Nat.le_refl _)
  have g3 := h3.later hb (Nat.le_refl _)
  obtain rfl := h1.len
  obtain rfl := h2.len
  obtain rfl := h3.len
  have hc := fun j => cell_of_row _ W.heap.size j _ 23 (0, 0) (heap_alloc_new W (.cells #[.slice s1 z1.length c1, .slice s2 z2.length c2, .slice s3 z3.length c3] 23))
  refine ⟨rfl, by decide, fun i hi => ?_⟩
  match i, hi with
  | 0, _ => exact ⟨_, 0, _, c1, rfl, by simp, by rw [hc]; rfl, g1⟩
  | 1, _ => exact ⟨_, 0, _, c2, rfl, by simp, by rw [hc]; rfl, g2⟩
  | 2, _ => exact ⟨_, 0, _, c3, rfl, by simp, by rw [hc]; rfl, g3⟩
theorem built1 {W : World} {s1 : Option Addr} {n1 c1 : Nat} {z1 : List Int} (h1 : Seen W s1 n1 z1) :
    SeenL (W.alloc (.cells #[.slice s1 n1 c1] 23)) (some ⟨W.heap.size, 0, none⟩) 1 [z1] := by
  have hb : Below W.heap.size W (W.alloc (.cells #[.slice s1 n1 c1] 23)) := (Below.refl _ _).alloc (Nat.le_refl _) _
  have g1 := h1.later hb (Nat.le_refl _)
  obtain rfl := h1.len
  have hc := fun j => cell_of_row _ W.heap.size j _ 23 (0, 0) (heap_alloc_new W (.cells #[.slice s1 z1.length c1] 23))
  refine ⟨rfl, by decide, fun i hi => ?_⟩
  match i, hi with
  | 0, _ => exact ⟨_, 0, _, c1, rfl, by simp, by rw [hc]; rfl, g1⟩
theorem offs_small (zss : List (List Int)) (n : Nat) (hn : n ≤ zss.length) (h : ∀ i, i < n → lenAt zss i ≤ 3) : offs zss n ≤ n * 67 := by
  induction n with
  | zero => rw [offs_zero]; omega
  | succ n ih =>
    have h1 := ih (by omega) (fun i hi => h i (by omega))
    have h2 := h n (by omega)
    rw [offs_succ zss n (by omega)]; omega
theorem offs_3 (z1 z2 z3 : List Int) (h1 : z1.length ≤ 3) (h2 : z2.length ≤ 3) (h3 : z3.length ≤ 3) : offs [z1, z2, z3] 3 ≤ 134217728 := by
  have := offs_small [z1, z2, z3] 3 (by simp) (fun i hi => by
    match i, hi with
    | 0, _ => exact h1
    | 1, _ => exact h2
    | 2, _ => exact h3)
  omega
theorem offs_1 (z1 : List Int) (h1 : z1.length ≤ 3) : offs [z1] 1 ≤ 134217728 := by
  have := offs_small [z1] 1 (by simp) (fun i hi => by
    match i, hi with
    | 0, _ => exact h1)
  omega
theorem built2 (W : World) : SeenL (((W.alloc (.cells #[.int .u8 1, .int .u8 2] 5)).alloc (.cells #[.int .u8 3, .int .u8 4] 5)).alloc (.cells #[.slice (some ⟨W.heap.size, 0, none⟩) 2 2, .slice (some ⟨W.heap.size + 1, 0, none⟩) 2 2] 23)) (some ⟨W.heap.size + 1 + 1, 0, none⟩) 2 [[1, 2], [3, 4]] := by
  have r1 : RowAt (((W.alloc (.cells #[.int .u8 1, .int .u8 2] 5)).alloc (.cells #[.int .u8 3, .int .u8 4] 5)).alloc (.cells #[.slice (some ⟨W.heap.size, 0, none⟩) 2 2, .slice (some ⟨W.heap.size + 1, 0, none⟩) 2 2] 23)) W.heap.size [1, 2] := ((row_new W [1, 2] W.heap.size rfl).alloc _).alloc _
  have r2 : RowAt (((W.alloc (.cells #[.int .u8 1, .int .u8 2] 5)).alloc (.cells #[.int .u8 3, .int .u8 4] 5)).alloc (.cells #[.slice (some ⟨W.heap.size, 0, none⟩) 2 2, .slice (some ⟨W.heap.size + 1, 0, none⟩) 2 2] 23)) (W.heap.size + 1) [3, 4] := (row_new (W.alloc (.cells #[.int .u8 1, .int .u8 2] 5)) [3, 4] (W.heap.size + 1) (by simp)).alloc _
  have hh : (((W.alloc (.cells #[.int .u8 1, .int .u8 2] 5)).alloc (.cells #[.int .u8 3, .int .u8 4] 5)).alloc (.cells #[.slice (some ⟨W.heap.size, 0, none⟩) 2 2, .slice (some ⟨W.heap.size + 1, 0, none⟩) 2 2] 23)).heap[W.heap.size + 1 + 1]? = some (.cells #[.slice (some ⟨W.heap.size, 0, none⟩) 2 2, .slice (some ⟨W.heap.size + 1, 0, none⟩) 2 2] 23 (0, 0)) := by
    have := heap_alloc_new ((W.alloc (.cells #[.int .u8 1, .int .u8 2] 5)).alloc (.cells #[.int .u8 3, .int .u8 4] 5)) (.cells #[.slice (some ⟨W.heap.size, 0, none⟩) 2 2, .slice (some ⟨W.heap.size + 1, 0, none⟩) 2 2] 23)
    simpa using this
  have hc := fun j => cell_of_row _ (W.heap.size + 1 + 1) j _ 23 (0, 0) hh
  refine ⟨rfl, by decide, fun i hi => ?_⟩
  match i, hi with
  | 0, _ => exact ⟨_, 0, _, 2, rfl, by simp, by rw [hc]; rfl, Seen.of_row (n := 2) r1 (by decide) (by decide) (bytes_of (by decide))⟩
  | 1, _ => exact ⟨_, 0, _, 2, rfl, by simp, by rw [hc]; rfl, Seen.of_row (n := 2) r2 (by decide) (by decide) (bytes_of (by decide))⟩
theorem less_lit (w : World) : Calls Try.prog 6 #[.int .u64 3, .int .u64 9223372036854775808] w fun e w' => e = .returned (.int .u64 18446744073709551615) ∧ w' = w :=
  (less_any 3 9223372036854775808 (by decide) (by decide) w).mono fun _ _ ⟨he, hw⟩ => ⟨he, hw⟩
theorem before_lit (ao bo : Option Addr) (c c' : Nat) (w : World) (h1 : Seen w ao 1 [1]) (h2 : Seen w bo 2 [1, 0]) : Calls Try.prog 10 #[.slice ao 1 c, .slice bo 2 c'] w fun e w' => e = .returned (.int .u64 18446744073709551615) ∧ ∃ q, w' = w.drewN q :=
  (before_any ao bo 1 2 c c' [1] [1, 0] w h1 h2).mono fun _ _ ⟨he, hw⟩ => ⟨he, hw⟩
theorem none_seen (w : World) : SeenL w none 0 [] := ⟨rfl, by decide, fun i hi => by omega⟩
theorem LZ_offs : offs LZ 13 ≤ 134217728 := by
  have := offs_small LZ 13 (by decide) (by decide)
  omega
theorem LW (w : World) : Below w.heap.size w (listsW w) := by
  refine Below.alloc (w := rowsW w) ?_ (by simp; omega) _
  repeat (first | exact Below.refl _ _ | refine Below.alloc ?_ (by simp; try omega) _)
theorem LZ_small : ∀ i, i < 13 → lenAt LZ i ≤ 3 := by decide

set_option maxRecDepth 20000 in
set_option maxHeartbeats 8000000 in
theorem walk (w : World) : Calls Try.prog 5 #[] w fun e w' => e = .returned (.bool true) ∧ Below w.heap.size w w' := by
  go_enter Try.func5, Try.ntmps5
  go_wp2
  go_loopw [2, 3, 4] (fun a _ _ wr => ∃ i : Nat, i ≤ 16 ∧ a = .int .i64 i ∧ Below (endsW w).heap.size (endsW w) wr) (fun a _ _ _ => 16 - (intOf a).toNat)
  case atStart => exact ⟨0, Nat.zero_le _, rfl, Below.refl _ _⟩
  case round =>
    obtain ⟨i, hi, rfl, hbel⟩ := hrel
    by_cases hlt : i < 16
    · have HB : Hid _ := hbel
      clear hbel
      have a1 : (0 : Int) ≤ (i : Int) := by omega
      have a2 : (i : Int) < 16 := by omega
      go_wp2
      go_loopw [3, 4] (fun a _ wr => ∃ k : Nat, k ≤ 16 ∧ a = .int .i64 k ∧ Below (endsW w).heap.size (endsW w) wr) (fun a _ _ => 16 - (intOf a).toNat)
      case atStart => exact ⟨0, Nat.zero_le _, rfl, HB.out⟩
      case round =>
        clear HB
        obtain ⟨k, hk, rfl, hbel⟩ := hrel
        by_cases hltk : k < 16
        · have HB : Hid _ := hbel
          clear hbel
          have a3 : (0 : Int) ≤ (k : Int) := by omega
          have a4 : (k : Int) < 16 := by omega
          go_wp2
          go_loopw [4] (fun a wr => ∃ j : Nat, j ≤ 16 ∧ a = .int .i64 j ∧ Below (endsW w).heap.size (endsW w) wr) (fun a _ => 16 - (intOf a).toNat)
          case atStart => exact ⟨0, Nat.zero_le _, rfl, HB.out⟩
          case round =>
            clear HB
            obtain ⟨j, hj, rfl, hbel⟩ := hrel
            by_cases hltj : j < 16
            · have wX := ends_word i hlt
              have wY := ends_word k hltk
              have wZ := ends_word j hltj
              have lw : w.heap.size < (endsW w).heap.size := by simp
              have kc : ∀ W, Below (endsW w).heap.size (endsW w) W → W.cell? ⟨w.heap.size, i, none⟩ = some (.int .u64 (ends.getD i 0)) ∧ W.cell? ⟨w.heap.size, k, none⟩ = some (.int .u64 (ends.getD k 0)) ∧ W.cell? ⟨w.heap.size, j, none⟩ = some (.int .u64 (ends.getD j 0)) := fun W hb =>
                ⟨(hb.cell (p := ⟨w.heap.size, i, none⟩) lw).trans (ends_cell w i hlt), (hb.cell (p := ⟨w.heap.size, k, none⟩) lw).trans (ends_cell w k hltk), (hb.cell (p := ⟨w.heap.size, j, none⟩) lw).trans (ends_cell w j hltj)⟩
              obtain ⟨X, hX⟩ : ∃ X, ends.getD i 0 = X := ⟨_, rfl⟩
              obtain ⟨Y, hY⟩ : ∃ Y, ends.getD k 0 = Y := ⟨_, rfl⟩
              obtain ⟨Z, hZ⟩ : ∃ Z, ends.getD j 0 = Z := ⟨_, rfl⟩
              rw [hX] at kc wX
              rw [hY] at kc wY
              rw [hZ] at kc wZ
              obtain ⟨c1, c2, c3⟩ := kc wr hbel
              have KC : Hid _ := kc
              have HB : Hid _ := hbel
              have a5 : (0 : Int) ≤ (j : Int) := by omega
              have a6 : (j : Int) < 16 := by omega
              clear hX hY hZ kc hbel lw
              go_wp2
              go_region_held3 (fun W => W.cell? ⟨w.heap.size, i, none⟩ = some (.int .u64 X) ∧ W.cell? ⟨w.heap.size, k, none⟩ = some (.int .u64 Y) ∧ W.cell? ⟨w.heap.size, j, none⟩ = some (.int .u64 Z)) (first | (go_keep; done) | (exact KC.out _ BA) | (exact KC.out _ BB)) (first | (go_at_call 17; refine (maskWords.walk X Y Z wX wY wZ _).mono ?_; rintro e wA ⟨rfl, bA⟩; have BA : Below (endsW w).heap.size (endsW w) wA := (Below.drew HB.out).trans (bA.mono HB.out.size)) | (go_at_call 18; refine (maskChoose.walk X Y Z wX wY wZ _).mono ?_; rintro e wB ⟨rfl, bB⟩; have BB : Below (endsW w).heap.size (endsW w) wB := BA.trans (bB.mono BA.size)))
              have R : Hid _ := BB
              go_wp2
              go_roundw
              case rel => exact ⟨j + 1, by omega, by go_num, R.out⟩
              case measure => simp [intOf]; omega
            · have HB : Hid _ := hbel
              clear hbel
              go_wp2
              go_roundw
              case rel => exact ⟨k + 1, by omega, by go_num, HB.out⟩
              case measure => simp [intOf]; omega
        · have HB : Hid _ := hbel
          clear hbel
          go_wp2
          go_roundw
          case rel => exact ⟨i + 1, by omega, by go_num, HB.out⟩
          case measure => simp [intOf]; omega
    · have HB1 : Hid _ := hbel
      obtain ⟨w1, hw1⟩ : ∃ x, x = wr := ⟨_, rfl⟩
      subst hw1
      clear hbel
      obtain ⟨OL, hOL⟩ : ∃ OL, w1.heap.size + 1 + 1 + 1 + 1 + 1 + 1 + 1 + 1 + 1 + 1 + 1 + 1 = OL := ⟨_, rfl⟩
      have SLW := lists_seen w1
      rw [hOL] at SLW
      have SL : Hid _ := SLW
      have NI : ¬ (i : Int) < 16 := by omega
      clear SLW
      go_wp2
      have HOL : Hid _ := hOL
      clear hOL
      go_loopw [6, 7, 8] (fun a _ _ wr => ∃ i : Nat, i ≤ 13 ∧ a = .int .i64 i ∧ Below (listsW w1).heap.size (listsW w1) wr) (fun a _ _ _ => 13 - (intOf a).toNat)
      case atStart => exact ⟨0, Nat.zero_le _, rfl, Below.refl _ _⟩
      case round =>
        obtain ⟨p, hp, rfl, hbel⟩ := hrel
        by_cases hltp : p < 13
        · obtain ⟨b, o, so, cs, e1, hb, hc, hs⟩ := SL.out.cells p hltp
          simp only [Option.some.injEq, Addr.mk.injEq, and_true] at e1
          obtain ⟨rfl, rfl⟩ := e1
          rw [Nat.zero_add] at hc
          have LP := LZ_small p hltp
          obtain ⟨L, hL⟩ : ∃ L, lenAt LZ p = L := ⟨_, rfl⟩
          obtain ⟨zp, hzp⟩ : ∃ zp, LZ.getD p [] = zp := ⟨_, rfl⟩
          rw [hL] at hc hs LP
          rw [hzp] at hs
          have a1 : (0 : Int) ≤ (p : Int) := by omega
          have a2 : (p : Int) < 13 := by omega
          have HB : Hid _ := hbel
          have HC : Hid _ := hc
          have HSS : Hid _ := hs
          have HLO : Hid _ := hb
          have HLZ : Hid (LZ.getD p [] = zp ∧ lenAt LZ p = L) := ⟨hzp, hL⟩
          clear hbel hc hs hb hL hzp
          go_wp2
          go_loopw [7] (fun a wr => ∃ k : Nat, k ≤ 13 ∧ a = .int .i64 k ∧ Below (listsW w1).heap.size (listsW w1) wr) (fun a _ => 13 - (intOf a).toNat)
          case atStart => exact ⟨0, Nat.zero_le _, rfl, HB.out⟩
          case round =>
            clear HB
            obtain ⟨q, hq, rfl, hbel⟩ := hrel
            by_cases hltq : q < 13
            · obtain ⟨b2, o2, so2, cs2, e2, hb2, hc2, hs2⟩ := SL.out.cells q hltq
              simp only [Option.some.injEq, Addr.mk.injEq, and_true] at e2
              obtain ⟨rfl, rfl⟩ := e2
              rw [Nat.zero_add] at hc2
              have LQ := LZ_small q hltq
              obtain ⟨M, hM⟩ : ∃ M, lenAt LZ q = M := ⟨_, rfl⟩
              obtain ⟨zq, hzq⟩ : ∃ zq, LZ.getD q [] = zq := ⟨_, rfl⟩
              rw [hM] at hc2 hs2 LQ
              rw [hzq] at hs2
              have KC : Hid (∀ W, Below (listsW w1).heap.size (listsW w1) W → W.cell? ⟨OL, p, none⟩ = some (.slice so L cs) ∧ W.cell? ⟨OL, q, none⟩ = some (.slice so2 M cs2)) := fun W hb => ⟨(hb.cell (p := ⟨OL, p, none⟩) HLO.out).trans HC.out, (hb.cell (p := ⟨OL, q, none⟩) HLO.out).trans hc2⟩
              have SP : Hid (∀ W, Below (listsW w1).heap.size (listsW w1) W → Seen W so L zp) := fun W hb => HSS.out.later hb (Nat.le_refl _)
              have SQ : Hid (∀ W, Below (listsW w1).heap.size (listsW w1) W → Seen W so2 M zq) := fun W hb => hs2.later hb (Nat.le_refl _)
              obtain ⟨c1, c2⟩ := KC.out wr hbel
              have B0 : Hid (Below (listsW w1).heap.size (listsW w1) wr.drew) := Below.drew hbel
              have a3 : (0 : Int) ≤ (q : Int) := by omega
              have a4 : (q : Int) < 13 := by omega
              have tL : L ≤ 140737488351232 := by omega
              have w15 : Word 15 := by decide
              have w00 : Word 0 := by decide
              have wff : Word 18446744073709551615 := by decide
              have wf0 : Word 18446744073709551360 := by decide
              have tM : M ≤ 140737488351232 := by omega
              clear hbel hc2 hs2 hb2 hM hzq
              go_wp2
              go_region_held3 (fun W => W.cell? ⟨OL, p, none⟩ = some (.slice so L cs) ∧ W.cell? ⟨OL, q, none⟩ = some (.slice so2 M cs2)) (first | (go_keep; done) | (exact KC.out _ BA.out) | (exact KC.out _ BB.out) | (exact KC.out _ BC.out) | (exact KC.out _ BD.out) | (exact KC.out _ BE.out)) (first | (go_at_call 19; refine (maskLists.walk so L cs zp so2 M cs2 zq _ (SP.out _ B0.out) tL (SQ.out _ B0.out) tM).mono ?_; rintro e wA ⟨rfl, bA⟩; have BA : Hid (Below (listsW w1).heap.size (listsW w1) wA) := B0.out.trans (bA.mono B0.out.size)) | (go_at_call 20; first | ((with_reducible show Calls _ _ #[.int .u64 15, _, _] _ _); refine (maskMoves.walk 15 so L cs zp so2 M cs2 zq _ w15 (SP.out _ BA.out) tL (SQ.out _ BA.out) tM).mono ?_; rintro e wB ⟨rfl, bB⟩; have BB : Hid (Below (listsW w1).heap.size (listsW w1) wB) := BA.out.trans (bB.mono BA.out.size)) | ((with_reducible show Calls _ _ #[.int .u64 0, _, _] _ _); refine (maskMoves.walk 0 so L cs zp so2 M cs2 zq _ w00 (SP.out _ BB.out) tL (SQ.out _ BB.out) tM).mono ?_; rintro e wC ⟨rfl, bC⟩; have BC : Hid (Below (listsW w1).heap.size (listsW w1) wC) := BB.out.trans (bC.mono BB.out.size)) | ((with_reducible show Calls _ _ #[.int .u64 18446744073709551615, _, _] _ _); refine (maskMoves.walk 18446744073709551615 so L cs zp so2 M cs2 zq _ wff (SP.out _ BC.out) tL (SQ.out _ BC.out) tM).mono ?_; rintro e wD ⟨rfl, bD⟩; have BD : Hid (Below (listsW w1).heap.size (listsW w1) wD) := BC.out.trans (bD.mono BC.out.size)) | ((with_reducible show Calls _ _ #[.int .u64 18446744073709551360, _, _] _ _); refine (maskMoves.walk 18446744073709551360 so L cs zp so2 M cs2 zq _ wf0 (SP.out _ BD.out) tL (SQ.out _ BD.out) tM).mono ?_; rintro e wE ⟨rfl, bE⟩; have BE : Hid (Below (listsW w1).heap.size (listsW w1) wE) := BD.out.trans (bE.mono BD.out.size))))
              go_wp2
              go_roundw
              case rel => exact ⟨q + 1, by omega, by go_num, BE.out⟩
              case measure => simp [intOf]; omega
            · have HB : Hid _ := hbel
              have NQ : ¬ (q : Int) < 13 := by omega
              clear hbel
              go_wp2
              go_loopw [8] (fun a wr => ∃ k : Nat, k ≤ 5 ∧ a = .int .i64 ((k : Int) - 1) ∧ Below (listsW w1).heap.size (listsW w1) wr) (fun a _ => (4 - intOf a).toNat)
              case atStart => exact ⟨0, Nat.zero_le _, rfl, HB.out⟩
              case round =>
                clear HB
                obtain ⟨k, hk, rfl, hbel⟩ := hrel
                by_cases hltk : k < 5
                · obtain ⟨b2, o2, so2, cs2, e2, hb2, hc2, hs2⟩ := SL.out.cells 12 (by decide)
                  simp only [Option.some.injEq, Addr.mk.injEq, and_true] at e2
                  obtain ⟨rfl, rfl⟩ := e2
                  rw [Nat.zero_add] at hc2
                  have LQ := LZ_small 12 (by decide)
                  obtain ⟨M, hM⟩ : ∃ M, lenAt LZ 12 = M := ⟨_, rfl⟩
                  obtain ⟨zq, hzq⟩ : ∃ zq, LZ.getD 12 [] = zq := ⟨_, rfl⟩
                  rw [hM] at hc2 hs2 LQ
                  rw [hzq] at hs2
                  have KC : Hid (∀ W, Below (listsW w1).heap.size (listsW w1) W → W.cell? ⟨OL, p, none⟩ = some (.slice so L cs) ∧ W.cell? ⟨OL, 12, none⟩ = some (.slice so2 M cs2)) := fun W hb => ⟨(hb.cell (p := ⟨OL, p, none⟩) HLO.out).trans HC.out, (hb.cell (p := ⟨OL, 12, none⟩) HLO.out).trans hc2⟩
                  have SP : Hid (∀ W, Below (listsW w1).heap.size (listsW w1) W → Seen W so L zp) := fun W hb => HSS.out.later hb (Nat.le_refl _)
                  have SQ : Hid (∀ W, Below (listsW w1).heap.size (listsW w1) W → Seen W so2 M zq) := fun W hb => hs2.later hb (Nat.le_refl _)
                  have LA : Hid (offs [zp, zp, zp] 3 ≤ 134217728 ∧ offs [zp, zq, zp] 3 ≤ 134217728 ∧ offs [zp] 1 ≤ 134217728) := by
                    have h1 : zp.length ≤ 3 := by have := HSS.out.len; omega
                    have h2 : zq.length ≤ 3 := by have := hs2.len; omega
                    exact ⟨offs_3 _ _ _ h1 h1 h1, offs_3 _ _ _ h1 h2 h1, offs_1 _ h1⟩
                  obtain ⟨c1, c2⟩ := KC.out wr hbel
                  have B0 : Hid (Below (listsW w1).heap.size (listsW w1) wr) := hbel
                  have BX : ∀ (W W' : World) (o : Obj), Below (listsW w1).heap.size (listsW w1) W → Below (W.alloc o).heap.size (W.alloc o) W' → Below (listsW w1).heap.size (listsW w1) W' := fun W W' o h1 h2 => (h1.alloc h1.size o).trans (h2.mono (Nat.le_trans h1.size (by simp)))
                  have HBX : Hid _ := BX
                  have bk : -9223372036854775808 ≤ (k : Int) - 1 ∧ (k : Int) - 1 ≤ 9223372036854775807 := by omega
                  have HBK : Hid _ := bk
                  have a3 : (k : Int) - 1 < 4 := by omega
                  have q1 := World.new_ne wr ⟨OL, p, none⟩ c1
                  have q2 := World.new_ne wr ⟨OL, 12, none⟩ c2
                  clear hbel hc2 hs2 hb2 hM hzq BX bk
                  go_wp2
                  go_region_held3 (fun W => W.cell? ⟨OL, p, none⟩ = some (.slice so L cs) ∧ W.cell? ⟨OL, 12, none⟩ = some (.slice so2 M cs2)) (first | (go_keep; done) | (exact KC.out _ BA.out) | (exact KC.out _ BB.out) | (exact KC.out _ BC.out)) (first | (go_at_call 21; (with_reducible show Calls _ _ #[.slice _ 1 1, _] _ _); refine (maskRows.walk _ 1 1 [zp] ((k : Int) - 1) _ (built1 (SP.out wB BB.out)) LA.out.2.2 HBK.out).mono ?_; rintro e wC ⟨rfl, bC⟩; have BC : Hid (Below (listsW w1).heap.size (listsW w1) wC) := HBX.out _ _ _ BB.out bC) | (go_at_call 21; (with_reducible show Calls _ _ _ (World.alloc wA _) _); refine (maskRows.walk _ 3 3 [zp, zq, zp] ((k : Int) - 1) _ (built3 (SP.out wA BA.out) (SQ.out wA BA.out) (SP.out wA BA.out)) LA.out.2.1 HBK.out).mono ?_; rintro e wB ⟨rfl, bB⟩; have BB : Hid (Below (listsW w1).heap.size (listsW w1) wB) := HBX.out _ _ _ BA.out bB) | (go_at_call 21; refine (maskRows.walk _ 3 3 [zp, zp, zp] ((k : Int) - 1) _ ((built3 (SP.out wr B0.out) (SP.out wr B0.out) (SP.out wr B0.out)).drewN 1) LA.out.1 HBK.out).mono ?_; rintro e wA ⟨rfl, bA⟩; have BA : Hid (Below (listsW w1).heap.size (listsW w1) wA) := HBX.out _ _ _ B0.out (below_ahead (k := 1) bA)))
                  go_wp2
                  go_roundw
                  case rel => exact ⟨k + 1, by omega, by go_num, BC.out⟩
                  case measure => simp [intOf]; omega
                · have HB : Hid _ := hbel
                  have NK : ¬ ((k : Int) - 1) < 4 := by omega
                  clear hbel
                  go_wp2
                  go_roundw
                  case rel => exact ⟨p + 1, by omega, by go_num, HB.out⟩
                  case measure => simp [intOf]; omega
        · have NP : ¬ (p : Int) < 13 := by omega
          obtain ⟨w2, hw2⟩ : ∃ x, x = wr := ⟨_, rfl⟩
          subst hw2
          have SN := built2 w2
          have B2 : Hid _ := hbel
          have HOFF : Hid _ := LZ_offs
          have hr : rowOf [[1, 2], [3, 4]] 1 = ([3, 4], 0) := by decide
          have HRR : Hid _ := hr
          have bN : Below w2.heap.size w2 (((w2.alloc (.cells #[.int .u8 1, .int .u8 2] 5)).alloc (.cells #[.int .u8 3, .int .u8 4] 5)).alloc (.cells #[.slice (some ⟨w2.heap.size, 0, none⟩) 2 2, .slice (some ⟨w2.heap.size + 1, 0, none⟩) 2 2] 23)) := (((Below.refl _ _).alloc (Nat.le_refl _) _).alloc (by simp) _).alloc (by simp; omega) _
          have BN : Hid _ := bN
          clear hbel hr bN
          go_wp2_with fail
          refine (maskRows.mrow_to _ 2 2 [[1, 2], [3, 4]] 1 (by decide) [3, 4] 0 HRR.out _ SN).mono ?_
          rintro e w3 ⟨vo, rfl, f3, b3⟩
          have B3 : Hid (Below w2.heap.size w2 w3) := BN.out.trans (b3.mono BN.out.size)
          clear SN b3
          go_wp2_with fail
          refine (maskRows.walk none 0 0 [] 0 w3 (none_seen _) (by decide) (by decide)).mono ?_
          rintro e w4 ⟨rfl, b4⟩
          go_wp2_with fail
          refine (maskRows.walk none 0 0 [] (-9223372036854775808) w4 (none_seen _) (by decide) (by decide)).mono ?_
          rintro e w5 ⟨rfl, b5⟩
          have B5 : Hid (Below w2.heap.size w2 w5) := B3.out.trans ((b4.trans (b5.mono b4.size)).mono B3.out.size)
          have sl5 := SL.out.later (B2.out.trans (B5.out.mono B2.out.size)) (Nat.le_refl _)
          have f5 := (f3.later b4 (Nat.le_refl _)).later b5 (Nat.le_refl _)
          clear f3 b4 b5
          go_wp2_with fail
          refine (maskRows.walk (some ⟨OL, 0, none⟩) 13 13 LZ 9223372036854775807 w5 sl5 HOFF.out (by decide)).mono ?_
          rintro e w6 ⟨rfl, b6⟩
          have B6 : Hid (Below w2.heap.size w2 w6) := B5.out.trans (b6.mono B5.out.size)
          have f6 := f5.later b6 (Nat.le_refl _)
          have b7 : Below w6.heap.size w6 (w6.alloc (.cells #[.int .u8 3, .int .u8 4] 5)) := (Below.refl _ _).alloc (Nat.le_refl _) _
          have s7 : Seen (w6.alloc (.cells #[.int .u8 3, .int .u8 4] 5)) vo 2 [3, 4] := (f6.later b7 (Nat.le_refl _)).seen
          have r7 : RowAt (w6.alloc (.cells #[.int .u8 3, .int .u8 4] 5)) w6.heap.size [3, 4] := row_new w6 [3, 4] _ rfl
          have t7 : Seen (w6.alloc (.cells #[.int .u8 3, .int .u8 4] 5)) (some ⟨w6.heap.size, 0, none⟩) 2 [3, 4] := Seen.of_row (n := 2) r7 (by decide) (by decide) (bytes_of (by decide))
          clear sl5 f5 f6 r7 b6
          go_wp2_with fail
          refine (rsame_yes _ _ 2 _ _ [3, 4] _ s7 t7).mono ?_
          rintro e _ ⟨rfl, q1, rfl⟩
          clear s7 t7
          go_wp2_with fail
          refine (less_lit _).mono ?_
          rintro e _ ⟨rfl, hw⟩
          have hw' := hw.symm
          subst hw'
          clear hw
          obtain ⟨w8, hw8⟩ : ∃ x, x = (w6.alloc (.cells #[.int .u8 3, .int .u8 4] 5)).drewN q1 := ⟨_, rfl⟩
          have B8 : Hid (Below w2.heap.size w2 w8) := by rw [hw8]; exact below_dn (B6.out.trans (b7.mono B6.out.size)) _
          rw [← hw8]
          clear hw8 b7
          have r8 : RowAt ((w8.alloc (.cells #[.int .u8 1] 5)).alloc (.cells #[.int .u8 1, .int .u8 0] 5)) w8.heap.size [1] := (row_new w8 [1] _ rfl).alloc _
          have r9 : RowAt ((w8.alloc (.cells #[.int .u8 1] 5)).alloc (.cells #[.int .u8 1, .int .u8 0] 5)) (w8.heap.size + 1) [1, 0] := row_new (w8.alloc (.cells #[.int .u8 1] 5)) [1, 0] _ (by simp)
          have s8 := Seen.of_row (n := 1) r8 (by decide) (by decide) (bytes_of (by decide))
          have s9 := Seen.of_row (n := 2) r9 (by decide) (by decide) (bytes_of (by decide))
          have BZ : Hid (Below w2.heap.size w2 ((w8.alloc (.cells #[.int .u8 1] 5)).alloc (.cells #[.int .u8 1, .int .u8 0] 5))) := (B8.out.alloc B8.out.size _).alloc (Nat.le_trans B8.out.size (by simp)) _
          clear r8 r9
          go_wp2_with fail
          refine (before_lit _ _ _ _ _ s8 s9).mono ?_
          rintro e _ ⟨rfl, q2, rfl⟩
          have HB1' : Hid (Below w.heap.size w w1) := ((Below.refl _ _).alloc (Nat.le_refl _) _).trans (HB1.out.mono (by simp))
          have HLW : Hid (Below w1.heap.size w1 (listsW w1)) := LW w1
          have HF : Hid (Below w.heap.size w (((w8.alloc (.cells #[.int .u8 1] 5)).alloc (.cells #[.int .u8 1, .int .u8 0] 5)).drewN q2)) := by
            have h1 : Below w.heap.size w w2 := HB1'.out.trans ((HLW.out.trans (B2.out.mono HLW.out.size)).mono HB1'.out.size)
            exact below_dn (h1.trans (BZ.out.mono h1.size)) _
          clear s8 s9
          go_wp2
          go_ret
          exact ⟨rfl, HF.out⟩
end Go.Proofs.Ytldfbbgboelngab.maskKnown
