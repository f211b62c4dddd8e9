/- Lists of bytes, as data. -/
import Derived.Test.YtmgkjldjeomcmaaDoorSSlice
namespace Go.Proofs.YtmgkjldjeomcmaaDoor
open Go.RowKit
set_option linter.unusedVariables false
set_option linter.unusedSimpArgs false

/-- Lists of bytes, as data. -/
structure SeenP (w : World) (ao : Option Addr) (n : Nat) (pss : List (List Int)) : Prop where
  len : pss.length = n
  cells : ∀ i, i < n → ∃ b o so c, ao = some ⟨b, o, none⟩ ∧ b < w.heap.size ∧ w.cell? ⟨b, o + i, none⟩ = some (.slice so (pss.getD i []).length c) ∧ Seen w so (pss.getD i []).length (pss.getD i []) ∧ (pss.getD i []).length ≤ c
theorem SeenP.later {w w' : World} {ao : Option Addr} {n : Nat} {pss : List (List Int)} (h : SeenP w ao n pss) {B : Nat} (hb : Below B w w') (hB : w.heap.size ≤ B) : SeenP w' ao n pss :=
  ⟨h.len, fun i hi => by
    obtain ⟨b, o, so, c, e, hlt, hc, hs, hl⟩ := h.cells i hi
    exact ⟨b, o, so, c, e, Nat.lt_of_lt_of_le hlt hb.size, (hb.cell (p := ⟨b, o + i, none⟩) (Nat.lt_of_lt_of_le hlt hB)).trans hc, hs.later hb hB, hl⟩⟩
theorem flat_succ (pss : List (List Int)) (k : Nat) (hk : k < pss.length) : (pss.take (k + 1)).flatten = (pss.take k).flatten ++ pss.getD k [] := by
  rw [List.take_succ_eq_append_getElem hk, List.flatten_append]
  simp [List.getD, hk]
theorem flat_le (pss : List (List Int)) (k : Nat) : (pss.take k).flatten.length ≤ pss.flatten.length := by
  conv => rhs; rw [← List.take_append_drop k pss, List.flatten_append, List.length_append]
  exact Nat.le_add_right _ _
end Go.Proofs.YtmgkjldjeomcmaaDoor
