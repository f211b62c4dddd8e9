/- The walk of the statements' apart. -/
import Derived.Test.YtmgkjldjeomcmaaDoorOApart
namespace Go.Proofs.YtmgkjldjeomcmaaDoor
open Go.RowKit
set_option linter.unusedVariables false
set_option linter.unusedSimpArgs false

theorem set_take (l : List Int) (k : Nat) (z : Int) (h : k < l.length) : (l.set k z).take (k + 1) = l.take k ++ [z] := by
  rw [List.take_succ_eq_append_getElem (by simpa using h)]
  simp [List.take_set_of_le]
theorem Lot.drew {w : World} {O n : Nat} {V : Nat → Option Addr} {len cap cap0 : Nat → Nat} {f : Nat → List Int} (h : Lot w O n V len cap cap0 f) : Lot w.drew O n V len cap cap0 f := h.later ((Below.refl _ _).drew) (Nat.le_refl _)

end Go.Proofs.YtmgkjldjeomcmaaDoor
