/- Layer digest: the table k0 .. k63 as the rows list it. -/
import Derived.Test.YtiimjhahblmggaaDoorDWorks
import Derived.ProofKit
import Derived.LaidMore
import Derived.OpenShut
import Derived.Stop.Joined
import Derived.Lib.LaidTab
namespace Go.Proofs.YtiimjhahblmggaaDoor
open Go.ChangeShapes Go.WideShapes Go.ChangeAt Go.WideMaps Go.WideElems Go.RowKit
set_option linter.unusedVariables false

abbrev laidK : List (String × DataW Unit) := [("tryst/digest.roundWords", Rows.laid_tryst_digest_roundWords)]
theorem gK : Tryd.prog.globalNamed "tryst/digest.roundWords" = some 0 := by kernel_rfl
theorem tK : (Tryd.prog.globals[0]?).map (·.type) = some 91 := by kernel_rfl
theorem cellsU32 : Tryd.prog.cellsOf 78 = 1 := by kernel_rfl
theorem cellsA64w : Tryd.prog.cellsOf 91 = 64 := by kernel_rfl
/-- The door's own heap meets the condition. -/
theorem door_met (os : Os) (args : Array Value) : laidMetH Tryd.prog laidK ((World.doorLaid Tryd.prog 14 os).forCall (fun _ _ => 0) ⟨#[], args, []⟩).memory :=
  laidMetH_of_parts3 (fuel := 8) (laidMet_of_run' 8 (by kernel_rfl) (by kernel_rfl)) (by kernel_rfl) (by kernel_rfl)
/-- What the condition gives the walks. -/
theorem ktab_of_laid {W : World} (h : laidMetH Tryd.prog laidK W) : KTab W := by
  rw [MakeChecks.laidMetH_plain _ _ _ (by kernel_rfl)] at h
  have hT : Lib.TabIs Tryd.prog W "tryst/digest.roundWords" .u32 kWords := Lib.tabIs_of_head (rest := []) gK tK Tryd.underlying91 Tryd.underlying78 cellsU32 cellsA64w h
  intro i hi
  exact hT.cell gK i hi
end Go.Proofs.YtiimjhahblmggaaDoor
