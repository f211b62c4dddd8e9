/- The walk of RecordNames. -/
import Derived.Test.YtabdjoljdefjdaaRcAwake
namespace Go.Proofs.Ytabdjoljdefjdaa.recordNames
open Go.RowKit
set_option linter.unusedVariables false
set_option linter.unusedSimpArgs false
set_option maxHeartbeats 1000000 in
theorem walk (w : World) : Calls Try.prog 10 #[] w fun e w' => e = .returned (.bool true) ∧ Below w.heap.size w w' := by
  have L0 : liveB [] = false := rfl
  have I0 : byI [] [] = false := rfl
  go_enter Try.func10, Try.ntmps10
  go_wp2_with (fail)
  refine (awake_any w).mono ?_
  rintro e w1 ⟨rfl, l1⟩
  go_wp2_with (fail)
  have X := Live_any none 0 0 [] (Nat.le_refl _) w1 (Seen.empty _ _)
  rw [L0, mk_false] at X
  refine X.mono ?_
  rintro e w2 ⟨rfl, l2⟩
  clear X
  go_wp2_with (fail)
  have X := ByIndex_any none none 0 0 0 0 [] [] (Nat.le_refl _) (Nat.le_refl _) w2 (Seen.empty _ _) (Seen.empty _ _)
  rw [I0, mk_false] at X
  refine X.mono ?_
  rintro e w3 ⟨rfl, l3⟩
  clear X
  have L : Hid (Below w.heap.size w w3) := below_chain (below_chain l1 l2 l1.size) l3 (Nat.le_trans l1.size l2.size)
  clear l1 l2 l3
  go_wp2
  go_ret
  exact ⟨rfl, L.out⟩
end Go.Proofs.Ytabdjoljdefjdaa.recordNames
