/- SlotsNames: the walk. -/
import Derived.Test.YtnagndnpamcbbaaGreatSlWorks
namespace Go.Proofs.YtnagndnpamcbbaaGreat.slotsNames
open Go.RowKit
set_option linter.unusedVariables false
set_option linter.unusedSimpArgs false

theorem pages_over (w : World) : Calls Tryz.prog 11 #[.int .i64 65537, .int .i64 6, .int .i64 10] w fun e w' => e = .returned (.tuple #[.int .i64 0, .int .i64 5]) ∧ w = w' := by
  go_enter Tryz.func11, Tryz.ntmps11
  go_wp2
  go_ret2
  exact ⟨rfl, rfl⟩
theorem pages_full (w : World) : Calls Tryz.prog 11 #[.int .i64 65536, .int .i64 6, .int .i64 10] w fun e w' => e = .returned (.tuple #[.int .i64 65536, .int .i64 0]) ∧ w = w' := by
  go_enter Tryz.func11, Tryz.ntmps11
  go_wp2
  go_ret2
  exact ⟨rfl, rfl⟩
set_option maxRecDepth 20000 in
set_option maxHeartbeats 2000000 in
theorem walk (w : World) : Calls Tryz.prog 3 #[] w fun e w' => e = .returned (.bool true) ∧ Below w.heap.size w w' := by
  have C1 : Hid (Calls Tryz.prog 11 #[.int .i64 65536, .int .i64 6, .int .i64 10] w fun e w' => e = .returned (.tuple #[.int .i64 65536, .int .i64 0]) ∧ w = w') := pages_full w
  have C2 : Hid (Calls Tryz.prog 11 #[.int .i64 65537, .int .i64 6, .int .i64 10] w fun e w' => e = .returned (.tuple #[.int .i64 0, .int .i64 5]) ∧ w = w') := pages_over w
  go_enter Tryz.func3, Tryz.ntmps3
  go_wp2_with (first | ((with_reducible show Calls _ _ #[.int .i64 65536, _, _] _ _); refine C1.out.mono ?_; rintro e _ ⟨rfl, rfl⟩) | ((with_reducible show Calls _ _ #[.int .i64 65537, _, _] _ _); refine C2.out.mono ?_; rintro e _ ⟨rfl, rfl⟩) | (go_at_call 12; refine (swks_any w).mono ?_; rintro e w1 ⟨rfl, l1⟩))
  go_ret
  exact ⟨rfl, l1⟩
end Go.Proofs.YtnagndnpamcbbaaGreat.slotsNames
