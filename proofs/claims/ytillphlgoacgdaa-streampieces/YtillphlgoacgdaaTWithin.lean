/- The statements' within: a number from 0 to n - 1. -/
import Derived.Test.YtillphlgoacgdaaSXor
namespace Go.Proofs.Ytillphlgoacgdaa
open Go.RowKit
set_option linter.unusedVariables false
set_option linter.unusedSimpArgs false

theorem tmod_bd (i : Int) (n : Nat) (hn : 0 < n) : ∃ r : Int, i.tmod (n : Int) = r ∧ -(n : Int) < r ∧ r < n := by
  refine ⟨_, rfl, ?_, ?_⟩
  · have h := Int.lt_tmod_of_pos i (show (0 : Int) < n by omega)
    omega
  · exact Int.tmod_lt_of_pos i (by omega)
theorem within_any (i : Int) (n : Nat) (hn : 0 < n) (hn2 : n ≤ 140737488355328) (w : World) :
    Calls Try.prog 26 #[.int .i64 i, .int .i64 n] w fun e w' => ∃ r : Nat, r < n ∧ e = .returned (.int .i64 r) ∧ w = w' := by
  obtain ⟨r, hr, h1, h2⟩ := tmod_bd i n hn
  have h0 : (n : Int) ≠ 0 := by omega
  have hv : Value.int .i64 (wrap64 r) = Value.int .i64 r := by congr 1; unfold wrap64; omega
  by_cases hneg : r < 0
  · go_enter Try.func26, Try.ntmps26
    go_wp2_with fail
    go_ret
    exact ⟨(r + n).toNat, by omega, ret_int (by omega), rfl⟩
  · go_enter Try.func26, Try.ntmps26
    go_wp2_with fail
    go_ret
    exact ⟨r.toNat, by omega, ret_int (by omega), rfl⟩
end Go.Proofs.Ytillphlgoacgdaa
