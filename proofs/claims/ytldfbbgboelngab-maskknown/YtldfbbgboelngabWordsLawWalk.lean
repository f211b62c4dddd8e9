/- For every three words: Bit, Zero, Equal, Less are the masks of what they ask, Pick and Swap are the document's bit by bit: trystlaw01.MaskWords returns true. No condition. -/
import Derived.Test.YtldfbbgboelngabWorks
import Derived.ProofKit
import Derived.OpenShut
import Derived.ShutString
import Derived.ChangeOld
namespace Go.Proofs.Ytldfbbgboelngab.maskWords
open Go.ChangeShapes Go.WideShapes Go.ChangeAt Go.RowKit
set_option linter.unusedVariables false

set_option maxHeartbeats 1000000 in
theorem walk (m x y : Int) (hm : Word m) (hx : Word x) (hy : Word y) (w : World) :
    Calls Try.prog 17 #[.int .u64 m, .int .u64 x, .int .u64 y] w fun e w' => e = .returned (.bool true) ∧ Below w.heap.size w w' := by
  go_enter Try.func17, Try.ntmps17
  go_wp2_with (first | (go_at_call 24; refine (bit_any _ hx _).mono ?_; rintro e w' ⟨rfl, rfl⟩) | (go_at_call 9; refine (zero_any _ hx _).mono ?_; rintro e w' ⟨rfl, rfl⟩) | (go_at_call 7; refine (equal_any _ _ hx hy _).mono ?_; rintro e w' ⟨rfl, rfl⟩) | (go_at_call 6; refine (less_any _ _ hx hy _).mono ?_; rintro e w' ⟨rfl, rfl⟩) | (go_at_call 29; refine (rmask_any _ _).mono ?_; rintro e w' ⟨rfl, rfl⟩) | (go_at_call 30; refine (swap_any _ _ _ hm hx hy _).mono ?_; rintro e w' ⟨rfl, rfl⟩) | (go_at_call 25; refine (pick_any _ _ _ hm hx hy _).mono ?_; rintro e w' ⟨rfl, rfl⟩) | (go_at_call 31; refine (rpick_any _ _ _ hm (by assumption) (by assumption) _).mono ?_; rintro e w' ⟨rfl, rfl⟩) | (go_at_call 12; refine (works_any _).mono ?_; rintro e w' ⟨rfl, hb⟩))
  go_ret
  exact ⟨rfl, by assumption⟩

end Go.Proofs.Ytldfbbgboelngab.maskWords
