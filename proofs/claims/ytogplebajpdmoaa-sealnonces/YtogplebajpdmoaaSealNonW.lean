/- The walk of SealNonces. -/
import Derived.Test.YtogplebajpdmoaaLNonce
namespace Go.Proofs.Ytogplebajpdmoaa
open Go.RowKit
set_option linter.unusedVariables false
set_option linter.unusedSimpArgs false

set_option maxRecDepth 20000 in
set_option maxHeartbeats 1000000 in
theorem sealNonces.walk (kind number : Int) (w : World) (hk : 0 ≤ kind ∧ kind < 4294967296) (hn : Word number) :
    Calls Try.prog 3 #[.int .u32 kind, .int .u64 number] w fun e w' => e = .returned (.bool true) ∧ Below w.heap.size w w' := by
  obtain ⟨X, hX⟩ : ∃ X, nonL kind number = X := ⟨_, rfl⟩
  have hq : ∀ W, (Op.equalIn 10000 25 (.agg (u8s X).toArray) (.agg (u8s X).toArray)).run Try.prog W = .ok true W := equalA 25 12 Try.underlying25 9998 X (by rw [← hX, nonL_length])
  have HX : Hid (nonL kind number = X) := hX
  clear hX
  go_enter Try.func3, Try.ntmps3
  go_wp2_with fail
  refine (nonce_any kind number hk hn w).mono ?_
  rintro e w1 ⟨rfl, l1⟩
  rw [HX.out]
  go_wp2_with fail
  refine (rnonce_any kind number hk hn w1).mono ?_
  rintro e w2 ⟨rfl, l2⟩
  rw [HX.out]
  go_wp2_with (go_at_call 16; refine (sworks_any _).mono ?_; rintro e w3 ⟨rfl, l3⟩)
  go_ret
  exact ⟨rfl, below_chain (below_chain l1 l2 l1.size) l3 (Nat.le_trans l1.size l2.size)⟩
end Go.Proofs.Ytogplebajpdmoaa
