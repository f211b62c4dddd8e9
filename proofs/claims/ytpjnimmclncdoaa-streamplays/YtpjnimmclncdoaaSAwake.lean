/- Layer stream: the statements' awake. -/
import Derived.Test.YtpjnimmclncdoaaSXor
import Derived.Test.YtpjnimmclncdoaaOMem
namespace Go.Proofs.Ytpjnimmclncdoaa
open Go.RowKit
set_option linter.unusedVariables false
set_option linter.unusedSimpArgs false

theorem rfc_quarter : quarter ⟨286331153, 16909060, 2609737539, 19088743⟩ = ⟨3928658676, 3407673550, 1166100270, 1484899515⟩ := by rfl
theorem rfc_block0 : (List.range 4).map (fun i => (blkB (List.replicate 32 0) 0 (List.replicate 12 0)).getD i 0) = [118, 184, 224, 173] := by decide +kernel
def zK : List Int := List.replicate 32 0
def zN : List Int := List.replicate 12 0
theorem zeroKey (w : World) : (Instr.build 23 #[]).run Try.prog w = .ok (.agg (u8s zK).toArray) w := by kernel_rfl
theorem zeroNonce (w : World) : (Instr.build 25 #[]).run Try.prog w = .ok (.agg (u8s zN).toArray) w := by kernel_rfl
theorem zer_bytes (n : Nat) : Bytes (List.replicate n 0) := fun z hz => by rw [List.eq_of_mem_replicate hz]; decide
theorem over0 : over zK zN (64 * 0) [0, 0, 0, 0] = [118, 184, 224, 173] := by decide +kernel
theorem seen_new (w : World) (zs : List Int) (hb : Bytes zs) (ht : zs.length ≤ 140737488355328) : Seen (w.alloc (.cells (zs.map (Value.int .u8)).toArray 5)) (some ⟨w.heap.size, 0, none⟩) zs.length zs := by
  have := Seen.of_row (n := zs.length) (RowAt.new w zs) (Nat.le_refl _) ht hb
  rwa [List.take_of_length_le (Nat.le_refl _)] at this
theorem four0 : Bytes [0, 0, 0, 0] := zer_bytes 4
end Go.Proofs.Ytpjnimmclncdoaa
