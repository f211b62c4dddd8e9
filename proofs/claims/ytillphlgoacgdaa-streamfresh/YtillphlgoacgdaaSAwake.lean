/- Layer stream: the statements' awake. -/
import Derived.Test.YtillphlgoacgdaaSXor
import Derived.Test.YtillphlgoacgdaaOMem
namespace Go.Proofs.Ytillphlgoacgdaa
open Go.RowKit
set_option linter.unusedVariables false
set_option linter.unusedSimpArgs false

theorem rfc_quarter : quarter ⟨286331153, 16909060, 2609737539, 19088743⟩ = ⟨3928658676, 3407673550, 1166100270, 1484899515⟩ := by rfl
theorem rfc_block0 : (List.range 4).map (fun i => (blkB (List.replicate 32 0) 0 (List.replicate 12 0)).getD i 0) = [118, 184, 224, 173] := by decide +kernel
def zK : List Int := List.replicate 32 0
def zN : List Int := List.replicate 12 0
theorem zeroKey (w : World) : (Instr.build 23 #[]).run Try.prog w = .ok (.agg (u8s zK).toArray) w := by kernel_rfl
theorem zeroNonce (w : World) : (Instr.build 25 #[]).run Try.prog w = .ok (.agg (u8s zN).toArray) w := by kernel_rfl
theorem zer_bytes (n : Nat) : Bytes (List.replicate n 0) := fun z hz => by rw [List.eq_of_mem_replicate hz]; decide
theorem over0 : over zK zN (64 * 0) [0, 0, 0, 0] = [118, 184, 224, 173] := by decide +kernel
theorem seen_new (w : World) (zs : List Int) (hb : Bytes zs) (ht : zs.length ≤ 140737488355328) : Seen (w.alloc (.cells (zs.map (Value.int .u8)).toArray 5)) (some ⟨w.heap.size, 0, none⟩) zs.length zs := by
  have := Seen.of_row (n := zs.length) (RowAt.new w zs) (Nat.le_refl _) ht hb
  rwa [List.take_of_length_le (Nat.le_refl _)] at this
theorem four0 : Bytes [0, 0, 0, 0] := zer_bytes 4
set_option maxRecDepth 20000 in
set_option maxHeartbeats 1000000 in
theorem awake_any (w : World) : Calls Try.prog 22 #[] w fun e w' => e = .returned (.bool true) ∧ Below w.heap.size w w' := by
  have hq := quarter_any 286331153 16909060 2609737539 19088743 w
  rw [rfc_quarter] at hq
  have hx := xor_any zK zN 0 4 4 (some ⟨w.heap.size, 0, none⟩) [0, 0, 0, 0] rfl rfl (zer_bytes 32) (zer_bytes 12) (by decide) (by decide) (w.alloc (.cells #[.int .u8 0, .int .u8 0, .int .u8 0, .int .u8 0] 5)) (seen_new w [0, 0, 0, 0] four0 (by decide))
  rw [over0] at hx
  go_enter Try.func22, Try.ntmps22
  go_wp2_with (first | (go_at_call 40; refine hq.mono ?_; rintro e w' ⟨rfl, rfl⟩) | (refine wpList_build rfl 23 _ rfl #[] (by simp) _ (zeroKey _) ?_) | (refine wpList_build rfl 25 _ rfl #[] (by simp) _ (zeroNonce _) ?_) | (go_at_call 17; refine hx.mono ?_; rintro e w1 ⟨v, rfl, o1, l1⟩; obtain ⟨vo, vc, rfl, sv, hv⟩ := own_seen (zs := [118, 184, 224, 173]) rfl (by intro z hz; simp at hz; omega) (by decide) o1))
  have HB : Hid (Below w.heap.size w w1) := ((Below.refl w.heap.size w).alloc (Nat.le_refl _) _).trans (l1.mono (by simp))
  refine (same_any vo (some ⟨w1.heap.size, 0, none⟩) 4 4 vc 4 [118, 184, 224, 173] [0, 0, 0, 0] _ (sv.later ((Below.refl w1.heap.size w1).alloc (Nat.le_refl _) _) (Nat.le_refl _)) (seen_new w1 [0, 0, 0, 0] four0 (by decide))).mono ?_
  rintro e w2 ⟨rfl, q, rfl⟩
  rw [show decide (([118, 184, 224, 173] : List Int) = [0, 0, 0, 0]) = false from rfl]
  clear sv hv o1 l1 hx hq
  go_wp2_with fail
  go_ret
  exact ⟨rfl, below_dn (HB.out.alloc HB.out.size _) _⟩
end Go.Proofs.Ytillphlgoacgdaa
