/- Slices of slices that are seen. -/
import Derived.Test.YtmgkjldjeomcmaaDoorSBase
namespace Go.Proofs.YtmgkjldjeomcmaaDoor
open Go.RowKit
set_option linter.unusedVariables false
set_option linter.unusedSimpArgs false

theorem sizeByte : (Tryd.prog.info? 5).map (·.size) = some 1 := by kernel_rfl
theorem add_mid (b o j : Nat) : (⟨b, o, none⟩ : Addr).add j = ⟨b, o + j, none⟩ := Addr.add_mid b o j
/-- Where a slice from lo on begins. -/
def subA (ao : Option Addr) (lo c : Nat) : Option Addr := if c = lo then ao else ao.map (·.add lo)
theorem Seen.sub {w : World} {ao : Option Addr} {n : Nat} {zs : List Int} (h : Seen w ao n zs) (lo hi c : Nat) (h1 : lo ≤ hi) (h2 : hi ≤ n) (h3 : n ≤ c) : Seen w (subA ao lo c) (hi - lo) ((zs.drop lo).take (hi - lo)) := by
  have hl := h.len
  refine ⟨by simp; omega, by have := h.top; omega, bytes_take (bytes_drop h.bytes lo) _, fun h0 => ?_⟩
  obtain ⟨b, o, rfl, hb, hc⟩ := h.cells (by omega)
  refine ⟨b, o + lo, ?_, hb, fun i hi' => ?_⟩
  · unfold subA
    rw [if_neg (by omega)]
    exact congrArg some (add_mid b o lo)
  · rw [Nat.add_assoc, hc (lo + i) (by omega)]
    have e : lo + i < zs.length := by omega
    simp [List.getD, List.getElem?_take, List.getElem?_drop, hi']
set_option maxRecDepth 20000 in
theorem sl_h (ao : Option Addr) (n c h : Nat) (hh : h ≤ c) (w : World) : (Instr.sliceAt 24 (.slice ao n c) none (some (.int .i64 h)) none).run Tryd.prog w = .ok (.slice (subA ao 0 c) h c) w := by
  rw [run_sliceAt_slice w 24 _ _ _ _ Tryd.underlying24, run_slice_h w 24 ao n c Tryd.underlying24 .i64 h (by omega) (by omega)]
  rw [show Tryd.prog.elem 24 = 5 by kernel_rfl]
  have hs : (sizeOf 5).run Tryd.prog w = .ok 1 w := by
    have h := sizeByte
    cases hq : Tryd.prog.info? 5 with
    | none => simp [hq] at h
    | some i => simp [hq] at h; simp [sizeOf, typeInfo, hq, h]
  simp [hs, Result.andThen, sliced, subA]
set_option maxRecDepth 20000 in
theorem sl_l (ao : Option Addr) (n c l : Nat) (hl : l ≤ n) (w : World) : (Instr.sliceAt 24 (.slice ao n c) (some (.int .i64 l)) none none).run Tryd.prog w = .ok (.slice (subA ao l c) (n - l) (c - l)) w := by
  rw [run_sliceAt_slice w 24 _ _ _ _ Tryd.underlying24, run_slice_l w 24 ao n c Tryd.underlying24 .i64 l (by omega) (by omega)]
  rw [show Tryd.prog.elem 24 = 5 by kernel_rfl]
  have hs : (sizeOf 5).run Tryd.prog w = .ok 1 w := by
    have h := sizeByte
    cases hq : Tryd.prog.info? 5 with
    | none => simp [hq] at h
    | some i => simp [hq] at h; simp [sizeOf, typeInfo, hq, h]
  simp [hs, Result.andThen, sliced, subA]
set_option maxRecDepth 20000 in
theorem sl_lh (ao : Option Addr) (n c l h : Nat) (hl : l ≤ h) (hh : h ≤ c) (w : World) : (Instr.sliceAt 24 (.slice ao n c) (some (.int .i64 l)) (some (.int .i64 h)) none).run Tryd.prog w = .ok (.slice (subA ao l c) (h - l) (c - l)) w := by
  rw [run_sliceAt_slice w 24 _ _ _ _ Tryd.underlying24, run_slice_lh w 24 ao n c Tryd.underlying24 .i64 .i64 l h (by omega) (by omega) (by omega)]
  rw [show Tryd.prog.elem 24 = 5 by kernel_rfl]
  have hs : (sizeOf 5).run Tryd.prog w = .ok 1 w := by
    have h := sizeByte
    cases hq : Tryd.prog.info? 5 with
    | none => simp [hq] at h
    | some i => simp [hq] at h; simp [sizeOf, typeInfo, hq, h]
  simp [hs, Result.andThen, sliced, subA]
end Go.Proofs.YtmgkjldjeomcmaaDoor
