/- What is handed in as a Powers: two rows of 32 bytes, two numbers; the laws of powers. -/
import Derived.Test.YtfeeikkfjbdkiaaFIn
import Derived.Test.YtfeeikkfjbdkiaaFInvM
namespace Go.Proofs.Ytfeeikkfjbdkiaa
open Go.ChangeShapes Go.WideShapes Go.ChangeAt Go.RowKit
set_option linter.unusedVariables false
set_option linter.unusedSimpArgs false

def pwCells (aa bb : List Int) (m n : Int) : List Value := u8s aa ++ (u8s bb ++ [Value.int .u32 m, Value.int .u32 n])
theorem cellsPowers : Try.prog.cellsOf 58 = 66 := by kernel_rfl
theorem cellsU32 : Try.prog.cellsOf 56 = 1 := by kernel_rfl
theorem u32_of_wf {z : Int} (h : (Lit.int .u32 z).wf = true) : 0 ≤ z ∧ z < 4294967296 := by
  simp [Lit.wf, IntKind.min, IntKind.max, IntKind.signed, IntKind.bits] at h
  exact ⟨by omega, by omega⟩
theorem powers_in {H : Type} {enc : TypeId × Value → H} {W : World} {base : Nat} {sp : Nat → Bool} {held : Bool} {fuel : Nat} {cs : List Value} {x : DataW H × List MemPlace} (h : DataW.trod enc Try.prog W base sp held fuel 58 cs = some x) :
    ∃ (aa bb : List Int) (m n : Nat), cs = pwCells aa bb m n ∧ aa.length = 32 ∧ Bytes aa ∧ bb.length = 32 ∧ Bytes bb ∧ m < 4294967296 ∧ n < 4294967296 := by
  obtain ⟨xs, q, _, _, hlen, hxl, hf⟩ := DataW.trod_struct Try.underlying58 h
  rw [cellsPowers] at hlen
  match xs, hxl with
  | [y0, y1, y2, y3], _ =>
    have f0 : DataW.trod enc Try.prog W base sp held q 22 (cs.take 32) = some y0 := by simpa [cellsKey] using hf 0 _ rfl
    have f1 : DataW.trod enc Try.prog W base sp held q 22 ((cs.drop 32).take 32) = some y1 := by simpa [cellsKey] using hf 1 _ rfl
    have f2 : DataW.trod enc Try.prog W base sp held q 56 ((cs.drop 64).take 1) = some y2 := by simpa [cellsU32] using hf 2 _ rfl
    have f3 : DataW.trod enc Try.prog W base sp held q 56 ((cs.drop 65).take 1) = some y3 := by simpa [cellsU32] using hf 3 _ rfl
    obtain ⟨aa, e0, l0, b0⟩ := bytes_arr Try.underlying22 cellsKey f0
    obtain ⟨bb, e1, l1, b1⟩ := bytes_arr Try.underlying22 cellsKey f1
    obtain ⟨z, e2, _, hw⟩ := DataW.trod_int Try.underlying56 f2
    obtain ⟨z', e3, _, hw'⟩ := DataW.trod_int Try.underlying56 f3
    have hz := u32_of_wf hw
    have hz' := u32_of_wf hw'
    refine ⟨aa, bb, z.toNat, z'.toNat, ?_, l0, b0, l1, b1, by omega, by omega⟩
    have d1 : cs.drop 65 = (cs.drop 65).take 1 := (List.take_of_length_le (by simp; omega)).symm
    have d2 : cs.drop 64 = (cs.drop 64).take 1 ++ cs.drop 65 := by
      have := (List.take_append_drop 1 (cs.drop 64)).symm
      rwa [List.drop_drop] at this
    have d3 : cs.drop 32 = (cs.drop 32).take 32 ++ cs.drop 64 := by
      have := (List.take_append_drop 32 (cs.drop 32)).symm
      rwa [List.drop_drop] at this
    rw [pwCells, ← e0, ← e1, show ((z.toNat : Nat) : Int) = z by omega, show ((z'.toNat : Nat) : Int) = z' by omega]
    have d4 : [Value.int .u32 z, Value.int .u32 z'] = cs.drop 64 := by rw [d2, d1, e2, e3]; rfl
    rw [d4, ← d3, List.take_append_drop]
theorem pwl3 (x : Int) : ((x * x) % PR * x) % PR = x ^ 3 % PR := by
  rw [pm_l, Int.pow_succ, Int.pow_succ, Int.pow_succ, Int.pow_zero, Int.one_mul]
theorem pwl4 (x : Int) (m n : Nat) : (x ^ m % PR * (x ^ n % PR)) % PR = x ^ (m + n) % PR := by rw [pm_l, pm_r, Int.pow_add]
theorem pwl5 (x y : Int) (m : Nat) : (x ^ m % PR * (y ^ m % PR)) % PR = ((x * y) % PR) ^ m % PR := by rw [pm_l, pm_r, pow_mod, pow_mul']
theorem pwl6 (x : Int) (m n : Nat) : x ^ (m * n) % PR = (x ^ m % PR) ^ n % PR := by rw [pow_mod, Int.pow_mul]
theorem pwl0 (x : Int) : 1 = x ^ 0 % PR := by rw [Int.pow_zero]; rfl
end Go.Proofs.Ytfeeikkfjbdkiaa
