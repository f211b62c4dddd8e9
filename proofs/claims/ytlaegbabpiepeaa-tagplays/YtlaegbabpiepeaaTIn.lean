/- What is handed in as a key or a tag: read as bytes. -/
import Derived.Test.YtlaegbabpiepeaaTNew
import Derived.ProofKit
import Derived.OpenShut
import Derived.ShutString
import Derived.ChangeOld
import Derived.SizedLaws
namespace Go.Proofs.Ytlaegbabpiepeaa
open Go.ChangeShapes Go.WideShapes Go.ChangeAt Go.RowKit
set_option linter.unusedVariables false
set_option linter.unusedSimpArgs false

theorem cellsByte : Try.prog.cellsOf 5 = 1 := by kernel_rfl
theorem cellsKey : Try.prog.cellsOf 27 = 32 := by kernel_rfl
theorem cellsTag : Try.prog.cellsOf 46 = 16 := by kernel_rfl
set_option maxRecDepth 100000 in
theorem okWide_arr {W : World} {r : Reach} {base n : Nat} {t e : TypeId} {v : Value} (ht : Try.prog.underlying t = some (.array n e)) (h : Value.okWide Try.prog W r base t v) : ∃ cs, v = .agg cs := by
  unfold Value.okWide at h
  rw [ht] at h
  cases v <;> simp_all
def unByte : Value → Int
  | .int _ z => z
  | _ => 0
/-- An array of bytes, opened. -/
theorem bytes_arr {H : Type} {enc : TypeId × Value → H} {W : World} {base : Nat} {sp : Nat → Bool} {held : Bool} {fuel n : Nat} {t : TypeId} {cs : List Value} {x : DataW H × List MemPlace} (ht : Try.prog.underlying t = some (.array n 5)) (hn : Try.prog.cellsOf t = n)
    (h : DataW.trod enc Try.prog W base sp held fuel t cs = some x) : ∃ zs : List Int, cs = u8s zs ∧ zs.length = n ∧ Bytes zs := by
  obtain ⟨xs, m, _, _, hlen, hxl, hf⟩ := DataW.trod_array ht h
  have hc : cs.length = n := hlen.trans hn
  have key : ∀ i, (hi : i < cs.length) → ∃ z, cs[i] = .int .u8 z ∧ 0 ≤ z ∧ z < 256 := by
    intro i hi
    have h1 := hf i (by omega)
    rw [cellsByte, Nat.mul_one, List.getElem?_eq_getElem (by omega)] at h1
    obtain ⟨z, hz, _, hw⟩ := DataW.trod_int Try.underlying5 h1
    refine ⟨z, ?_, byte_of_wf hw⟩
    rw [List.drop_eq_getElem_cons hi, List.take_succ_cons, List.take_zero] at hz
    exact (List.cons.inj hz).1
  refine ⟨cs.map unByte, ?_, by simpa using hc, ?_⟩
  · apply List.ext_getElem
    · simp [u8s]
    · intro i h1 h2
      obtain ⟨z, hz, _⟩ := key i h1
      simp [u8s, hz, unByte]
  · intro z hz
    obtain ⟨v, hv, rfl⟩ := List.mem_map.1 hz
    obtain ⟨i, hi, rfl⟩ := List.mem_iff_getElem.1 hv
    obtain ⟨z, hz, hb⟩ := key i hi
    rw [hz]; exact hb
end Go.Proofs.Ytlaegbabpiepeaa
