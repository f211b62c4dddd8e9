/- What is handed in as a Begin: read as a key, a nonce and a counter. -/
import Derived.Test.YtpjnimmclncdoaaSBg
import Derived.ProofKit
import Derived.OpenShut
import Derived.ShutString
import Derived.ChangeOld
import Derived.SizedLaws
namespace Go.Proofs.Ytpjnimmclncdoaa
open Go.ChangeShapes Go.WideShapes Go.ChangeAt Go.RowKit
set_option linter.unusedVariables false
set_option linter.unusedSimpArgs false

theorem cellsByte : Try.prog.cellsOf 5 = 1 := by kernel_rfl
theorem cellsKey : Try.prog.cellsOf 23 = 32 := by kernel_rfl
theorem cellsNonce : Try.prog.cellsOf 25 = 12 := by kernel_rfl
theorem cellsU32 : Try.prog.cellsOf 26 = 1 := by kernel_rfl
theorem cellsBegin : Try.prog.cellsOf 28 = 45 := by kernel_rfl
theorem u32_of_wf {z : Int} (h : (Lit.int .u32 z).wf = true) : 0 ≤ z ∧ z < 4294967296 := by
  simp [Lit.wf, IntKind.min, IntKind.max, IntKind.signed, IntKind.bits] at h
  exact ⟨by omega, by omega⟩
def unByte : Value → Int
  | .int _ z => z
  | _ => 0
/-- An array of bytes, opened. -/
theorem bytes_arr {H : Type} {enc : TypeId × Value → H} {W : World} {base : Nat} {sp : Nat → Bool} {held : Bool} {fuel n : Nat} {t : TypeId} {cs : List Value} {x : DataW H × List MemPlace} (ht : Try.prog.underlying t = some (.array n 5)) (hn : Try.prog.cellsOf t = n)
    (h : DataW.trod enc Try.prog W base sp held fuel t cs = some x) : ∃ zs : List Int, cs = u8s zs ∧ zs.length = n ∧ Bytes zs := by
  obtain ⟨xs, m, _, _, hlen, hxl, hf⟩ := DataW.trod_array ht h
  have hc : cs.length = n := hlen.trans hn
  have key : ∀ i, (hi : i < cs.length) → ∃ z, cs[i] = .int .u8 z ∧ 0 ≤ z ∧ z < 256 := by
    intro i hi
    have h1 := hf i (by omega)
    rw [cellsByte, Nat.mul_one, List.getElem?_eq_getElem (by omega)] at h1
    obtain ⟨z, hz, _, hw⟩ := DataW.trod_int Try.underlying5 h1
    refine ⟨z, ?_, byte_of_wf hw⟩
    rw [List.drop_eq_getElem_cons hi, List.take_succ_cons, List.take_zero] at hz
    exact (List.cons.inj hz).1
  refine ⟨cs.map unByte, ?_, by simpa using hc, ?_⟩
  · apply List.ext_getElem
    · simp [u8s]
    · intro i h1 h2
      obtain ⟨z, hz, _⟩ := key i h1
      simp [u8s, hz, unByte]
  · intro z hz
    obtain ⟨v, hv, rfl⟩ := List.mem_map.1 hz
    obtain ⟨i, hi, rfl⟩ := List.mem_iff_getElem.1 hv
    obtain ⟨z, hz, hb⟩ := key i hi
    rw [hz]; exact hb
theorem begin_in {H : Type} {enc : TypeId × Value → H} {W : World} {base : Nat} {sp : Nat → Bool} {held : Bool} {fuel : Nat} {cs : List Value} {x : DataW H × List MemPlace} (h : DataW.trod enc Try.prog W base sp held fuel 28 cs = some x) :
    ∃ (key nonce : List Int) (ctr : Nat), cs = bCells key nonce ctr ∧ key.length = 32 ∧ nonce.length = 12 ∧ Bytes key ∧ Bytes nonce ∧ ctr < 4294967296 := by
  obtain ⟨xs, n, _, _, hlen, hxl, hf⟩ := DataW.trod_struct Try.underlying28 h
  rw [cellsBegin] at hlen
  match xs, hxl with
  | [y0, y1, y2], _ =>
    have f0 : DataW.trod enc Try.prog W base sp held n 23 (cs.take 32) = some y0 := by simpa [cellsKey] using hf 0 _ rfl
    have f1 : DataW.trod enc Try.prog W base sp held n 25 ((cs.drop 32).take 12) = some y1 := by simpa [cellsNonce] using hf 1 _ rfl
    have f2 : DataW.trod enc Try.prog W base sp held n 26 ((cs.drop 44).take 1) = some y2 := by simpa [cellsU32] using hf 2 _ rfl
    obtain ⟨key, e0, l0, b0⟩ := bytes_arr Try.underlying23 cellsKey f0
    obtain ⟨nonce, e1, l1, b1⟩ := bytes_arr Try.underlying25 cellsNonce f1
    obtain ⟨z, e2, _, hw⟩ := DataW.trod_int Try.underlying26 f2
    have hz := u32_of_wf hw
    refine ⟨key, nonce, z.toNat, ?_, l0, l1, b0, b1, by omega⟩
    rw [bCells, ← e0, ← e1, show ((z.toNat : Nat) : Int) = z by omega, ← e2]
    have d1 : cs.drop 44 = (cs.drop 44).take 1 := (List.take_of_length_le (by simp; omega)).symm
    have d2 : cs.drop 32 = (cs.drop 32).take 12 ++ cs.drop 44 := by
      have := (List.take_append_drop 12 (cs.drop 32)).symm
      rwa [List.drop_drop] at this
    have d3 : cs = cs.take 32 ++ ((cs.drop 32).take 12 ++ (cs.drop 44).take 1) := by rw [← d1, ← d2, List.take_append_drop]
    exact d3
end Go.Proofs.Ytpjnimmclncdoaa
