/- What is handed in as a Head: read as its parts. -/
import Derived.Test.YtabdjoljdefjdaaRcPlain
import Derived.ProofKit
import Derived.OpenShut
import Derived.ShutString
import Derived.ChangeOld
import Derived.SizedLaws
namespace Go.Proofs.Ytabdjoljdefjdaa
open Go.ChangeShapes Go.WideShapes Go.ChangeAt Go.RowKit
set_option linter.unusedVariables false
set_option linter.unusedSimpArgs false

theorem rCellsByte : Try.prog.cellsOf 5 = 1 := by kernel_rfl
theorem rCellsU32 : Try.prog.cellsOf 22 = 1 := by kernel_rfl
theorem rCellsDrop : Try.prog.cellsOf 24 = 16 := by kernel_rfl
theorem rCellsHead : Try.prog.cellsOf 26 = 20 := by kernel_rfl
def rUnByte : Value → Int
  | .int _ z => z
  | _ => 0
/-- An array of bytes, opened. -/
theorem rBytes_arr {H : Type} {enc : TypeId × Value → H} {W : World} {base : Nat} {sp : Nat → Bool} {held : Bool} {fuel n : Nat} {t : TypeId} {cs : List Value} {x : DataW H × List MemPlace} (ht : Try.prog.underlying t = some (.array n 5)) (hn : Try.prog.cellsOf t = n)
    (h : DataW.trod enc Try.prog W base sp held fuel t cs = some x) : ∃ zs : List Int, cs = u8s zs ∧ zs.length = n ∧ Bytes zs := by
  obtain ⟨xs, m, _, _, hlen, hxl, hf⟩ := DataW.trod_array ht h
  have hc : cs.length = n := hlen.trans hn
  have key : ∀ i, (hi : i < cs.length) → ∃ z, cs[i] = .int .u8 z ∧ 0 ≤ z ∧ z < 256 := by
    intro i hi
    have h1 := hf i (by omega)
    rw [rCellsByte, Nat.mul_one, List.getElem?_eq_getElem (by omega)] at h1
    obtain ⟨z, hz, _, hw⟩ := DataW.trod_int Try.underlying5 h1
    refine ⟨z, ?_, byte_of_wf hw⟩
    rw [List.drop_eq_getElem_cons hi, List.take_succ_cons, List.take_zero] at hz
    exact (List.cons.inj hz).1
  refine ⟨cs.map rUnByte, ?_, by simpa using hc, ?_⟩
  · apply List.ext_getElem
    · simp [u8s]
    · intro i h1 h2
      obtain ⟨z, hz, _⟩ := key i h1
      simp [u8s, hz, rUnByte]
  · intro z hz
    obtain ⟨v, hv, rfl⟩ := List.mem_map.1 hz
    obtain ⟨i, hi, rfl⟩ := List.mem_iff_getElem.1 hv
    obtain ⟨z, hz, hb⟩ := key i hi
    rw [hz]; exact hb
theorem u32_in {x : Int} (h : (Lit.int .u32 x).wf = true) : 0 ≤ x ∧ x < 4294967296 := by
  simp [Lit.wf, IntKind.min, IntKind.max, IntKind.signed, IntKind.bits] at h
  exact ⟨by omega, by omega⟩
theorem head_in {H : Type} {enc : TypeId × Value → H} {W : World} {fuel : Nat} {cs : List Value} {x : DataW H × List MemPlace} (h : DataW.trod enc Try.prog W 0 (fun _ => true) true fuel 26 cs = some x) : ∃ h : Hd, cs = hdC h ∧ HdOk h := by
  obtain ⟨xs, n, _, hx, hlen, hxl, hf⟩ := DataW.trod_struct Try.underlying26 h
  rw [rCellsHead] at hlen
  match cs, hlen with
  | v0 :: v1 :: v2 :: v3 :: r, hlen =>
    match xs, hxl with
    | [y0, y1, y2, y3, y4], _ =>
      have f0 : DataW.trod enc Try.prog W 0 (fun _ => true) true n 5 [v0] = some y0 := by simpa [rCellsByte, rCellsU32, rCellsDrop] using hf 0 _ rfl
      have f1 : DataW.trod enc Try.prog W 0 (fun _ => true) true n 5 [v1] = some y1 := by simpa [rCellsByte, rCellsU32, rCellsDrop] using hf 1 _ rfl
      have f2 : DataW.trod enc Try.prog W 0 (fun _ => true) true n 22 [v2] = some y2 := by simpa [rCellsByte, rCellsU32, rCellsDrop] using hf 2 _ rfl
      have f3 : DataW.trod enc Try.prog W 0 (fun _ => true) true n 22 [v3] = some y3 := by simpa [rCellsByte, rCellsU32, rCellsDrop] using hf 3 _ rfl
      have f4 : DataW.trod enc Try.prog W 0 (fun _ => true) true n 24 (r.take 16) = some y4 := by simpa [rCellsByte, rCellsU32, rCellsDrop] using hf 4 _ rfl
      have hr : r.length = 16 := by simpa using hlen
      rw [List.take_of_length_le (by omega)] at f4
      obtain ⟨a0, e0, _, w0⟩ := DataW.trod_int Try.underlying5 f0
      obtain ⟨a1, e1, _, w1⟩ := DataW.trod_int Try.underlying5 f1
      obtain ⟨a2, e2, _, w2⟩ := DataW.trod_int Try.underlying22 f2
      obtain ⟨a3, e3, _, w3⟩ := DataW.trod_int Try.underlying22 f3
      obtain ⟨g, e4, l4, b4⟩ := rBytes_arr Try.underlying24 rCellsDrop f4
      simp at e0 e1 e2 e3
      subst e0 e1 e2 e3 e4
      exact ⟨⟨a0, a1, a2, a3, g⟩, rfl, byte_of_wf w0, byte_of_wf w1, u32_in w2, u32_in w3, l4, b4⟩
end Go.Proofs.Ytabdjoljdefjdaa
