/- TagPlays: a script that came in as an argument, read as data. -/
import Derived.Test.YtlaegbabpiepeaaTStep
import Derived.Test.YtlaegbabpiepeaaTPlD
namespace Go.Proofs.Ytlaegbabpiepeaa
open Go.ChangeShapes Go.WideShapes Go.ChangeAt Go.RowKit Go.Deep
set_option linter.unusedVariables false
set_option linter.unusedSimpArgs false

theorem cellsOfO : Try.prog.cellsOf 33 = 35 := by kernel_rfl
theorem cellsOfI : Try.prog.cellsOf 3 = 1 := by kernel_rfl
theorem int_wf {x : Int} (h : (Lit.int .i64 x).wf = true) : Int64 x := by
  simp [Lit.wf, IntKind.min, IntKind.max, IntKind.signed, IntKind.bits] at h
  unfold Int64
  omega
/-- The parts of a step. -/
theorem op_parts {H : Type} {enc : TypeId × Value → H} {W : World} {base : Nat} {sp : Nat → Bool} {held : Bool} {fuel : Nat} {v0 v1 v2 : Value} {kc : List Value} {x : DataW H × List MemPlace} (hkc : kc.length = 32)
    (h : DataW.trod enc Try.prog W base sp held fuel 33 (v0 :: v1 :: v2 :: kc) = some x) : ∃ (y0 y1 y2 y3 : DataW H × List MemPlace) (n : Nat), x.1 = .agg [y0.1, y1.1, y2.1, y3.1] ∧
      DataW.trod enc Try.prog W base sp held n 3 [v0] = some y0 ∧ DataW.trod enc Try.prog W base sp held n 3 [v1] = some y1 ∧ DataW.trod enc Try.prog W base sp held n 28 [v2] = some y2 ∧ DataW.trod enc Try.prog W base sp held n 27 kc = some y3 := by
  obtain ⟨xs, n, _, rfl, _, hlen, hf⟩ := DataW.trod_struct Try.underlying33 h
  match xs, hlen with
  | [y0, y1, y2, y3], _ =>
    refine ⟨y0, y1, y2, y3, n, by simp, ?_, ?_, ?_, ?_⟩
    · simpa [cellsOfI, cellsL, cellsKey] using hf 0 _ rfl
    · simpa [cellsOfI, cellsL, cellsKey] using hf 1 _ rfl
    · simpa [cellsOfI, cellsL, cellsKey] using hf 2 _ rfl
    · have := hf 3 _ rfl
      simpa [cellsOfI, cellsL, cellsKey, ← hkc] using this
/-- What one step in thirty-five cells reads as. -/
theorem op_in {H : Type} {enc : TypeId × Value → H} {W : World} {fuel : Nat} {cs : List Value} {y : DataW H × List MemPlace} (hl : cs.length = 35) (h : DataW.trod enc Try.prog W 0 (fun _ => true) true fuel 33 cs = some y) (hs : Rows.uptoBulk y.1 ≤ 1048576) :
    ∃ (it : PItem) (so : Option Addr) (c : Nat), cs = opV it.k it.a so it.data.length c it.key ∧ Seen W so it.data.length it.data ∧ it.data.length ≤ c ∧ Int64 it.a ∧ (it.key.length = 32 ∧ Bytes it.key) ∧ it.data.length + 1 ≤ Rows.uptoBulk y.1 := by
  match cs, hl with
  | v0 :: v1 :: v2 :: kc, hl =>
    have hkc : kc.length = 32 := by simpa using hl
    obtain ⟨y0, y1, y2, y3, n, hd, t0, t1, t2, t3⟩ := op_parts hkc h
    obtain ⟨a0, e0, _, w0⟩ := DataW.trod_int Try.underlying3 t0
    obtain ⟨a1, e1, _, w1⟩ := DataW.trod_int Try.underlying3 t1
    simp at e0 e1
    subst e0 e1
    have hb : Rows.uptoBulk y2.1 ≤ Rows.uptoBulk y.1 := by
      rw [hd]
      simp only [Rows.uptoBulk, Rows.uptoBulkAll]
      omega
    obtain ⟨zs, so, c, rfl, s3, hb3, hc3⟩ := list_in t2 (by omega)
    obtain ⟨ky, rfl, hky⟩ := bytes_arr Try.underlying27 cellsKey t3
    exact ⟨⟨a0, a1, zs, ky⟩, so, c, rfl, s3, hc3, int_wf w1, hky, by show zs.length + 1 ≤ _; omega⟩
theorem steps_in {H : Type} {enc : TypeId × Value → H} {W : World} {fuel : Nat} {v : Value} {y : DataW H × List MemPlace} (h : DataW.trod enc Try.prog W 0 (fun _ => true) true fuel 22 [v] = some y) (hs : Rows.uptoBulk y.1 ≤ 1048576) :
    ∃ ao n c its, v = .slice ao n c ∧ SeenQ W ao n its := by
  rcases open_slice Try.underlying22 h with ⟨hcs, hx⟩ | h
  · simp at hcs
    subst hcs
    exact ⟨none, 0, 0, [], rfl, ⟨rfl, by decide, by decide, fun i hi => by omega, fun i hi => by omega⟩⟩
  · obtain ⟨a, len, cap, m, nn, D, Pl, hcs, _, hl, hm, hmm, hx, hcell⟩ := h
    simp at hcs
    subst hcs
    have hmm' : m = cap := by simpa using hmm
    rw [cellsOfO] at hcell
    have hbulk : Rows.uptoBulkAll ((List.range len).map D) + 1 ≤ 1048576 := by
      rw [hx] at hs
      simp only [Rows.uptoBulk] at hs
      omega
    have hD : ∀ i, i < len → Rows.uptoBulk (D i) ≤ 1048576 := fun i hi => by have := bulk_at D len i hi; omega
    have hlen : len ≤ 1048576 := by
      have := bulk_length ((List.range len).map D)
      simp at this
      omega
    obtain ⟨f, hf⟩ := choose_lt (n := len) (p := fun i (it : PItem) => ∃ (so : Option Addr) (c : Nat), W.cells? 0 (a.add (i * 35)) 35 = some (opV it.k it.a so it.data.length c it.key) ∧ Seen W so it.data.length it.data ∧ it.data.length ≤ c ∧ Int64 it.a ∧ (it.key.length = 32 ∧ Bytes it.key) ∧ it.data.length + 1 ≤ Rows.uptoBulk (D i)) (fun i hi => by
      obtain ⟨cs', h1, h2⟩ := hcell i (by omega)
      have hl4 := (World.cells?_some h1).2.1
      obtain ⟨it, so, c, rfl, rest⟩ := op_in hl4 h2 (hD i hi)
      exact ⟨it, so, c, h1, rest⟩)
    have hgz : ∀ i, i < len → pAt ((List.range len).map f) i = f i := fun i hi => by simp [pAt, List.getD, hi]
    refine ⟨some a, len, cap, (List.range len).map f, rfl, ⟨by simp, hlen, ?_, fun i hi => ?_, fun i hi => ?_⟩⟩
    · have := bulk_range D (fun i => (f i).data) len len (Nat.le_refl _) (fun i hi => by obtain ⟨_, _, _, _, _, _, _, h⟩ := hf i hi; exact h)
      have e : dats ((List.range len).map f) len = ((List.range len).map fun i => (f i).data).flatten := by
        unfold dats
        rw [List.take_of_length_le (by simp), List.map_map]
        rfl
      rw [e]
      omega
    · obtain ⟨b, off, spot⟩ := a
      obtain ⟨so, c, h1, h2, h3, _, hky, _⟩ := hf i hi
      obtain ⟨so0, c0', g1, _⟩ := hf 0 (by omega)
      have hc0 := (World.cells?_some g1).2.2 0 (by decide)
      have hspot : spot = none := by
        have : W.cell? ⟨b, off, spot⟩ = some (.int .i64 (f 0).k) := by simpa [Addr.add, opV] using hc0
        exact World.cell?_spot this
      subst hspot
      have hcs := (World.cells?_some h1).2.2
      rw [hgz i hi]
      have k0 := hcs 0 (by decide)
      rw [add_mid, add_mid] at k0
      refine ⟨b, off, so, c, rfl, World.block_lt_of_cell? _ _ k0, fun j v hv => ?_, h2, h3⟩
      have hj : j < 35 := by
        have := (List.getElem?_eq_some_iff.1 hv).1
        simpa [opV, u8s_length, hky.1] using this
      have kj := hcs j hj
      rw [add_mid, add_mid] at kj
      rw [kj]
      exact hv
    · obtain ⟨so, c, _, _, _, h4, h5, _⟩ := hf i hi
      rw [hgz i hi]
      exact ⟨h4, h5⟩
end Go.Proofs.Ytlaegbabpiepeaa
