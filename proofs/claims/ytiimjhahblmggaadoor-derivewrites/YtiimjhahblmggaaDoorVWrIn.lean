/- DeriveWrites: a script that came in as an argument, read as data. -/
import Derived.Test.YtiimjhahblmggaaDoorDStep
import Derived.Test.YtiimjhahblmggaaDoorVWrA
import Derived.Test.YtiimjhahblmggaaDoorVDrawIn
namespace Go.Proofs.YtiimjhahblmggaaDoor
open Go.ChangeShapes Go.WideShapes Go.ChangeAt Go.RowKit Go.Deep
set_option linter.unusedVariables false
set_option linter.unusedSimpArgs false

theorem cellsOfO : Tryd.prog.cellsOf 42 = 3 := by kernel_rfl
theorem cellsOfI : Tryd.prog.cellsOf 3 = 1 := by kernel_rfl
/-- The parts of a step. -/
theorem op_parts {H : Type} {enc : TypeId × Value → H} {W : World} {base : Nat} {sp : Nat → Bool} {held : Bool} {fuel : Nat} {v0 v1 v2 : Value} {x : DataW H × List MemPlace}
    (h : DataW.trod enc Tryd.prog W base sp held fuel 42 [v0, v1, v2] = some x) : ∃ (y0 y1 y2 : DataW H × List MemPlace) (n : Nat), x.1 = .agg [y0.1, y1.1, y2.1] ∧
      DataW.trod enc Tryd.prog W base sp held n 3 [v0] = some y0 ∧ DataW.trod enc Tryd.prog W base sp held n 3 [v1] = some y1 ∧ DataW.trod enc Tryd.prog W base sp held n 22 [v2] = some y2 := by
  obtain ⟨xs, n, _, rfl, _, hlen, hf⟩ := DataW.trod_struct Tryd.underlying42 h
  match xs, hlen with
  | [y0, y1, y2], _ =>
    refine ⟨y0, y1, y2, n, by simp, ?_, ?_, ?_⟩
    · simpa [cellsOfI, cellsL] using hf 0 _ rfl
    · simpa [cellsOfI, cellsL] using hf 1 _ rfl
    · simpa [cellsOfI, cellsL] using hf 2 _ rfl
/-- What one step in three cells reads as. -/
theorem op_in {H : Type} {enc : TypeId × Value → H} {W : World} {fuel : Nat} {cs : List Value} {y : DataW H × List MemPlace} (hl : cs.length = 3) (h : DataW.trod enc Tryd.prog W 0 (fun _ => true) true fuel 42 cs = some y) (hs : Rows.uptoBulk y.1 ≤ 1048576) :
    ∃ (it : PItem) (so : Option Addr) (c : Nat), cs = opV it.on it.k so it.data.length c ∧ Seen W so it.data.length it.data ∧ it.data.length ≤ c ∧ (so = none → c = 0) ∧ it.data.length + 1 ≤ Rows.uptoBulk y.1 := by
  match cs, hl with
  | [v0, v1, v2], _ =>
    obtain ⟨y0, y1, y2, n, hd, t0, t1, t2⟩ := op_parts h
    obtain ⟨a0, e0, _, w0⟩ := DataW.trod_int Tryd.underlying3 t0
    obtain ⟨a1, e1, _, w1⟩ := DataW.trod_int Tryd.underlying3 t1
    simp at e0 e1
    subst e0 e1
    have hb : Rows.uptoBulk y2.1 ≤ Rows.uptoBulk y.1 := by
      rw [hd]
      simp only [Rows.uptoBulk, Rows.uptoBulkAll]
      omega
    obtain ⟨zs, so, c, rfl, s3, hb3, hc3⟩ := list_in t2 (by omega)
    exact ⟨⟨a0, a1, zs⟩, so, c, rfl, s3, hc3, list_none t2, by show zs.length + 1 ≤ _; omega⟩
theorem steps_in {H : Type} {enc : TypeId × Value → H} {W : World} {fuel : Nat} {v : Value} {y : DataW H × List MemPlace} (h : DataW.trod enc Tryd.prog W 0 (fun _ => true) true fuel 36 [v] = some y) (hs : Rows.uptoBulk y.1 ≤ 1048576) :
    ∃ ao n c its, v = .slice ao n c ∧ SeenQ W ao n its := by
  rcases open_slice Tryd.underlying36 h with ⟨hcs, hx⟩ | h
  · simp at hcs
    subst hcs
    exact ⟨none, 0, 0, [], rfl, ⟨rfl, by decide, by decide, fun i hi => by omega⟩⟩
  · obtain ⟨a, len, cap, m, nn, D, Pl, hcs, _, hl, hm, hmm, hx, hcell⟩ := h
    simp at hcs
    subst hcs
    have hmm' : m = cap := by simpa using hmm
    rw [cellsOfO] at hcell
    have hbulk : Rows.uptoBulkAll ((List.range len).map D) + 1 ≤ 1048576 := by
      rw [hx] at hs
      simp only [Rows.uptoBulk] at hs
      omega
    have hD : ∀ i, i < len → Rows.uptoBulk (D i) ≤ 1048576 := fun i hi => by have := bulk_at D len i hi; omega
    have hlen : len ≤ 1048576 := by
      have := bulk_length ((List.range len).map D)
      simp at this
      omega
    obtain ⟨f, hf⟩ := choose_lt (n := len) (p := fun i (it : PItem) => ∃ (so : Option Addr) (c : Nat), W.cells? 0 (a.add (i * 3)) 3 = some (opV it.on it.k so it.data.length c) ∧ Seen W so it.data.length it.data ∧ it.data.length ≤ c ∧ (so = none → c = 0) ∧ it.data.length + 1 ≤ Rows.uptoBulk (D i)) (fun i hi => by
      obtain ⟨cs', h1, h2⟩ := hcell i (by omega)
      have hl4 := (World.cells?_some h1).2.1
      obtain ⟨it, so, c, rfl, rest⟩ := op_in hl4 h2 (hD i hi)
      exact ⟨it, so, c, h1, rest⟩)
    have hgz : ∀ i, i < len → pAt ((List.range len).map f) i = f i := fun i hi => by simp [pAt, List.getD, hi]
    refine ⟨some a, len, cap, (List.range len).map f, rfl, ⟨by simp, hlen, ?_, fun i hi => ?_⟩⟩
    · have := bulk_range D (fun i => (f i).data) len len (Nat.le_refl _) (fun i hi => by obtain ⟨_, _, _, _, _, _, h⟩ := hf i hi; exact h)
      have e : dats ((List.range len).map f) len = ((List.range len).map fun i => (f i).data).flatten := by
        unfold dats
        rw [List.take_of_length_le (by simp), List.map_map]
        rfl
      rw [e]
      omega
    · obtain ⟨b, off, spot⟩ := a
      obtain ⟨so, c, h1, h2, h3, h4, _⟩ := hf i hi
      obtain ⟨so0, c0', g1, _⟩ := hf 0 (by omega)
      have hc0 := (World.cells?_some g1).2.2 0 (by decide)
      have hspot : spot = none := by
        have : W.cell? ⟨b, off, spot⟩ = some (.int .i64 (f 0).on) := by simpa [Addr.add, opV] using hc0
        exact World.cell?_spot this
      subst hspot
      have hcs := (World.cells?_some h1).2.2
      rw [hgz i hi]
      have k0 := hcs 0 (by decide)
      rw [add_mid, add_mid] at k0
      refine ⟨b, off, so, c, rfl, World.block_lt_of_cell? _ _ k0, fun j v hv => ?_, h2, h3, h4⟩
      have hj : j < 3 := by
        have := (List.getElem?_eq_some_iff.1 hv).1
        simpa [opV] using this
      have kj := hcs j hj
      rw [add_mid, add_mid] at kj
      rw [kj]
      exact hv
end Go.Proofs.YtiimjhahblmggaaDoor
