/- A Draw that came in as an argument, read as data under the bulk's bound. -/
import Derived.Test.YtiimjhahblmggaaDoorDStep
import Derived.Test.YtiimjhahblmggaaDoorVDraw
namespace Go.Proofs.YtiimjhahblmggaaDoor
open Go.ChangeShapes Go.WideShapes Go.ChangeAt Go.RowKit Go.Deep
set_option linter.unusedVariables false
set_option linter.unusedSimpArgs false

theorem cells4 : Tryd.prog.cellsOf 51 = 4 := by kernel_rfl
theorem array4 {α : Type} {cs : Array α} (h : cs.size = 4) : ∃ c0 c1 c2 c3, cs = #[c0, c1, c2, c3] := by
  obtain ⟨l⟩ := cs
  match l, h with
  | [c0, c1, c2, c3], _ => exact ⟨c0, c1, c2, c3, rfl⟩
theorem cellsI : Tryd.prog.cellsOf 3 = 1 := by kernel_rfl
/-- The struct's parts. -/
theorem draw_parts {H : Type} {enc : TypeId × Value → H} {W : World} {base : Nat} {sp : Nat → Bool} {held : Bool} {fuel : Nat} {v0 v1 v2 v3 : Value} {x : DataW H × List MemPlace}
    (h : DataW.trod enc Tryd.prog W base sp held fuel 51 [v0, v1, v2, v3] = some x) : ∃ (y0 y1 y2 y3 : DataW H × List MemPlace) (n : Nat), x.1 = .agg [y0.1, y1.1, y2.1, y3.1] ∧
      DataW.trod enc Tryd.prog W base sp held n 22 [v0] = some y0 ∧ DataW.trod enc Tryd.prog W base sp held n 22 [v1] = some y1 ∧ DataW.trod enc Tryd.prog W base sp held n 22 [v2] = some y2 ∧ DataW.trod enc Tryd.prog W base sp held n 3 [v3] = some y3 := by
  obtain ⟨xs, n, _, rfl, _, hlen, hf⟩ := DataW.trod_struct Tryd.underlying51 h
  match xs, hlen with
  | [y0, y1, y2, y3], _ =>
    refine ⟨y0, y1, y2, y3, n, by simp, ?_, ?_, ?_, ?_⟩
    · simpa [cellsI, cellsL] using hf 0 _ rfl
    · simpa [cellsI, cellsL] using hf 1 _ rfl
    · simpa [cellsI, cellsL] using hf 2 _ rfl
    · simpa [cellsI, cellsL] using hf 3 _ rfl
theorem list_none {H : Type} {enc : TypeId × Value → H} {W : World} {fuel : Nat} {so : Option Addr} {n c : Nat} {y : DataW H × List MemPlace} (h : DataW.trod enc Tryd.prog W 0 (fun _ => true) true fuel 22 [.slice so n c] = some y) : so = none → c = 0 := by
  rcases open_ints Tryd.underlying22 Tryd.underlying5 (by kernel_rfl) h with ⟨hcs, hx⟩ | ⟨x, l, c', zs, hcs, _⟩
  · simp at hcs
    exact fun _ => hcs.2.2
  · simp at hcs
    rintro rfl
    cases hcs.1
theorem draw_in {H : Type} {enc : TypeId × Value → H} {W : World} {fuel : Nat} {v0 v1 v2 v3 : Value} {y : DataW H × List MemPlace} (h : DataW.trod enc Tryd.prog W 0 (fun _ => true) true fuel 51 [v0, v1, v2, v3] = some y) (hs : Rows.uptoBulk y.1 ≤ 1048576) :
    ∃ (so : Option Addr) (sn sc : Nat) (salt : List Int) (xo : Option Addr) (xn xc : Nat) (sec : List Int) (io : Option Addr) (im ic : Nat) (info : List Int) (N : Int), v0 = .slice so sn sc ∧ v1 = .slice xo xn xc ∧ v2 = .slice io im ic ∧ v3 = .int .i64 N ∧ (Lit.int .i64 N).wf = true ∧ Dr W so sn sc salt xo xn xc sec io im ic info := by
  obtain ⟨y0, y1, y2, y3, n, hd, t0, t1, t2, t3⟩ := draw_parts h
  obtain ⟨a3, e3, _, w3⟩ := DataW.trod_int Tryd.underlying3 t3
  simp at e3
  subst e3
  have hb : Rows.uptoBulk y0.1 ≤ 1048576 ∧ Rows.uptoBulk y1.1 ≤ 1048576 ∧ Rows.uptoBulk y2.1 ≤ 1048576 := by
    rw [hd] at hs
    simp only [Rows.uptoBulk, Rows.uptoBulkAll] at hs
    omega
  obtain ⟨salt, so, sc, rfl, s0, b0, c0⟩ := list_in t0 hb.1
  obtain ⟨sec, xo, xc, rfl, s1, b1, c1⟩ := list_in t1 hb.2.1
  obtain ⟨info, io, ic, rfl, s2, b2, c2⟩ := list_in t2 hb.2.2
  exact ⟨so, _, sc, salt, xo, _, xc, sec, io, _, ic, info, a3, rfl, rfl, rfl, rfl, w3, ⟨s0, c0, list_none t0, by omega, s1, c1, list_none t1, by omega, s2, c2, list_none t2, by omega⟩⟩
end Go.Proofs.YtiimjhahblmggaaDoor
