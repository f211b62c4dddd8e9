/- Layer host: a life that came in as an argument, read as data. -/
import Derived.Test.YtobcolpdkcppoaaHLast
import Derived.ProofKit
import Derived.OpenShut
import Derived.ShutString
import Derived.ChangeOld
import Derived.SizedLaws
import Derived.Deep.Slices
namespace Go.Proofs.Ytobcolpdkcppoaa
open Go.ChangeShapes Go.WideShapes Go.ChangeAt Go.RowKit Go.Deep
set_option linter.unusedVariables false
set_option linter.unusedSimpArgs false

theorem bytesOfB : Try.prog.bytesOf 5 = 1 := by kernel_rfl
theorem bytesOfS : Try.prog.bytesOf 34 = 48 := by kernel_rfl
theorem cellsOfS : Try.prog.cellsOf 34 = 4 := by kernel_rfl
theorem cellsOfI : Try.prog.cellsOf 3 = 1 := by kernel_rfl
theorem cellsOfU : Try.prog.cellsOf 31 = 1 := by kernel_rfl
theorem cellsOfF : Try.prog.cellsOf 22 = 1 := by kernel_rfl
theorem cellsOfSs : Try.prog.cellsOf 23 = 1 := by kernel_rfl
theorem cellsOfLf : Try.prog.cellsOf 25 = 4 := by kernel_rfl
theorem cellsOfL : Try.prog.cellsOf 32 = 1 := by kernel_rfl
theorem weightsAll_mem {H : Type} {P : Program} {e : TypeId} {l : List (DataW H)} {d : DataW H} (hd : d ∈ l) : ∀ n ∈ d.weights P e, n ∈ DataW.weightsAll P e l := by
  intro n hn
  induction l with
  | nil => cases hd
  | cons x l ih =>
    simp only [DataW.weightsAll, List.mem_append]
    rcases List.mem_cons.1 hd with rfl | h
    · exact .inl hn
    · exact .inr (ih h)
/-- The parts of a step. -/
theorem step_parts {H : Type} {enc : TypeId × Value → H} {W : World} {base : Nat} {sp : Nat → Bool} {held : Bool} {fuel : Nat} {v0 v1 v2 v3 : Value} {x : DataW H × List MemPlace}
    (h : DataW.trod enc Try.prog W base sp held fuel 34 [v0, v1, v2, v3] = some x) : ∃ (y0 y1 y2 y3 : DataW H × List MemPlace) (n : Nat), x.1 = .agg [y0.1, y1.1, y2.1, y3.1] ∧
      DataW.trod enc Try.prog W base sp held n 3 [v0] = some y0 ∧ DataW.trod enc Try.prog W base sp held n 3 [v1] = some y1 ∧ DataW.trod enc Try.prog W base sp held n 31 [v2] = some y2 ∧ DataW.trod enc Try.prog W base sp held n 32 [v3] = some y3 := by
  obtain ⟨xs, n, _, rfl, _, hlen, hf⟩ := DataW.trod_struct Try.underlying34 h
  match xs, hlen with
  | [y0, y1, y2, y3], _ =>
    refine ⟨y0, y1, y2, y3, n, by simp, ?_, ?_, ?_, ?_⟩
    · simpa [cellsOfI, cellsOfU, cellsOfL] using hf 0 _ rfl
    · simpa [cellsOfI, cellsOfU, cellsOfL] using hf 1 _ rfl
    · simpa [cellsOfI, cellsOfU, cellsOfL] using hf 2 _ rfl
    · simpa [cellsOfI, cellsOfU, cellsOfL] using hf 3 _ rfl
/-- Bytes in a cell. -/
theorem bytes_in {H : Type} {enc : TypeId × Value → H} {W : World} {fuel : Nat} {v : Value} {y : DataW H × List MemPlace} (h : DataW.trod enc Try.prog W 0 (fun _ => true) true fuel 32 [v] = some y)
    (hs : ∀ n ∈ y.1.weights Try.prog 32, n ≤ reachBytes) : ∃ (so : Option Addr) (n c : Nat) (zs : List Int), v = .slice so n c ∧ Seen W so n zs ∧ n ≤ 140737488351232 ∧ (so = none → c = 0) := by
  rcases open_ints Try.underlying32 Try.underlying5 (by kernel_rfl) h with ⟨hcs, _⟩ | ⟨x, l, c, zs, hcs, _, hl, hm, hz, hx, hcell, hwz⟩
  · simp at hcs
    subst hcs
    exact ⟨none, 0, 0, [], rfl, Seen.empty _ _, by decide, fun _ => rfl⟩
  · simp at hcs
    subst hcs
    have hz' : zs.length = c := by simpa using hz
    have h1 := hs (((lits (H := H) .u8 (zs.take l)).length + (lits (H := H) .u8 (zs.drop l)).length) * Try.prog.bytesOf 5) (by rw [hx]; simp [DataW.weights, Try.underlying32])
    rw [bytesOfB] at h1
    simp only [lits, List.length_map, List.length_take, List.length_drop, reachBytes] at h1
    exact ⟨some x, l, c, _, rfl, Seen.of_ints (by omega) hl hz' hcell hwz, by omega, fun h => by cases h⟩
theorem int_of_wf {x : Int} (h : (Lit.int .i64 x).wf = true) : -9223372036854775808 ≤ x ∧ x ≤ 9223372036854775807 := by
  simp [Lit.wf, IntKind.min, IntKind.max, IntKind.signed, IntKind.bits] at h
  omega
def Int64 (x : Int) : Prop := -9223372036854775808 ≤ x ∧ x ≤ 9223372036854775807
/-- What is known of a step that came in. -/
structure StIn (W : World) (r : RS) : Prop where
  seen : Seen W r.a r.s.z.length r.s.z
  nil : r.a = none → r.c = 0
  word : Word r.s.v
  d64 : Int64 r.s.d
  p64 : Int64 r.s.p
  len : r.s.z.length ≤ 140737488351232
/-- What one step in four cells reads as. -/
theorem step_in {H : Type} {enc : TypeId × Value → H} {W : World} {fuel : Nat} {cs : List Value} {y : DataW H × List MemPlace} (hl : cs.length = 4) (h : DataW.trod enc Try.prog W 0 (fun _ => true) true fuel 34 cs = some y)
    (hs : ∀ n ∈ y.1.weights Try.prog 34, n ≤ reachBytes) : ∃ r : RS, cs = rsC r ∧ StIn W r := by
  match cs, hl with
  | [v0, v1, v2, v3], _ =>
    obtain ⟨y0, y1, y2, y3, n, hd, t0, t1, t2, t3⟩ := step_parts h
    obtain ⟨a0, e0, _, w0⟩ := DataW.trod_int Try.underlying3 t0
    obtain ⟨a1, e1, _, w1⟩ := DataW.trod_int Try.underlying3 t1
    obtain ⟨a2, e2, _, w2⟩ := DataW.trod_int Try.underlying31 t2
    simp at e0 e1 e2
    subst e0 e1 e2
    obtain ⟨so, m, c, zs, rfl, s3, hn3, hc3⟩ := bytes_in t3 (fun n hn => hs n (by
      rw [hd]
      simp only [DataW.weights, Try.underlying34]
      exact DataW.weights_mem_each (j := 3) (t := 32) rfl rfl n hn))
    have hl := s3.len
    subst hl
    exact ⟨⟨⟨a0, a1, a2, zs⟩, so, c⟩, rfl, ⟨s3, hc3, word_of_wf w2, int_of_wf w0, int_of_wf w1, hn3⟩⟩
theorem steps_in {H : Type} {enc : TypeId × Value → H} {W : World} {fuel : Nat} {v : Value} {y : DataW H × List MemPlace} (h : DataW.trod enc Try.prog W 0 (fun _ => true) true fuel 23 [v] = some y)
    (hs : ∀ n ∈ y.1.weights Try.prog 23, n ≤ reachBytes) : ∃ so n c ss, v = .slice so n c ∧ RsS W (.slice so n c) ss ∧ (∀ r ∈ ss, StIn W r) ∧ n < 2932031007402 := by
  rcases open_slice Try.underlying23 h with ⟨hcs, hx⟩ | h
  · simp at hcs
    subst hcs
    exact ⟨none, 0, 0, [], rfl, ⟨none, 0, rfl, fun i hi => (by cases hi)⟩, fun r hr => (by cases hr), by decide⟩
  · obtain ⟨a, len, cap, m, nn, D, Pl, hcs, _, hl, hm, hmm, hx, hcell⟩ := h
    simp at hcs
    subst hcs
    have hmm' : m = cap := by simpa using hmm
    rw [cellsOfS] at hcell
    have hlen : len < 2932031007402 := by
      have h1 := hs ((((List.range len).map D).length + ((List.range (m - len)).map fun j => D (len + j)).length) * Try.prog.bytesOf 34) (by rw [hx]; simp [DataW.weights, Try.underlying23])
      rw [bytesOfS] at h1
      simp only [List.length_map, List.length_range, reachBytes] at h1
      omega
    have hw : ∀ i, i < len → ∀ n ∈ (D i).weights Try.prog 34, n ≤ reachBytes := fun i hi n hn => hs n (by
      rw [hx]
      simp only [DataW.weights, Try.underlying23, List.mem_cons, List.mem_append]
      exact .inr (.inl (weightsAll_mem (List.mem_map.2 ⟨i, List.mem_range.2 hi, rfl⟩) n hn)))
    obtain ⟨f, hf⟩ := choose_lt (n := len) (p := fun i (r : RS) => W.cells? 0 (a.add (i * 4)) 4 = some (rsC r) ∧ StIn W r) (fun i hi => by
      obtain ⟨cs', h1, h2⟩ := hcell i (by omega)
      have hl4 := (World.cells?_some h1).2.1
      obtain ⟨r, rfl, rest⟩ := step_in hl4 h2 (hw i hi)
      exact ⟨r, h1, rest⟩)
    have hgz : ∀ i, i < len → ((List.range len).map f).getD i default = f i := fun i hi => by simp [List.getD, hi]
    have hL : ((List.range len).map f).length = len := by simp
    refine ⟨some a, len, cap, (List.range len).map f, rfl, ⟨some a, cap, by rw [hL], fun i hi => ?_⟩, fun r hr => ?_, hlen⟩
    · rw [hL] at hi
      obtain ⟨b, off, spot⟩ := a
      obtain ⟨h1, _⟩ := hf i hi
      obtain ⟨g1, _⟩ := hf 0 (by omega)
      have hc0 := (World.cells?_some g1).2.2 0 (by decide)
      have hspot : spot = none := by
        have : W.cell? ⟨b, off, spot⟩ = some (.int .i64 (f 0).s.d) := by simpa [Addr.add, rsC, stC] using hc0
        exact World.cell?_spot this
      subst hspot
      have hcs := (World.cells?_some h1).2.2
      rw [hgz i hi]
      have k0 := hcs 0 (by decide)
      have k1 := hcs 1 (by decide)
      have k2 := hcs 2 (by decide)
      have k3 := hcs 3 (by decide)
      rw [add_at, add_at] at k0 k1 k2 k3
      refine ⟨b, off, rfl, World.block_lt_of_cell? _ _ k0, fun j u hj => ?_⟩
      have hj4 : j < 4 := (List.getElem?_eq_some_iff.1 hj).1
      match j, hj4 with
      | 0, _ => simp only [rsC, stC, List.getElem?_cons_zero, Option.some.injEq] at hj; rw [← hj]; exact k0
      | 1, _ => simp only [rsC, stC, List.getElem?_cons_zero, List.getElem?_cons_succ, Option.some.injEq] at hj; rw [← hj]; exact k1
      | 2, _ => simp only [rsC, stC, List.getElem?_cons_zero, List.getElem?_cons_succ, Option.some.injEq] at hj; rw [← hj]; exact k2
      | 3, _ => simp only [rsC, stC, List.getElem?_cons_zero, List.getElem?_cons_succ, Option.some.injEq] at hj; rw [← hj]; exact k3
    · obtain ⟨i, hi, rfl⟩ := List.mem_map.1 hr
      exact (hf i (List.mem_range.1 hi)).2
/-- The parts of a life. -/
theorem life_parts {H : Type} {enc : TypeId × Value → H} {W : World} {base : Nat} {sp : Nat → Bool} {held : Bool} {fuel : Nat} {v0 v1 v2 v3 : Value} {x : DataW H × List MemPlace}
    (h : DataW.trod enc Try.prog W base sp held fuel 25 [v0, v1, v2, v3] = some x) : ∃ (y0 y1 y2 y3 : DataW H × List MemPlace) (n : Nat), x.1 = .agg [y0.1, y1.1, y2.1, y3.1] ∧
      DataW.trod enc Try.prog W base sp held n 3 [v0] = some y0 ∧ DataW.trod enc Try.prog W base sp held n 3 [v1] = some y1 ∧ DataW.trod enc Try.prog W base sp held n 22 [v2] = some y2 ∧ DataW.trod enc Try.prog W base sp held n 23 [v3] = some y3 := by
  obtain ⟨xs, n, _, rfl, _, hlen, hf⟩ := DataW.trod_struct Try.underlying25 h
  match xs, hlen with
  | [y0, y1, y2, y3], _ =>
    refine ⟨y0, y1, y2, y3, n, by simp, ?_, ?_, ?_, ?_⟩
    · simpa [cellsOfI, cellsOfF, cellsOfSs] using hf 0 _ rfl
    · simpa [cellsOfI, cellsOfF, cellsOfSs] using hf 1 _ rfl
    · simpa [cellsOfI, cellsOfF, cellsOfSs] using hf 2 _ rfl
    · simpa [cellsOfI, cellsOfF, cellsOfSs] using hf 3 _ rfl
theorem array4 {α : Type} {cs : Array α} (h : cs.size = 4) : ∃ c0 c1 c2 c3, cs = #[c0, c1, c2, c3] := by
  obtain ⟨l⟩ := cs
  match l, h with
  | [c0, c1, c2, c3], _ => exact ⟨c0, c1, c2, c3, rfl⟩
end Go.Proofs.Ytobcolpdkcppoaa
