/- StreamPlays: steps that came in as an argument, read as data. -/
import Derived.Test.YtpjnimmclncdoaaStrPlW
import Derived.Test.YtpjnimmclncdoaaSBeginIn
import Derived.ProofKit
import Derived.OpenShut
import Derived.ShutString
import Derived.ChangeOld
import Derived.SizedLaws
import Derived.Deep.Slices
namespace Go.Proofs.Ytpjnimmclncdoaa
open Go.ChangeShapes Go.WideShapes Go.ChangeAt Go.RowKit Go.Deep
set_option linter.unusedVariables false
set_option linter.unusedSimpArgs false

theorem bytesOfB : Try.prog.bytesOf 5 = 1 := by kernel_rfl
theorem bytesOfS : Try.prog.bytesOf 43 = 40 := by kernel_rfl
theorem cellsOfS : Try.prog.cellsOf 43 = 3 := by kernel_rfl
theorem cellsOfI : Try.prog.cellsOf 3 = 1 := by kernel_rfl
theorem cellsOfL : Try.prog.cellsOf 41 = 1 := by kernel_rfl
theorem weightsAll_mem {H : Type} {P : Program} {e : TypeId} {l : List (DataW H)} {d : DataW H} (hd : d ∈ l) : ∀ n ∈ d.weights P e, n ∈ DataW.weightsAll P e l := by
  intro n hn
  induction l with
  | nil => cases hd
  | cons x l ih =>
    simp only [DataW.weightsAll, List.mem_append]
    rcases List.mem_cons.1 hd with rfl | h
    · exact .inl hn
    · exact .inr (ih h)
/-- The parts of a step. -/
theorem step_parts {H : Type} {enc : TypeId × Value → H} {W : World} {base : Nat} {sp : Nat → Bool} {held : Bool} {fuel : Nat} {v0 v1 v2 : Value} {x : DataW H × List MemPlace}
    (h : DataW.trod enc Try.prog W base sp held fuel 43 [v0, v1, v2] = some x) : ∃ (y0 y1 y2 : DataW H × List MemPlace) (n : Nat), x.1 = .agg [y0.1, y1.1, y2.1] ∧
      DataW.trod enc Try.prog W base sp held n 3 [v0] = some y0 ∧ DataW.trod enc Try.prog W base sp held n 3 [v1] = some y1 ∧ DataW.trod enc Try.prog W base sp held n 41 [v2] = some y2 := by
  obtain ⟨xs, n, _, rfl, _, hlen, hf⟩ := DataW.trod_struct Try.underlying43 h
  match xs, hlen with
  | [y0, y1, y2], _ =>
    refine ⟨y0, y1, y2, n, by simp, ?_, ?_, ?_⟩
    · simpa [cellsOfI, cellsOfL] using hf 0 _ rfl
    · simpa [cellsOfI, cellsOfL] using hf 1 _ rfl
    · simpa [cellsOfI, cellsOfL] using hf 2 _ rfl
/-- Bytes in a cell. -/
theorem bytes_in {H : Type} {enc : TypeId × Value → H} {W : World} {fuel : Nat} {v : Value} {y : DataW H × List MemPlace} (h : DataW.trod enc Try.prog W 0 (fun _ => true) true fuel 41 [v] = some y)
    (hs : ∀ n ∈ y.1.weights Try.prog 41, n ≤ reachBytes) : ∃ (so : Option Addr) (n c : Nat) (zs : List Int), v = .slice so n c ∧ Seen W so n zs ∧ n ≤ 140737488351232 ∧ (so = none → c = 0) := by
  rcases open_ints Try.underlying41 Try.underlying5 (by kernel_rfl) h with ⟨hcs, _⟩ | ⟨x, l, c, zs, hcs, _, hl, hm, hz, hx, hcell, hwz⟩
  · simp at hcs
    subst hcs
    exact ⟨none, 0, 0, [], rfl, Seen.empty _ _, by decide, fun _ => rfl⟩
  · simp at hcs
    subst hcs
    have hz' : zs.length = c := by simpa using hz
    have h1 := hs (((lits (H := H) .u8 (zs.take l)).length + (lits (H := H) .u8 (zs.drop l)).length) * Try.prog.bytesOf 5) (by rw [hx]; simp [DataW.weights, Try.underlying41])
    rw [bytesOfB] at h1
    simp only [lits, List.length_map, List.length_take, List.length_drop, reachBytes] at h1
    exact ⟨some x, l, c, _, rfl, Seen.of_ints (by omega) hl hz' hcell hwz, by omega, fun h => by cases h⟩
theorem int_of_wf {x : Int} (h : (Lit.int .i64 x).wf = true) : -9223372036854775808 ≤ x ∧ x < 9223372036854775808 := by
  simp [Lit.wf, IntKind.min, IntKind.max, IntKind.signed, IntKind.bits] at h
  omega
/-- What one step in three cells reads as. -/
theorem step_in {H : Type} {enc : TypeId × Value → H} {W : World} {fuel : Nat} {cs : List Value} {y : DataW H × List MemPlace} (hl : cs.length = 3) (h : DataW.trod enc Try.prog W 0 (fun _ => true) true fuel 43 cs = some y)
    (hs : ∀ n ∈ y.1.weights Try.prog 43, n ≤ reachBytes) : ∃ (it : Itm) (so : Option Addr) (c : Nat), cs = [.int .i64 it.d, .int .i64 it.n, .slice so it.data.length c] ∧ Seen W so it.data.length it.data ∧ (so = none → c = 0) ∧
      (-9223372036854775808 ≤ it.n ∧ it.n < 9223372036854775808) ∧ it.data.length ≤ 140737488351232 := by
  match cs, hl with
  | [v0, v1, v2], _ =>
    obtain ⟨y0, y1, y2, n, hd, t0, t1, t2⟩ := step_parts h
    obtain ⟨a0, e0, _, w0⟩ := DataW.trod_int Try.underlying3 t0
    obtain ⟨a1, e1, _, w1⟩ := DataW.trod_int Try.underlying3 t1
    simp at e0 e1
    subst e0 e1
    obtain ⟨so, m, c, zs, rfl, s3, hn3, hc3⟩ := bytes_in t2 (fun n hn => hs n (by
      rw [hd]
      simp only [DataW.weights, Try.underlying43]
      exact DataW.weights_mem_each (j := 2) (t := 41) rfl rfl n hn))
    have hl := s3.len
    subst hl
    exact ⟨⟨a0, a1, zs⟩, so, c, rfl, s3, hc3, int_of_wf w1, hn3⟩
theorem steps_in {H : Type} {enc : TypeId × Value → H} {W : World} {fuel : Nat} {v : Value} {y : DataW H × List MemPlace} (h : DataW.trod enc Try.prog W 0 (fun _ => true) true fuel 29 [v] = some y)
    (hs : ∀ n ∈ y.1.weights Try.prog 29, n ≤ reachBytes) : ∃ ao n c its, v = .slice ao n c ∧ SeenT W ao n its := by
  rcases open_slice Try.underlying29 h with ⟨hcs, hx⟩ | h
  · simp at hcs
    subst hcs
    exact ⟨none, 0, 0, [], rfl, ⟨by decide, fun i hi => by omega, fun i hi => by omega⟩⟩
  · obtain ⟨a, len, cap, m, nn, D, Pl, hcs, _, hl, hm, hmm, hx, hcell⟩ := h
    simp at hcs
    subst hcs
    have hmm' : m = cap := by simpa using hmm
    rw [cellsOfS] at hcell
    have hlen : len ≤ 140737488355328 := by
      have h1 := hs ((((List.range len).map D).length + ((List.range (m - len)).map fun j => D (len + j)).length) * Try.prog.bytesOf 43) (by rw [hx]; simp [DataW.weights, Try.underlying29])
      rw [bytesOfS] at h1
      simp only [List.length_map, List.length_range, reachBytes] at h1
      omega
    have hw : ∀ i, i < len → ∀ n ∈ (D i).weights Try.prog 43, n ≤ reachBytes := fun i hi n hn => hs n (by
      rw [hx]
      simp only [DataW.weights, Try.underlying29, List.mem_cons, List.mem_append]
      exact .inr (.inl (weightsAll_mem (List.mem_map.2 ⟨i, List.mem_range.2 hi, rfl⟩) n hn)))
    obtain ⟨f, hf⟩ := choose_lt (n := len) (p := fun i (it : Itm) => ∃ (so : Option Addr) (c : Nat), W.cells? 0 (a.add (i * 3)) 3 = some [.int .i64 it.d, .int .i64 it.n, .slice so it.data.length c] ∧ Seen W so it.data.length it.data ∧ (so = none → c = 0) ∧
      (-9223372036854775808 ≤ it.n ∧ it.n < 9223372036854775808) ∧ it.data.length ≤ 140737488351232) (fun i hi => by
      obtain ⟨cs', h1, h2⟩ := hcell i (by omega)
      have hl4 := (World.cells?_some h1).2.1
      obtain ⟨it, so, c, rfl, rest⟩ := step_in hl4 h2 (hw i hi)
      exact ⟨it, so, c, h1, rest⟩)
    have hgz : ∀ i, i < len → imAt ((List.range len).map f) i = f i := fun i hi => by simp [imAt, List.getD, hi]
    refine ⟨some a, len, cap, (List.range len).map f, rfl, ⟨hlen, fun i hi => ?_, fun i hi => ?_⟩⟩
    · obtain ⟨b, off, spot⟩ := a
      obtain ⟨so, c, h1, h2, h3, _⟩ := hf i hi
      obtain ⟨so0, c0', g1, _⟩ := hf 0 (by omega)
      have hc0 := (World.cells?_some g1).2.2 0 (by decide)
      have hspot : spot = none := by
        have : W.cell? ⟨b, off, spot⟩ = some (.int .i64 (f 0).d) := by simpa [Addr.add] using hc0
        exact World.cell?_spot this
      subst hspot
      have hcs := (World.cells?_some h1).2.2
      rw [hgz i hi]
      have k0 := hcs 0 (by decide)
      have k1 := hcs 1 (by decide)
      have k2 := hcs 2 (by decide)
      rw [add_at, add_at] at k0 k1 k2
      refine ⟨b, off, so, c, rfl, World.block_lt_of_cell? _ _ k0, k0, k1, k2, h2, h3⟩
    · obtain ⟨so, c, _, _, _, h6, h7⟩ := hf i hi
      rw [hgz i hi]
      exact ⟨h6, h7⟩
end Go.Proofs.Ytpjnimmclncdoaa
