/- Layer digest: arguments read as data under the bulk's bound; the witness's world. -/
import Derived.Test.YtiimjhahblmggaaDoorDLaid
import Derived.Test.YtiimjhahblmggaaDoorCards
import Derived.Test.YtiimjhahblmggaaDoorTie
import Derived.Deep.Slices
import Derived.JoinedCond
import Derived.Deep.DeepHandedRow
namespace Go.Proofs.YtiimjhahblmggaaDoor
open Go.ChangeShapes Go.WideShapes Go.ChangeAt Go.RowKit Go.Deep
set_option linter.unusedVariables false
set_option linter.unusedSimpArgs false

theorem own : ownKnob Tryd.prog.godebug = none := by kernel_rfl
theorem laidOut : laidOutB Tryd.prog = true := by kernel_rfl
theorem bulk_append {H : Type} (l r : List (DataW H)) : Rows.uptoBulkAll (l ++ r) = Rows.uptoBulkAll l + Rows.uptoBulkAll r := by
  induction l with
  | nil => simp [Rows.uptoBulkAll]
  | cons x l ih => simp only [List.cons_append, Rows.uptoBulkAll, ih]; omega
theorem bulk_one {H : Type} (d : DataW H) : 1 ≤ Rows.uptoBulk d := by
  cases d with
  | lit l => cases l <;> simp [Rows.uptoBulk]
  | _ => simp [Rows.uptoBulk]
theorem bulk_length {H : Type} (l : List (DataW H)) : l.length ≤ Rows.uptoBulkAll l := by
  induction l with
  | nil => simp [Rows.uptoBulkAll]
  | cons x r ih => have := bulk_one x; simp only [Rows.uptoBulkAll, List.length_cons]; omega
theorem bulk_range {H : Type} (D : Nat → DataW H) (f : Nat → List Int) (len k : Nat) (hk : k ≤ len) (h : ∀ i, i < len → (f i).length + 1 ≤ Rows.uptoBulk (D i)) : ((List.range k).map f).flatten.length ≤ Rows.uptoBulkAll ((List.range k).map D) := by
  induction k with
  | zero => simp
  | succ k ih =>
    have h1 := ih (by omega)
    have h2 := h k (by omega)
    rw [List.range_succ, List.map_append, List.map_append, bulk_append, List.flatten_append, List.length_append]
    simp only [List.map_cons, List.map_nil, Rows.uptoBulkAll, List.flatten_cons, List.flatten_nil, List.append_nil]
    omega
theorem bulk_at {H : Type} (D : Nat → DataW H) (len i : Nat) (hi : i < len) : Rows.uptoBulk (D i) ≤ Rows.uptoBulkAll ((List.range len).map D) := by
  have key : ∀ k, k ≤ len → i < k → Rows.uptoBulk (D i) ≤ Rows.uptoBulkAll ((List.range k).map D) := by
    intro k
    induction k with
    | zero => intro _ h; omega
    | succ k ih =>
      intro hk hik
      rw [List.range_succ, List.map_append, bulk_append]
      simp only [List.map_cons, List.map_nil, Rows.uptoBulkAll]
      by_cases e : i = k
      · subst e; omega
      · have := ih (by omega) (by omega); omega
  exact key len (Nat.le_refl _) hi
theorem cellsL : Tryd.prog.cellsOf 22 = 1 := by kernel_rfl
theorem cellsB : Tryd.prog.cellsOf 5 = 1 := by kernel_rfl
/-- A list in a cell. -/
theorem list_in {H : Type} {enc : TypeId × Value → H} {W : World} {fuel : Nat} {v : Value} {y : DataW H × List MemPlace} (h : DataW.trod enc Tryd.prog W 0 (fun _ => true) true fuel 22 [v] = some y) (hs : Rows.uptoBulk y.1 ≤ 1048576) :
    ∃ (zs : List Int) (so : Option Addr) (c : Nat), v = .slice so zs.length c ∧ Seen W so zs.length zs ∧ zs.length + 1 ≤ Rows.uptoBulk y.1 ∧ zs.length ≤ c := by
  rcases open_ints Tryd.underlying22 Tryd.underlying5 cellsB h with ⟨hcs, hx⟩ | ⟨x, l, c, zs, hcs, _, hl, hm, hz, hx, hcell, hwz⟩
  · simp at hcs
    subst hcs
    exact ⟨[], none, 0, rfl, Seen.empty _ _, by rw [hx]; simp [Rows.uptoBulk], Nat.le_refl _⟩
  · simp at hcs
    subst hcs
    have hz' : zs.length = c := by simpa using hz
    have hlz : (zs.take l).length = l := by simp; omega
    have hb : l + 1 ≤ Rows.uptoBulk y.1 := by
      rw [hx]
      have h1 := bulk_length (lits (H := H) .u8 (zs.take l))
      simp only [lits, List.length_map] at h1
      simp only [Rows.uptoBulk, lits]
      omega
    refine ⟨zs.take l, some x, c, by rw [hlz], ?_, by rw [hlz]; exact hb, by omega⟩
    rw [hlz]
    exact Seen.of_ints (by omega) hl hz' hcell hwz
/-- Lists in an argument. -/
theorem lists_in {H : Type} {enc : TypeId × Value → H} {W : World} {fuel : Nat} {v : Value} {y : DataW H × List MemPlace} (h : DataW.trod enc Tryd.prog W 0 (fun _ => true) true fuel 23 [v] = some y) (hs : Rows.uptoBulk y.1 ≤ 1048576) :
    ∃ ao n c pss, v = .slice ao n c ∧ SeenP W ao n pss ∧ n ≤ 1048576 ∧ pss.flatten.length ≤ 1048576 ∧ n ≤ c := by
  rcases open_slice1 Tryd.underlying23 cellsL h with ⟨hcs, hx⟩ | h
  · simp at hcs
    subst hcs
    exact ⟨none, 0, 0, [], rfl, ⟨rfl, fun i hi => by omega⟩, by decide, by decide, by decide⟩
  · obtain ⟨a, len, cap, m, nn, V, D, Pl, hcs, _, hl, hm, hmm, hx, hcell⟩ := h
    simp at hcs
    subst hcs
    have hmm' : m = cap := by simpa using hmm
    have hbulk : Rows.uptoBulkAll ((List.range len).map D) + 1 ≤ 1048576 := by
      rw [hx] at hs
      simp only [Rows.uptoBulk] at hs
      omega
    have hD : ∀ i, i < len → Rows.uptoBulk (D i) ≤ 1048576 := fun i hi => by have := bulk_at D len i hi; omega
    obtain ⟨f, hf⟩ := choose_lt (n := len) (p := fun i (zs : List Int) => ∃ (so : Option Addr) (c : Nat), V i = .slice so zs.length c ∧ Seen W so zs.length zs ∧ zs.length + 1 ≤ Rows.uptoBulk (D i) ∧ zs.length ≤ c) (fun i hi => by
      obtain ⟨h1, h2⟩ := hcell i (by omega)
      obtain ⟨zs, so, c, e1, e2, e3, e4⟩ := list_in h2 (hD i hi)
      exact ⟨zs, so, c, e1, e2, e3, e4⟩)
    have hlen : len ≤ 1048576 := by
      have := bulk_length ((List.range len).map D)
      simp at this
      omega
    have hgz : ∀ i, i < len → ((List.range len).map f).getD i [] = f i := fun i hi => by simp [List.getD, hi]
    refine ⟨some a, len, cap, (List.range len).map f, rfl, ⟨by simp, fun i hi => ?_⟩, hlen, ?_, hl⟩
    · obtain ⟨b, off, spot⟩ := a
      have hspot : spot = none := by simpa [Addr.add] using World.cell?_spot (hcell 0 (by omega)).1
      subst hspot
      obtain ⟨so, c, e1, e2, e3, e4⟩ := hf i hi
      obtain ⟨h1, _⟩ := hcell i (by omega)
      rw [add_mid] at h1
      rw [hgz i hi]
      exact ⟨b, off, so, c, rfl, World.block_lt_of_cell? _ _ h1, by rw [h1, e1], e2, e4⟩
    · have := bulk_range D f len len (Nat.le_refl _) (fun i hi => by obtain ⟨_, _, _, _, h, _⟩ := hf i hi; exact h)
      omega
/-- The door's own heap meets the condition, as a row asks it. -/
theorem door_plain (os : Os) (args : Array Value) : laidMet Tryd.prog laidK ((World.doorLaid Tryd.prog 14 os).forCall (fun _ _ => 0) ⟨#[], args, []⟩).memory := laidMet_of_run' 8 (by kernel_rfl) (by kernel_rfl)
end Go.Proofs.YtiimjhahblmggaaDoor
