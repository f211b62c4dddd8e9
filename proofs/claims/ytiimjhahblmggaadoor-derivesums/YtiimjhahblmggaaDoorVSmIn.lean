/- Lists that came in as an argument, read as data that may be appended. -/
import Derived.Test.YtiimjhahblmggaaDoorVDrawIn
import Derived.Test.YtiimjhahblmggaaDoorVSmA
namespace Go.Proofs.YtiimjhahblmggaaDoor
open Go.ChangeShapes Go.WideShapes Go.ChangeAt Go.RowKit Go.Deep
set_option linter.unusedVariables false
set_option linter.unusedSimpArgs false

theorem lists_inJ {H : Type} {enc : TypeId × Value → H} {W : World} {fuel : Nat} {v : Value} {y : DataW H × List MemPlace} (h : DataW.trod enc Tryd.prog W 0 (fun _ => true) true fuel 23 [v] = some y) (hs : Rows.uptoBulk y.1 ≤ 1048576) :
    ∃ ao n c pss, v = .slice ao n c ∧ SeenJ W ao n pss := by
  rcases open_slice1 Tryd.underlying23 cellsL h with ⟨hcs, hx⟩ | h
  · simp at hcs
    subst hcs
    exact ⟨none, 0, 0, [], rfl, ⟨rfl, by decide, by decide, fun i hi => by omega⟩⟩
  · obtain ⟨a, len, cap, m, nn, V, D, Pl, hcs, _, hl, hm, hmm, hx, hcell⟩ := h
    simp at hcs
    subst hcs
    have hmm' : m = cap := by simpa using hmm
    have hbulk : Rows.uptoBulkAll ((List.range len).map D) + 1 ≤ 1048576 := by
      rw [hx] at hs
      simp only [Rows.uptoBulk] at hs
      omega
    have hD : ∀ i, i < len → Rows.uptoBulk (D i) ≤ 1048576 := fun i hi => by have := bulk_at D len i hi; omega
    obtain ⟨f, hf⟩ := choose_lt (n := len) (p := fun i (zs : List Int) => ∃ (so : Option Addr) (c : Nat), V i = .slice so zs.length c ∧ Seen W so zs.length zs ∧ zs.length + 1 ≤ Rows.uptoBulk (D i) ∧ (so = none → c = 0)) (fun i hi => by
      obtain ⟨h1, h2⟩ := hcell i (by omega)
      obtain ⟨zs, so, c, e1, e2, e3, e4⟩ := list_in h2 (hD i hi)
      exact ⟨zs, so, c, e1, e2, e3, list_none (by rw [← e1]; exact h2)⟩)
    have hlen : len ≤ 1048576 := by
      have := bulk_length ((List.range len).map D)
      simp at this
      omega
    have hgz : ∀ i, i < len → ((List.range len).map f).getD i [] = f i := fun i hi => by simp [List.getD, hi]
    refine ⟨some a, len, cap, (List.range len).map f, rfl, ⟨by simp, hlen, ?_, fun i hi => ?_⟩⟩
    rotate_left
    · obtain ⟨b, off, spot⟩ := a
      have hspot : spot = none := by simpa [Addr.add] using World.cell?_spot (hcell 0 (by omega)).1
      subst hspot
      obtain ⟨so, c, e1, e2, e3, e4⟩ := hf i hi
      obtain ⟨h1, _⟩ := hcell i (by omega)
      rw [add_mid] at h1
      rw [hgz i hi]
      exact ⟨b, off, so, c, rfl, World.block_lt_of_cell? _ _ h1, by rw [h1, e1], e2, e4⟩
    · have := bulk_range D f len len (Nat.le_refl _) (fun i hi => by obtain ⟨_, _, _, _, h, _⟩ := hf i hi; exact h)
      omega
end Go.Proofs.YtiimjhahblmggaaDoor
