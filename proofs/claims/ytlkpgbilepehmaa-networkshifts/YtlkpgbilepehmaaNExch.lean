/- Layer network: rows of numbers; exchange of two numbers of a row. -/
import Derived.BigRegion
import Derived.Deep.RegionHeld3
import Derived.Test.YtlkpgbilepehmaaNHop
namespace Go.Proofs.Ytlkpgbilepehmaa
open Go.RowKit
set_option linter.unusedVariables false
set_option linter.unusedSimpArgs false

/-- Block g has room for c numbers, begins with the numbers zs, and may be written. -/
def RowI (w : World) (g c : Nat) (zs : List Int) : Prop := ∃ rest : List Value, zs.length + rest.length = c ∧ w.heap[g]? = some (.cells (zs.map (Value.int .i64) ++ rest).toArray 3 (0, 0))
theorem RowI.lt {w : World} {g c : Nat} {zs : List Int} (h : RowI w g c zs) : g < w.heap.size := by
  obtain ⟨rest, _, h⟩ := h
  exact (Array.getElem?_eq_some_iff.1 h).1
theorem RowI.le {w : World} {g c : Nat} {zs : List Int} (h : RowI w g c zs) : zs.length ≤ c := by
  obtain ⟨rest, e, h⟩ := h
  omega
theorem RowI.cell {w : World} {g c : Nat} {zs : List Int} (h : RowI w g c zs) (j : Nat) (hj : j < zs.length) : w.cell? ⟨g, j, none⟩ = some (.int .i64 (zs.getD j 0)) := by
  obtain ⟨rest, _, h⟩ := h
  rw [cell_of_row w g j _ 3 (0, 0) h]
  simp [hj, List.getElem?_append]
theorem RowI.frozen {w : World} {g c : Nat} {zs : List Int} (h : RowI w g c zs) (j : Nat) : w.frozen? ⟨g, j, none⟩ = false := by
  obtain ⟨rest, _, h⟩ := h
  exact frozen_of_row w g j _ 3 h
theorem RowI.set {w : World} {g c : Nat} {zs : List Int} (h : RowI w g c zs) (j : Nat) (hj : j < zs.length) (z : Int) : RowI (w.setCell ⟨g, j, none⟩ (.int .i64 z)) g c (zs.set j z) := by
  obtain ⟨rest, e, h⟩ := h
  refine ⟨rest, by simpa using e, ?_⟩
  rw [heap_setCell_same w g j _ 3 _ h, List.map_set]
  simp [hj]
theorem RowI.block {w w' : World} {g c : Nat} {zs : List Int} (h : RowI w g c zs) (e : w'.heap[g]? = w.heap[g]?) : RowI w' g c zs := by
  obtain ⟨rest, e0, h⟩ := h
  exact ⟨rest, e0, e.trans h⟩
/-- Two numbers of a row trade places. -/
def trade (zs : List Int) (i j : Nat) : List Int := (zs.set i (zs.getD j 0)).set j (zs.getD i 0)
theorem trade_length (zs : List Int) (i j : Nat) : (trade zs i j).length = zs.length := by simp [trade]
set_option maxRecDepth 20000 in
set_option maxHeartbeats 1000000 in
theorem exch_any (g n c i j : Nat) (zs : List Int) (w : World) (hr : RowI w g c zs) (hl : zs.length = n) (hi : i < n) (hj : j < n) (hij : i ≠ j) (hn : n ≤ 65536) :
    Calls Try.prog 43 #[.slice (some ⟨g, 0, none⟩) n c, .int .i64 i, .int .i64 j] w fun e w' => (∃ v, e = .returned v) ∧ w' = ((w.setCell ⟨g, i, none⟩ (.int .i64 (zs.getD j 0))).setCell ⟨g, j, none⟩ (.int .i64 (zs.getD i 0))).drew := by
  have c1 := hr.cell i (by omega)
  have c2 := hr.cell j (by omega)
  have f1 := hr.frozen i
  have f2 := hr.frozen j
  obtain ⟨a, ha⟩ : ∃ a, zs.getD i 0 = a := ⟨_, rfl⟩
  obtain ⟨b, hb⟩ : ∃ b, zs.getD j 0 = b := ⟨_, rfl⟩
  rw [ha] at c1 ⊢
  rw [hb] at c2 ⊢
  clear ha hb hl
  go_enter Try.func43, Try.ntmps43
  go_wp2
  go_region_with (fail)
  all_goals
    go_end0
    exact ⟨⟨_, rfl⟩, rfl⟩
theorem exch_row (g n c i j : Nat) (zs : List Int) (w : World) (hr : RowI w g c zs) (hl : zs.length = n) (hi : i < n) (hj : j < n) (hij : i ≠ j) (hn : n ≤ 65536) :
    Calls Try.prog 43 #[.slice (some ⟨g, 0, none⟩) n c, .int .i64 i, .int .i64 j] w fun e w' => (∃ v, e = .returned v) ∧ RowI w' g c (trade zs i j) ∧ w.grownBy w' (some g) := by
  refine (exch_any g n c i j zs w hr hl hi hj hij hn).mono ?_
  rintro e w' ⟨he, rfl⟩
  refine ⟨he, ?_, ?_⟩
  · exact ((hr.set i (by omega) _).set j (by simp; omega) _)
  · refine ⟨rfl, rfl, rfl, by simp [World.setCell, World.drew], fun k hk hne => ?_⟩
    have h1 : k ≠ g := fun e => hne (by rw [e])
    show ((w.setCell _ _).setCell _ _).heap[k]? = _
    rw [Below.heap_setCell _ _ _ _ h1, Below.heap_setCell _ _ _ _ h1]
end Go.Proofs.Ytlkpgbilepehmaa
