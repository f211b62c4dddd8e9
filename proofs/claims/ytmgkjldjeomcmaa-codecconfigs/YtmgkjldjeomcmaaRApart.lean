/- The document's Apart, over a Lot. -/
import Derived.Test.YtmgkjldjeomcmaaOApartW
namespace Go.Proofs.Ytmgkjldjeomcmaa
open Go.RowKit
set_option linter.unusedVariables false
set_option linter.unusedSimpArgs false

def mkR (j t : Nat) : Int := (31 * (j : Int) + 7 * (t : Int) + 1) % 256
/-- The list k, full of its marks; and grown m times. -/
def fulR (len : Nat → Nat) (j : Nat) : List Int := (List.range (len j)).map (mkR j)
def groR (len : Nat → Nat) (j m : Nat) : List Int := (List.range (len j + m)).map (mkR j)
theorem fulR_length (len : Nat → Nat) (j : Nat) : (fulR len j).length = len j := by simp [fulR]
theorem groR_length (len : Nat → Nat) (j m : Nat) : (groR len j m).length = len j + m := by simp [groR]
theorem groR_succ (len : Nat → Nat) (j m : Nat) : (groR len j (m + 1)).map (Value.int .u8) = (groR len j m).map (Value.int .u8) ++ [.int .u8 (mkR j (len j + m))] := by
  rw [groR, groR, ← Nat.add_assoc, List.range_succ, List.map_append, List.map_append]; rfl
theorem groR_zero (len : Nat → Nat) (j : Nat) : groR len j 0 = fulR len j := rfl
theorem groR_app (len : Nat → Nat) (j m : Nat) : groR len j m = fulR len j ++ (List.range m).map (fun t => mkR j (len j + t)) := by
  rw [groR, fulR, List.range_add, List.map_append, List.map_map]; rfl
theorem fulR_at (len : Nat → Nat) (j t : Nat) (ht : t < len j) : (fulR len j).getD t 0 = mkR j t := by simp [fulR, List.getD, ht]
theorem groR_at (len : Nat → Nat) (j m t : Nat) (ht : t < len j + m) : (groR len j m).getD t 0 = mkR j t := by simp [groR, List.getD, ht]
/-- The lists that were grown, i of them. -/
structure GrewR (base : Nat) (w : World) (gv : Value) (i : Nat) (V : Nat → Option Addr) (len : Nat → Nat) (hd : List Value) : Prop where
  outer : w.ownsRow base 22 1 gv i hd
  inner : ∀ j, j < i → ∃ g cap, hd[j]? = some (.slice (some ⟨g, 0, none⟩) (len j + 70) cap) ∧ RowAt w g (groR len j 70) ∧ (base ≤ g ∨ V j = some ⟨g, 0, none⟩)
theorem GrewR.step {base n : Nat} {w w1 w2 : World} {gv gv' : Value} {i : Nat} {V : Nat → Option Addr} {len : Nat → Nat} {hd : List Value} {g cap : Nat} (h : GrewR base w gv i V len hd)
    (hap : ∀ j j' g, j < n → j' < n → V j = some ⟨g, 0, none⟩ → V j' = some ⟨g, 0, none⟩ → j = j') (hin : i < n) (hlt : ∀ g, V i = some ⟨g, 0, none⟩ → g < base)
    (hK : Kept (fun b => V i = some ⟨b, 0, none⟩) w w1) (hr : RowAt w1 g (groR len i 70)) (hgb : base ≤ g ∨ V i = some ⟨g, 0, none⟩)
    (ho : w2.ownsRow base 22 1 gv' (i + 1) (hd ++ [.slice (some ⟨g, 0, none⟩) (len i + 70) cap])) (hg : (w1.alloc (.cells #[.slice (some ⟨g, 0, none⟩) (len i + 70) cap] 22)).grownBy w2 gv.ownBlock) (ho1 : w1.ownsRow base 22 1 gv i hd) :
    GrewR base w2 gv' (i + 1) V len (hd ++ [.slice (some ⟨g, 0, none⟩) (len i + 70) cap]) := by
  have hl : hd.length = i := by have := h.outer.1; omega
  have keep : ∀ g zs, RowAt w1 g zs → RowAt w2 g zs := fun g zs h => row_grown (h.alloc _) hg (row_ne h ho1)
  refine ⟨ho, fun j hj => ?_⟩
  by_cases hji : j < i
  · obtain ⟨g', cap', e', hr', hb'⟩ := h.inner j hji
    refine ⟨g', cap', by rw [List.getElem?_append_left (by omega)]; exact e', keep _ _ (hr'.kept hK ?_), hb'⟩
    intro e
    rcases hb' with hb' | hb'
    · have := hlt g' e; omega
    · have := hap j i g' (by omega) hin hb' e; omega
  · have e : j = i := by omega
    subst e
    exact ⟨g, cap, by rw [List.getElem?_append_right (by omega)]; simp [hl], keep _ _ hr, hgb⟩
end Go.Proofs.Ytmgkjldjeomcmaa
