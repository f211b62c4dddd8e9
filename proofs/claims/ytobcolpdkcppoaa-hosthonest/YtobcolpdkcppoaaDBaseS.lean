/- Layer digest's ground where layer stream's lies in the seat too. -/
import Derived.Test.YtobcolpdkcppoaaSBase
import Derived.Test.YtobcolpdkcppoaaDRot
import Derived.Test.YtobcolpdkcppoaaSSlice
import Derived.Test.YtobcolpdkcppoaaSCopy
import Derived.Test.YtobcolpdkcppoaaSHeld
import Derived.Test.YtobcolpdkcppoaaTSeenP
namespace Go.Proofs.Ytobcolpdkcppoaa
open Go.RowKit
set_option linter.unusedVariables false
set_option linter.unusedSimpArgs false
theorem seenP3 (W : World) (s1 s2 s3 : Option Addr) (c1 c2 c3 : Nat) (z1 z2 z3 : List Int) (h1 : Seen W s1 z1.length z1) (h2 : Seen W s2 z2.length z2) (h3 : Seen W s3 z3.length z3) (l1 : z1.length ≤ c1) (l2 : z2.length ≤ c2) (l3 : z3.length ≤ c3) :
    SeenP (W.alloc (.cells #[.slice s1 z1.length c1, .slice s2 z2.length c2, .slice s3 z3.length c3] 32)) (some ⟨W.heap.size, 0, none⟩) 3 [z1, z2, z3] := by
  have hb : Below W.heap.size W (W.alloc (.cells #[.slice s1 z1.length c1, .slice s2 z2.length c2, .slice s3 z3.length c3] 32)) := (Below.refl _ _).alloc (Nat.le_refl _) _
  have hh : (W.alloc (.cells #[.slice s1 z1.length c1, .slice s2 z2.length c2, .slice s3 z3.length c3] 32)).heap[W.heap.size]? = some (.cells [.slice s1 z1.length c1, .slice s2 z2.length c2, .slice s3 z3.length c3].toArray 32 (0, 0)) := heap_alloc_new W _
  refine ⟨rfl, fun i hi => ?_⟩
  rcases (by omega : i = 0 ∨ i = 1 ∨ i = 2) with rfl | rfl | rfl
  · exact ⟨_, 0, s1, c1, rfl, by simp, by rw [cell_of_row _ _ _ _ _ _ hh]; rfl, h1.later hb (Nat.le_refl _), l1⟩
  · exact ⟨_, 0, s2, c2, rfl, by simp, by rw [cell_of_row _ _ _ _ _ _ hh]; rfl, h2.later hb (Nat.le_refl _), l2⟩
  · exact ⟨_, 0, s3, c3, rfl, by simp, by rw [cell_of_row _ _ _ _ _ _ hh]; rfl, h3.later hb (Nat.le_refl _), l3⟩
end Go.Proofs.Ytobcolpdkcppoaa
