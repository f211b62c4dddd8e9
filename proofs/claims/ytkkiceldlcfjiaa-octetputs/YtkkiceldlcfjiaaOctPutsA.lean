/- For every row of bytes and word: numbers of each width are laid behind all bytes as the document says, either way round; what is handed in stays as it is; answers are new memory: trystlaw02.OctetPuts returns true. No condition. -/
import Derived.Test.YtkkiceldlcfjiaaORef
import Derived.Test.YtkkiceldlcfjiaaOApartW
import Derived.ProofKit
import Derived.OpenShut
import Derived.ShutString
import Derived.ChangeOld
import Derived.SizedLaws
namespace Go.Proofs.Ytkkiceldlcfjiaa.octetPuts
open Go.ChangeShapes Go.WideShapes Go.ChangeAt Go.RowKit
set_option linter.unusedVariables false
set_option linter.unusedSimpArgs false

/-- List j: the number's width, its bytes. -/
def wid (j : Nat) : Nat := 2 ^ (j / 4)
def lst (zs : List Int) (x : Int) (j : Nat) : List Int := zs ++ (if j % 2 = 0 then leB (wid j) x else (leB (wid j) x).reverse)
theorem lst_length (zs : List Int) (x : Int) (j : Nat) : (lst zs x j).length = zs.length + wid j := by
  unfold lst; split <;> simp [leB_length]
theorem lst_bytes (zs : List Int) (h : Bytes zs) (x : Int) (j : Nat) : Bytes (lst zs x j) := by
  unfold lst
  split
  · exact bytes_app h (leB_bytes _ _)
  · exact bytes_app h (bytes_rev (leB_bytes _ _))
theorem one_two (a b : Option Addr) (n m c d : Nat) : ∀ u ∈ [Value.slice a n c, Value.slice b m d], u.oneCell' = true := by
  intro u hu
  simp at hu
  rcases hu with rfl | rfl <;> rfl
theorem cell_two (w : World) (x y : Value) (t : TypeId) : ∀ j u, [x, y][j]? = some u → (w.alloc (.cells #[x, y] t)).cell? ((⟨w.heap.size, 0, none⟩ : Addr).add j) = some u := by
  intro j u hj
  rw [add_at, Nat.zero_add]
  have h : (w.alloc (.cells #[x, y] t)).heap[w.heap.size]? = some (.cells [x, y].toArray t (0, 0)) := heap_alloc_new w _
  rw [cell_of_row _ _ j _ t (0, 0) h]
  simpa using hj

theorem own_form {w : World} {base : Nat} {e : TypeId} {v : Value} {n : Nat} {xs : List Value} (h : w.ownsRow base e 1 v n xs) : ∃ vo cv, v = .slice vo n cv := by
  rcases h.2 with ⟨rfl, rfl⟩ | ⟨g, cap, cur, rfl, _⟩
  · exact ⟨none, 0, rfl⟩
  · exact ⟨_, cap, rfl⟩
/-- A list of lists under way: its headers in a row of its own, each list in a row of its own, all apart. -/
structure Pile (base : Nat) (w : World) (v : Value) (k : Nat) (V : Nat → Option Addr) (cap : Nat → Nat) (f : Nat → List Int) : Prop where
  outer : w.ownsRow base 22 1 v k ((List.range k).map fun j => .slice (V j) (f j).length (cap j))
  inner : ∀ j, j < k → w.ownsRow base 5 1 (.slice (V j) (f j).length (cap j)) (f j).length ((f j).map (Value.int .u8))
  apart : ∀ j j' g, j < k → j' < k → V j = some ⟨g, 0, none⟩ → V j' = some ⟨g, 0, none⟩ → j = j'
theorem Pile.later {base : Nat} {w w' : World} {v : Value} {k : Nat} {V : Nat → Option Addr} {cap : Nat → Nat} {f : Nat → List Int} (h : Pile base w v k V cap f) {B : Nat} (hb : Below B w w') (hB : w.heap.size ≤ B) : Pile base w' v k V cap f :=
  ⟨own_block h.outer fun x hx => hb.block x (Nat.lt_of_lt_of_le (h.outer.lt x hx).2 hB), fun j hj => own_block (h.inner j hj) fun x hx => hb.block x (Nat.lt_of_lt_of_le ((h.inner j hj).lt x hx).2 hB), h.apart⟩
theorem list_block {w : World} {base b2 : Nat} {v : Value} {k : Nat} {hd : List Value} {ao : Option Addr} {n c : Nat} {xs : List Value} (ho : w.ownsRow base 22 1 v k hd) (hi : w.ownsRow b2 5 1 (.slice ao n c) n xs) : ∀ x, (Value.slice ao n c).ownBlock = some x → some x ≠ v.ownBlock := by
  intro x hx e
  rcases hi.2 with ⟨h1, _⟩ | ⟨g, cap, cur, h1, _, hh, _⟩
  · rw [h1] at hx; cases hx
  · rw [h1] at hx
    simp [Value.ownBlock] at hx
    subst hx
    rcases ho.2 with ⟨rfl, _⟩ | ⟨g', cap', cur', rfl, _, hh', _⟩
    · cases e
    · simp [Value.ownBlock] at e
      subst e
      rw [hh] at hh'
      simp at hh'
theorem Pile.add {base : Nat} {w w1 w2 w3 : World} {v v' : Value} {k : Nat} {V : Nat → Option Addr} {cap : Nat → Nat} {f : Nat → List Int} (h : Pile base w v k V cap f) (hb : base ≤ w.heap.size)
    {a1 a2 : Option Addr} {c1 c2 : Nat} (h1 : w1.ownsRow w.heap.size 5 1 (.slice a1 (f k).length c1) (f k).length ((f k).map (Value.int .u8))) (b1 : Below w.heap.size w w1)
    (h2 : w2.ownsRow w1.heap.size 5 1 (.slice a2 (f (k + 1)).length c2) (f (k + 1)).length ((f (k + 1)).map (Value.int .u8))) (b2 : Below w1.heap.size w1 w2)
    (ho : w3.ownsRow base 22 1 v' (k + 2) (((List.range k).map fun j => .slice (V j) (f j).length (cap j)) ++ [.slice a1 (f k).length c1, .slice a2 (f (k + 1)).length c2]))
    (hg : (w2.alloc (.cells #[.slice a1 (f k).length c1, .slice a2 (f (k + 1)).length c2] 22)).grownBy w3 v.ownBlock) :
    ∃ V' cap', Pile base w3 v' (k + 2) V' cap' f ∧ ∀ j g, j < k + 2 → V' j = some ⟨g, 0, none⟩ → (j < k ∧ V j = some ⟨g, 0, none⟩) ∨ w.heap.size ≤ g := by
  have hp2 := (h.later b1 (Nat.le_refl _)).later b2 (Nat.le_refl _)
  have h12 : w2.ownsRow w.heap.size 5 1 (.slice a1 (f k).length c1) (f k).length ((f k).map (Value.int .u8)) := ownsRow_below h1 b2
  have z1 := b1.size
  refine ⟨fun j => if j = k then a1 else if j = k + 1 then a2 else V j, fun j => if j = k then c1 else if j = k + 1 then c2 else cap j, ⟨?_, ?_, ?_⟩, ?_⟩
  · have e : ((List.range (k + 2)).map fun j => Value.slice (if j = k then a1 else if j = k + 1 then a2 else V j) (f j).length (if j = k then c1 else if j = k + 1 then c2 else cap j)) = ((List.range k).map fun j => .slice (V j) (f j).length (cap j)) ++ [.slice a1 (f k).length c1, .slice a2 (f (k + 1)).length c2] := by
      rw [List.range_succ, List.range_succ, List.map_append, List.map_append, List.append_assoc]
      congr 1
      · apply List.map_congr_left
        intro j hj
        have := List.mem_range.1 hj
        rw [if_neg (by omega), if_neg (by omega), if_neg (by omega), if_neg (by omega)]
      · simp
    show w3.ownsRow base 22 1 v' (k + 2) ((List.range (k + 2)).map fun j => Value.slice (if j = k then a1 else if j = k + 1 then a2 else V j) (f j).length (if j = k then c1 else if j = k + 1 then c2 else cap j))
    rw [e]; exact ho
  · intro j hj
    have keep : ∀ {ao : Option Addr} {n c : Nat} {xs : List Value} {b : Nat}, w2.ownsRow b 5 1 (.slice ao n c) n xs → w3.ownsRow b 5 1 (.slice ao n c) n xs := fun hi => own_block (hi.alloc _) fun x hx => hg.block x ((hi.alloc _).lt x hx).2 (list_block hp2.outer hi x hx)
    show w3.ownsRow base 5 1 (.slice (if j = k then a1 else if j = k + 1 then a2 else V j) (f j).length (if j = k then c1 else if j = k + 1 then c2 else cap j)) (f j).length ((f j).map (Value.int .u8))
    by_cases e1 : j = k
    · subst e1
      rw [if_pos rfl, if_pos rfl]
      exact keep (ownsRow_base h12 hb)
    · by_cases e2 : j = k + 1
      · subst e2
        rw [if_neg (by omega), if_pos rfl, if_neg (by omega), if_pos rfl]
        exact keep (ownsRow_base h2 (by omega))
      · rw [if_neg e1, if_neg e2, if_neg e1, if_neg e2]
        exact keep (hp2.inner j (by omega))
  · intro j j' g hj hj' e e'
    have old : ∀ i, i < k → V i = some ⟨g, 0, none⟩ → g < w.heap.size := fun i hi hv => by
      have := h.inner i hi
      rw [hv] at this
      exact (this.lt g rfl).2
    have n1 : a1 = some ⟨g, 0, none⟩ → w.heap.size ≤ g ∧ g < w1.heap.size := fun hv => by rw [hv] at h1; exact h1.lt g rfl
    have n2 : a2 = some ⟨g, 0, none⟩ → w1.heap.size ≤ g := fun hv => by rw [hv] at h2; exact (h2.lt g rfl).1
    try dsimp only at e e'
    by_cases e1 : j = k
    · rw [if_pos e1] at e
      have := n1 e
      by_cases f1 : j' = k
      · omega
      · rw [if_neg f1] at e'
        by_cases f2 : j' = k + 1
        · rw [if_pos f2] at e'; have := n2 e'; omega
        · rw [if_neg f2] at e'; have := old j' (by omega) e'; omega
    · rw [if_neg e1] at e
      by_cases e2 : j = k + 1
      · rw [if_pos e2] at e
        have := n2 e
        by_cases f1 : j' = k
        · rw [if_pos f1] at e'; have := n1 e'; omega
        · rw [if_neg f1] at e'
          by_cases f2 : j' = k + 1
          · omega
          · rw [if_neg f2] at e'; have := old j' (by omega) e'; omega
      · rw [if_neg e2] at e
        have := old j (by omega) e
        by_cases f1 : j' = k
        · rw [if_pos f1] at e'; have := n1 e'; omega
        · rw [if_neg f1] at e'
          by_cases f2 : j' = k + 1
          · rw [if_pos f2] at e'; have := n2 e'; omega
          · rw [if_neg f2] at e'
            exact h.apart j j' g (by omega) (by omega) e e'
  · intro j g hj e
    try dsimp only at e
    by_cases e1 : j = k
    · rw [if_pos e1] at e
      rw [e] at h1
      exact .inr (h1.lt g rfl).1
    · rw [if_neg e1] at e
      by_cases e2 : j = k + 1
      · rw [if_pos e2] at e
        rw [e] at h2
        have := (h2.lt g rfl).1
        exact .inr (by omega)
      · rw [if_neg e2] at e
        exact .inl ⟨by omega, e⟩
/-- Another pile's headers have grown. -/
theorem Pile.beside {base b2 : Nat} {w w' : World} {v u : Value} {k k2 : Nat} {V : Nat → Option Addr} {cap : Nat → Nat} {f : Nat → List Int} {hd : List Value} {o : Obj} (h : Pile base w v k V cap f) (hu : w.ownsRow b2 22 1 u k2 hd) (hne : ∀ x, v.ownBlock = some x → u.ownBlock ≠ some x) (hg : (w.alloc o).grownBy w' u.ownBlock) : Pile base w' v k V cap f :=
  ⟨own_block (h.outer.alloc o) fun x hx => hg.block x ((h.outer.alloc o).lt x hx).2 (fun e => hne x hx e.symm), fun j hj => own_block ((h.inner j hj).alloc o) fun x hx => hg.block x (((h.inner j hj).alloc o).lt x hx).2 (list_block hu (h.inner j hj) x hx), h.apart⟩
end Go.Proofs.Ytkkiceldlcfjiaa.octetPuts
