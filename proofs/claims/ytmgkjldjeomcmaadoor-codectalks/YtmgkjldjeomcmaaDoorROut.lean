/- Answers that are told: a row of one's own between two moments; lists that were lent. -/
import Derived.Test.YtmgkjldjeomcmaaDoorOApartW
import Derived.Test.YtmgkjldjeomcmaaDoorOMake
import Derived.Test.YtmgkjldjeomcmaaDoorSBase
import Derived.Test.YtmgkjldjeomcmaaDoorDCopy
namespace Go.Proofs.YtmgkjldjeomcmaaDoor
open Go.RowKit
set_option linter.unusedVariables false
set_option linter.unusedSimpArgs false

/-- A row that was handed out, in blocks from lo on, below hi. -/
structure Out (W : World) (lo hi : Nat) (vo : Option Addr) (n cap : Nat) (L : List Int) : Prop where
  own : W.ownsRow 0 5 1 (.slice vo n cap) n (L.map (Value.int .u8))
  seen : Seen W vo n L
  place : ∀ b o, vo = some ⟨b, o, none⟩ → lo ≤ b ∧ b < hi
  nil : vo = none → cap = 0
theorem out_of {W W' : World} {v : Value} {n : Nat} {L : List Int} (hl : L.length = n) (hb : Bytes L) (ht : n ≤ 140737488355328) (h : W'.ownsRow W.heap.size 5 1 v n (L.map (Value.int .u8))) : ∃ vo cap, v = .slice vo n cap ∧ Out W' W.heap.size W'.heap.size vo n cap L := by
  rcases own_len hl h with ⟨rfl, rfl⟩ | ⟨g, cap, rfl, r1, g1, c1, m1⟩
  · exact ⟨none, 0, rfl, ownsRow_base h (Nat.zero_le _), by rw [List.length_eq_zero_iff.1 hl]; exact Seen.empty _ _, fun b o e => (by cases e), fun _ => rfl⟩
  · have s := Seen.of_row (n := n) r1 (by omega) ht hb
    rw [List.take_of_length_le (by omega)] at s
    exact ⟨_, cap, rfl, ownsRow_base h (Nat.zero_le _), s, fun b o e => (by cases e; exact ⟨g1, r1.lt⟩), fun e => (by cases e)⟩
theorem Out.kept {W W' : World} {lo hi n cap : Nat} {vo : Option Addr} {L : List Int} {S : Nat → Prop} (h : Out W lo hi vo n cap L) (hk : Kept S W W') (hS : ∀ y, lo ≤ y → y < hi → ¬ S y) : Out W' lo hi vo n cap L :=
  ⟨own_kept h.own hk (fun k e => by have := own_addr h.own e; have p := h.place k 0 this; exact hS k p.1 p.2), h.seen.kept hk (fun b o _ e => hS b (h.place b o e).1 (h.place b o e).2), h.place, h.nil⟩
theorem Out.later {W W' : World} {lo hi n cap : Nat} {vo : Option Addr} {L : List Int} (h : Out W lo hi vo n cap L) (l : Below W.heap.size W W') : Out W' lo hi vo n cap L := h.kept (Kept.new (fun _ => False) l) (fun _ _ _ => id)
theorem obs2 (s1 s2 : Option Addr) (n1 n2 c1 c2 : Nat) (w : World) : (Instr.buildSlice 54 2 #[(0, .slice s1 n1 c1), (1, .slice s2 n2 c2)]).run Tryd.prog w = .ok (.slice (some ⟨w.heap.size, 0, none⟩) 2 2) (w.alloc (.cells #[.slice s1 n1 c1, .slice s2 n2 c2] 24)) := by kernel_rfl
theorem wpList_bs {ops : Array Oper} {rest : List Oper} {o : Oper} {a : Act} {Q : Exit → Act → World → Prop} {w : World} (hgd : o.guard = none) (t : TypeId) (m : Nat) (parts : Array (Nat × Operand)) (ho : o.op = .buildSlice t m parts) (ps : Array (Nat × Value))
    (hp : (parts.map fun (i, x) => (i, a.eval x)) = ps) (v : Value) (w' : World) (hrun : (Instr.buildSlice t m ps).run Tryd.prog w = .ok v w') (h : wpList Tryd.prog ops Q rest (a.put o.dst v) w') : wpList Tryd.prog ops Q (o :: rest) a w := by
  refine wpList_plain hgd fun K hK => ?_
  unfold Oper.wp execOp
  simp only [ho, hp, Sem.run_bind, hrun, Sem.run_pure, Result.andThen_ok]
  exact hK _ _ h
theorem cell_two (w : World) (x y : Value) (t : TypeId) (j : Nat) (hj : j < 2) : (w.alloc (.cells #[x, y] t)).cell? ⟨w.heap.size, j, none⟩ = some ([x, y].getD j undef) := by
  have h : (w.alloc (.cells #[x, y] t)).heap[w.heap.size]? = some (.cells [x, y].toArray t (0, 0)) := heap_alloc_new w _
  rw [cell_of_row _ _ j _ t (0, 0) h]
  rcases (by omega : j = 0 ∨ j = 1) with rfl | rfl <;> rfl
/-- The two rows, as a lot. -/
theorem lot2 {W : World} {o1 o2 : Option Addr} {n c1 c2 a b e : Nat} {L1 L2 : List Int} (h1 : Out W a b o1 n c1 L1) (h2 : Out W b e o2 n c2 L2) (hab : a ≤ b) (hde : b ≤ e) (he : e ≤ W.heap.size) :
    Lot (W.alloc (.cells #[.slice o1 n c1, .slice o2 n c2] 24)) W.heap.size 2 (fun j => [o1, o2].getD j none) (fun j => [n, n].getD j 0) (fun j => [c1, c2].getD j 0) (fun j => [c1, c2].getD j 0) (fun j => [L1, L2].getD j []) ∧
    ∀ y, LotS 2 (fun j => [o1, o2].getD j none) y → a ≤ y ∧ y < e := by
  have l := (Below.refl W.heap.size W).alloc (Nat.le_refl _) (.cells #[.slice o1 n c1, .slice o2 n c2] 24)
  have hp : ∀ j g, j < 2 → [o1, o2].getD j none = some ⟨g, 0, none⟩ → [a, b].getD j 0 ≤ g ∧ g < [b, e].getD j 0 := by
    intro j g hj e1
    rcases (by omega : j = 0 ∨ j = 1) with rfl | rfl
    · exact h1.place g 0 e1
    · exact h2.place g 0 e1
  have hr : ∀ j g, j < 2 → [o1, o2].getD j none = some ⟨g, 0, none⟩ → a ≤ g ∧ g < e := by
    intro j g hj e1
    have := hp j g hj e1
    rcases (by omega : j = 0 ∨ j = 1) with rfl | rfl <;> simp at this <;> omega
  refine ⟨⟨World.block_lt_of_cell? _ _ (cell_two W _ _ _ 0 (by decide)), fun j hj => ?_, fun j hj => ?_, fun j hj => .inl rfl, fun j j' g hj hj' e1 e2 => ?_, fun j g hj e1 => ?_⟩, fun y ⟨j, hj, e1⟩ => hr j y hj e1⟩
  · rw [cell_two _ _ _ _ j hj]
    rcases (by omega : j = 0 ∨ j = 1) with rfl | rfl <;> rfl
  · rcases (by omega : j = 0 ∨ j = 1) with rfl | rfl
    · exact (h1.later l).own
    · exact (h2.later l).own
  · have p1 := hp j g hj e1
    have p2 := hp j' g hj' e2
    rcases (by omega : j = 0 ∨ j = 1) with rfl | rfl <;> rcases (by omega : j' = 0 ∨ j' = 1) with rfl | rfl <;> first | rfl | (simp at p1 p2; omega)
  · have := hr j g hj e1
    omega
/-- What stands: what was lent, and nothing old was touched. -/
structure On (w1 W : World) (g : Nat) (xs : List Int) : Prop where
  row : RowAt W g (xs ++ marks)
  bel : Below w1.heap.size w1 W
theorem On.later {w1 W W' : World} {g : Nat} {xs : List Int} (h : On w1 W g xs) (l : Below W.heap.size W W') : On w1 W' g xs := ⟨h.row.kept (Kept.new (fun _ => False) l) id, below_chain h.bel l h.bel.size⟩
theorem On.kept {S : Nat → Prop} {w1 W W' : World} {g : Nat} {xs : List Int} (h : On w1 W g xs) (hk : Kept S W W') (hS : ∀ y, S y → w1.heap.size ≤ y ∧ y ≠ g) : On w1 W' g xs :=
  ⟨h.row.kept hk (fun s => (hS g s).2 rfl), below_kept h.bel hk h.bel.size (fun j hj s => by have := (hS j s).1; omega)⟩
theorem On.dn {w1 W : World} {g : Nat} {xs : List Int} (h : On w1 W g xs) (q : Nat) : On w1 (W.drewN q) g xs := h.later (below_dn (Below.refl _ _) q)
theorem Out.dn {W : World} {lo hi n cap : Nat} {vo : Option Addr} {L : List Int} (h : Out W lo hi vo n cap L) (q : Nat) : Out (W.drewN q) lo hi vo n cap L := h.later (below_dn (Below.refl _ _) q)
theorem size_dn (W : World) (q : Nat) : W.heap.size ≤ (W.drewN q).heap.size := (below_dn (Below.refl W.heap.size W) q).size
end Go.Proofs.YtmgkjldjeomcmaaDoor
