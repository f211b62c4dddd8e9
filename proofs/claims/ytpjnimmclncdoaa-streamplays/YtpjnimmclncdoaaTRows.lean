/- Rows of headers, an array's ==, slices as values: for regions that draw. -/
import Derived.Test.YtpjnimmclncdoaaRInvG
import Derived.Test.YtpjnimmclncdoaaRInvT
import Derived.Test.YtpjnimmclncdoaaDCopy
import Derived.Laws.StructEq
import Derived.Lib.SmallJoins
namespace Go.Proofs.Ytpjnimmclncdoaa
open Go.RowKit Go.Joins
set_option linter.unusedVariables false
set_option linter.unusedSimpArgs false

theorem infoByte : (Try.prog.info? 5).map (fun i => (i.zero, i.size)) = some (some (.int .u8 0), 1) := by kernel_rfl
/-- Lists in a new row of headers. -/
def isP (n : Nat) (pss : List (List Int)) (v : Value) (w : World) : Prop := ∃ b c, v = .slice (some ⟨b, 0, none⟩) n c ∧ SeenP w (some ⟨b, 0, none⟩) n pss
theorem isP_later (n : Nat) (pss : List (List Int)) : ∀ v w w', Below w.heap.size w w' → isP n pss v w → isP n pss v w' := fun _ _ _ hb ⟨b, c, h1, h2⟩ => ⟨b, c, h1, h2.later hb (Nat.le_refl _)⟩
theorem Does.run {base : Nat} {E : Exp} {ρ : Operand → Value} {o : Oper} {w w' : World} (v : Value) (h : (execOp ρ o).run Try.prog w = .ok (.value v) w') (hE : E.ok base v w') (hb : Below w.heap.size w w') : Does base E ρ o w := by
  unfold Does; rw [h]; exact ⟨hE, hb⟩
theorem wpList_buildSlice {ops : Array Oper} {rest : List Oper} {o : Oper} {a : Act} {Q : Exit → Act → World → Prop} {w : World} (hgd : o.guard = none) (t : TypeId) (m : Nat) (parts : Array (Nat × Operand)) (ho : o.op = .buildSlice t m parts) (ps : Array (Nat × Value))
    (hp : (parts.map fun (i, x) => (i, a.eval x)) = ps) (v : Value) (w' : World) (hrun : (Instr.buildSlice t m ps).run Try.prog w = .ok v w') (h : wpList Try.prog ops Q rest (a.put o.dst v) w') : wpList Try.prog ops Q (o :: rest) a w := by
  refine wpList_plain hgd fun K hK => ?_
  unfold Oper.wp execOp
  simp only [ho, hp, Sem.run_bind, hrun, Sem.run_pure, Result.andThen_ok]
  exact hK _ _ h
/-- Lists in a new row of headers, however many. -/
def hdr (x : Option Addr × Nat × Nat × List Int) : Value := .slice x.1 x.2.1 x.2.2.1
theorem seenPn (W : World) (l : List (Option Addr × Nat × Nat × List Int)) (h : ∀ x ∈ l, Seen W x.1 x.2.1 x.2.2.2 ∧ x.2.1 ≤ x.2.2.1) :
    SeenP (W.alloc (.cells (l.map hdr).toArray 41)) (some ⟨W.heap.size, 0, none⟩) l.length (l.map (·.2.2.2)) := by
  have hb : Below W.heap.size W (W.alloc (.cells (l.map hdr).toArray 41)) := (Below.refl _ _).alloc (Nat.le_refl _) _
  have hh : (W.alloc (.cells (l.map hdr).toArray 41)).heap[W.heap.size]? = some (.cells (l.map hdr).toArray 41 (0, 0)) := heap_alloc_new W _
  refine ⟨by simp, fun i hi => ?_⟩
  have hx := h l[i] (List.getElem_mem hi)
  have e : (l.map (·.2.2.2)).getD i [] = l[i].2.2.2 := by simp [List.getD, hi]
  have el : l[i].2.2.2.length = l[i].2.1 := hx.1.len
  rw [e, el]
  refine ⟨_, 0, l[i].1, l[i].2.2.1, rfl, by simp, ?_, hx.1.later hb (Nat.le_refl _), hx.2⟩
  rw [cell_of_row _ _ _ _ _ _ hh]
  simp [hi, hdr]
/-- A slice of these bytes, with room enough. -/
def isS (zs : List Int) (v : Value) (w : World) : Prop := ∃ vo n c, v = .slice vo n c ∧ Seen w vo n zs ∧ n ≤ c
theorem isS_later (zs : List Int) : ∀ v w w', Below w.heap.size w w' → isS zs v w → isS zs v w' := fun _ _ _ hb ⟨b, o, c, h1, h2, h3⟩ => ⟨b, o, c, h1, h2.later hb (Nat.le_refl _), h3⟩
end Go.Proofs.Ytpjnimmclncdoaa
