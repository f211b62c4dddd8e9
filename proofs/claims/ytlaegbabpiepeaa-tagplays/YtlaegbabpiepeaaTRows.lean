/- Rows of headers, an array's ==, slices as values: for regions that draw. -/
import Derived.Test.YtlaegbabpiepeaaRInvG
import Derived.Test.YtlaegbabpiepeaaRInvT
import Derived.Test.YtlaegbabpiepeaaDCopy
import Derived.Laws.StructEq
import Derived.Lib.SmallJoins
namespace Go.Proofs.Ytlaegbabpiepeaa
open Go.RowKit Go.Joins
set_option linter.unusedVariables false
set_option linter.unusedSimpArgs false

theorem infoByte : (Try.prog.info? 5).map (fun i => (i.zero, i.size)) = some (some (.int .u8 0), 1) := by kernel_rfl
/-- An array of bytes is itself. -/
theorem equal_self (d : Nat) (zs : List Int) (hl : zs.length = 16) (w : World) : (Op.equalIn (d + 2) 46 (.agg (u8s zs).toArray) (.agg (u8s zs).toArray)).run Try.prog w = .ok true w := by
  have hsz : ∀ w, (sizeOf 5).run Try.prog w = .ok 1 w := fun w => by
    have h := infoByte
    cases hq : Try.prog.info? 5 with
    | none => simp [hq] at h
    | some i => simp [hq] at h; simp [sizeOf, typeInfo, hq, h.2]
  have ht := Try.underlying46
  have he := Try.underlying5
  rw [Op.equalIn]
  simp only [Sem.run_bind, run_underlying ht, Result.andThen_ok, hsz, Std.Legacy.Range.forIn_eq_forIn_range', Std.Legacy.Range.size, Nat.sub_zero, Nat.add_sub_cancel, Nat.div_one]
  have hlr : ∀ i ∈ List.range' 0 16 1, i < 16 := fun i hi => by simpa using (List.mem_range'_1.1 hi).2
  generalize List.range' 0 16 1 = l at hlr ⊢
  induction l with
  | nil => simp
  | cons i l ih =>
    have hi : i < 16 := hlr i (by simp)
    have px : (Go.part 5 (u8s zs).toArray (i * 1)).run Try.prog w = .ok (.int .u8 (zs.getD i 0)) w := by
      simp [Go.part, isAgg, run_underlying he, u8s, List.getD, List.getElem?_eq_getElem (show i < zs.length by omega)]
    have pe : (Op.equalIn (d + 1) 5 (.int .u8 (zs.getD i 0)) (.int .u8 (zs.getD i 0))).run Try.prog w = .ok true w := by
      rw [run_equalIn_int w d 5 .u8 .u8 _ _ he]; simp
    simp only [List.forIn_cons, Sem.run_bind, px, pe, Result.andThen_ok]
    simp only [Bool.not_true, Bool.false_eq_true, if_false, Sem.run_pure, Result.andThen_ok]
    exact ih fun j hj => hlr j (by simp [hj])
/-- Lists in a new row of headers. -/
def isP (n : Nat) (pss : List (List Int)) (v : Value) (w : World) : Prop := ∃ b c, v = .slice (some ⟨b, 0, none⟩) n c ∧ SeenP w (some ⟨b, 0, none⟩) n pss
theorem isP_later (n : Nat) (pss : List (List Int)) : ∀ v w w', Below w.heap.size w w' → isP n pss v w → isP n pss v w' := fun _ _ _ hb ⟨b, c, h1, h2⟩ => ⟨b, c, h1, h2.later hb (Nat.le_refl _)⟩
theorem Does.run {base : Nat} {E : Exp} {ρ : Operand → Value} {o : Oper} {w w' : World} (v : Value) (h : (execOp ρ o).run Try.prog w = .ok (.value v) w') (hE : E.ok base v w') (hb : Below w.heap.size w w') : Does base E ρ o w := by
  unfold Does; rw [h]; exact ⟨hE, hb⟩
theorem bs1 (s1 : Option Addr) (n1 c1 : Nat) (w : World) : (Instr.buildSlice 62 1 #[(0, .slice s1 n1 c1)]).run Try.prog w = .ok (.slice (some ⟨w.heap.size, 0, none⟩) 1 1) (w.alloc (.cells #[.slice s1 n1 c1] 28)) := by kernel_rfl
theorem bs2 (s1 s2 : Option Addr) (n1 n2 c1 c2 : Nat) (w : World) : (Instr.buildSlice 62 2 #[(0, .slice s1 n1 c1), (1, .slice s2 n2 c2)]).run Try.prog w = .ok (.slice (some ⟨w.heap.size, 0, none⟩) 2 2) (w.alloc (.cells #[.slice s1 n1 c1, .slice s2 n2 c2] 28)) := by kernel_rfl
theorem Does.rows1 {base : Nat} {ρ : Operand → Value} {o : Oper} {w : World} (parts : Array (Nat × Operand)) (ho : o.op = .buildSlice 62 1 parts) (s1 : Option Addr) (n1 c1 : Nat) (z1 : List Int) (hp : (parts.map fun (i, x) => (i, ρ x)) = #[(0, .slice s1 n1 c1)]) (h1 : Seen w s1 n1 z1) (l1 : n1 ≤ c1) : Does base (.any (isP 1 [z1]) (isP_later _ _)) ρ o w := by
  refine Does.run (.slice (some ⟨w.heap.size, 0, none⟩) 1 1) (w' := w.alloc (.cells #[.slice s1 n1 c1] 28)) ?_ ⟨_, _, rfl, seenP1 w s1 n1 c1 z1 h1 l1⟩ ((Below.refl _ _).alloc (Nat.le_refl _) _)
  unfold execOp
  simp only [ho, hp, Sem.run_bind, bs1, Sem.run_pure, Result.andThen_ok]
theorem Does.rows2 {base : Nat} {ρ : Operand → Value} {o : Oper} {w : World} (parts : Array (Nat × Operand)) (ho : o.op = .buildSlice 62 2 parts) (s1 s2 : Option Addr) (n1 n2 c1 c2 : Nat) (z1 z2 : List Int) (hp : (parts.map fun (i, x) => (i, ρ x)) = #[(0, .slice s1 n1 c1), (1, .slice s2 n2 c2)]) (h1 : Seen w s1 n1 z1) (h2 : Seen w s2 n2 z2) (l1 : n1 ≤ c1) (l2 : n2 ≤ c2) : Does base (.any (isP 2 [z1, z2]) (isP_later _ _)) ρ o w := by
  refine Does.run (.slice (some ⟨w.heap.size, 0, none⟩) 2 2) (w' := w.alloc (.cells #[.slice s1 n1 c1, .slice s2 n2 c2] 28)) ?_ ⟨_, _, rfl, seenP2 w s1 s2 n1 n2 c1 c2 z1 z2 h1 h2 l1 l2⟩ ((Below.refl _ _).alloc (Nat.le_refl _) _)
  unfold execOp
  simp only [ho, hp, Sem.run_bind, bs2, Sem.run_pure, Result.andThen_ok]
theorem wpList_buildSlice {ops : Array Oper} {rest : List Oper} {o : Oper} {a : Act} {Q : Exit → Act → World → Prop} {w : World} (hgd : o.guard = none) (t : TypeId) (m : Nat) (parts : Array (Nat × Operand)) (ho : o.op = .buildSlice t m parts) (ps : Array (Nat × Value))
    (hp : (parts.map fun (i, x) => (i, a.eval x)) = ps) (v : Value) (w' : World) (hrun : (Instr.buildSlice t m ps).run Try.prog w = .ok v w') (h : wpList Try.prog ops Q rest (a.put o.dst v) w') : wpList Try.prog ops Q (o :: rest) a w := by
  refine wpList_plain hgd fun K hK => ?_
  unfold Oper.wp execOp
  simp only [ho, hp, Sem.run_bind, hrun, Sem.run_pure, Result.andThen_ok]
  exact hK _ _ h
/-- Lists in a new row of headers, however many. -/
def hdr (x : Option Addr × Nat × Nat × List Int) : Value := .slice x.1 x.2.1 x.2.2.1
theorem seenPn (W : World) (l : List (Option Addr × Nat × Nat × List Int)) (h : ∀ x ∈ l, Seen W x.1 x.2.1 x.2.2.2 ∧ x.2.1 ≤ x.2.2.1) :
    SeenP (W.alloc (.cells (l.map hdr).toArray 28)) (some ⟨W.heap.size, 0, none⟩) l.length (l.map (·.2.2.2)) := by
  have hb : Below W.heap.size W (W.alloc (.cells (l.map hdr).toArray 28)) := (Below.refl _ _).alloc (Nat.le_refl _) _
  have hh : (W.alloc (.cells (l.map hdr).toArray 28)).heap[W.heap.size]? = some (.cells (l.map hdr).toArray 28 (0, 0)) := heap_alloc_new W _
  refine ⟨by simp, fun i hi => ?_⟩
  have hx := h l[i] (List.getElem_mem hi)
  have e : (l.map (·.2.2.2)).getD i [] = l[i].2.2.2 := by simp [List.getD, hi]
  have el : l[i].2.2.2.length = l[i].2.1 := hx.1.len
  rw [e, el]
  refine ⟨_, 0, l[i].1, l[i].2.2.1, rfl, by simp, ?_, hx.1.later hb (Nat.le_refl _), hx.2⟩
  rw [cell_of_row _ _ _ _ _ _ hh]
  simp [hi, hdr]
theorem bs3 (s1 s2 s3 : Option Addr) (n1 n2 n3 c1 c2 c3 : Nat) (w : World) : (Instr.buildSlice 62 3 #[(0, .slice s1 n1 c1), (1, .slice s2 n2 c2), (2, .slice s3 n3 c3)]).run Try.prog w = .ok (.slice (some ⟨w.heap.size, 0, none⟩) 3 3) (w.alloc (.cells #[.slice s1 n1 c1, .slice s2 n2 c2, .slice s3 n3 c3] 28)) := by kernel_rfl
theorem bs4 (s1 s2 s3 s4 : Option Addr) (n1 n2 n3 n4 c1 c2 c3 c4 : Nat) (w : World) : (Instr.buildSlice 62 4 #[(0, .slice s1 n1 c1), (1, .slice s2 n2 c2), (2, .slice s3 n3 c3), (3, .slice s4 n4 c4)]).run Try.prog w = .ok (.slice (some ⟨w.heap.size, 0, none⟩) 4 4) (w.alloc (.cells #[.slice s1 n1 c1, .slice s2 n2 c2, .slice s3 n3 c3, .slice s4 n4 c4] 28)) := by kernel_rfl
theorem bs5 (s1 s2 s3 s4 s5 : Option Addr) (n1 n2 n3 n4 n5 c1 c2 c3 c4 c5 : Nat) (w : World) : (Instr.buildSlice 62 5 #[(0, .slice s1 n1 c1), (1, .slice s2 n2 c2), (2, .slice s3 n3 c3), (3, .slice s4 n4 c4), (4, .slice s5 n5 c5)]).run Try.prog w = .ok (.slice (some ⟨w.heap.size, 0, none⟩) 5 5) (w.alloc (.cells #[.slice s1 n1 c1, .slice s2 n2 c2, .slice s3 n3 c3, .slice s4 n4 c4, .slice s5 n5 c5] 28)) := by kernel_rfl
theorem Does.rows5 {base : Nat} {ρ : Operand → Value} {o : Oper} {w : World} (parts : Array (Nat × Operand)) (ho : o.op = .buildSlice 62 5 parts) (s1 s2 s3 s4 s5 : Option Addr) (n1 n2 n3 n4 n5 c1 c2 c3 c4 c5 : Nat) (z1 z2 z3 z4 z5 : List Int) (hp : (parts.map fun (i, x) => (i, ρ x)) = #[(0, .slice s1 n1 c1), (1, .slice s2 n2 c2), (2, .slice s3 n3 c3), (3, .slice s4 n4 c4), (4, .slice s5 n5 c5)])
    (h1 : Seen w s1 n1 z1 ∧ n1 ≤ c1) (h2 : Seen w s2 n2 z2 ∧ n2 ≤ c2) (h3 : Seen w s3 n3 z3 ∧ n3 ≤ c3) (h4 : Seen w s4 n4 z4 ∧ n4 ≤ c4) (h5 : Seen w s5 n5 z5 ∧ n5 ≤ c5) : Does base (.any (isP 5 [z1, z2, z3, z4, z5]) (isP_later _ _)) ρ o w := by
  refine Does.run (.slice (some ⟨w.heap.size, 0, none⟩) 5 5) (w' := w.alloc (.cells #[.slice s1 n1 c1, .slice s2 n2 c2, .slice s3 n3 c3, .slice s4 n4 c4, .slice s5 n5 c5] 28)) ?_ ⟨_, _, rfl, ?_⟩ ((Below.refl _ _).alloc (Nat.le_refl _) _)
  · unfold execOp
    simp only [ho, hp, Sem.run_bind, bs5, Sem.run_pure, Result.andThen_ok]
  · exact seenPn w [(s1, n1, c1, z1), (s2, n2, c2, z2), (s3, n3, c3, z3), (s4, n4, c4, z4), (s5, n5, c5, z5)] (fun x hx => by
      simp only [List.mem_cons, List.not_mem_nil, or_false] at hx
      rcases hx with rfl | rfl | rfl | rfl | rfl
      · exact h1
      · exact h2
      · exact h3
      · exact h4
      · exact h5)
/-- A slice of these bytes, with room enough. -/
def isS (zs : List Int) (v : Value) (w : World) : Prop := ∃ vo n c, v = .slice vo n c ∧ Seen w vo n zs ∧ n ≤ c
theorem isS_later (zs : List Int) : ∀ v w w', Below w.heap.size w w' → isS zs v w → isS zs v w' := fun _ _ _ hb ⟨b, o, c, h1, h2, h3⟩ => ⟨b, o, c, h1, h2.later hb (Nat.le_refl _), h3⟩
end Go.Proofs.Ytlaegbabpiepeaa
