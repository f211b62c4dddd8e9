/- Regions that draw: operations whose run is known; a call of a function value. -/
import Derived.Test.YtobcolpdkcppoaaHTouch
import Derived.Test.YtobcolpdkcppoaaSHeld
namespace Go.Proofs.Ytobcolpdkcppoaa
open Go.RowKit
set_option linter.unusedVariables false
set_option linter.unusedSimpArgs false

theorem till_run {md : Region.Mode} {ops : Array Oper} {Q : Exit → Act → World → Prop} {c : Nat} {S : World → Prop} {oi : Oper} {n : Nat} {l : Array Bool} {a : Act} {w : World} (i : Nat) (d : Option Tmp) (v : Value) (w' : World) (hr : Region.ready md ops l = [i]) (hi : ops[i]? = some oi) (hd : oi.dst = d)
    (hw : Region.wanted oi (yielded ops a.tmps) = true) (hrun : (execOp a.eval oi).run Try.prog w = .ok (.value v) w') (hS : S w') (h : wpTill md ops Q c S n (l.setIfInBounds i true) (a.put d v) w') : wpTill md ops Q c S (n + 1) l a w := by
  subst hd
  refine till_ready i hr hi fun K hK => ?_
  rw [if_pos hw]
  unfold Oper.wp
  rw [hrun]
  exact hK _ _ ⟨hS, h⟩
theorem any_run {md : Region.Mode} {ops : Array Oper} {Q : Exit → Act → World → Prop} {oi : Oper} {n : Nat} {l : Array Bool} {a : Act} {w : World} (i : Nat) (d : Option Tmp) (v : Value) (w' : World) (hr : Region.ready md ops l = [i]) (hi : ops[i]? = some oi) (hd : oi.dst = d)
    (hw : Region.wanted oi (yielded ops a.tmps) = true) (hrun : (execOp a.eval oi).run Try.prog w = .ok (.value v) w') (h : wpAny Try.prog md ops Q n (l.setIfInBounds i true) (a.put d v) w') : wpAny Try.prog md ops Q (n + 1) l a w := by
  subst hd
  refine wpAny_ready hr (by simp) (AllReady.cons hi (fun K hK => ?_) AllReady.nil)
  rw [if_pos hw]
  unfold Oper.wp
  rw [hrun]
  exact hK _ _ h
theorem exec_append {a : Act} {o : Oper} {w w' : World} {v' : Value} (s x : Operand) (t ty : TypeId) (ho : o.op = .call { callee := .builtin .append, args := #[s, x], argTypes := #[t, t] }) (hty : o.type = ty) (va vb : Value) (hs : a.eval s = va) (hx : a.eval x = vb)
    (hr : (Builtin.append_ #[t, t] ty #[va, vb]).run Try.prog w = .ok v' w') : (execOp a.eval o).run Try.prog w = .ok (.value v') w' := by
  subst hty
  unfold execOp
  simp only [ho, resolve, invoke, builtin, Sem.run_bind, Sem.run_pure, Result.andThen_ok, List.map_toArray, List.map_cons, List.map_nil, hs, hx, hr]
theorem exec_build {a : Act} {o : Oper} {w w' : World} {v : Value} (t : TypeId) (m : Nat) (parts : Array (Nat × Operand)) (ho : o.op = .buildSlice t m parts) (ps : Array (Nat × Value)) (hp : (parts.map fun (i, x) => (i, a.eval x)) = ps) (hr : (Instr.buildSlice t m ps).run Try.prog w = .ok v w') : (execOp a.eval o).run Try.prog w = .ok (.value v) w' := by
  unfold execOp
  simp only [ho, hp, Sem.run_bind, hr, Sem.run_pure, Result.andThen_ok]
theorem list12 (l : List Int) (h : l.length = 12) : ∃ a0 a1 a2 a3 a4 a5 a6 a7 a8 a9 a10 a11, l = [a0, a1, a2, a3, a4, a5, a6, a7, a8, a9, a10, a11] := by
  match l, h with
  | [a0, a1, a2, a3, a4, a5, a6, a7, a8, a9, a10, a11], _ => exact ⟨a0, a1, a2, a3, a4, a5, a6, a7, a8, a9, a10, a11, rfl⟩
theorem build1_tc (t : Tc) (ht : t.Good) (w : World) : (Instr.buildSlice 41 1 #[(0, .agg (tcC t).toArray)]).run Try.prog w = .ok (.slice (some ⟨w.heap.size, 0, none⟩) 1 1) (w.alloc (.cells (tcC t).toArray 49)) := by
  obtain ⟨op, pg, ln, hd⟩ := t
  obtain ⟨a0, a1, a2, a3, a4, a5, a6, a7, a8, a9, a10, a11, rfl⟩ := list12 hd ht
  kernel_rfl
/-- A call of a function value with one argument. -/
theorem wpList_do {ops : Array Oper} {rest : List Oper} {o : Oper} {a : Act} {Q : Exit → Act → World → Prop} {w : World} (hgd : o.guard = none) (t x : Operand) (ho : o.op = .call { callee := .value t, args := #[x], argTypes := #[22] }) (F : Nat) (caps : Array Value) (ht : a.eval t = .func (.func F) #[] caps) (fv : Value) (hx : a.eval x = fv)
    (hent : (callFunc F (#[fv] ++ caps)).run Try.prog w = .ok (.enter F (#[fv] ++ caps)) w) (R : World → Prop) (C : Calls Try.prog F (#[fv] ++ caps) w fun e w' => e = .returned (.tuple #[]) ∧ R w') (h : ∀ w', R w' → wpList Try.prog ops Q rest (a.put o.dst (.tuple #[])) w') : wpList Try.prog ops Q (o :: rest) a w := by
  refine wpList_plain hgd fun K hK => ?_
  unfold Oper.wp execOp
  simp only [ho, resolve, Sem.run_bind, Sem.run_pure, Result.andThen_ok, List.map_toArray, List.map_cons, List.map_nil, ht, hx, invoke, Deferred.ofValue, List.nil_append, Array.append_empty, Array.empty_append, hent]
  rw [Oper.upon_enter]
  exact C.mono (fun e w' hh => by
    obtain ⟨h1, h2⟩ := hh
    subst h1
    exact hK _ _ (h _ h2))
end Go.Proofs.Ytobcolpdkcppoaa
