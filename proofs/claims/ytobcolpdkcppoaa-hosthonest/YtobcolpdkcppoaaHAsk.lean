/- Layer host: Ask, Raise. -/
import Derived.Test.YtobcolpdkcppoaaHOpW
namespace Go.Proofs.Ytobcolpdkcppoaa
open Go.RowKit
set_option linter.unusedVariables false
set_option linter.unusedSimpArgs false

/-- A new variable that holds a value of one cell. -/
theorem wpList_boxV {ops : Array Oper} {rest : List Oper} {o : Oper} {a : Act} {Q : Exit → Act → World → Prop} {w : World} (hgd : o.guard = none) (t : TypeId) (x : Operand) (ho : o.op = .box t x) (v : Value) (hx : a.eval x = v) (hv : v.cells = #[v])
    (h : ∀ w', Blk w' w.heap.size t [v] → w'.heap.size = w.heap.size + 1 → Below w.heap.size w w' → wpList Try.prog ops Q rest (a.put o.dst (.pointer (some ⟨w.heap.size, 0, none⟩))) w') : wpList Try.prog ops Q (o :: rest) a w := by
  refine wpList_plain hgd fun K hK => ?_
  unfold Oper.wp execOp
  simp only [ho, hx, Sem.run_bind, Instr.box, hv, newVar, newRow, run_newObj_alloc, Sem.run_pure, Result.andThen_ok]
  exact hK _ _ (h _ (heap_alloc_new w _) (by simp) ((Below.refl _ _).alloc (Nat.le_refl _) _))
def HSt.opE (s : HSt) : Int := if s.down = true ∨ s.pow = 1 ∨ s.pow = 2 then 110 else 0
def HSt.opS (s : HSt) (f : HSt → HSt) (t : Tc) : HSt := if s.down = true then s else if s.pow = 1 then s.next else (f s.next).logged t
def HSt.done (s : HSt) : Prop := s.down = false ∧ s.pow ≠ 1
/-- The footprint grows by new blocks alone; nothing else is written. -/
structure Goes (M M2 : Nat → Prop) (w w' : World) : Prop where
  sub : ∀ k, M k → M2 k
  new : ∀ k, M2 k → M k ∨ w.heap.size ≤ k
  kept : Kept M w w'
theorem Goes.later {M M2 : Nat → Prop} {w w1 w' : World} (hb : Below w.heap.size w w1) (h : Goes M M2 w1 w') : Goes M M2 w w' :=
  ⟨h.sub, fun k hk => (h.new k hk).imp id (fun x => Nat.le_trans hb.size x), (Kept.new M hb).trans h.kept⟩
theorem opE_eq (s : HSt) : s.opE = 0 ∨ s.opE = 110 := by unfold HSt.opE; split <;> simp
theorem operate_all (h : Nat) (s : HSt) (f : HSt → HSt) (t : Tc) (ht : t.Good) (F : Nat) (caps : Array Value) (hent : ∀ args w, (callFunc F args).run Try.prog w = .ok (.enter F args) w) (M C : Nat → Prop) (Post : (Nat → Prop) → World → Prop) (w : World) (x : HostAt w M h s) (hops : s.ops < 3000000000000) (hC : ∀ k, C k → k < w.heap.size)
    (hdr : ∀ M2 (W : World), Post M2 W → Post M2 { W with drawn := W.drawn + 1 }) (hst : ∀ M2 W W', Post M2 W → (∀ k, M2 k → k < W.heap.size) → Kept M2 W W' → Post (more M2 W W') W')
    (h2 : (f s.next).ops = s.ops + 1 ∧ (f s.next).log = s.log)
    (HD : s.done → ∀ W fv, HostAt W M h s.next → FlS W M fv (s.coming s.ops) → Kept M w W → Calls Try.prog F (#[fv] ++ caps) W fun e W' => e = .returned (.tuple #[]) ∧ ∃ M2, HostAt W' M2 h (f s.next) ∧ (∀ k, M k → M2 k) ∧ (∀ k, M2 k → M k ∨ W.heap.size ≤ k) ∧ Kept (fun k => M k ∨ C k) W W' ∧ Post M2 W') :
    Calls Try.prog 49 #[.pointer (some ⟨h, 0, none⟩), .agg (tcC t).toArray, .func (.func F) #[] caps] w fun e w' => e = .returned (.int .i64 s.opE) ∧ ∃ M2, HostAt w' M2 h (s.opS f t) ∧ (∀ k, M k → M2 k) ∧ (∀ k, M2 k → M k ∨ w.heap.size ≤ k) ∧ Kept (fun k => M k ∨ C k) w w' ∧ (s.done → Post M2 w') := by
  refine (operate_any h s (f s.next) t ht F caps hent M C Post w x hops hC hdr hst h2 (fun h1 h3 => HD ⟨h1, h3⟩)).mono ?_
  rintro e w' (⟨⟨h1, rfl, y⟩ | ⟨h1, h3, rfl, y⟩, k⟩ | ⟨h1, h3, rfl, M2, y, m1, m2, k, p⟩)
  · refine ⟨by rw [HSt.opE, if_pos (.inl h1)], M, by rw [HSt.opS, if_pos h1]; exact y, fun _ h => h, fun _ h => .inl h, k.mono (fun _ h => .inl h), fun hd => ?_⟩
    rw [hd.1] at h1; cases h1
  · exact ⟨by rw [HSt.opE, if_pos (.inr (.inl h3))], M, by rw [HSt.opS, if_neg (by rw [h1]; simp), if_pos h3]; exact y, fun _ h => h, fun _ h => .inl h, k.mono (fun _ h => .inl h), fun hd => absurd h3 hd.2⟩
  · refine ⟨?_, M2, by rw [HSt.opS, if_neg (by rw [h1]; simp), if_neg h3]; exact y, m1, m2, k, fun _ => p⟩
    unfold HSt.opE
    by_cases e : s.pow = 2
    · rw [if_pos e, if_pos (.inr (.inr e))]
    · rw [if_neg e, if_neg (by rw [h1]; simp; exact ⟨h3, e⟩)]
theorem ask1_any (fv : Value) (w : World) : Calls Try.prog 61 #[fv] w fun e w' => e = .returned (.tuple #[]) ∧ w = w' := by
  go_enter Try.func61, Try.ntmps61
  go_wp2
  go_end0
  exact ⟨rfl, rfl⟩
def tcA (op : Int) : Tc := ⟨op, 0, 8, List.replicate 12 0⟩
theorem enter_ask : ∀ args w, (callFunc 61 args).run Try.prog w = .ok (.enter 61 args) w := fun args w => by kernel_rfl
theorem enter_raise : ∀ args w, (callFunc 62 args).run Try.prog w = .ok (.enter 62 args) w := fun args w => by kernel_rfl
theorem opS_reg (s : HSt) (t : Tc) : (s.opS id t).reg = s.reg := by unfold HSt.opS; split; rfl; split <;> rfl
set_option maxRecDepth 20000 in
set_option maxHeartbeats 1000000 in
theorem ask_any (h : Nat) (s : HSt) (M : Nat → Prop) (w : World) (x : HostAt w M h s) (hops : s.ops < 3000000000000) :
    Calls Try.prog 37 #[.pointer (some ⟨h, 0, none⟩)] w fun e w' => e = .returned (.tuple #[.int .u64 (if s.opE = 0 then s.reg else 0), .int .i64 s.opE]) ∧ ∃ M2, HostAt w' M2 h (s.opS id (tcA 2)) ∧ Goes M M2 w w' := by
  have CT := touch_reg h s 2 (.inl rfl) M w x
  have CO : Hid (∀ w1, Below w.heap.size w w1 → Calls Try.prog 49 #[.pointer (some ⟨h, 0, none⟩), .agg (tcC (tcA 2)).toArray, .func (.func 61) #[] #[]] w1 fun e w' => e = .returned (.int .i64 s.opE) ∧ ∃ M2, HostAt w' M2 h (s.opS id (tcA 2)) ∧ (∀ k, M k → M2 k) ∧ (∀ k, M2 k → M k ∨ w1.heap.size ≤ k) ∧ Kept (fun k => M k ∨ False) w1 w' ∧ (s.done → True)) := fun w1 l1 =>
    operate_all h s id (tcA 2) rfl 61 #[] enter_ask M (fun _ => False) (fun _ _ => True) w1 (x.later l1) hops (fun _ h => h.elim) (fun _ _ _ => trivial) (fun _ _ _ _ _ _ => trivial) ⟨rfl, rfl⟩ (fun _ W fv y _ _ => by
      refine (ask1_any fv W).mono ?_
      rintro e W' ⟨rfl, rfl⟩
      exact ⟨rfl, M, y, fun _ h => h, fun _ h => .inl h, Kept.refl _ _, trivial⟩)
  have HE : Hid (opE_eq s = opE_eq s) := rfl
  have hE := opE_eq s
  obtain ⟨E, hE'⟩ : ∃ q, s.opE = q := ⟨_, rfl⟩
  rw [hE'] at hE CO ⊢
  clear hE' HE
  rcases hE with rfl | rfl
  all_goals
    go_enter Try.func37, Try.ntmps37
    go_wp2_with (first | (go_at_call 50; refine CT.mono ?_; rintro e w1 ⟨rfl, l1⟩) | (go_at_call 49; refine (CO.out w1 l1).mono ?_; rintro e w2 ⟨rfl, M2, y, m1, m2, k2, _⟩; have c3 : w2.cell? ⟨h, 3, none⟩ = some (.int .u64 s.reg) := by { obtain ⟨_, _, _, _, _, _, y⟩ := y; rw [← opS_reg s (tcA 2)]; exact y.blk.cell 3 }))
    go_ret2
    exact ⟨rfl, M2, y, Goes.later l1 ⟨m1, m2, k2.mono (fun k e => e.elim id False.elim)⟩⟩
end Go.Proofs.Ytobcolpdkcppoaa
