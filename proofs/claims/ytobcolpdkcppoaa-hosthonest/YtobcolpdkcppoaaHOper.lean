/- Layer host: an operation: counted, done, logged; where the power goes. -/
import Derived.Test.YtobcolpdkcppoaaHRun
namespace Go.Proofs.Ytobcolpdkcppoaa
open Go.RowKit
set_option linter.unusedVariables false
set_option linter.unusedSimpArgs false

/-- The next operation is counted. -/
def HSt.pow (s : HSt) : Int := powL (s.coming s.ops)
def HSt.next (s : HSt) : HSt := { s.past with ops := s.ops + 1, down := decide (s.pow ≠ 0) }
def HSt.logged (s : HSt) (t : Tc) : HSt := { s with log := s.log ++ [t] }
theorem powL_cases (fs : List Fl) : powL fs = 0 ∨ powL fs = 1 ∨ powL fs = 2 := by unfold powL; split <;> (try split) <;> simp
theorem next_good {s : HSt} (g : s.Good) (h : s.ops < 3000000000000) : s.next.Good :=
  ⟨g.size, g.pages, g.depth, g.reg, by show s.ops + 1 ≤ _; omega, by show s.log.length ≤ s.ops + 1; have := g.log; omega, fun p => by show (s.laid p).length ≤ s.ops + 1; have := g.laid p; omega, g.len⟩
theorem HostIn.nexted {w w' : World} {M : Nat → Prop} {h : Nat} {s : HSt} {gl gm : Nat} {lg : Value} {rws : List Value} {n : Nat} {D : DataW Value} (x : HostIn w M h s.past gl gm lg rws n D) (hs : s.ops < 3000000000000) (v : Value) (hv : v = .bool (decide (s.pow ≠ 0)))
    (hw : w' = (w.setCell ⟨h, 5, none⟩ (.int .i64 ((s.ops : Int) + 1))).setCell ⟨h, 7, none⟩ v) : HostIn w' M h s.next gl gm lg rws n D ∧ Kept (fun k => k = h) w w' := by
  subst hv
  have hk : Kept (fun k => k = h) w w' := by rw [hw]; exact ((Kept.refl (fun k => k = h) w).setCell (p := ⟨h, 5, none⟩) rfl _).setCell (p := ⟨h, 7, none⟩) rfl _
  refine ⟨x.turned s.next (next_good (s := s) ⟨x.good.size, x.good.pages, x.good.depth, x.good.reg, x.good.ops, x.good.log, x.good.laid, x.good.len⟩ hs) rfl rfl rfl rfl ?_ hk, hk⟩
  rw [hw]
  have := (x.blk.set 5 (.int .i64 ((s.ops : Int) + 1))).set 7 (.bool (decide (s.pow ≠ 0)))
  have e : ((hostC s.past gl gm lg).set 5 (.int .i64 ((s.ops : Int) + 1))).set 7 (.bool (decide (s.pow ≠ 0))) = hostC s.next gl gm lg := by
    simp only [hostC, List.set_cons_zero, List.set_cons_succ]
    rw [show ((s.next.ops : Nat) : Int) = (s.ops : Int) + 1 from by show ((s.ops + 1 : Nat) : Int) = _; omega]
    rfl
  rw [e] at this
  exact this
/-- A touch is appended to the log. -/
theorem HostIn.log_more {w : World} {M : Nat → Prop} {h : Nat} {s : HSt} {gl gm : Nat} {lg : Value} {rws : List Value} {n : Nat} {D : DataW Value} (x : HostIn w M h s gl gm lg rws n D) (t : Tc) (ht : t.Good) (hl : s.log.length < s.ops) :
    ∃ v' w', (Builtin.append_ #[41, 41] 41 #[lg, .slice (some ⟨w.heap.size, 0, none⟩) 1 1]).run Try.prog (w.alloc (.cells (tcC t).toArray 49)) = .ok v' w' ∧ Kept M w w' ∧ w'.heap[h]? = w.heap[h]? ∧ h < w'.heap.size ∧
      (∀ k, k < w.heap.size → ¬ M k → w'.heap[k]? = w.heap[k]?) ∧ ∀ w'', w'' = w'.setCell ⟨h, 6, none⟩ v' → HostIn w'' (more M w w'') h (s.logged t) gl gm v' rws n D ∧ Kept M w w'' := by
  obtain ⟨w0, hw0⟩ : ∃ q, w.alloc (.cells (tcC t).toArray 49) = q := ⟨_, rfl⟩
  have b0 : Below w.heap.size w w0 := by rw [← hw0]; exact (Below.refl _ _).alloc (Nat.le_refl _) _
  have s0 : w0.heap.size = w.heap.size + 1 := by rw [← hw0]; simp
  have bt : Blk w0 w.heap.size 49 (tcC t) := by rw [← hw0]; exact heap_alloc_new w _
  rw [hw0]
  have x0 := x.later b0
  obtain ⟨i0, hi, hz0, hz1, hz2⟩ := info_parts info_tc
  have hop := x.good.ops
  obtain ⟨v', w', hr, hown, hg, _, hat⟩ := run_append_own_at (P := Try.prog) w0 0 41 41 49 i0 (.agg (tcC default).toArray) 15 40 Try.underlying41 hi hz0 hz1 hz2 rfl (by decide) lg s.log.length _ x0.log.own ⟨w.heap.size, 0, none⟩ 1 1 (tcC t) (by rw [tcC_length ht])
    (fun j u hu => by rw [add_mid, Nat.zero_add, bt.cell]; exact hu) (tcC_one t) (by unfold maxLen; omega) (by omega) (Nat.zero_le _)
  have hb : ∀ g, lg.ownBlock = some g → Blk w g 49 (match w.heap[g]? with | some (.cells a _ _) => a.toList | _ => []) := fun g hg => by
    rcases x.log.own.2 with ⟨e, _⟩ | ⟨g', cap, cur, e, _, hh, _⟩
    · rw [e] at hg; cases hg
    · rw [e] at hg; cases hg; unfold Blk; rw [hh]
  have km : ∀ k, k < w.heap.size → lg.ownBlock ≠ some k → w'.heap[k]? = w.heap[k]? := fun k hk hne => (hg.block k (by omega) (Ne.symm hne)).trans (b0.block k hk)
  have nM : ∀ k, ¬ M k → lg.ownBlock ≠ some k := fun k hM e => hM (x.log.foot k e)
  have kp : Kept (fun k => lg.ownBlock = some k) w w' := ⟨hg.os.trans b0.os, hg.tape.trans b0.tape, hg.output.trans b0.output, Nat.le_trans b0.size hg.size, fun k hk hne => km k hk hne⟩
  have kM : Kept M w w' := kp.mono (fun k e => x.log.foot k e)
  have nh : lg.ownBlock ≠ some h := fun e => blk_ne (hb h e) x.blk (by decide) rfl
  have hsz := hg.size
  refine ⟨v', w', hr, kM, km h x.blk.lt nh, by have := x.blk.lt; omega, fun k hk hM => km k hk (nM k hM), fun w'' hw'' => ?_⟩
  have k2 : Kept (fun k => k = h) w' w'' := by rw [hw'']; exact (Kept.refl (fun k => k = h) w').setCell (p := ⟨h, 6, none⟩) rfl _
  have s2 : w''.heap.size = w'.heap.size := by rw [hw'']; simp [World.setCell]
  have kall : Kept (fun k => lg.ownBlock = some k ∨ k = h) w w'' := (kp.mono (fun k e => .inl e)).trans (k2.mono (fun k e => .inr e))
  have ne : ∀ {ty : TypeId}, ty ≠ 49 → ty ≠ 91 → ∀ (b : Nat) (vs : List Value), Blk w b ty vs → ¬ (lg.ownBlock = some b ∨ b = h) := fun h1 h2 b vs hbb e => by
    rcases e with e | e
    · exact blk_ne hbb (hb b e) h1 rfl
    · exact blk_ne hbb x.blk h2 e
  have bh : Blk w'' h 91 (hostC (s.logged t) gl gm v') := by
    have := (x.blk.block (km h x.blk.lt nh)).set 6 v'
    rw [← hw''] at this
    exact this
  have hv' : ∀ g, v'.ownBlock = some g → more M w w'' g ∧ g ≠ h := fun g hg2 => by
    rcases hat with e | e
    · rw [e] at hg2
      exact ⟨.inl (x.log.foot g hg2), fun e2 => nh (e2 ▸ hg2)⟩
    · rw [e] at hg2
      have : w0.heap.size = g := Option.some.inj hg2
      have h3 := (hown.lt g (by rw [e]; exact hg2)).2
      refine ⟨.inr ⟨by omega, by omega⟩, fun e2 => ?_⟩
      have := x.blk.lt; omega
  have hown2 : w''.ownsRow 0 49 15 v' (s.log.length + 1) ((s.log ++ [t]).flatMap tcC) := by
    refine ⟨by rw [List.flatMap_append]; simpa using hown.1, ?_⟩
    have e3 : (s.log ++ [t]).flatMap tcC = s.log.flatMap tcC ++ tcC t := by simp [List.flatMap_append]
    rw [e3]
    rcases hown.2 with h2 | ⟨g, cap, cur, hv, hg0, hh, r⟩
    · exact .inl h2
    · exact .inr ⟨g, cap, cur, hv, hg0, by rw [k2.block g (lt_of_block hh) (hv' g (by rw [hv]; rfl)).2]; exact hh, r⟩
  have mono : ∀ k, M k → more M w w'' k := fun k hk => .inl hk
  refine ⟨⟨⟨x.good.size, x.good.pages, x.good.depth, x.good.reg, x.good.ops, by show (s.log ++ [t]).length ≤ s.ops; simp; omega, x.good.laid, x.good.len⟩, bh, x.lot.kept kall (ne (by decide) (by decide) _ _ x.lot), x.cnt, .inl x.mh, .inl x.ml, .inl x.mm, ownsMap_same x.map (kall.block _ x.map.lt (fun e => ?_)), fun k => com_mono (com_kept (x.com k) kall (ne (by decide) (by decide))) mono, ⟨?_, ?_, fun g hg2 => (hv' g hg2).1⟩, fun p hp => (row_kept (x.row p hp) kall (fun b hbb => ?_) (ne (by decide) (by decide))).mono mono, x.apart, fun k hk => ?_⟩, kall.mono (fun k e => ?_)⟩
  · rcases e with e | e
    · exact map_ne x.map (hb _ e) rfl
    · exact map_ne x.map x.blk e.symm
  · intro t' ht'
    rcases List.mem_append.1 ht' with h1 | h1
    · exact x.log.good t' h1
    · simp at h1; subst h1; exact ht
  · have e4 : (s.logged t).log.length = s.log.length + 1 := by simp [HSt.logged]
    rw [e4]; exact hown2
  · obtain ⟨vs, hv⟩ := (x.row p hp).isBlk hbb
    exact ne (by decide) (by decide) _ _ hv
  · rcases hk with hk | hk
    · have := x.all k hk; have := kall.size; omega
    · exact hk.2
  · rcases e with e | e
    · exact x.log.foot k e
    · subst e; exact x.mh
end Go.Proofs.Ytobcolpdkcppoaa
