/- Layer host: Read. -/
import Derived.Test.YtobcolpdkcppoaaHWrite
namespace Go.Proofs.Ytobcolpdkcppoaa
open Go.RowKit
set_option linter.unusedVariables false
set_option linter.unusedSimpArgs false

/-- A new variable of one cell. -/
theorem wpList_allocV {ops : Array Oper} {rest : List Oper} {o : Oper} {a : Act} {Q : Exit → Act → World → Prop} {w : World} (hgd : o.guard = none) (t : TypeId) (ho : o.op = .alloc t) (z : Value) (n : Nat)
    (hz : (Try.prog.info? t).map (fun i => (i.zero, i.size)) = some (some z, n)) (hc : z.cells = #[z])
    (h : ∀ w', Blk w' w.heap.size t [z] → w'.heap.size = w.heap.size + 1 → Below w.heap.size w w' → wpList Try.prog ops Q rest (a.put o.dst (.pointer (some ⟨w.heap.size, 0, none⟩))) w') : wpList Try.prog ops Q (o :: rest) a w := by
  refine wpList_plain hgd fun K hK => ?_
  unfold Oper.wp execOp
  have hzz : ∀ w, (zeroValue t).run Try.prog w = .ok z w := fun w => by
    obtain ⟨i, hi, he⟩ := Option.map_eq_some_iff.1 hz
    simp only [Prod.mk.injEq] at he
    simp [zeroValue, typeInfo, hi, he.1]
  simp only [ho, Sem.run_bind, Instr.alloc, hzz, hc, newVar, newRow, run_newObj_alloc, Sem.run_pure, Result.andThen_ok]
  exact hK _ _ (h _ (heap_alloc_new w _) (by simp) ((Below.refl _ _).alloc (Nat.le_refl _) _))
theorem zeroBs : (Try.prog.info? 32).map (fun i => (i.zero, i.size)) = some (some (.slice none 0 0), 1) := by kernel_rfl
/-- What a read has laid into its variable. -/
def RdPost (bb : Nat) (z : List Int) (B : Nat) (M2 : Nat → Prop) (W : World) : Prop := ∃ g, Blk W bb 32 [.slice (some ⟨g, 0, none⟩) z.length z.length] ∧ Blk W g 5 (u8s z) ∧ ¬ M2 bb ∧ ¬ M2 g ∧ B ≤ g ∧ Bytes z
theorem RdPost.goes {bb : Nat} {z : List Int} {B : Nat} : ∀ M2 W W', RdPost bb z B M2 W → (∀ k, M2 k → k < W.heap.size) → Kept M2 W W' → RdPost bb z B (more M2 W W') W' := fun M2 W W' ⟨g, h1, h2, h3, h4, h5, h6⟩ _ hk =>
  ⟨g, h1.kept hk h3, h2.kept hk h4, fun e => by
    rcases e with e | e
    · exact h3 e
    · have := h1.lt; omega, fun e => by
    rcases e with e | e
    · exact h4 e
    · have := h2.lt; omega, h5, h6⟩
theorem enter_read : ∀ args w, (callFunc 51 args).run Try.prog w = .ok (.enter 51 args) w := fun args w => by kernel_rfl
set_option maxRecDepth 20000 in
set_option maxHeartbeats 1000000 in
theorem read1_any (h : Nat) (s : HSt) (p : Nat) (hp : p < s.pages) (fv : Value) (fs : List Fl) (bh bp bb : Nat) (M : Nat → Prop) (w : World) (x : HostAt w M h s) (y : FlS w M fv fs) (b1 : Blk w bh 26 [.pointer (some ⟨h, 0, none⟩)]) (b2 : Blk w bp 3 [.int .i64 p]) (b3 : Blk w bb 32 [.slice none 0 0]) (nb : ¬ M bb) :
    Calls Try.prog 51 #[fv, .pointer (some ⟨bh, 0, none⟩), .pointer (some ⟨bp, 0, none⟩), .pointer (some ⟨bb, 0, none⟩)] w fun e w' => e = .returned (.tuple #[]) ∧ HostAt w' M h s ∧ Kept (fun k => k = bb) w w' ∧ RdPost bb (spoL s p fs) w.heap.size M w' := by
  have C := spoilt_any h s p hp fv fs M w x y
  have X : Hid (HostAt w M h s ∧ Blk w bb 32 [.slice none 0 0] ∧ ¬ M bb) := ⟨x, b3, nb⟩
  have c0 : w.cell? ⟨bh, 0, none⟩ = some (.pointer (some ⟨h, 0, none⟩)) := b1.cell 0
  have c1 : w.cell? ⟨bp, 0, none⟩ = some (.int .i64 p) := b2.cell 0
  clear x y b1 b2 b3 nb
  go_enter Try.func51, Try.ntmps51
  go_wp2_with (go_at_call 52; refine C.mono ?_; rintro e w1 ⟨v1, rfl, ⟨g, rfl, bg, hg, hby⟩, l1⟩; have d0 : w1.cell? ⟨bb, 0, none⟩ = some (.slice none 0 0) := (X.out.2.1.later l1 X.out.2.1.lt).cell 0; have d1 : w1.frozen? ⟨bb, 0, none⟩ = false := (X.out.2.1.later l1 X.out.2.1.lt).frozen 0)
  go_end0
  have k2 : Kept (fun k => k = bb) w (w1.setCell ⟨bb, 0, none⟩ (.slice (some ⟨g, 0, none⟩) (spoL s p fs).length (spoL s p fs).length)) := (Kept.new (fun k => k = bb) l1).setCell (p := ⟨bb, 0, none⟩) rfl _
  have hlt := X.out.2.1.lt
  refine ⟨rfl, X.out.1.frame (Same.kept k2 (fun k hk => ⟨X.out.1.all k hk, fun e => X.out.2.2 (e ▸ hk)⟩)), k2, g, (X.out.2.1.later l1 X.out.2.1.lt).set 0 _, bg.other (p := ⟨bb, 0, none⟩) (by simp; omega) _, X.out.2.2, fun e => ?_, hg, hby⟩
  have := X.out.1.all g e; omega
set_option maxRecDepth 20000 in
set_option maxHeartbeats 2000000 in
theorem read_bad (h : Nat) (s : HSt) (p : Int) (M : Nat → Prop) (w : World) (x : HostAt w M h s) (hb : hasP s p = false) :
    Calls Try.prog 28 #[.pointer (some ⟨h, 0, none⟩), .int .i64 p] w fun e w' => e = .returned (.tuple #[.slice none 0 0, .int .i64 2]) ∧ Below w.heap.size w w' := by
  have CC : Hid (∀ W, Below w.heap.size w W → Calls Try.prog 47 #[.pointer (some ⟨h, 0, none⟩), .int .i64 p] W fun e w' => e = .returned (.int .i64 2) ∧ W = w') := fun W hW => by
    have := checkH_any h s p M W (x.later hW)
    rw [hb] at this
    exact this
  clear x hb
  go_enter Try.func28, Try.ntmps28
  go_wp2_with (first | ((with_reducible show wpList _ _ _ (({ dst := some 2, op := _, type := _, pos := _, after := _, guard := _ } : Oper) :: _) _ _); refine wpList_boxV rfl 26 _ rfl (.pointer (some ⟨h, 0, none⟩)) rfl rfl ?_; intro w1 b1 s1 l1; have z1 : Hid (w1.heap.size = w.heap.size + 1) := s1; clear s1) | ((with_reducible show wpList _ _ _ (({ dst := some 3, op := _, type := _, pos := _, after := _, guard := _ } : Oper) :: _) _ _); refine wpList_boxV rfl 3 _ rfl (.int .i64 p) rfl rfl ?_; intro w2 b2 s2 l2; have z2 : Hid (w2.heap.size = w1.heap.size + 1) := s2; clear s2; have d0 : w2.cell? ⟨w.heap.size, 0, none⟩ = some (.pointer (some ⟨h, 0, none⟩)) := (b1.later l2 b1.lt).cell 0; have d1 : w2.cell? ⟨w1.heap.size, 0, none⟩ = some (.int .i64 p) := b2.cell 0; have hb2 : Below w.heap.size w w2 := below_chain l1 l2 l1.size) | (go_at_call 47; refine (CC.out w2 hb2).mono ?_; rintro e _ ⟨rfl, rfl⟩))
  go_ret2
  exact ⟨rfl, hb2⟩
set_option maxRecDepth 20000 in
set_option maxHeartbeats 2000000 in
theorem read_good (h : Nat) (s : HSt) (p : Nat) (hp : p < s.pages) (M : Nat → Prop) (w : World) (x : HostAt w M h s) (hops : s.ops < 3000000000000) :
    Calls Try.prog 28 #[.pointer (some ⟨h, 0, none⟩), .int .i64 p] w fun e w' => ∃ v, e = .returned (.tuple #[v, .int .i64 s.opE]) ∧ ∃ M2, HostAt w' M2 h (s.opS id ⟨0, p, s.size, List.replicate 12 0⟩) ∧ Goes M M2 w w' ∧ (s.opE ≠ 0 → v = .slice none 0 0) ∧
      (s.opE = 0 → ∃ g, v = .slice (some ⟨g, 0, none⟩) s.size s.size ∧ Blk w' g 5 (u8s (spoL s p (s.coming s.ops))) ∧ w.heap.size ≤ g ∧ ¬ M2 g ∧ Bytes (spoL s p (s.coming s.ops))) := by
  have hpt : hasP s p = true := by simp [hasP]; omega
  have CC : Hid (∀ W, Below w.heap.size w W → Calls Try.prog 47 #[.pointer (some ⟨h, 0, none⟩), .int .i64 p] W fun e w' => e = .returned (.int .i64 0) ∧ W = w') := fun W hW => by
    have := checkH_any h s p M W (x.later hW)
    rw [hpt] at this
    exact this
  have G : Hid s.Good := by obtain ⟨_, _, _, _, _, _, q⟩ := x; exact q.good
  have CO : Hid (∀ bp bb w5, w.heap.size ≤ bp → w.heap.size ≤ bb → HostAt w5 M h s → Blk w5 w.heap.size 26 [.pointer (some ⟨h, 0, none⟩)] → Blk w5 bp 3 [.int .i64 p] → Blk w5 bb 32 [.slice none 0 0] → Calls Try.prog 49 #[.pointer (some ⟨h, 0, none⟩), .agg (tcC ⟨0, p, s.size, List.replicate 12 0⟩).toArray, .func (.func 51) #[] #[.pointer (some ⟨w.heap.size, 0, none⟩), .pointer (some ⟨bp, 0, none⟩), .pointer (some ⟨bb, 0, none⟩)]] w5 fun e w' => e = .returned (.int .i64 s.opE) ∧ ∃ M2, HostAt w' M2 h (s.opS id ⟨0, p, s.size, List.replicate 12 0⟩) ∧ (∀ k, M k → M2 k) ∧ (∀ k, M2 k → M k ∨ w5.heap.size ≤ k) ∧ Kept (fun k => M k ∨ k = bb) w5 w' ∧ (s.done → RdPost bb (spoL s p (s.coming s.ops)) w.heap.size M2 w')) := fun bp bb w5 hbp hbb y b1 b2 b3 =>
    operate_all h s id ⟨0, p, s.size, List.replicate 12 0⟩ rfl 51 _ enter_read M (fun k => k = bb) (RdPost bb (spoL s p (s.coming s.ops)) w.heap.size) w5 y hops (fun k e => by rw [e]; exact b3.lt) (fun _ _ q => q) RdPost.goes ⟨rfl, rfl⟩ (fun _ W fv y2 f2 k5 => by
      have nb : ∀ b, w.heap.size ≤ b → ¬ M b := fun b hb e => by have := x.all b e; omega
      refine (read1_any h s.next p hp fv (s.coming s.ops) _ _ _ M W y2 f2 (b1.kept k5 (nb _ (Nat.le_refl _))) (b2.kept k5 (nb _ hbp)) (b3.kept k5 (nb _ hbb)) (nb _ hbb)).mono ?_
      rintro e W' ⟨rfl, y3, k3, g, q1, q2, q3, q4, q5, q6⟩
      have hw : w.heap.size ≤ W.heap.size := by have := b3.lt; have := k5.size; omega
      exact ⟨rfl, M, y3, fun _ h => h, fun _ h => .inl h, k3.mono (fun k e => .inr e), g, q1, q2, q3, q4, by omega, q6⟩)
  have X : Hid (HostAt w M h s) := x
  have HL : Hid ((spoL s p (s.coming s.ops)).length = s.size) := spoL_length G.out p _
  have HDone : Hid (s.opE = 0 → s.done) := fun h => by
    unfold HSt.opE at h
    split at h
    · cases h
    · next h1 => exact ⟨by cases hd : s.down; rfl; exact absurd (.inl hd) h1, fun e => h1 (.inr (.inl e))⟩
  have hE := opE_eq s
  obtain ⟨E, hE'⟩ : ∃ q, s.opE = q := ⟨_, rfl⟩
  rw [hE'] at hE CO HDone ⊢
  clear hE' x hops hpt
  rcases hE with rfl | rfl
  · go_enter Try.func28, Try.ntmps28
    go_wp2_with (first | ((with_reducible show wpList _ _ _ (({ dst := some 2, op := _, type := _, pos := _, after := _, guard := _ } : Oper) :: _) _ _); refine wpList_boxV rfl 26 _ rfl (.pointer (some ⟨h, 0, none⟩)) rfl rfl ?_; intro w1 b1 s1 l1; have z1 : Hid (w1.heap.size = w.heap.size + 1) := s1; clear s1) | ((with_reducible show wpList _ _ _ (({ dst := some 3, op := _, type := _, pos := _, after := _, guard := _ } : Oper) :: _) _ _); refine wpList_boxV rfl 3 _ rfl (.int .i64 p) rfl rfl ?_; intro w2 b2 s2 l2; have z2 : Hid (w2.heap.size = w1.heap.size + 1) := s2; clear s2; have d0 : w2.cell? ⟨w.heap.size, 0, none⟩ = some (.pointer (some ⟨h, 0, none⟩)) := (b1.later l2 b1.lt).cell 0; have d1 : w2.cell? ⟨w1.heap.size, 0, none⟩ = some (.int .i64 p) := b2.cell 0; have hb2 : Below w.heap.size w w2 := below_chain l1 l2 l1.size) | (go_at_call 47; refine (CC.out w2 hb2).mono ?_; rintro e _ ⟨rfl, rfl⟩) | ((with_reducible show wpList _ _ _ (({ dst := some 7, op := _, type := _, pos := _, after := _, guard := _ } : Oper) :: _) _ _); refine wpList_allocV rfl 32 rfl (.slice none 0 0) 1 zeroBs rfl ?_; intro w3 b3 s3 l3; have z3 : Hid (w3.heap.size = w2.heap.size + 1) := s3; clear s3))
    have V3 : Hid (HostAt w3 M h s ∧ Blk w3 w.heap.size 26 [.pointer (some ⟨h, 0, none⟩)] ∧ Blk w3 w1.heap.size 3 [.int .i64 p] ∧ Blk w3 w2.heap.size 32 [.slice none 0 0] ∧ Below w.heap.size w w3) := ⟨X.out.later (below_chain hb2 l3 hb2.size), (b1.later l2 b1.lt).later l3 (b1.later l2 b1.lt).lt, b2.later l3 b2.lt, b3, below_chain hb2 l3 hb2.size⟩
    clear b1 b2 b3 l1 l2 l3 z3 hb2
    refine wp_region_noPanic (till_region 6 (fun W => W.cell? ⟨w.heap.size, 0, none⟩ = some (.pointer (some ⟨h, 0, none⟩)) ∧ W.cell? ⟨w1.heap.size, 0, none⟩ = some (.int .i64 p)) (by kernel_rfl) ?_)
    obtain ⟨w4, hw4⟩ : ∃ q, ({ heap := w3.heap, tape := w3.tape, drawn := w3.drawn + 1, os := w3.os, output := w3.output } : World) = q := ⟨_, rfl⟩
    have V4 : Hid (HostAt w4 M h s ∧ Blk w4 w.heap.size 26 [.pointer (some ⟨h, 0, none⟩)] ∧ Blk w4 w1.heap.size 3 [.int .i64 p] ∧ Blk w4 w2.heap.size 32 [.slice none 0 0] ∧ Below w.heap.size w w4) := by rw [← hw4]; exact ⟨V3.out.1.frame ⟨Nat.le_refl _, fun _ _ => rfl⟩, V3.out.2.1, V3.out.2.2.1, V3.out.2.2.2.1, ⟨V3.out.2.2.2.2.os, V3.out.2.2.2.2.tape, V3.out.2.2.2.2.output, V3.out.2.2.2.2.size, V3.out.2.2.2.2.block⟩⟩
    rw [hw4]
    clear hw4
    have hS : (fun W : World => W.cell? ⟨w.heap.size, 0, none⟩ = some (.pointer (some ⟨h, 0, none⟩)) ∧ W.cell? ⟨w1.heap.size, 0, none⟩ = some (.int .i64 p)) w4 := ⟨V4.out.2.1.cell 0, V4.out.2.2.1.cell 0⟩
    refine tLoad 0 (some 15) (.pointer (some ⟨h, 0, none⟩)) rfl rfl (by kernel_rfl) (by kernel_rfl) (by kernel_rfl) (by decide) (by kernel_rfl) (by kernel_rfl) (fun _ _ _ h => h) (by rfl) (fun W' hS' => by obtain ⟨s1, s2⟩ := hS'; go_simp) hS ?_
    simp only [Act.put, List.setIfInBounds_toArray, List.set_cons_zero, List.set_cons_succ]
    refine tLoad 1 (some 16) (.pointer (some ⟨h, 0, none⟩)) rfl rfl (by kernel_rfl) (by kernel_rfl) (by kernel_rfl) (by decide) (by kernel_rfl) (by kernel_rfl) (fun _ _ _ h => h) (by rfl) (fun W' hS' => by obtain ⟨s1, s2⟩ := hS'; go_simp) hS ?_
    simp only [Act.put, List.setIfInBounds_toArray, List.set_cons_zero, List.set_cons_succ]
    refine tLoad 2 (some 17) (.int .i64 p) rfl rfl (by kernel_rfl) (by kernel_rfl) (by kernel_rfl) (by decide) (by kernel_rfl) (by kernel_rfl) (fun _ _ _ h => h) (by rfl) (fun W' hS' => by obtain ⟨s1, s2⟩ := hS'; go_simp) hS ?_
    simp only [Act.put, List.setIfInBounds_toArray, List.set_cons_zero, List.set_cons_succ]
    refine tTake 4 (some 19) (.func (.func 51) #[] #[.pointer (some ⟨w.heap.size, 0, none⟩), .pointer (some ⟨w1.heap.size, 0, none⟩), .pointer (some ⟨w2.heap.size, 0, none⟩)]) rfl rfl (by kernel_rfl) (by kernel_rfl) (by kernel_rfl) (by decide) (fun _ _ _ h => h) (by rfl) (fun W' => by go_simp) hS ?_
    simp only [Act.put, List.setIfInBounds_toArray, List.set_cons_zero, List.set_cons_succ]
    refine till_ready 3 (by kernel_rfl) rfl (fun K hK => ?_)
    go_simp
    go_wp2_with (go_at_call 50; refine (touch_read h s p M w4 V4.out.1).mono ?_; rintro e w5 ⟨rfl, l5⟩)
    have V5 : Hid (Blk w5 w.heap.size 26 [.pointer (some ⟨h, 0, none⟩)] ∧ Blk w5 w1.heap.size 3 [.int .i64 p] ∧ Blk w5 w2.heap.size 32 [.slice none 0 0] ∧ Below w4.heap.size w4 w5) := ⟨V4.out.2.1.later l5 V4.out.2.1.lt, V4.out.2.2.1.later l5 V4.out.2.2.1.lt, V4.out.2.2.2.1.later l5 V4.out.2.2.2.1.lt, l5⟩
    have hS5 : (fun W : World => W.cell? ⟨w.heap.size, 0, none⟩ = some (.pointer (some ⟨h, 0, none⟩)) ∧ W.cell? ⟨w1.heap.size, 0, none⟩ = some (.int .i64 p)) w5 := ⟨V5.out.1.cell 0, V5.out.2.1.cell 0⟩
    refine ⟨hS5, ?_⟩
    refine till_ready 5 (by kernel_rfl) rfl (fun K hK => ?_)
    go_simp
    go_wp2_with (go_at_call 49; refine (CO.out w1.heap.size w2.heap.size w5 (by have := z1.out; omega) (by have := z1.out; have := z2.out; omega) (V4.out.1.later l5) V5.out.1 V5.out.2.1 V5.out.2.2.1).mono ?_; rintro e w6 ⟨rfl, M2, y, m1, m2, k6, p6⟩)
    have nM : ∀ b, w.heap.size ≤ b → b ≠ w2.heap.size → ¬ (M b ∨ b = w2.heap.size) := fun b hb hne e => by
      rcases e with e | e
      · have := X.out.all b e; omega
      · exact hne e
    have U6 : Hid (HostAt w6 M2 h (s.opS id ⟨0, p, s.size, List.replicate 12 0⟩) ∧ Goes M M2 w w6 ∧ (s.done → RdPost w2.heap.size (spoL s p (s.coming s.ops)) w.heap.size M2 w6)) := by
      refine ⟨y, ⟨m1, fun k hk => ?_, ?_⟩, p6⟩
      · have := V4.out.2.2.2.2.size; have := l5.size
        rcases m2 k hk with e | e
        · exact .inl e
        · exact .inr (by omega)
      · have l4 := V4.out.2.2.2.2
        have := l4.size; have := l5.size; have := z1.out; have := z2.out
        refine ⟨k6.os.trans (l5.os.trans l4.os), k6.tape.trans (l5.tape.trans l4.tape), k6.output.trans (l5.output.trans l4.output), Nat.le_trans l4.size (Nat.le_trans l5.size k6.size), fun k hk hM => (k6.block k (by omega) (fun e => ?_)).trans ((l5.block k (by omega)).trans (l4.block k hk))⟩
        rcases e with e | e
        · exact hM e
        · omega
    have hS6 : (fun W : World => W.cell? ⟨w.heap.size, 0, none⟩ = some (.pointer (some ⟨h, 0, none⟩)) ∧ W.cell? ⟨w1.heap.size, 0, none⟩ = some (.int .i64 p)) w6 := ⟨(V5.out.1.kept k6 (nM _ (Nat.le_refl _) (by have := z1.out; have := z2.out; omega))).cell 0, (V5.out.2.1.kept k6 (nM _ (by have := z1.out; omega) (by have := z2.out; omega))).cell 0⟩
    refine ⟨hS6, ?_⟩
    clear y m1 m2 k6 p6 nM l5 hS hS5 hS6
    refine till_at (by kernel_rfl) ?_
    refine take_op 6 (some 8) (.int .i64 0) rfl rfl (by kernel_rfl) (by kernel_rfl) (by kernel_rfl) (fun _ _ _ h => h) (by rfl) (fun _ => by rfl) ?_
    simp only [Act.put, List.setIfInBounds_toArray, List.set_cons_zero, List.set_cons_succ]
    refine wpAny_done (by kernel_rfl) (NoPanic.normal ?_) _
    obtain ⟨g, q1, q2, q3, q4, q5, q6⟩ := U6.out.2.2 (HDone.out (by first | rfl | trivial))
    have d6 : w6.cell? ⟨w2.heap.size, 0, none⟩ = some (.slice (some ⟨g, 0, none⟩) s.size s.size) := by rw [← HL.out]; exact q1.cell 0
    have Q : Hid (Blk w6 g 5 (u8s (spoL s p (s.coming s.ops))) ∧ w.heap.size ≤ g ∧ ¬ M2 g ∧ Bytes (spoL s p (s.coming s.ops))) := ⟨q2, q5, q4, q6⟩
    clear q1 q2 q3 q4 q5 q6
    go_wp2_with fail
    go_ret2
    exact ⟨_, rfl, M2, U6.out.1, U6.out.2.1, fun h => absurd rfl h, fun _ => ⟨g, rfl, Q.out⟩⟩
  · go_enter Try.func28, Try.ntmps28
    go_wp2_with (first | ((with_reducible show wpList _ _ _ (({ dst := some 2, op := _, type := _, pos := _, after := _, guard := _ } : Oper) :: _) _ _); refine wpList_boxV rfl 26 _ rfl (.pointer (some ⟨h, 0, none⟩)) rfl rfl ?_; intro w1 b1 s1 l1; have z1 : Hid (w1.heap.size = w.heap.size + 1) := s1; clear s1) | ((with_reducible show wpList _ _ _ (({ dst := some 3, op := _, type := _, pos := _, after := _, guard := _ } : Oper) :: _) _ _); refine wpList_boxV rfl 3 _ rfl (.int .i64 p) rfl rfl ?_; intro w2 b2 s2 l2; have z2 : Hid (w2.heap.size = w1.heap.size + 1) := s2; clear s2; have d0 : w2.cell? ⟨w.heap.size, 0, none⟩ = some (.pointer (some ⟨h, 0, none⟩)) := (b1.later l2 b1.lt).cell 0; have d1 : w2.cell? ⟨w1.heap.size, 0, none⟩ = some (.int .i64 p) := b2.cell 0; have hb2 : Below w.heap.size w w2 := below_chain l1 l2 l1.size) | (go_at_call 47; refine (CC.out w2 hb2).mono ?_; rintro e _ ⟨rfl, rfl⟩) | ((with_reducible show wpList _ _ _ (({ dst := some 7, op := _, type := _, pos := _, after := _, guard := _ } : Oper) :: _) _ _); refine wpList_allocV rfl 32 rfl (.slice none 0 0) 1 zeroBs rfl ?_; intro w3 b3 s3 l3; have z3 : Hid (w3.heap.size = w2.heap.size + 1) := s3; clear s3))
    have V3 : Hid (HostAt w3 M h s ∧ Blk w3 w.heap.size 26 [.pointer (some ⟨h, 0, none⟩)] ∧ Blk w3 w1.heap.size 3 [.int .i64 p] ∧ Blk w3 w2.heap.size 32 [.slice none 0 0] ∧ Below w.heap.size w w3) := ⟨X.out.later (below_chain hb2 l3 hb2.size), (b1.later l2 b1.lt).later l3 (b1.later l2 b1.lt).lt, b2.later l3 b2.lt, b3, below_chain hb2 l3 hb2.size⟩
    clear b1 b2 b3 l1 l2 l3 z3 hb2
    refine wp_region_noPanic (till_region 6 (fun W => W.cell? ⟨w.heap.size, 0, none⟩ = some (.pointer (some ⟨h, 0, none⟩)) ∧ W.cell? ⟨w1.heap.size, 0, none⟩ = some (.int .i64 p)) (by kernel_rfl) ?_)
    obtain ⟨w4, hw4⟩ : ∃ q, ({ heap := w3.heap, tape := w3.tape, drawn := w3.drawn + 1, os := w3.os, output := w3.output } : World) = q := ⟨_, rfl⟩
    have V4 : Hid (HostAt w4 M h s ∧ Blk w4 w.heap.size 26 [.pointer (some ⟨h, 0, none⟩)] ∧ Blk w4 w1.heap.size 3 [.int .i64 p] ∧ Blk w4 w2.heap.size 32 [.slice none 0 0] ∧ Below w.heap.size w w4) := by rw [← hw4]; exact ⟨V3.out.1.frame ⟨Nat.le_refl _, fun _ _ => rfl⟩, V3.out.2.1, V3.out.2.2.1, V3.out.2.2.2.1, ⟨V3.out.2.2.2.2.os, V3.out.2.2.2.2.tape, V3.out.2.2.2.2.output, V3.out.2.2.2.2.size, V3.out.2.2.2.2.block⟩⟩
    rw [hw4]
    clear hw4
    have hS : (fun W : World => W.cell? ⟨w.heap.size, 0, none⟩ = some (.pointer (some ⟨h, 0, none⟩)) ∧ W.cell? ⟨w1.heap.size, 0, none⟩ = some (.int .i64 p)) w4 := ⟨V4.out.2.1.cell 0, V4.out.2.2.1.cell 0⟩
    refine tLoad 0 (some 15) (.pointer (some ⟨h, 0, none⟩)) rfl rfl (by kernel_rfl) (by kernel_rfl) (by kernel_rfl) (by decide) (by kernel_rfl) (by kernel_rfl) (fun _ _ _ h => h) (by rfl) (fun W' hS' => by obtain ⟨s1, s2⟩ := hS'; go_simp) hS ?_
    simp only [Act.put, List.setIfInBounds_toArray, List.set_cons_zero, List.set_cons_succ]
    refine tLoad 1 (some 16) (.pointer (some ⟨h, 0, none⟩)) rfl rfl (by kernel_rfl) (by kernel_rfl) (by kernel_rfl) (by decide) (by kernel_rfl) (by kernel_rfl) (fun _ _ _ h => h) (by rfl) (fun W' hS' => by obtain ⟨s1, s2⟩ := hS'; go_simp) hS ?_
    simp only [Act.put, List.setIfInBounds_toArray, List.set_cons_zero, List.set_cons_succ]
    refine tLoad 2 (some 17) (.int .i64 p) rfl rfl (by kernel_rfl) (by kernel_rfl) (by kernel_rfl) (by decide) (by kernel_rfl) (by kernel_rfl) (fun _ _ _ h => h) (by rfl) (fun W' hS' => by obtain ⟨s1, s2⟩ := hS'; go_simp) hS ?_
    simp only [Act.put, List.setIfInBounds_toArray, List.set_cons_zero, List.set_cons_succ]
    refine tTake 4 (some 19) (.func (.func 51) #[] #[.pointer (some ⟨w.heap.size, 0, none⟩), .pointer (some ⟨w1.heap.size, 0, none⟩), .pointer (some ⟨w2.heap.size, 0, none⟩)]) rfl rfl (by kernel_rfl) (by kernel_rfl) (by kernel_rfl) (by decide) (fun _ _ _ h => h) (by rfl) (fun W' => by go_simp) hS ?_
    simp only [Act.put, List.setIfInBounds_toArray, List.set_cons_zero, List.set_cons_succ]
    refine till_ready 3 (by kernel_rfl) rfl (fun K hK => ?_)
    go_simp
    go_wp2_with (go_at_call 50; refine (touch_read h s p M w4 V4.out.1).mono ?_; rintro e w5 ⟨rfl, l5⟩)
    have V5 : Hid (Blk w5 w.heap.size 26 [.pointer (some ⟨h, 0, none⟩)] ∧ Blk w5 w1.heap.size 3 [.int .i64 p] ∧ Blk w5 w2.heap.size 32 [.slice none 0 0] ∧ Below w4.heap.size w4 w5) := ⟨V4.out.2.1.later l5 V4.out.2.1.lt, V4.out.2.2.1.later l5 V4.out.2.2.1.lt, V4.out.2.2.2.1.later l5 V4.out.2.2.2.1.lt, l5⟩
    have hS5 : (fun W : World => W.cell? ⟨w.heap.size, 0, none⟩ = some (.pointer (some ⟨h, 0, none⟩)) ∧ W.cell? ⟨w1.heap.size, 0, none⟩ = some (.int .i64 p)) w5 := ⟨V5.out.1.cell 0, V5.out.2.1.cell 0⟩
    refine ⟨hS5, ?_⟩
    refine till_ready 5 (by kernel_rfl) rfl (fun K hK => ?_)
    go_simp
    go_wp2_with (go_at_call 49; refine (CO.out w1.heap.size w2.heap.size w5 (by have := z1.out; omega) (by have := z1.out; have := z2.out; omega) (V4.out.1.later l5) V5.out.1 V5.out.2.1 V5.out.2.2.1).mono ?_; rintro e w6 ⟨rfl, M2, y, m1, m2, k6, p6⟩)
    have nM : ∀ b, w.heap.size ≤ b → b ≠ w2.heap.size → ¬ (M b ∨ b = w2.heap.size) := fun b hb hne e => by
      rcases e with e | e
      · have := X.out.all b e; omega
      · exact hne e
    have U6 : Hid (HostAt w6 M2 h (s.opS id ⟨0, p, s.size, List.replicate 12 0⟩) ∧ Goes M M2 w w6 ∧ (s.done → RdPost w2.heap.size (spoL s p (s.coming s.ops)) w.heap.size M2 w6)) := by
      refine ⟨y, ⟨m1, fun k hk => ?_, ?_⟩, p6⟩
      · have := V4.out.2.2.2.2.size; have := l5.size
        rcases m2 k hk with e | e
        · exact .inl e
        · exact .inr (by omega)
      · have l4 := V4.out.2.2.2.2
        have := l4.size; have := l5.size; have := z1.out; have := z2.out
        refine ⟨k6.os.trans (l5.os.trans l4.os), k6.tape.trans (l5.tape.trans l4.tape), k6.output.trans (l5.output.trans l4.output), Nat.le_trans l4.size (Nat.le_trans l5.size k6.size), fun k hk hM => (k6.block k (by omega) (fun e => ?_)).trans ((l5.block k (by omega)).trans (l4.block k hk))⟩
        rcases e with e | e
        · exact hM e
        · omega
    have hS6 : (fun W : World => W.cell? ⟨w.heap.size, 0, none⟩ = some (.pointer (some ⟨h, 0, none⟩)) ∧ W.cell? ⟨w1.heap.size, 0, none⟩ = some (.int .i64 p)) w6 := ⟨(V5.out.1.kept k6 (nM _ (Nat.le_refl _) (by have := z1.out; have := z2.out; omega))).cell 0, (V5.out.2.1.kept k6 (nM _ (by have := z1.out; omega) (by have := z2.out; omega))).cell 0⟩
    refine ⟨hS6, ?_⟩
    clear y m1 m2 k6 p6 nM l5 hS hS5 hS6
    refine till_at (by kernel_rfl) ?_
    refine take_op 6 (some 8) (.int .i64 110) rfl rfl (by kernel_rfl) (by kernel_rfl) (by kernel_rfl) (fun _ _ _ h => h) (by rfl) (fun _ => by rfl) ?_
    simp only [Act.put, List.setIfInBounds_toArray, List.set_cons_zero, List.set_cons_succ]
    refine wpAny_done (by kernel_rfl) (NoPanic.normal ?_) _
    go_wp2_with fail
    go_ret2
    exact ⟨_, rfl, M2, U6.out.1, U6.out.2.1, fun _ => rfl, fun h => by cases h⟩
end Go.Proofs.Ytobcolpdkcppoaa
