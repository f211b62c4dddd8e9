/- Joined by program: what the theorem reaches. -/
import Derived.Test.YtpanagghppdiiaaGreatJA
import Derived.Test.YtpanagghppdiiaaGreatJC
import Derived.Test.YtpanagghppdiiaaGreatJF
import Derived.Test.YtpanagghppdiiaaGreatJG
namespace Go.Proofs.YtpanagghppdiiaaGreat
open Go.RowKit
set_option linter.unusedVariables false
set_option linter.unusedSimpArgs false
set_option maxRecDepth 20000
set_option maxHeartbeats 4000000
theorem wpList_allocV {ops : Array Oper} {rest : List Oper} {o : Oper} {a : Act} {Q : Exit → Act → World → Prop} {w : World} (hgd : o.guard = none) (t : TypeId) (ho : o.op = .alloc t) (z : Value) (n : Nat)
  (hz : (Tryz.prog.info? t).map (fun i => (i.zero, i.size)) = some (some z, n)) (hc : z.cells = #[z])
  (h : ∀ w', Blk w' w.heap.size t [z] → w'.heap.size = w.heap.size + 1 → Below w.heap.size w w' → wpList Tryz.prog ops Q rest (a.put o.dst (.pointer (some ⟨w.heap.size, 0, none⟩))) w') : wpList Tryz.prog ops Q (o :: rest) a w := by
 refine wpList_plain hgd fun K hK => ?_
 unfold Oper.wp execOp
 have hzz : ∀ w, (zeroValue t).run Tryz.prog w = .ok z w := fun w => by
  obtain ⟨i, hi, he⟩ := Option.map_eq_some_iff.1 hz
  simp only [Prod.mk.injEq] at he
  simp [zeroValue, typeInfo, hi, he.1]
 simp only [ho, Sem.run_bind, Instr.alloc, hzz, hc, newVar, newRow, run_newObj_alloc, Sem.run_pure, Result.andThen_ok]
 exact hK _ _ (h _ (heap_alloc_new w _) (by simp) ((Below.refl _ _).alloc (Nat.le_refl _) _))
theorem zeroBs : (Tryz.prog.info? 37).map (fun i => (i.zero, i.size)) = some (some (.slice none 0 0), 1) := by kernel_rfl
def RdPost (bb : Nat) (z : List Int) (B : Nat) (M2 : Nat → Prop) (W : World) : Prop := ∃ g, Blk W bb 37 [.slice (some ⟨g, 0, none⟩) z.length z.length] ∧ Blk W g 5 (u8s z) ∧ ¬ M2 bb ∧ ¬ M2 g ∧ B ≤ g ∧ Bytes z
theorem RdPost.goes {bb : Nat} {z : List Int} {B : Nat} : ∀ M2 W W', RdPost bb z B M2 W → (∀ k, M2 k → k < W.heap.size) → Kept M2 W W' → RdPost bb z B (more M2 W W') W' := fun M2 W W' ⟨g, h1, h2, h3, h4, h5, h6⟩ _ hk =>
 ⟨g, h1.kept hk h3, h2.kept hk h4, fun e => by
  rcases e with e | e
  ·exact h3 e
  ·have := h1.lt; omega, fun e => by
  rcases e with e | e
  ·exact h4 e
  ·have := h2.lt; omega, h5, h6⟩
theorem enter_read : ∀ args w, (callFunc 200 args).run Tryz.prog w = .ok (.enter 200 args) w := fun args w => by kernel_rfl
theorem read1_any (h : Nat) (s : HSt) (p : Nat) (hp : p < s.pages) (fv : Value) (fs : List Fl) (bh bp bb : Nat) (M : Nat → Prop) (w : World) (x : HostAt w M h s) (y : FlS w M fv fs) (b1 : Blk w bh 42 [.pointer (some ⟨h, 0, none⟩)]) (b2 : Blk w bp 3 [.int .i64 p]) (b3 : Blk w bb 37 [.slice none 0 0]) (nb : ¬ M bb) :
  Calls Tryz.prog 200 #[fv, .pointer (some ⟨bh, 0, none⟩), .pointer (some ⟨bp, 0, none⟩), .pointer (some ⟨bb, 0, none⟩)] w fun e w' => e = .returned (.tuple #[]) ∧ HostAt w' M h s ∧ Kept (fun k => k = bb) w w' ∧ RdPost bb (spoL s p fs) w.heap.size M w' := by
 have C := spoilt_any h s p hp fv fs M w x y
 have X : Hid (HostAt w M h s ∧ Blk w bb 37 [.slice none 0 0] ∧ ¬ M bb) := ⟨x, b3, nb⟩
 have c0 : w.cell? ⟨bh, 0, none⟩ = some (.pointer (some ⟨h, 0, none⟩)) := b1.cell 0
 have c1 : w.cell? ⟨bp, 0, none⟩ = some (.int .i64 p) := b2.cell 0
 clear x y b1 b2 b3 nb
 go_enter Tryz.func200, Tryz.ntmps200
 go_wp2_with (go_at_call 201; refine C.mono ?_; rintro e w1 ⟨v1, rfl, ⟨g, rfl, bg, hg, hby⟩, l1⟩; have d0 : w1.cell? ⟨bb, 0, none⟩ = some (.slice none 0 0) := (X.out.2.1.later l1 X.out.2.1.lt).cell 0; have d1 : w1.frozen? ⟨bb, 0, none⟩ = false := (X.out.2.1.later l1 X.out.2.1.lt).frozen 0)
 go_end0
 have k2 : Kept (fun k => k = bb) w (w1.setCell ⟨bb, 0, none⟩ (.slice (some ⟨g, 0, none⟩) (spoL s p fs).length (spoL s p fs).length)) := (Kept.new (fun k => k = bb) l1).setCell (p := ⟨bb, 0, none⟩) rfl _
 have hlt := X.out.2.1.lt
 refine ⟨rfl, X.out.1.frame (Same.kept k2 (fun k hk => ⟨X.out.1.all k hk, fun e => X.out.2.2 (e ▸ hk)⟩)), k2, g, (X.out.2.1.later l1 X.out.2.1.lt).set 0 _, bg.other (p := ⟨bb, 0, none⟩) (by simp; omega) _, X.out.2.2, fun e => ?_, hg, hby⟩
 have := X.out.1.all g e; omega
theorem read_good (h : Nat) (s : HSt) (p : Nat) (hp : p < s.pages) (M : Nat → Prop) (w : World) (x : HostAt w M h s) (hops : s.ops < 3000000000000) :
  Calls Tryz.prog 193 #[.pointer (some ⟨h, 0, none⟩), .int .i64 p] w fun e w' => ∃ v, e = .returned (.tuple #[v, .int .i64 s.opE]) ∧ ∃ M2, HostAt w' M2 h (s.opS id ⟨0, p, s.size, List.replicate 12 0⟩) ∧ Goes M M2 w w' ∧ (s.opE ≠ 0 → v = .slice none 0 0) ∧
   (s.opE = 0 → ∃ g, v = .slice (some ⟨g, 0, none⟩) s.size s.size ∧ Blk w' g 5 (u8s (spoL s p (s.coming s.ops))) ∧ w.heap.size ≤ g ∧ ¬ M2 g ∧ Bytes (spoL s p (s.coming s.ops))) := by
 have hpt : hasP s p = true := by simp [hasP]; omega
 have CC : Hid (∀ W, Below w.heap.size w W → Calls Tryz.prog 197 #[.pointer (some ⟨h, 0, none⟩), .int .i64 p] W fun e w' => e = .returned (.int .i64 0) ∧ W = w') := fun W hW => by
  have := checkH_any h s p M W (x.later hW)
  rw [hpt] at this
  exact this
 have G : Hid s.Good := by obtain ⟨_, _, _, _, _, _, q⟩ := x; exact q.good
 have CO : Hid (∀ bp bb w5, w.heap.size ≤ bp → w.heap.size ≤ bb → HostAt w5 M h s → Blk w5 w.heap.size 42 [.pointer (some ⟨h, 0, none⟩)] → Blk w5 bp 3 [.int .i64 p] → Blk w5 bb 37 [.slice none 0 0] → Calls Tryz.prog 198 #[.pointer (some ⟨h, 0, none⟩), .agg (tcC ⟨0, p, s.size, List.replicate 12 0⟩).toArray, .func (.func 200) #[] #[.pointer (some ⟨w.heap.size, 0, none⟩), .pointer (some ⟨bp, 0, none⟩), .pointer (some ⟨bb, 0, none⟩)]] w5 fun e w' => e = .returned (.int .i64 s.opE) ∧ ∃ M2, HostAt w' M2 h (s.opS id ⟨0, p, s.size, List.replicate 12 0⟩) ∧ (∀ k, M k → M2 k) ∧ (∀ k, M2 k → M k ∨ w5.heap.size ≤ k) ∧ Kept (fun k => M k ∨ k = bb) w5 w' ∧ (s.done → RdPost bb (spoL s p (s.coming s.ops)) w.heap.size M2 w')) := fun bp bb w5 hbp hbb y b1 b2 b3 =>
  operate_all h s id ⟨0, p, s.size, List.replicate 12 0⟩ rfl 200 _ enter_read M (fun k => k = bb) (RdPost bb (spoL s p (s.coming s.ops)) w.heap.size) w5 y hops (fun k e => by rw [e]; exact b3.lt) (fun _ _ q => q) RdPost.goes ⟨rfl, rfl⟩ (fun _ W fv y2 f2 k5 => by
   have nb : ∀ b, w.heap.size ≤ b → ¬ M b := fun b hb e => by have := x.all b e; omega
   refine (read1_any h s.next p hp fv (s.coming s.ops) _ _ _ M W y2 f2 (b1.kept k5 (nb _ (Nat.le_refl _))) (b2.kept k5 (nb _ hbp)) (b3.kept k5 (nb _ hbb)) (nb _ hbb)).mono ?_
   rintro e W' ⟨rfl, y3, k3, g, q1, q2, q3, q4, q5, q6⟩
   have hw : w.heap.size ≤ W.heap.size := by have := b3.lt; have := k5.size; omega
   exact ⟨rfl, M, y3, fun _ h => h, fun _ h => .inl h, k3.mono (fun k e => .inr e), g, q1, q2, q3, q4, by omega, q6⟩)
 have X : Hid (HostAt w M h s) := x
 have HL : Hid ((spoL s p (s.coming s.ops)).length = s.size) := spoL_length G.out p _
 have HDone : Hid (s.opE = 0 → s.done) := fun h => by
  unfold HSt.opE at h
  split at h
  ·cases h
  ·next h1 => exact ⟨by cases hd : s.down; rfl; exact absurd (.inl hd) h1, fun e => h1 (.inr (.inl e))⟩
 have hE := opE_eq s
 obtain ⟨E, hE'⟩ : ∃ q, s.opE = q := ⟨_, rfl⟩
 rw [hE'] at hE CO HDone ⊢
 clear hE' x hops hpt
 rcases hE with rfl | rfl
 ·go_enter Tryz.func193, Tryz.ntmps193
  go_wp2_with (first | ((with_reducible show wpList _ _ _ (({ dst := some 2, op := _, type := _, pos := _, after := _, guard := _ } : Oper) :: _) _ _); refine wpList_boxV rfl 42 _ rfl (.pointer (some ⟨h, 0, none⟩)) rfl rfl ?_; intro w1 b1 s1 l1; have z1 : Hid (w1.heap.size = w.heap.size + 1) := s1; clear s1) | ((with_reducible show wpList _ _ _ (({ dst := some 3, op := _, type := _, pos := _, after := _, guard := _ } : Oper) :: _) _ _); refine wpList_boxV rfl 3 _ rfl (.int .i64 p) rfl rfl ?_; intro w2 b2 s2 l2; have z2 : Hid (w2.heap.size = w1.heap.size + 1) := s2; clear s2; have d0 : w2.cell? ⟨w.heap.size, 0, none⟩ = some (.pointer (some ⟨h, 0, none⟩)) := (b1.later l2 b1.lt).cell 0; have d1 : w2.cell? ⟨w1.heap.size, 0, none⟩ = some (.int .i64 p) := b2.cell 0; have hb2 : Below w.heap.size w w2 := below_chain l1 l2 l1.size) | (go_at_call 197; refine (CC.out w2 hb2).mono ?_; rintro e _ ⟨rfl, rfl⟩) | ((with_reducible show wpList _ _ _ (({ dst := some 7, op := _, type := _, pos := _, after := _, guard := _ } : Oper) :: _) _ _); refine wpList_allocV rfl 37 rfl (.slice none 0 0) 1 zeroBs rfl ?_; intro w3 b3 s3 l3; have z3 : Hid (w3.heap.size = w2.heap.size + 1) := s3; clear s3))
  have V3 : Hid (HostAt w3 M h s ∧ Blk w3 w.heap.size 42 [.pointer (some ⟨h, 0, none⟩)] ∧ Blk w3 w1.heap.size 3 [.int .i64 p] ∧ Blk w3 w2.heap.size 37 [.slice none 0 0] ∧ Below w.heap.size w w3) := ⟨X.out.later (below_chain hb2 l3 hb2.size), (b1.later l2 b1.lt).later l3 (b1.later l2 b1.lt).lt, b2.later l3 b2.lt, b3, below_chain hb2 l3 hb2.size⟩
  clear b1 b2 b3 l1 l2 l3 z3 hb2
  refine wp_region_noPanic (till_region 6 (fun W => W.cell? ⟨w.heap.size, 0, none⟩ = some (.pointer (some ⟨h, 0, none⟩)) ∧ W.cell? ⟨w1.heap.size, 0, none⟩ = some (.int .i64 p)) (by kernel_rfl) ?_)
  obtain ⟨w4, hw4⟩ : ∃ q, ({ heap := w3.heap, tape := w3.tape, drawn := w3.drawn + 1, os := w3.os, output := w3.output } : World) = q := ⟨_, rfl⟩
  have V4 : Hid (HostAt w4 M h s ∧ Blk w4 w.heap.size 42 [.pointer (some ⟨h, 0, none⟩)] ∧ Blk w4 w1.heap.size 3 [.int .i64 p] ∧ Blk w4 w2.heap.size 37 [.slice none 0 0] ∧ Below w.heap.size w w4) := by rw [← hw4]; exact ⟨V3.out.1.frame ⟨Nat.le_refl _, fun _ _ => rfl⟩, V3.out.2.1, V3.out.2.2.1, V3.out.2.2.2.1, ⟨V3.out.2.2.2.2.os, V3.out.2.2.2.2.tape, V3.out.2.2.2.2.output, V3.out.2.2.2.2.size, V3.out.2.2.2.2.block⟩⟩
  rw [hw4]
  clear hw4
  have hS : (fun W : World => W.cell? ⟨w.heap.size, 0, none⟩ = some (.pointer (some ⟨h, 0, none⟩)) ∧ W.cell? ⟨w1.heap.size, 0, none⟩ = some (.int .i64 p)) w4 := ⟨V4.out.2.1.cell 0, V4.out.2.2.1.cell 0⟩
  refine tLoad 0 (some 15) (.pointer (some ⟨h, 0, none⟩)) rfl rfl (by kernel_rfl) (by kernel_rfl) (by kernel_rfl) (by decide) (by kernel_rfl) (by kernel_rfl) (fun _ _ _ h => h) (by rfl) (fun W' hS' => by obtain ⟨s1, s2⟩ := hS'; go_simp) hS ?_
  simp only [Act.put, sqA, sqB, sqC]
  refine tLoad 1 (some 16) (.pointer (some ⟨h, 0, none⟩)) rfl rfl (by kernel_rfl) (by kernel_rfl) (by kernel_rfl) (by decide) (by kernel_rfl) (by kernel_rfl) (fun _ _ _ h => h) (by rfl) (fun W' hS' => by obtain ⟨s1, s2⟩ := hS'; go_simp) hS ?_
  simp only [Act.put, sqA, sqB, sqC]
  refine tLoad 2 (some 17) (.int .i64 p) rfl rfl (by kernel_rfl) (by kernel_rfl) (by kernel_rfl) (by decide) (by kernel_rfl) (by kernel_rfl) (fun _ _ _ h => h) (by rfl) (fun W' hS' => by obtain ⟨s1, s2⟩ := hS'; go_simp) hS ?_
  simp only [Act.put, sqA, sqB, sqC]
  refine tTake 4 (some 19) (.func (.func 200) #[] #[.pointer (some ⟨w.heap.size, 0, none⟩), .pointer (some ⟨w1.heap.size, 0, none⟩), .pointer (some ⟨w2.heap.size, 0, none⟩)]) rfl rfl (by kernel_rfl) (by kernel_rfl) (by kernel_rfl) (by decide) (fun _ _ _ h => h) (by rfl) (fun W' => by go_simp) hS ?_
  simp only [Act.put, sqA, sqB, sqC]
  refine till_ready 3 (by kernel_rfl) rfl (fun K hK => ?_)
  go_simp
  go_wp2_with (go_at_call 199; refine (touch_read h s p M w4 V4.out.1).mono ?_; rintro e w5 ⟨rfl, l5⟩)
  have V5 : Hid (Blk w5 w.heap.size 42 [.pointer (some ⟨h, 0, none⟩)] ∧ Blk w5 w1.heap.size 3 [.int .i64 p] ∧ Blk w5 w2.heap.size 37 [.slice none 0 0] ∧ Below w4.heap.size w4 w5) := ⟨V4.out.2.1.later l5 V4.out.2.1.lt, V4.out.2.2.1.later l5 V4.out.2.2.1.lt, V4.out.2.2.2.1.later l5 V4.out.2.2.2.1.lt, l5⟩
  have hS5 : (fun W : World => W.cell? ⟨w.heap.size, 0, none⟩ = some (.pointer (some ⟨h, 0, none⟩)) ∧ W.cell? ⟨w1.heap.size, 0, none⟩ = some (.int .i64 p)) w5 := ⟨V5.out.1.cell 0, V5.out.2.1.cell 0⟩
  refine ⟨hS5, ?_⟩
  refine till_ready 5 (by kernel_rfl) rfl (fun K hK => ?_)
  go_simp
  go_wp2_with (go_at_call 198; refine (CO.out w1.heap.size w2.heap.size w5 (by have := z1.out; omega) (by have := z1.out; have := z2.out; omega) (V4.out.1.later l5) V5.out.1 V5.out.2.1 V5.out.2.2.1).mono ?_; rintro e w6 ⟨rfl, M2, y, m1, m2, k6, p6⟩)
  have nM : ∀ b, w.heap.size ≤ b → b ≠ w2.heap.size → ¬ (M b ∨ b = w2.heap.size) := fun b hb hne e => by
   rcases e with e | e
   ·have := X.out.all b e; omega
   ·exact hne e
  have U6 : Hid (HostAt w6 M2 h (s.opS id ⟨0, p, s.size, List.replicate 12 0⟩) ∧ Goes M M2 w w6 ∧ (s.done → RdPost w2.heap.size (spoL s p (s.coming s.ops)) w.heap.size M2 w6)) := by
   refine ⟨y, ⟨m1, fun k hk => ?_, ?_⟩, p6⟩
   ·have := V4.out.2.2.2.2.size; have := l5.size
    rcases m2 k hk with e | e
    ·exact .inl e
    ·exact .inr (by omega)
   ·have l4 := V4.out.2.2.2.2
    have := l4.size; have := l5.size; have := z1.out; have := z2.out
    refine ⟨k6.os.trans (l5.os.trans l4.os), k6.tape.trans (l5.tape.trans l4.tape), k6.output.trans (l5.output.trans l4.output), Nat.le_trans l4.size (Nat.le_trans l5.size k6.size), fun k hk hM => (k6.block k (by omega) (fun e => ?_)).trans ((l5.block k (by omega)).trans (l4.block k hk))⟩
    rcases e with e | e
    ·exact hM e
    ·omega
  have hS6 : (fun W : World => W.cell? ⟨w.heap.size, 0, none⟩ = some (.pointer (some ⟨h, 0, none⟩)) ∧ W.cell? ⟨w1.heap.size, 0, none⟩ = some (.int .i64 p)) w6 := ⟨(V5.out.1.kept k6 (nM _ (Nat.le_refl _) (by have := z1.out; have := z2.out; omega))).cell 0, (V5.out.2.1.kept k6 (nM _ (by have := z1.out; omega) (by have := z2.out; omega))).cell 0⟩
  refine ⟨hS6, ?_⟩
  clear y m1 m2 k6 p6 nM l5 hS hS5 hS6
  refine till_at (by kernel_rfl) ?_
  refine take_op 6 (some 8) (.int .i64 0) rfl rfl (by kernel_rfl) (by kernel_rfl) (by kernel_rfl) (fun _ _ _ h => h) (by rfl) (fun _ => by rfl) ?_
  simp only [Act.put, sqA, sqB, sqC]
  refine wpAny_done (by kernel_rfl) (NoPanic.normal ?_) _
  obtain ⟨g, q1, q2, q3, q4, q5, q6⟩ := U6.out.2.2 (HDone.out (by first | rfl | trivial))
  have d6 : w6.cell? ⟨w2.heap.size, 0, none⟩ = some (.slice (some ⟨g, 0, none⟩) s.size s.size) := by rw [← HL.out]; exact q1.cell 0
  have Q : Hid (Blk w6 g 5 (u8s (spoL s p (s.coming s.ops))) ∧ w.heap.size ≤ g ∧ ¬ M2 g ∧ Bytes (spoL s p (s.coming s.ops))) := ⟨q2, q5, q4, q6⟩
  clear q1 q2 q3 q4 q5 q6
  go_wp2_with fail
  go_ret2
  exact ⟨_, rfl, M2, U6.out.1, U6.out.2.1, fun h => absurd rfl h, fun _ => ⟨g, rfl, Q.out⟩⟩
 ·go_enter Tryz.func193, Tryz.ntmps193
  go_wp2_with (first | ((with_reducible show wpList _ _ _ (({ dst := some 2, op := _, type := _, pos := _, after := _, guard := _ } : Oper) :: _) _ _); refine wpList_boxV rfl 42 _ rfl (.pointer (some ⟨h, 0, none⟩)) rfl rfl ?_; intro w1 b1 s1 l1; have z1 : Hid (w1.heap.size = w.heap.size + 1) := s1; clear s1) | ((with_reducible show wpList _ _ _ (({ dst := some 3, op := _, type := _, pos := _, after := _, guard := _ } : Oper) :: _) _ _); refine wpList_boxV rfl 3 _ rfl (.int .i64 p) rfl rfl ?_; intro w2 b2 s2 l2; have z2 : Hid (w2.heap.size = w1.heap.size + 1) := s2; clear s2; have d0 : w2.cell? ⟨w.heap.size, 0, none⟩ = some (.pointer (some ⟨h, 0, none⟩)) := (b1.later l2 b1.lt).cell 0; have d1 : w2.cell? ⟨w1.heap.size, 0, none⟩ = some (.int .i64 p) := b2.cell 0; have hb2 : Below w.heap.size w w2 := below_chain l1 l2 l1.size) | (go_at_call 197; refine (CC.out w2 hb2).mono ?_; rintro e _ ⟨rfl, rfl⟩) | ((with_reducible show wpList _ _ _ (({ dst := some 7, op := _, type := _, pos := _, after := _, guard := _ } : Oper) :: _) _ _); refine wpList_allocV rfl 37 rfl (.slice none 0 0) 1 zeroBs rfl ?_; intro w3 b3 s3 l3; have z3 : Hid (w3.heap.size = w2.heap.size + 1) := s3; clear s3))
  have V3 : Hid (HostAt w3 M h s ∧ Blk w3 w.heap.size 42 [.pointer (some ⟨h, 0, none⟩)] ∧ Blk w3 w1.heap.size 3 [.int .i64 p] ∧ Blk w3 w2.heap.size 37 [.slice none 0 0] ∧ Below w.heap.size w w3) := ⟨X.out.later (below_chain hb2 l3 hb2.size), (b1.later l2 b1.lt).later l3 (b1.later l2 b1.lt).lt, b2.later l3 b2.lt, b3, below_chain hb2 l3 hb2.size⟩
  clear b1 b2 b3 l1 l2 l3 z3 hb2
  refine wp_region_noPanic (till_region 6 (fun W => W.cell? ⟨w.heap.size, 0, none⟩ = some (.pointer (some ⟨h, 0, none⟩)) ∧ W.cell? ⟨w1.heap.size, 0, none⟩ = some (.int .i64 p)) (by kernel_rfl) ?_)
  obtain ⟨w4, hw4⟩ : ∃ q, ({ heap := w3.heap, tape := w3.tape, drawn := w3.drawn + 1, os := w3.os, output := w3.output } : World) = q := ⟨_, rfl⟩
  have V4 : Hid (HostAt w4 M h s ∧ Blk w4 w.heap.size 42 [.pointer (some ⟨h, 0, none⟩)] ∧ Blk w4 w1.heap.size 3 [.int .i64 p] ∧ Blk w4 w2.heap.size 37 [.slice none 0 0] ∧ Below w.heap.size w w4) := by rw [← hw4]; exact ⟨V3.out.1.frame ⟨Nat.le_refl _, fun _ _ => rfl⟩, V3.out.2.1, V3.out.2.2.1, V3.out.2.2.2.1, ⟨V3.out.2.2.2.2.os, V3.out.2.2.2.2.tape, V3.out.2.2.2.2.output, V3.out.2.2.2.2.size, V3.out.2.2.2.2.block⟩⟩
  rw [hw4]
  clear hw4
  have hS : (fun W : World => W.cell? ⟨w.heap.size, 0, none⟩ = some (.pointer (some ⟨h, 0, none⟩)) ∧ W.cell? ⟨w1.heap.size, 0, none⟩ = some (.int .i64 p)) w4 := ⟨V4.out.2.1.cell 0, V4.out.2.2.1.cell 0⟩
  refine tLoad 0 (some 15) (.pointer (some ⟨h, 0, none⟩)) rfl rfl (by kernel_rfl) (by kernel_rfl) (by kernel_rfl) (by decide) (by kernel_rfl) (by kernel_rfl) (fun _ _ _ h => h) (by rfl) (fun W' hS' => by obtain ⟨s1, s2⟩ := hS'; go_simp) hS ?_
  simp only [Act.put, sqA, sqB, sqC]
  refine tLoad 1 (some 16) (.pointer (some ⟨h, 0, none⟩)) rfl rfl (by kernel_rfl) (by kernel_rfl) (by kernel_rfl) (by decide) (by kernel_rfl) (by kernel_rfl) (fun _ _ _ h => h) (by rfl) (fun W' hS' => by obtain ⟨s1, s2⟩ := hS'; go_simp) hS ?_
  simp only [Act.put, sqA, sqB, sqC]
  refine tLoad 2 (some 17) (.int .i64 p) rfl rfl (by kernel_rfl) (by kernel_rfl) (by kernel_rfl) (by decide) (by kernel_rfl) (by kernel_rfl) (fun _ _ _ h => h) (by rfl) (fun W' hS' => by obtain ⟨s1, s2⟩ := hS'; go_simp) hS ?_
  simp only [Act.put, sqA, sqB, sqC]
  refine tTake 4 (some 19) (.func (.func 200) #[] #[.pointer (some ⟨w.heap.size, 0, none⟩), .pointer (some ⟨w1.heap.size, 0, none⟩), .pointer (some ⟨w2.heap.size, 0, none⟩)]) rfl rfl (by kernel_rfl) (by kernel_rfl) (by kernel_rfl) (by decide) (fun _ _ _ h => h) (by rfl) (fun W' => by go_simp) hS ?_
  simp only [Act.put, sqA, sqB, sqC]
  refine till_ready 3 (by kernel_rfl) rfl (fun K hK => ?_)
  go_simp
  go_wp2_with (go_at_call 199; refine (touch_read h s p M w4 V4.out.1).mono ?_; rintro e w5 ⟨rfl, l5⟩)
  have V5 : Hid (Blk w5 w.heap.size 42 [.pointer (some ⟨h, 0, none⟩)] ∧ Blk w5 w1.heap.size 3 [.int .i64 p] ∧ Blk w5 w2.heap.size 37 [.slice none 0 0] ∧ Below w4.heap.size w4 w5) := ⟨V4.out.2.1.later l5 V4.out.2.1.lt, V4.out.2.2.1.later l5 V4.out.2.2.1.lt, V4.out.2.2.2.1.later l5 V4.out.2.2.2.1.lt, l5⟩
  have hS5 : (fun W : World => W.cell? ⟨w.heap.size, 0, none⟩ = some (.pointer (some ⟨h, 0, none⟩)) ∧ W.cell? ⟨w1.heap.size, 0, none⟩ = some (.int .i64 p)) w5 := ⟨V5.out.1.cell 0, V5.out.2.1.cell 0⟩
  refine ⟨hS5, ?_⟩
  refine till_ready 5 (by kernel_rfl) rfl (fun K hK => ?_)
  go_simp
  go_wp2_with (go_at_call 198; refine (CO.out w1.heap.size w2.heap.size w5 (by have := z1.out; omega) (by have := z1.out; have := z2.out; omega) (V4.out.1.later l5) V5.out.1 V5.out.2.1 V5.out.2.2.1).mono ?_; rintro e w6 ⟨rfl, M2, y, m1, m2, k6, p6⟩)
  have nM : ∀ b, w.heap.size ≤ b → b ≠ w2.heap.size → ¬ (M b ∨ b = w2.heap.size) := fun b hb hne e => by
   rcases e with e | e
   ·have := X.out.all b e; omega
   ·exact hne e
  have U6 : Hid (HostAt w6 M2 h (s.opS id ⟨0, p, s.size, List.replicate 12 0⟩) ∧ Goes M M2 w w6 ∧ (s.done → RdPost w2.heap.size (spoL s p (s.coming s.ops)) w.heap.size M2 w6)) := by
   refine ⟨y, ⟨m1, fun k hk => ?_, ?_⟩, p6⟩
   ·have := V4.out.2.2.2.2.size; have := l5.size
    rcases m2 k hk with e | e
    ·exact .inl e
    ·exact .inr (by omega)
   ·have l4 := V4.out.2.2.2.2
    have := l4.size; have := l5.size; have := z1.out; have := z2.out
    refine ⟨k6.os.trans (l5.os.trans l4.os), k6.tape.trans (l5.tape.trans l4.tape), k6.output.trans (l5.output.trans l4.output), Nat.le_trans l4.size (Nat.le_trans l5.size k6.size), fun k hk hM => (k6.block k (by omega) (fun e => ?_)).trans ((l5.block k (by omega)).trans (l4.block k hk))⟩
    rcases e with e | e
    ·exact hM e
    ·omega
  have hS6 : (fun W : World => W.cell? ⟨w.heap.size, 0, none⟩ = some (.pointer (some ⟨h, 0, none⟩)) ∧ W.cell? ⟨w1.heap.size, 0, none⟩ = some (.int .i64 p)) w6 := ⟨(V5.out.1.kept k6 (nM _ (Nat.le_refl _) (by have := z1.out; have := z2.out; omega))).cell 0, (V5.out.2.1.kept k6 (nM _ (by have := z1.out; omega) (by have := z2.out; omega))).cell 0⟩
  refine ⟨hS6, ?_⟩
  clear y m1 m2 k6 p6 nM l5 hS hS5 hS6
  refine till_at (by kernel_rfl) ?_
  refine take_op 6 (some 8) (.int .i64 110) rfl rfl (by kernel_rfl) (by kernel_rfl) (by kernel_rfl) (fun _ _ _ h => h) (by rfl) (fun _ => by rfl) ?_
  simp only [Act.put, sqA, sqB, sqC]
  refine wpAny_done (by kernel_rfl) (NoPanic.normal ?_) _
  go_wp2_with fail
  go_ret2
  exact ⟨_, rfl, M2, U6.out.1, U6.out.2.1, fun _ => rfl, fun h => by cases h⟩
def comeL (fs : List Fl) (k : Int) : List Fl := fs.filter fun f => decide (0 ≤ f.a ∧ f.a = k)
def depL (fs : List Fl) : Int := fs.foldl (fun d f => if 0 ≤ f.a ∧ f.k = 1 ∧ d < f.c then f.c else d) 0
theorem depL_bd (fs : List Fl) (h : ∀ f ∈ fs, f.Good) : 0 ≤ depL fs ∧ depL fs ≤ 9223372036854775807 := by
 unfold depL
 have : ∀ (l : List Fl) (d : Int), (∀ f ∈ l, f.Good) → 0 ≤ d ∧ d ≤ 9223372036854775807 → 0 ≤ l.foldl (fun d f => if 0 ≤ f.a ∧ f.k = 1 ∧ d < f.c then f.c else d) d ∧ l.foldl (fun d f => if 0 ≤ f.a ∧ f.k = 1 ∧ d < f.c then f.c else d) d ≤ 9223372036854775807 := by
  intro l
  induction l with
  | nil => intro d _ hd; exact hd
  | cons f l ih =>
   intro d hg hd
   refine ih _ (fun x hx => hg x (by simp [hx])) ?_
   have := (hg f (by simp)).2.2.2.2.2
   dsimp only
   split
   ·next h1 => exact ⟨by omega, this.2⟩
   ·exact hd
 exact this fs 0 h (by omega)
theorem comeL_take (fs : List Fl) (i : Nat) (hi : i < fs.length) (k : Int) : comeL (fs.take (i + 1)) k = comeL (fs.take i) k ++ (if 0 ≤ (fs.getD i default).a ∧ (fs.getD i default).a = k then [fs.getD i default] else []) := by
 unfold comeL
 have e : fs.getD i default = fs[i] := by simp [List.getD, hi]
 rw [List.take_succ_eq_append_getElem hi, List.filter_append, e]
 congr 1
 by_cases h : 0 ≤ fs[i].a ∧ fs[i].a = k
 ·rw [if_pos h]; simp only [List.filter_cons, List.filter_nil]; rw [if_pos (by simpa using h)]
 ·rw [if_neg h]; simp only [List.filter_cons, List.filter_nil]; rw [if_neg (by simpa using h)]
theorem depL_take (fs : List Fl) (i : Nat) (hi : i < fs.length) : depL (fs.take (i + 1)) = if 0 ≤ (fs.getD i default).a ∧ (fs.getD i default).k = 1 ∧ depL (fs.take i) < (fs.getD i default).c then (fs.getD i default).c else depL (fs.take i) := by
 have e : fs.getD i default = fs[i] := by simp [List.getD, hi]
 unfold depL
 rw [List.take_succ_eq_append_getElem hi, List.foldl_append, e]
 rfl
theorem comeL_length (fs : List Fl) (k : Int) : (comeL fs k).length ≤ fs.length := List.length_filter_le ..
theorem comeL_good {fs : List Fl} (h : ∀ f ∈ fs, f.Good) (k : Int) : ∀ f ∈ comeL fs k, f.Good := fun f hf => h f (List.mem_filter.1 hf).1
theorem flat_at (l : List Fl) (i j : Nat) (hi : i < l.length) (hj : j < 6) : (l.flatMap flC)[i * 6 + j]? = (flC (l.getD i default))[j]? := by
 induction l generalizing i with
 | nil => cases hi
 | cons a r ih =>
  rw [List.flatMap_cons]
  cases i with
  | zero => rw [Nat.zero_mul, Nat.zero_add, List.getElem?_append_left (by rw [flC_length]; exact hj)]; rfl
  | succ i =>
   rw [List.getElem?_append_right (by rw [flC_length]; omega), flC_length, show (i + 1) * 6 + j - 6 = i * 6 + j by omega, ih i (by simpa using hi)]
   simp
structure Groups (w : World) (gm n : Nat) (D : DataW Value) (G : Int → List Fl) (B : Nat) : Prop where
 map : w.ownsMap Tryz.prog 3 heldR gm n D
 own : ∀ k, w.ownsRow B 163 6 (lookV D k) (G k).length ((G k).flatMap flC)
 apart : ∀ j k g, j ≠ k → (lookV D j).ownBlock = some g → (lookV D k).ownBlock ≠ some g
theorem own_same {w w' : World} {B : Nat} {e : TypeId} {z n : Nat} {v : Value} {xs : List Value} (h : w.ownsRow B e z v n xs) (hs : ∀ g, v.ownBlock = some g → w'.heap[g]? = w.heap[g]?) : w'.ownsRow B e z v n xs := by
 refine ⟨h.1, ?_⟩
 rcases h.2 with h2 | ⟨g, cap, cur, hv, hg, hh, r⟩
 ·exact .inl h2
 ·exact .inr ⟨g, cap, cur, hv, hg, by rw [hs g (by rw [hv]; rfl)]; exact hh, r⟩
theorem own_blk {w : World} {B : Nat} {e : TypeId} {z n : Nat} {v : Value} {xs : List Value} (h : w.ownsRow B e z v n xs) {g : Nat} (hg : v.ownBlock = some g) : ∃ vs, Blk w g e vs := by
 rcases h.2 with ⟨h2, _⟩ | ⟨g', cap, cur, hv, _, hh, r⟩
 ·rw [h2] at hg; cases hg
 ·rw [hv] at hg; cases hg; exact ⟨cur.toList, by simpa [Blk] using hh⟩
theorem Groups.later {w w' : World} {gm n B : Nat} {D : DataW Value} {G : Int → List Fl} (x : Groups w gm n D G B) (hb : Below w.heap.size w w') : Groups w' gm n D G B :=
 ⟨ownsMap_same x.map (hb.block gm x.map.lt), fun k => own_same (x.own k) (fun g hg => hb.block g ((x.own k).lt g hg).2), x.apart⟩
theorem Groups.drew {w : World} {gm n B : Nat} {D : DataW Value} {G : Int → List Fl} (x : Groups w gm n D G B) : Groups { w with drawn := w.drawn + 1 } gm n D G B := ⟨x.map, x.own, x.apart⟩
theorem Groups.seen {w : World} {gm n B : Nat} {D : DataW Value} {G : Int → List Fl} (x : Groups w gm n D G B) (M : Nat → Prop) (hM : ∀ g, B ≤ g → g < w.heap.size → M g) (k : Int) (hg : ∀ f ∈ G k, f.Good) (hl : (G k).length ≤ 3000000000000) : FlS w (FT w M) (lookV D k) (G k) := by
 refine ⟨hl, hg, ?_⟩
 rcases (x.own k).2 with ⟨h2, h3⟩ | ⟨g, cap, cur, hv, hgB, hh, hc, _, hs, ht⟩
 ·rw [h2, h3]
  exact ⟨none, 0, rfl, fun i hi => (by cases hi)⟩
 ·rw [hv]
  refine ⟨_, cap, rfl, fun i hi => ⟨g, 0, rfl, lt_of_block hh, ⟨hM g hgB (lt_of_block hh), cur.toList, by simpa [Blk] using hh⟩, fun j v hj => ?_⟩⟩
  have hj6 : j < 6 := by have := (List.getElem?_eq_some_iff.1 hj).1; rw [flC_length] at this; exact this
  rw [Nat.zero_add, cell_of_row w g _ cur 163 (0, 0) hh, ← hj, ← flat_at (G k) i j hi hj6, ← ht, List.getElem?_take, if_pos (by omega)]
  simp
theorem build1_fl (f : Fl) (w : World) : (Instr.buildSlice 32 1 #[(0, .agg (flC f).toArray)]).run Tryz.prog w = .ok (.slice (some ⟨w.heap.size, 0, none⟩) 1 1) (w.alloc (.cells (flC f).toArray 163)) := by
 obtain ⟨a, k, p, b, y, c⟩ := f
 kernel_rfl
theorem Groups.add {w : World} {gm n B : Nat} {D : DataW Value} {G : Int → List Fl} (x : Groups w gm n D G B) (f : Fl) (hf : f.Good) (hn : n < 3000000000000) (hl : (G f.a).length ≤ n) (hB : B ≤ w.heap.size) (lb : Nat) (hlb : lb < w.heap.size) (hlb' : ∀ k, (lookV D k).ownBlock ≠ some lb) (hlm : lb ≠ gm) (hn48 : (n + 1) * 48 ≤ 140737488355328) :
  ∃ v' w2 w3, (Builtin.append_ #[32, 32] 32 #[lookV D f.a, .slice (some ⟨w.heap.size, 0, none⟩) 1 1]).run Tryz.prog (w.alloc (.cells (flC f).toArray 163)) = .ok v' w2 ∧
   (Instr.mapUpdate 100 (.map (some gm)) (.int .i64 f.a) v').run Tryz.prog w2 = .ok () w3 ∧ w2.heap[gm]? = w.heap[gm]? ∧ w2.heap[lb]? = w.heap[lb]? ∧ w3.heap[lb]? = w.heap[lb]? ∧
   Groups w3 gm (n + 1) (D.put (.int .i64 f.a) (.held v')) (fun k => if k = f.a then G k ++ [f] else G k) B ∧ w.heap.size ≤ w3.heap.size ∧ (∀ k, k < w.heap.size → k < B → k ≠ gm → w3.heap[k]? = w.heap[k]?) ∧ w3.os = w.os ∧ w3.tape = w.tape ∧ w3.output = w.output := by
 obtain ⟨w0, hw0⟩ : ∃ q, w.alloc (.cells (flC f).toArray 163) = q := ⟨_, rfl⟩
 have b0 : Below w.heap.size w w0 := by rw [← hw0]; exact (Below.refl _ _).alloc (Nat.le_refl _) _
 have s0 : w0.heap.size = w.heap.size + 1 := by rw [← hw0]; simp
 have bf : Blk w0 w.heap.size 163 (flC f) := by rw [← hw0]; exact heap_alloc_new w _
 rw [hw0]
 have x0 := x.later b0
 obtain ⟨i0, hi, hz0, hz1, hz2⟩ := info_parts info_fl
 obtain ⟨v', w2, hr, hown, hg, _, hat⟩ := run_append_own_at (P := Tryz.prog) w0 B 32 32 163 i0 (.agg (flC default).toArray) 6 48 Tryz.underlying32 hi hz0 hz1 hz2 rfl (by decide) (lookV D f.a) (G f.a).length _ (x0.own f.a) ⟨w.heap.size, 0, none⟩ 1 1 (flC f) (by rw [flC_length])
  (fun j u hu => by rw [add_mid, Nat.zero_add, bf.cell]; exact hu) (flC_one f) (by unfold maxLen; omega) (by have := Nat.mul_le_mul_right 48 (Nat.add_le_add_right hl 1); omega) (by omega)
 have nm : (lookV D f.a).ownBlock ≠ some gm := fun e => by
  obtain ⟨vs, hv⟩ := own_blk (x.own f.a) e
  exact map_ne x.map hv rfl
 have km : ∀ k, k < w.heap.size → (lookV D f.a).ownBlock ≠ some k → w2.heap[k]? = w.heap[k]? := fun k hk hne => (hg.block k (by omega) (Ne.symm hne)).trans (b0.block k hk)
 have m2 : w2.ownsMap Tryz.prog 3 heldR gm n D := ownsMap_same x.map (km gm x.map.lt nm)
 obtain ⟨w3, hu, m3, g3⟩ := m2.update keysI Tryz.underlying100 (by unfold maxLen; omega) (key := .int .i64 f.a) (val := v') (Maps.keyOf_int_mk Tryz.underlying3 (wf_of_i64 hf.1)) (d := .held v') (ps := []) rfl
 have h12 := hg.size
 have h23 := g3.size
 have k3 : ∀ k, k < w2.heap.size → k ≠ gm → w3.heap[k]? = w2.heap[k]? := fun k hk hne => g3.block k hk (fun e => hne (Option.some.inj e))
 have gml := x.map.lt
 have isM : Maps.IsMap D := x.map.isMap
 refine ⟨v', w2, w3, hr, hu, km gm gml nm, km lb hlb (hlb' _), (k3 lb (by omega) hlm).trans (km lb hlb (hlb' _)), ⟨m3, fun k => ?_, fun j k g hjk hj hk => ?_⟩, by omega, fun k hk hkB hne => ?_, ?_, ?_, ?_⟩
 ·by_cases e : k = f.a
  ·subst e
   rw [lookV_put isM, if_pos rfl]
   have e2 : (G f.a ++ [f]).flatMap flC = (G f.a).flatMap flC ++ flC f := by simp [List.flatMap_append]
   rw [List.length_append, List.length_singleton, e2]
   exact own_same hown (fun g hg2 => k3 g (hown.lt g hg2).2 (fun e3 => by
    obtain ⟨vs, hv⟩ := own_blk hown hg2
    exact map_ne m2 hv e3))
  ·rw [lookV_put_other _ _ e, if_neg e]
   refine own_same (x.own k) (fun g hg2 => ?_)
   have hgl := ((x.own k).lt g hg2).2
   refine (k3 g (by omega) (fun e3 => ?_)).trans (km g hgl (fun e4 => x.apart k f.a g e hg2 e4))
   obtain ⟨vs, hv⟩ := own_blk (x.own k) hg2
   exact map_ne x.map hv e3
 ·have nw : ∀ q g, q ≠ f.a → (lookV D q).ownBlock = some g → v'.ownBlock ≠ some g := fun q g hq h1 h2 => by
   rcases hat with e | e
   ·rw [e] at h2; exact x.apart q f.a g hq h1 h2
   ·rw [e] at h2
    have := ((x.own q).lt g h1).2
    have h3 : w0.heap.size = g := Option.some.inj h2
    omega
  by_cases e1 : j = f.a
  ·subst e1
   rw [lookV_put isM] at hj
   rw [lookV_put_other _ _ (Ne.symm hjk)] at hk
   exact nw k g (Ne.symm hjk) hk hj
  ·rw [lookV_put_other _ _ e1] at hj
   by_cases e2 : k = f.a
   ·subst e2
    rw [lookV_put isM] at hk
    exact nw j g e1 hj hk
   ·rw [lookV_put_other _ _ e2] at hk
    exact x.apart j k g hjk hj hk
 ·refine (k3 k (by omega) hne).trans (km k hk (fun e => ?_))
  have := ((x.own f.a).lt k e).1
  omega
 ·rw [g3.os, hg.os, b0.os]
 ·rw [g3.tape, hg.tape, b0.tape]
 ·rw [g3.output, hg.output, b0.output]
theorem Groups.made (w : World) : Groups (w.alloc (.map #[] 0)) w.heap.size 0 (.map []) (comeL []) (w.heap.size + 1) :=
 ⟨World.ownsMap_made w _ _ _, fun k => World.ownsRow_nil _ _ _ _, fun j k g _ h => by cases h⟩
theorem byOp_any (v : Value) (fs : List Fl) (M : Nat → Prop) (w : World) (x : FlS w M v fs) (hlen : fs.length * 48 ≤ 140737488355328) : Calls Tryz.prog 83 #[v] w fun e w' => ∃ gm n D, e = .returned (.tuple #[.map (some gm), .int .i64 (depL fs)]) ∧ Groups w' gm n D (comeL fs) (w.heap.size + 1) ∧ gm = w.heap.size ∧ Below w.heap.size w w' := by
 obtain ⟨ao, c, rfl, hx⟩ := x.ex
 have X : Hid (FlS w M (.slice ao fs.length c) fs ∧ fs.length * 48 ≤ 140737488355328) := ⟨x, hlen⟩
 have HX : Hid (∀ i, i < fs.length → ∃ b o, ao = some ⟨b, o, none⟩ ∧ b < w.heap.size ∧ M b ∧ w.rangeAt b (o + i * 6) (flC (fs.getD i default))) := hx
 have ht := x.top
 clear x hx hlen
 obtain ⟨n, hn⟩ : ∃ n, fs.length = n := ⟨_, rfl⟩
 rw [hn] at ht ⊢
 have HN : Hid (fs.length = n) := hn
 clear hn
 have hmm := @run_makeMap Tryz.prog
 have HM := Groups.made w
 have HMB : Below w.heap.size w (w.alloc (.map #[] 0)) := (Below.refl _ _).alloc (Nat.le_refl _) _
 have HMH : Hid (Groups (w.alloc (.map #[] 0)) w.heap.size 0 (.map []) (comeL []) (w.heap.size + 1) ∧ Below w.heap.size w (w.alloc (.map #[] 0))) := ⟨HM, HMB⟩
 clear HM HMB
 go_enter Tryz.func83, Tryz.ntmps83
 go_wp2
 go_loopw [5, 11] (fun d i wr => ∃ (k : Nat) (D : DataW Value), k ≤ n ∧ i = .int .i64 k ∧ Groups wr w.heap.size k D (comeL (fs.take k)) (w.heap.size + 1) ∧ Below w.heap.size w wr ∧ d = .int .i64 (depL (fs.take k))) (fun _ i _ => n - (intOf i).toNat)
 case atStart => exact ⟨0, .map [], Nat.zero_le _, rfl, HMH.out.1, HMH.out.2, rfl⟩
 case round =>
  obtain ⟨k, D, hk, rfl, hgr, hbel, rfl⟩ := hrel
  obtain ⟨dp, hdp⟩ : ∃ q, depL (fs.take k) = q := ⟨_, rfl⟩
  rw [hdp]
  have HDP : Hid (depL (fs.take k) = dp) := hdp
  have hdb : 0 ≤ dp ∧ dp ≤ 9223372036854775807 := by rw [← hdp]; exact depL_bd _ (fun f hf => X.out.1.good f (List.mem_of_mem_take hf))
  clear hdp
  by_cases hlt : k < n
  ·obtain ⟨b, o, rfl, hbl, _, hrg⟩ := HX.out k (by rw [HN.out]; exact hlt)
   have hlt' : k < fs.length := by rw [HN.out]; exact hlt
   obtain ⟨f, hf⟩ : ∃ f, fs.getD k default = f := ⟨_, rfl⟩
   rw [hf] at hrg
   have hg : f.Good := by rw [← hf]; exact Fl.good_at X.out.1.good k hlt'
   have HG : Hid (Groups wr w.heap.size k D (comeL (fs.take k)) (w.heap.size + 1)) := hgr
   have HB : Hid (Below w.heap.size w wr ∧ wr.rangeAt b (o + k * 6) (flC f) ∧ f.Good ∧ (k < fs.length ∧ fs.getD k default = f) ∧ (k < 3000000000000 ∧ (k + 1) * 48 ≤ 140737488355328) ∧ (comeL (fs.take k) f.a).length ≤ k ∧ w.heap.size < wr.heap.size ∧ (∀ j, (lookV D j).ownBlock ≠ some wr.heap.size)) := by
    refine ⟨hbel, rangeAt_same hrg (hbel.block b hbl), hg, ⟨hlt', hf⟩, ⟨by have := X.out.1.top; omega, ?_⟩, ?_, hgr.map.lt, fun j e => ?_⟩
    ·have := X.out.2; omega
    ·have := comeL_length (fs.take k) f.a; simp at this; omega
    ·have := ((hgr.own j).lt _ e).2; omega
   have hfa := hg.1
   have hfc := hg.2.2.2.2.2
   have i1 : (0 : Int) ≤ (k : Int) := by omega
   have i2 : (k : Int) < (n : Int) := by omega
   clear hbl hrg hf hg hbel hgr hlt'
   by_cases h0 : 0 ≤ f.a
   ·go_wp2_with (first | (refine wpList_load_mid rfl 163 (.tmp 13) rfl b (o + k * 6) rfl (flC f) _ HB.out.2.1 Tryz.underlying163 rfl (sizeFl f) ?_) | (refine wpList_alloc_new rfl 163 rfl 6 _ zeroFl ?_; intro w4 b4 s4 l4; have z4 : Hid (w4.heap.size = wr.heap.size + 1) := s4; clear s4) | (refine wpList_store_blk rfl 163 163 (.tmp 7) _ rfl _ rfl _ (flC f) rfl b4 rfl (sizeFl f) (flC_one f) ?_; intro w5 b5 s5 k5; have z5 : Hid (w5.heap.size = w4.heap.size) := s5; clear s5; have c0 : w5.cell? ⟨wr.heap.size, 0, none⟩ = some (.int .i64 f.a) := b5.cell 0))
    have V5 : Hid (Groups w5 w.heap.size k D (comeL (fs.take k)) (w.heap.size + 1) ∧ Blk w5 wr.heap.size 163 (flC f) ∧ w5.heap.size = wr.heap.size + 1 ∧ Below w.heap.size w w5) := by
     have l5 : Below wr.heap.size wr w5 := below_kept l4 k5 (by have := z4.out; omega) (fun j hj => by omega)
     exact ⟨HG.out.later l5, b5, by rw [z5.out, z4.out], below_chain HB.out.1 l5 HB.out.1.size⟩
    clear b4 l4 b5 k5 c0 z4 z5
    refine wp_region_noPanic (till_region 10 (fun W => W.rangeAt wr.heap.size 0 (flC f) ∧ W.ownsMap Tryz.prog 3 heldR w.heap.size k D) (by kernel_rfl) ?_)
    obtain ⟨w6, hw6⟩ : ∃ q, ({ heap := w5.heap, tape := w5.tape, drawn := w5.drawn + 1, os := w5.os, output := w5.output } : World) = q := ⟨_, rfl⟩
    have V6 : Hid (Groups w6 w.heap.size k D (comeL (fs.take k)) (w.heap.size + 1) ∧ Blk w6 wr.heap.size 163 (flC f) ∧ w6.heap.size = wr.heap.size + 1 ∧ Below w.heap.size w w6) := by rw [← hw6]; exact ⟨V5.out.1.drew, V5.out.2.1, V5.out.2.2.1, ⟨V5.out.2.2.2.os, V5.out.2.2.2.tape, V5.out.2.2.2.output, V5.out.2.2.2.size, V5.out.2.2.2.block⟩⟩
    rw [hw6]
    clear hw6
    have hS : (fun W : World => W.rangeAt wr.heap.size 0 (flC f) ∧ W.ownsMap Tryz.prog 3 heldR w.heap.size k D) w6 := ⟨fun j v hv => by rw [Nat.zero_add, V6.out.2.1.cell]; exact hv, V6.out.1.map⟩
    obtain ⟨v8, w8, w9, hr8, hu9, e1, e2, e3, G9, z9, o9, os9, tp9, out9⟩ := V6.out.1.add f HB.out.2.2.1 HB.out.2.2.2.2.1.1 HB.out.2.2.2.2.2.1 (by have := V6.out.2.2.2.size; have := V6.out.2.2.1; have := HB.out.1.size; omega) wr.heap.size (by have := V6.out.2.2.1; omega) HB.out.2.2.2.2.2.2.2 (by have := HB.out.2.2.2.2.2.2.1; omega) HB.out.2.2.2.2.1.2
    obtain ⟨v0, hv0⟩ : ∃ q, lookV D f.a = q := ⟨_, rfl⟩
    have HV : Hid (lookV D f.a = v0) := hv0
    rw [hv0] at hr8
    clear hv0
    have hS8 : (fun W : World => W.rangeAt wr.heap.size 0 (flC f) ∧ W.ownsMap Tryz.prog 3 heldR w.heap.size k D) w8 := ⟨rangeAt_same hS.1 e2, ownsMap_same hS.2 e1⟩
    have hS7 : (fun W : World => W.rangeAt wr.heap.size 0 (flC f) ∧ W.ownsMap Tryz.prog 3 heldR w.heap.size k D) (w6.alloc (.cells (flC f).toArray 163)) := ⟨rangeAt_same hS.1 (Below.heap_alloc w6 _ _ (by have := V6.out.2.2.1; omega)), ownsMap_same hS.2 (Below.heap_alloc w6 _ _ hS.2.lt)⟩
    refine tTake 0 (some 18) (.map (some w.heap.size)) rfl rfl (by kernel_rfl) (by kernel_rfl) (by kernel_rfl) (by decide) (fun _ _ _ h => h) (by rfl) (fun W' => by go_simp) hS ?_
    simp only [Act.put, sqA, sqB, sqC]
    refine tTake 1 (some 19) (.pointer (some ⟨wr.heap.size, 0, none⟩)) rfl rfl (by kernel_rfl) (by kernel_rfl) (by kernel_rfl) (by decide) (fun _ _ _ h => h) (by rfl) (fun W' => by go_simp) hS ?_
    simp only [Act.put, sqA, sqB, sqC]
    refine tLoad 2 (some 20) (.int .i64 f.a) rfl rfl (by kernel_rfl) (by kernel_rfl) (by kernel_rfl) (by decide) (by kernel_rfl) (by kernel_rfl) (fun _ _ _ h => h) (by rfl) (fun W' hS' => by have hc : W'.cell? ⟨wr.heap.size, 0, none⟩ = some (.int .i64 f.a) := hS'.1 0 _ rfl; go_simp) hS ?_
    simp only [Act.put, sqA, sqB, sqC]
    refine tTake 3 (some 21) (.map (some w.heap.size)) rfl rfl (by kernel_rfl) (by kernel_rfl) (by kernel_rfl) (by decide) (fun _ _ _ h => h) (by rfl) (fun W' => by go_simp) hS ?_
    simp only [Act.put, sqA, sqB, sqC]
    refine tTake 4 (some 22) (.pointer (some ⟨wr.heap.size, 0, none⟩)) rfl rfl (by kernel_rfl) (by kernel_rfl) (by kernel_rfl) (by decide) (fun _ _ _ h => h) (by rfl) (fun W' => by go_simp) hS ?_
    simp only [Act.put, sqA, sqB, sqC]
    refine tLoad 5 (some 23) (.int .i64 f.a) rfl rfl (by kernel_rfl) (by kernel_rfl) (by kernel_rfl) (by decide) (by kernel_rfl) (by kernel_rfl) (fun _ _ _ h => h) (by rfl) (fun W' hS' => by have hc : W'.cell? ⟨wr.heap.size, 0, none⟩ = some (.int .i64 f.a) := hS'.1 0 _ rfl; go_simp) hS ?_
    simp only [Act.put, sqA, sqB, sqC]
    refine tLoad 6 (some 24) v0 rfl rfl (by kernel_rfl) (by kernel_rfl) (by kernel_rfl) (by decide) (by kernel_rfl) (by kernel_rfl) (fun _ _ _ h => h) (by rfl) (fun W' hS' => by have hl := look_at hS'.2 HB.out.2.2.1.1; rw [HV.out] at hl; go_simp) hS ?_
    simp only [Act.put, sqA, sqB, sqC]
    refine tLoadMid 7 (some 25) (flC f) rfl rfl (by kernel_rfl) (by kernel_rfl) (by kernel_rfl) (by decide) (by kernel_rfl) (by kernel_rfl) (fun _ _ _ h => h) (by rfl) 163 (.tmp 7) rfl wr.heap.size 0 rfl _ (fun _ h => h.1) Tryz.underlying163 rfl (sizeFl f) hS ?_
    simp only [Act.put, sqA, sqB, sqC]
    refine till_run 8 (some 26) (.slice (some ⟨w6.heap.size, 0, none⟩) 1 1) (w6.alloc (.cells (flC f).toArray 163)) (by kernel_rfl) rfl rfl (by rfl) (exec_build 32 1 _ rfl #[(0, .agg (flC f).toArray)] (by simp [Act.eval]) (build1_fl f w6)) hS7 ?_
    simp only [Act.put, sqA, sqB, sqC]
    refine till_run 9 (some 27) v8 w8 (by kernel_rfl) rfl rfl (by rfl) (exec_append (.tmp 24) (.tmp 26) 32 32 rfl rfl v0 (.slice (some ⟨w6.heap.size, 0, none⟩) 1 1) rfl rfl hr8) hS8 ?_
    simp only [Act.put, sqA, sqB, sqC]
    clear hS hS7 hS8 hr8
    refine till_at (by kernel_rfl) ?_
    refine wpAny_ready (rs := [10]) (by kernel_rfl) (by simp) (AllReady.cons rfl (fun K hK => ?_) AllReady.nil)
    go_simp
    refine hK _ _ ?_
    clear hK K
    refine wpAny_done (by kernel_rfl) (NoPanic.normal ?_) _
    have R9 : Hid (Groups w9 w.heap.size (k + 1) (D.put (.int .i64 f.a) (.held v8)) (comeL (fs.take (k + 1))) (w.heap.size + 1) ∧ Below w.heap.size w w9) := by
     refine ⟨?_, ?_⟩
     ·have e : (fun j => if j = f.a then comeL (fs.take k) j ++ [f] else comeL (fs.take k) j) = comeL (fs.take (k + 1)) := by
       funext j
       rw [comeL_take fs k HB.out.2.2.2.1.1, HB.out.2.2.2.1.2]
       by_cases e : j = f.a
       ·rw [if_pos e, if_pos ⟨h0, e.symm⟩]
       ·rw [if_neg e, if_neg (fun h => e h.2.symm), List.append_nil]
      rw [← e]; exact G9
     ·have l6 := V6.out.2.2.2
      have := V6.out.2.2.1; have := HB.out.1.size
      exact ⟨os9.trans l6.os, tp9.trans l6.tape, out9.trans l6.output, Nat.le_trans l6.size z9, fun j hj => (o9 j (by omega) (by omega) (by omega)).trans (l6.block j hj)⟩
    have c1 : w9.cell? ⟨wr.heap.size, 1, none⟩ = some (.int .i64 f.k) := (World.cell?_of_block (w := w6) (a := ⟨wr.heap.size, 1, none⟩) e3).trans (V6.out.2.1.cell 1)
    have c5 : w9.cell? ⟨wr.heap.size, 5, none⟩ = some (.int .i64 f.c) := (World.cell?_of_block (w := w6) (a := ⟨wr.heap.size, 5, none⟩) e3).trans (V6.out.2.1.cell 5)
    clear G9 z9 o9 os9 tp9 out9 e1 e2 e3 hu9 V5 V6
    by_cases hk1 : f.k = 1
    ·have q1 : (f.k == 1) = true := by simp [hk1]
     by_cases hlt2 : dp < f.c
     ·have DEP : Hid (depL (fs.take (k + 1)) = f.c) := by
       have : depL (fs.take (k + 1)) = f.c := by rw [depL_take fs k HB.out.2.2.2.1.1, HB.out.2.2.2.1.2, HDP.out, if_pos ⟨h0, hk1, hlt2⟩]
       exact this
      clear hk1
      go_wp2_with fail
      go_roundw
      case rel => exact ⟨k + 1, _, by omega, by go_num, R9.out.1, R9.out.2, by rw [DEP.out]⟩
      case measure => simp [intOf] <;> omega
     ·have DEP : Hid (depL (fs.take (k + 1)) = dp) := by
       have : depL (fs.take (k + 1)) = dp := by rw [depL_take fs k HB.out.2.2.2.1.1, HB.out.2.2.2.1.2, HDP.out, if_neg (fun h => hlt2 h.2.2)]
       exact this
      have hle : f.c ≤ dp := by omega
      clear hk1
      go_wp2_with fail
      go_roundw
      case rel => exact ⟨k + 1, _, by omega, by go_num, R9.out.1, R9.out.2, by rw [DEP.out]⟩
      case measure => simp [intOf] <;> omega
    ·have q1 : (f.k == 1) = false := by simp [hk1]
     have DEP : Hid (depL (fs.take (k + 1)) = dp) := by
      have : depL (fs.take (k + 1)) = dp := by rw [depL_take fs k HB.out.2.2.2.1.1, HB.out.2.2.2.1.2, HDP.out, if_neg (fun h => hk1 h.2.1)]
      exact this
     clear hk1
     go_wp2_with fail
     go_roundw
     case rel => exact ⟨k + 1, _, by omega, by go_num, R9.out.1, R9.out.2, by rw [DEP.out]⟩
     case measure => simp [intOf] <;> omega
   ·have h0' : f.a < 0 := by omega
    go_wp2_with (first | (refine wpList_load_mid rfl 163 (.tmp 13) rfl b (o + k * 6) rfl (flC f) _ HB.out.2.1 Tryz.underlying163 rfl (sizeFl f) ?_) | (refine wpList_alloc_new rfl 163 rfl 6 _ zeroFl ?_; intro w4 b4 s4 l4; have z4 : Hid (w4.heap.size = wr.heap.size + 1) := s4; clear s4) | (refine wpList_store_blk rfl 163 163 (.tmp 7) _ rfl _ rfl _ (flC f) rfl b4 rfl (sizeFl f) (flC_one f) ?_; intro w5 b5 s5 k5; have z5 : Hid (w5.heap.size = w4.heap.size) := s5; clear s5; have c0 : w5.cell? ⟨wr.heap.size, 0, none⟩ = some (.int .i64 f.a) := b5.cell 0))
    have R9 : Hid (Groups w5 w.heap.size (k + 1) D (comeL (fs.take (k + 1))) (w.heap.size + 1) ∧ Below w.heap.size w w5 ∧ depL (fs.take (k + 1)) = dp) := by
     have l5 : Below wr.heap.size wr w5 := below_kept l4 k5 (by have := z4.out; omega) (fun j hj => by omega)
     have e : comeL (fs.take (k + 1)) = comeL (fs.take k) := by
      funext j
      rw [comeL_take fs k HB.out.2.2.2.1.1, HB.out.2.2.2.1.2, if_neg (fun h => h0 h.1), List.append_nil]
     rw [e]
     have g5 := HG.out.later l5
     exact ⟨⟨g5.map.mono (by omega), g5.own, g5.apart⟩, below_chain HB.out.1 l5 HB.out.1.size, by rw [depL_take fs k HB.out.2.2.2.1.1, HB.out.2.2.2.1.2, HDP.out, if_neg (fun h => h0 h.1)]⟩
    clear b4 l4 b5 k5 c0 z4 z5
    go_roundw
    case rel => exact ⟨k + 1, D, by omega, by go_num, R9.out.1, R9.out.2.1, by rw [R9.out.2.2]⟩
    case measure => simp [intOf] <;> omega
  ·obtain rfl : k = n := by omega
   have HF : Hid (Groups wr w.heap.size k D (comeL fs) (w.heap.size + 1) ∧ Below w.heap.size w wr ∧ depL fs = dp) := by
    have e := HN.out
    have p := HDP.out
    rw [List.take_of_length_le (by omega)] at p hgr
    exact ⟨hgr, hbel, p⟩
   clear hbel hgr hk
   go_wp2
   go_ret2
   exact ⟨w.heap.size, k, D, by rw [HF.out.2.2]; rfl, HF.out.1, rfl, HF.out.2.1⟩
def newS (pages size : Nat) (fs : List Fl) : HSt := ⟨size, pages, (depL fs).toNat, 0, 0, [], false, comeL fs, fun _ => []⟩
theorem mk_rows (n : Nat) (hn : n ≤ 1048576) (w : World) : (Instr.makeSlice 99 (.int .i64 (n : Int)) (.int .i64 (n : Int))).run Tryz.prog w = .ok (.slice (some ⟨w.heap.size, 0, none⟩) n n) (w.alloc (.cells (madeCells #[.slice none 0 0] n) 33)) :=
 run_make_row' 99 33 (.slice none 0 0) 24 Tryz.underlying99 info_rows rfl .i64 .i64 n (by omega) (by omega) w
theorem build_host (sz d : Int) (a : Option Addr) (n c gm : Nat) (w : World) : (Instr.build 102 #[(0, .int .i64 sz), (1, .slice a n c), (2, .int .i64 d), (4, .map (some gm))]).run Tryz.prog w = .ok (.agg #[.int .i64 sz, .slice a n c, .int .i64 d, .int .u64 0, .map (some gm), .int .i64 0, .slice none 0 0, .bool false]) w := by kernel_rfl
theorem new_good (pages size : Nat) (v : Value) (fs : List Fl) (M : Nat → Prop) (w : World) (x : FlS w M v fs) (hM : ∀ k, M k → k < w.heap.size) (hlen : fs.length * 48 ≤ 140737488355328) (hp : pages ≤ 65536) (hs : 1 ≤ size ∧ size ≤ 4124) (hk : known fs = true) :
  Calls Tryz.prog 61 #[.int .i64 pages, .int .i64 size, v] w fun e w' => ∃ h, e = .returned (.tuple #[.pointer (some ⟨h, 0, none⟩), .int .i64 0]) ∧ HostAt w' (fun k => w.heap.size ≤ k ∧ k < w'.heap.size) h (newS pages size fs) ∧ Below w.heap.size w w' := by
 have CK := allKnown_any v fs M w x
 rw [hk] at CK
 have CB : Hid (∀ w1, Below w.heap.size w w1 → Calls Tryz.prog 83 #[v] w1 fun e w' => ∃ gm n D, e = .returned (.tuple #[.map (some gm), .int .i64 (depL fs)]) ∧ Groups w' gm n D (comeL fs) (w1.heap.size + 1) ∧ gm = w1.heap.size ∧ Below w1.heap.size w1 w') := fun w1 l1 =>
  byOp_any v fs M w1 (x.frame (Same.below l1 hM)) hlen
 have mk := mk_rows pages (by omega)
 have hdb := depL_bd fs x.good
 obtain ⟨dp, hdp⟩ : ∃ q, depL fs = q := ⟨_, rfl⟩
 rw [hdp] at CB hdb
 have X : Hid (FlS w M v fs ∧ depL fs = dp ∧ pages ≤ 65536 ∧ (1 ≤ size ∧ size ≤ 4124)) := ⟨x, hdp, hp, hs⟩
 have i1 : (0 : Int) ≤ (pages : Int) := by omega
 have i2 : (pages : Int) ≤ 65536 := by omega
 have i3 : (1 : Int) ≤ (size : Int) := by omega
 have i4 : (size : Int) ≤ 4124 := by omega
 have FIN : Hid (∀ w1 w2 w3 w4 gm n D, Below w.heap.size w w1 → Groups w2 gm n D (comeL fs) (w1.heap.size + 1) → gm = w1.heap.size → Below w1.heap.size w1 w2 → w3 = w2.alloc (.cells (madeCells #[.slice none 0 0] pages) 33) → Blk w4 w3.heap.size 102 [.int .i64 size, .slice (some ⟨w2.heap.size, 0, none⟩) pages pages, .int .i64 dp, .int .u64 0, .map (some gm), .int .i64 0, .slice none 0 0, .bool false] → Below w3.heap.size w3 w4 → w4.heap.size = w3.heap.size + 1 → HostAt w4 (fun k => w.heap.size ≤ k ∧ k < w4.heap.size) w3.heap.size (newS pages size fs) ∧ Below w.heap.size w w4) := fun w1 w2 w3 w4 gm n D l1 G2 hgm l2 hw3 b4 l4 s4 => by
  have l3 : Below w2.heap.size w2 w3 := by rw [hw3]; exact (Below.refl _ _).alloc (Nat.le_refl _) _
  have s3 : w3.heap.size = w2.heap.size + 1 := by rw [hw3]; simp
  have b3 : Blk w3 w2.heap.size 33 (List.replicate pages (.slice none 0 0)) := by rw [hw3]; exact made_blk _ _ _ _
  have l24 : Below w2.heap.size w2 w4 := below_chain l3 l4 (by omega)
  have G4 := G2.later l24
  have := l1.size; have := l2.size
  have hgl := G2.map.lt
  have rep : ∀ p, (List.replicate pages (Value.slice none 0 0)).getD p (.slice none 0 0) = .slice none 0 0 := fun p => by
   by_cases h : p < pages <;> simp [List.getD, List.getElem?_replicate, h]
  refine ⟨⟨w2.heap.size, gm, .slice none 0 0, List.replicate pages (.slice none 0 0), n, D, ⟨⟨X.out.2.2.2, X.out.2.2.1, ?_, ?_, Nat.zero_le _, Nat.le_refl _, fun p => Nat.le_refl _, fun p z hz => (by cases hz)⟩, ?_, b3.later l4 (by omega), by simp [newS], ⟨by omega, by omega⟩, ⟨by omega, by omega⟩, ⟨by omega, by omega⟩, G4.map, fun k => ?_, ⟨fun t ht => (by cases ht), World.ownsRow_nil _ _ _ _, fun g hg => (by cases hg)⟩, fun p hp => ?_, fun p q hpq hq g hg => ?_, fun k hk => hk.2⟩⟩, below_chain (below_chain l1 l2 l1.size) l24 (by omega)⟩
  ·show (depL fs).toNat ≤ 9223372036854775807
   rw [X.out.2.1]; omega
  ·exact ⟨Int.le_refl _, show (0 : Int) < 18446744073709551616 by decide⟩
  ·have e : hostC (newS pages size fs) w2.heap.size gm (.slice none 0 0) = [.int .i64 size, .slice (some ⟨w2.heap.size, 0, none⟩) pages pages, .int .i64 dp, .int .u64 0, .map (some gm), .int .i64 0, .slice none 0 0, .bool false] := by
    have : (((depL fs).toNat : Nat) : Int) = dp := by rw [X.out.2.1]; omega
    simp only [hostC, newS, this]
    rfl
   rw [e]; exact b4
  ·exact G4.seen _ (fun g h1 h2 => ⟨by omega, h2⟩) k (comeL_good X.out.1.good k) (Nat.le_trans (comeL_length fs k) X.out.1.top)
  ·rw [rep]; exact .inl ⟨rfl, rfl⟩
  ·rw [rep] at hg; cases hg
 clear x hk hp hs hlen hM hdp
 go_enter Tryz.func61, Tryz.ntmps61
 go_wp2_with (first | (go_at_call 82; refine CK.mono ?_; rintro e w1 ⟨rfl, l1⟩) | (go_at_call 83; refine (CB.out w1 l1).mono ?_; rintro e w2 ⟨gm, n, D, rfl, G2, hgm, l2⟩; have HH : Hid (Groups w2 gm n D (comeL fs) (w1.heap.size + 1) ∧ gm = w1.heap.size ∧ Below w1.heap.size w1 w2 ∧ Below w.heap.size w w1) := ⟨G2, hgm, l2, l1⟩; clear G2 hgm l2 l1) | ((with_reducible show wpList _ _ _ (({ dst := some 39, op := _, type := _, pos := _, after := _, guard := _ } : Oper) :: _) _ _); refine wpList_build rfl 102 _ rfl #[(0, .int .i64 size), (1, .slice (some ⟨w2.heap.size, 0, none⟩) pages pages), (2, .int .i64 dp), (4, .map (some gm))] (by simp [Act.eval]) _ (build_host _ _ _ _ _ _ _) ?_) | (refine wpList_box_new rfl 102 _ rfl [.int .i64 size, .slice (some ⟨w2.heap.size, 0, none⟩) pages pages, .int .i64 dp, .int .u64 0, .map (some gm), .int .i64 0, .slice none 0 0, .bool false] rfl ?_; intro w4 b4 s4 l4; have q4 := FIN.out w1 w2 _ w4 gm n D HH.out.2.2.2 HH.out.1 HH.out.2.1 HH.out.2.2.1 rfl b4 l4 s4; have Q4 : Hid (HostAt w4 (fun k => w.heap.size ≤ k ∧ k < w4.heap.size) (w2.alloc (.cells (madeCells #[.slice none 0 0] pages) 33)).heap.size (newS pages size fs) ∧ Below w.heap.size w w4) := q4; clear q4 b4 s4 l4))
 go_ret2
 exact ⟨_, rfl, by simpa using Q4.out.1, Q4.out.2⟩
theorem meth_read (q : Option Addr) (w : World) : (method 404 42 (.pointer q) "Read").run Tryz.prog w = .ok (193, .pointer q) w := by kernel_rfl
theorem keySize : (Tryz.prog.info? 30).map (·.size) = some 32 := by kernel_rfl
theorem seen_page {w : World} {g n : Nat} {zs : List Int} (b : Blk w g 5 (u8s zs)) (hl : zs.length = n) (hb : Bytes zs) (hn : n ≤ 8192) : Seen w (some ⟨g, 0, none⟩) n zs := by
 have := seen_blk b hb (by omega)
 rw [hl] at this
 exact this
structure Hn (s : HSt) : Prop where
 dn : s.down = false
 cm : ∀ k, s.coming k = []
 dp : s.depth = 0
theorem Hn.pow {s : HSt} (x : Hn s) : s.pow = 0 := by unfold HSt.pow; rw [x.cm]; rfl
theorem Hn.opE {s : HSt} (x : Hn s) : s.opE = 0 := by
 unfold HSt.opE
 rw [if_neg]
 rw [x.dn, x.pow]; decide
theorem Hn.opS {s : HSt} (x : Hn s) (f : HSt → HSt) (t : Tc) : s.opS f t = (f s.next).logged t := by
 unfold HSt.opS
 rw [if_neg (by rw [x.dn]; simp), if_neg (by rw [x.pow]; decide)]
theorem Hn.next {s : HSt} (x : Hn s) : Hn s.next :=
 ⟨by show decide (s.pow ≠ 0) = false; rw [x.pow]; rfl, fun k => by show (if k = s.ops then [] else s.coming k) = []; rw [x.cm]; split <;> rfl, x.dp⟩
theorem Hn.spo {s : HSt} (x : Hn s) (p : Nat) : spoL s p (s.coming s.ops) = agoL s p 0 := by rw [x.cm]; rfl
theorem gread_any (p h q : Nat) (v : PgV) (s : HSt) (Mh : Nat → Prop) (r c pq ver : Int) (zs : List Int) (w : World) (hp : PgAt w p v) (hst : v.st = .iface 42 (.pointer (some ⟨h, 0, none⟩))) (x : HostAt w Mh h s) (hn : Hn s) (hq : q < s.pages) (hops : s.ops < 3000000000000) (hpM : ¬ Mh p)
  (hl : zs.length ≤ 4096) (hz : s.size = zs.length + 28) (hb : Bytes zs) (hr : Word r) (hc : U32 c) (hpq : U32 pq) (hv : U32 ver) (hk : agoL s q 0 = pageL v.key r c pq ver zs) :
  Calls Tryz.prog 110 #[.pointer (some ⟨p, 0, none⟩), .int .i64 q, .agg (placeC r c pq ver).toArray] w fun e w' => ∃ u M2 B, e = .returned (.tuple #[u, .int .i64 0]) ∧ HostAt w' M2 h (s.next.logged ⟨0, q, s.size, List.replicate 12 0⟩) ∧ Goes Mh M2 w w' ∧ isO B zs.length zs u w' ∧ w.heap.size ≤ B ∧ ∀ k, M2 k → k < B := by
 have HP : Hid (PgAt w p v) := hp
 have HS : Hid (v.st = .iface 42 (.pointer (some ⟨h, 0, none⟩)) ∧ ¬ Mh p) := ⟨hst, hpM⟩
 have CR : Hid (∀ W, Below w.heap.size w W → Calls Tryz.prog 193 #[.pointer (some ⟨h, 0, none⟩), .int .i64 q] W fun e w' => ∃ v, e = .returned (.tuple #[v, .int .i64 0]) ∧ ∃ M2, HostAt w' M2 h (s.next.logged ⟨0, q, s.size, List.replicate 12 0⟩) ∧ Goes Mh M2 W w' ∧
   ∃ g, v = .slice (some ⟨g, 0, none⟩) s.size s.size ∧ Blk w' g 5 (u8s (agoL s q 0)) ∧ W.heap.size ≤ g ∧ ¬ M2 g ∧ Bytes (agoL s q 0)) := fun W hW => by
  refine (read_good h s q hq Mh W (x.later hW) hops).mono ?_
  rintro e w' ⟨u, he, M2, h1, h2, _, h3⟩
  rw [hn.opE] at he
  rw [hn.opS] at h1
  have h3 := h3 hn.opE
  rw [hn.spo] at h3
  exact ⟨u, he, M2, h1, h2, h3⟩
 have HX : Hid (HostAt w Mh h s ∧ zs.length ≤ 4096 ∧ s.size = zs.length + 28 ∧ Bytes zs ∧ Word r ∧ U32 c ∧ U32 pq ∧ U32 ver ∧ agoL s q 0 = pageL v.key r c pq ver zs) := ⟨x, hl, hz, hb, hr, hc, hpq, hv, hk⟩
 have cS : w.cell? ⟨p, 0, none⟩ = some (.iface 42 (.pointer (some ⟨h, 0, none⟩))) := by rw [hp.blk.cell]; show some v.st = _; rw [hst]
 clear hp hst x hn hq hops hpM hl hz hb hr hc hpq hv hk
 have hmR : ∀ W, (method 404 42 (.pointer (some ⟨h, 0, none⟩)) "Read").run Tryz.prog W = .ok (193, .pointer (some ⟨h, 0, none⟩)) W := meth_read _
 go_enter Tryz.func110, Tryz.ntmps110
 go_wp2_with (first | (refine wpList_box_new rfl 169 _ rfl (placeC r c pq ver) rfl ?_; intro w1 b1 s1 l1; have c1 : w1.cell? ⟨p, 0, none⟩ = some (.iface 42 (.pointer (some ⟨h, 0, none⟩))) := (l1.cell (p := ⟨p, 0, none⟩) HP.out.blk.lt).trans cS) | (go_at_call 193; refine (CR.out w1 l1).mono ?_))
 rintro e w2 ⟨_, rfl, M2, x2, g2, g, rfl, bg, hg, nM, hB⟩
 have P2 : Hid (PgAt w2 p v) := (HP.out.later l1 HP.out.blk.lt).kept g2.kept HS.out.2
 have B2 : Hid (Blk w2 w.heap.size 169 (placeC r c pq ver)) := b1.kept g2.kept (fun e => by have := HX.out.1.all _ e; omega)
 have V2 : Hid (HostAt w2 M2 h (s.next.logged ⟨0, q, s.size, List.replicate 12 0⟩) ∧ Goes Mh M2 w w2 ∧ Blk w2 g 5 (u8s (agoL s q 0)) ∧ Bytes (agoL s q 0)) := ⟨x2, g2.later l1, bg, hB⟩
 clear x2 g2 bg hB b1 s1 l1 c1 cS nM hg
 go_wp2_with fail
 refine region_invP 7 ((.val (.pointer (some ⟨p, 0, none⟩))) :: (.val (.pointer (some ⟨p, 0, none⟩))) :: (.val (.pointer (some ⟨p, 1, none⟩))) :: (.val (.agg (u8s v.key).toArray)) :: (.val (.agg (placeC r c pq ver).toArray)) :: (.val (.slice (some ⟨g, 0, none⟩) s.size s.size)) :: (.any (isT w2.heap.size zs.length zs 0) (isT_later _ _ _ _)) :: []) (by kernel_rfl) (by kernel_rfl) (by kernel_rfl) [] ⟨.inl rfl, .inl rfl, .inl rfl, .inl rfl, .inl rfl, .inl rfl, .inl rfl, trivial⟩ (by kernel_rfl) ?_ ?_
 ·refine Steps'.cons ?_ (Steps'.cons ?_ (Steps'.cons ?_ (Steps'.cons ?_ (Steps'.cons ?_ (Steps'.cons ?_ (Steps'.cons ?_ (Steps'.one _ _ _ _ _ _ _)))))))
  ·intro ax wx hb hs hd
   have h0 : ax.tmps.getD 0 undef = (.pointer (some ⟨p, 0, none⟩)) := hs 0 (by kernel_rfl)
   exact Does.value _ (by clear hs hd; go_simp) rfl
  ·intro ax wx hb hs hd
   have h22 := sqV (hd 0 22 rfl (by kernel_rfl) (by decide))
   exact Does.value _ (by clear hs hd; go_simp) rfl
  ·intro ax wx hb hs hd
   have h23 := sqV (hd 1 23 rfl (by kernel_rfl) (by decide))
   exact Does.value _ (by clear hs hd; go_simp) rfl
  ·intro ax wx hb hs hd
   have h24 := sqV (hd 2 24 rfl (by kernel_rfl) (by decide))
   have P3 := P2.out.later hb P2.out.blk.lt
   exact Does.load 30 (.tmp 24) rfl p 1 h24 (u8s v.key) _ P3.key Tryz.underlying30 rfl (by rw [u8s_length, P3.klen]; exact keySize)
  ·intro ax wx hb hs hd
   have h5 : ax.tmps.getD 5 undef = (.pointer (some ⟨w.heap.size, 0, none⟩)) := hs 5 (by kernel_rfl)
   exact Does.load 169 (.tmp 5) rfl w.heap.size 0 h5 (placeC r c pq ver) _ ((B2.out.later hb B2.out.lt).allR) Tryz.underlying169 rfl pzKey
  ·intro ax wx hb hs hd
   have h8 : ax.tmps.getD 8 undef = (.slice (some ⟨g, 0, none⟩) s.size s.size) := hs 8 (by kernel_rfl)
   exact Does.value _ (by clear hs hd; go_simp) rfl
  ·intro ax wx hb hs hd
   have h25 := sqV (hd 3 25 rfl (by kernel_rfl) (by decide))
   have h26 := sqV (hd 4 26 rfl (by kernel_rfl) (by decide))
   have h27 := sqV (hd 5 27 rfl (by kernel_rfl) (by decide))
   refine Does.call 115 #[(.agg (u8s v.key).toArray), (.agg (placeC r c pq ver).toArray), (.slice (some ⟨g, 0, none⟩) s.size s.size)] (by clear hs hd; go_simp) ?_
   have bx := V2.out.2.2.1.later hb V2.out.2.2.1.lt
   rw [HX.out.2.2.2.2.2.2.2.2] at bx
   have hB := V2.out.2.2.2
   rw [HX.out.2.2.2.2.2.2.2.2] at hB
   have P3 := P2.out
   have hl := HX.out.2.2.1
   have sn : Seen wx (some ⟨g, 0, none⟩) s.size (pageL v.key r c pq ver zs) := seen_page bx (by rw [pageL_length, hl]) hB (by have := HX.out.2.1; omega)
   refine (popen_good v.key r c pq ver _ s.size s.size _ P3.klen P3.kb HX.out.2.2.2.2.1 HX.out.2.2.2.2.2.1 HX.out.2.2.2.2.2.2.1 HX.out.2.2.2.2.2.2.2.1 wx sn (Nat.le_refl _) (opens_page _ _ _ _ _ HX.out.2.2.2.1 HX.out.2.1 HX.out.2.2.2.2.1 HX.out.2.2.2.2.2.1)).mono ?_
   rintro e w' ⟨u, rfl, o, l⟩
   rw [text_page _ _ _ _ _ HX.out.2.2.2.1, show s.size - 28 = zs.length by omega] at o
   exact ⟨_, rfl, ⟨u, rfl, ownsRow_base o hb.size⟩, l⟩
 ·intro wx hb
  iterate 6 refine @EndsP.val _ _ _ _ _ _ _ _ _ rfl ?_
  refine @EndsP.any _ _ _ _ _ _ _ _ (isT w2.heap.size zs.length zs 0) (isT_later _ _ _ _) rfl ?_
  intro v28 p28
  intro hD nf hn
  obtain ⟨u, rfl, ou⟩ := p28
  obtain ⟨mf, rfl⟩ : ∃ mf, nf = mf + 4 := ⟨nf - 4, by have h3 : 4 ≤ nf := hn; omega⟩
  clear hD hn
  simp only [Act.put, sqA, sqB, sqC]
  refine take_op 7 (some 29) u rfl rfl (by kernel_rfl) (by kernel_rfl) (by kernel_rfl) (fun _ _ _ h => h) (by rfl) (fun W' => by go_simp) ?_
  simp only [Act.put, sqA, sqB, sqC]
  refine take_op 8 (some 30) (.int .i64 0) rfl rfl (by kernel_rfl) (by kernel_rfl) (by kernel_rfl) (fun _ _ _ h => h) (by rfl) (fun W' => by go_simp) ?_
  simp only [Act.put, sqA, sqB, sqC]
  refine take_op 9 (some 6) u rfl rfl (by kernel_rfl) (by kernel_rfl) (by kernel_rfl) (fun _ _ _ h => h) (by rfl) (fun W' => by go_simp) ?_
  simp only [Act.put, sqA, sqB, sqC]
  refine take_op 10 (some 7) (.int .i64 0) rfl rfl (by kernel_rfl) (by kernel_rfl) (by kernel_rfl) (fun _ _ _ h => h) (by rfl) (fun W' => by go_simp) ?_
  simp only [Act.put, sqA, sqB, sqC]
  refine wpAny_done (by kernel_rfl) (NoPanic.normal ?_) _
  go_wp2
  go_ret2
  exact ⟨u, M2, w2.heap.size, rfl, V2.out.1.later hb, ⟨V2.out.2.1.sub, V2.out.2.1.new, V2.out.2.1.kept.trans (Kept.new Mh hb)⟩, ou, V2.out.2.1.kept.size, V2.out.1.all⟩
structure PgM (w : World) (p gh gp h : Nat) (v : PgV) (fh : Int → Option Value) (sz : Nat) (fp : Int → Option Value) (szp : Nat) (Mh : Nat → Prop) (s : HSt) : Prop where
 pa : PgAt w p v
 st : v.st = .iface 42 (.pointer (some ⟨h, 0, none⟩))
 he : v.held = .map (some gh)
 pe : v.places = .map (some gp)
 hm : MapV w gh fh sz
 pm : MapV w gp fp szp
 ho : HostAt w Mh h s
 d1 : ¬ Mh p ∧ ¬ Mh gh ∧ ¬ Mh gp
 d2 : gh ≠ gp
def Ow (Mh : Nat → Prop) (p gh gp : Nat) (b : Nat) : Prop := b = p ∨ b = gh ∨ b = gp ∨ Mh b
theorem PgM.later {w w' : World} {p gh gp h : Nat} {v : PgV} {fh : Int → Option Value} {sz : Nat} {fp : Int → Option Value} {szp : Nat} {Mh : Nat → Prop} {s : HSt} (x : PgM w p gh gp h v fh sz fp szp Mh s) (hb : Below w.heap.size w w') : PgM w' p gh gp h v fh sz fp szp Mh s :=
 ⟨x.pa.later hb x.pa.blk.lt, x.st, x.he, x.pe, x.hm.later hb x.hm.lt, x.pm.later hb x.pm.lt, x.ho.later hb, x.d1, x.d2⟩
theorem PgM.all {w : World} {p gh gp h : Nat} {v : PgV} {fh : Int → Option Value} {sz : Nat} {fp : Int → Option Value} {szp : Nat} {Mh : Nat → Prop} {s : HSt} (x : PgM w p gh gp h v fh sz fp szp Mh s) : ∀ b, Ow Mh p gh gp b → b < w.heap.size := fun b hb => by
 rcases hb with rfl | rfl | rfl | hb
 ·exact x.pa.blk.lt
 ·exact x.hm.lt
 ·exact x.pm.lt
 ·exact x.ho.all b hb
theorem PgM.pne {w : World} {p gh gp h : Nat} {v : PgV} {fh : Int → Option Value} {sz : Nat} {fp : Int → Option Value} {szp : Nat} {Mh : Nat → Prop} {s : HSt} (x : PgM w p gh gp h v fh sz fp szp Mh s) : p ≠ gh ∧ p ≠ gp := ⟨x.hm.ne x.pa.blk, x.pm.ne x.pa.blk⟩
theorem PgM.own {w w' : World} {p gh gp h : Nat} {v v' : PgV} {fh : Int → Option Value} {sz : Nat} {fp : Int → Option Value} {szp : Nat} {Mh : Nat → Prop} {s : HSt} (x : PgM w p gh gp h v fh sz fp szp Mh s) (hp : PgAt w' p v') (k : Kept (fun b => b = p) w w') (e1 : v'.st = v.st) (e2 : v'.held = v.held) (e3 : v'.places = v.places) : PgM w' p gh gp h v' fh sz fp szp Mh s :=
 ⟨hp, e1.trans x.st, e2.trans x.he, e3.trans x.pe, x.hm.kept k (fun e => x.pne.1 e.symm), x.pm.kept k (fun e => x.pne.2 e.symm), x.ho.frame (Same.kept k (fun b hb => ⟨x.ho.all b hb, fun e => x.d1.1 (e ▸ hb)⟩)), x.d1, x.d2⟩
theorem PgM.off {w w' : World} {p gh gp h : Nat} {v : PgV} {fh : Int → Option Value} {sz : Nat} {fp : Int → Option Value} {szp : Nat} {Mh S : Nat → Prop} {s : HSt} (x : PgM w p gh gp h v fh sz fp szp Mh s) (k : Kept S w w') (hS : ∀ b, S b → ¬ Ow Mh p gh gp b) : PgM w' p gh gp h v fh sz fp szp Mh s :=
 ⟨x.pa.kept k (fun e => hS _ e (.inl rfl)), x.st, x.he, x.pe, x.hm.kept k (fun e => hS _ e (.inr (.inl rfl))), x.pm.kept k (fun e => hS _ e (.inr (.inr (.inl rfl)))), x.ho.frame (Same.kept k (fun b hb => ⟨x.ho.all b hb, fun e => hS b e (.inr (.inr (.inr hb)))⟩)), x.d1, x.d2⟩
theorem PgM.heldT {w w' : World} {p gh gp h : Nat} {v : PgV} {fh fh' : Int → Option Value} {sz sz' : Nat} {fp : Int → Option Value} {szp : Nat} {Mh : Nat → Prop} {s : HSt} (x : PgM w p gh gp h v fh sz fp szp Mh s) (k : Kept (fun b => b = gh) w w') (m : MapV w' gh fh' sz') : PgM w' p gh gp h v fh' sz' fp szp Mh s :=
 ⟨x.pa.kept k (fun e => x.pne.1 e), x.st, x.he, x.pe, m, x.pm.kept k (fun e => x.d2 e.symm), x.ho.frame (Same.kept k (fun b hb => ⟨x.ho.all b hb, fun e => x.d1.2.1 (e ▸ hb)⟩)), x.d1, x.d2⟩
theorem PgM.placeT {w w' : World} {p gh gp h : Nat} {v : PgV} {fh : Int → Option Value} {sz : Nat} {fp fp' : Int → Option Value} {szp szp' : Nat} {Mh : Nat → Prop} {s : HSt} (x : PgM w p gh gp h v fh sz fp szp Mh s) (k : Kept (fun b => b = gp) w w') (m : MapV w' gp fp' szp') : PgM w' p gh gp h v fh sz fp' szp' Mh s :=
 ⟨x.pa.kept k (fun e => x.pne.2 e), x.st, x.he, x.pe, x.hm.kept k (fun e => x.d2 e), m, x.ho.frame (Same.kept k (fun b hb => ⟨x.ho.all b hb, fun e => x.d1.2.2 (e ▸ hb)⟩)), x.d1, x.d2⟩
theorem PgM.hosted {w w' : World} {p gh gp h : Nat} {v : PgV} {fh : Int → Option Value} {sz : Nat} {fp : Int → Option Value} {szp : Nat} {Mh M2 : Nat → Prop} {s s' : HSt} (x : PgM w p gh gp h v fh sz fp szp Mh s) (g : Goes Mh M2 w w') (ho : HostAt w' M2 h s') : PgM w' p gh gp h v fh sz fp szp M2 s' :=
 have nw : ∀ b, b < w.heap.size → ¬ Mh b → ¬ M2 b := fun b hb hn h2 => (g.new b h2).elim hn (fun e => by omega)
 ⟨x.pa.kept g.kept x.d1.1, x.st, x.he, x.pe, x.hm.kept g.kept x.d1.2.1, x.pm.kept g.kept x.d1.2.2, ho, ⟨nw _ x.pa.blk.lt x.d1.1, nw _ x.hm.lt x.d1.2.1, nw _ x.pm.lt x.d1.2.2⟩, x.d2⟩
theorem meth_write (q : Option Addr) (w : World) : (method 404 42 (.pointer q) "Write").run Tryz.prog w = .ok (196, .pointer q) w := by kernel_rfl
theorem zeroLeaf (w : World) : (zeroValue 156).run Tryz.prog w = .ok (.agg #[.slice none 0 0, .int .i64 0]) w := by kernel_rfl
theorem zeroPlace (w : World) : (zeroValue 169).run Tryz.prog w = .ok (.agg #[.int .u64 0, .int .u32 0, .int .u32 0, .int .u32 0]) w := by kernel_rfl
theorem wpList_mapU {ops : Array Oper} {rest : List Oper} {o : Oper} {a : Act} {Q : Exit → Act → World → Prop} {w : World} (hgd : o.guard = none) (t : TypeId) (m x y : Operand) (ho : o.op = .mapUpdate t m x y) (mv kv v : Value) (hm : a.eval m = mv) (hx : a.eval x = kv) (hy : a.eval y = v) (w' : World)
  (hr : (Instr.mapUpdate t mv kv v).run Tryz.prog w = .ok () w') (h : wpList Tryz.prog ops Q rest (a.put o.dst undef) w') : wpList Tryz.prog ops Q (o :: rest) a w := by
 refine wpList_plain hgd fun K hK => ?_
 unfold Oper.wp
 simp [execOp, ho, hm, hx, hy, hr, Result.andThen]
 exact hK _ _ h
theorem leaf0 (ao : Option Addr) (t c : Nat) (y : Value) (w : World) : (Instr.field 156 (.agg #[.slice ao t c, y]) 0).run Tryz.prog w = .ok (.slice ao t c) w := by kernel_rfl
theorem leaf1 (x : Value) (z : Int) (w : World) : (Instr.field 156 (.agg #[x, .int .i64 z]) 1).run Tryz.prog w = .ok (.int .i64 z) w := by kernel_rfl
theorem place3 (a b c z : Int) (w : World) : (Instr.field 169 (.agg #[.int .u64 a, .int .u32 b, .int .u32 c, .int .u32 z]) 3).run Tryz.prog w = .ok (.int .u32 z) w := by kernel_rfl
theorem i64_nat {q : Nat} (h : q ≤ 9223372036854775807) : I64 (q : Int) := ⟨by omega, by omega⟩
theorem Seen.off {w w' : World} {S : Nat → Prop} {ao : Option Addr} {n : Nat} {zs : List Int} (h : Seen w ao n zs) (k : Kept S w w') (hS : ∀ b o, ao = some ⟨b, o, none⟩ → ¬ S b) : Seen w' ao n zs :=
 ⟨h.len, h.top, h.bytes, fun h0 => by
  obtain ⟨b, o, e, hlt, hc⟩ := h.cells h0
  exact ⟨b, o, e, Nat.lt_of_lt_of_le hlt k.size, fun i hi => (World.cell?_of_block (w := w) (w' := w') (a := ⟨b, o + i, none⟩) (k.block b hlt (hS b o e))).trans (hc i hi)⟩⟩
theorem own_far {w : World} {B n : Nat} {xs : List Int} {uo : Option Addr} {uc : Nat} (h : isO B n xs (.slice uo n uc) w) (b o : Nat) (e : uo = some ⟨b, o, none⟩) : B ≤ b := by
 rcases h.2 with ⟨h1, _⟩ | ⟨g, cap, cur, h1, hg, _⟩
 ·cases h1; cases e
 ·cases h1; cases e; exact hg
theorem gwrite_any (p gh gp h q : Nat) (v : PgV) (fh : Int → Option Value) (sz : Nat) (fp : Int → Option Value) (szp : Nat) (Mh : Nat → Prop) (s : HSt) (ao : Option Addr) (t c : Nat) (l1 : Value) (zs : List Int) (r0 c0 p0 q0 : Int) (w : World)
  (x : PgM w p gh gp h v fh sz fp szp Mh s) (hn : Hn s) (hq : q < s.pages) (hq2 : q < 65536) (hops : s.ops < 3000000000000) (hz : s.size = t + 28) (ht : t ≤ 4096) (hfh : fh q = some (.agg #[.slice ao t c, l1])) (hs : Seen w ao t zs) (hc : t ≤ c)
  (hfp : (fp q).getD (.agg #[.int .u64 0, .int .u32 0, .int .u32 0, .int .u32 0]) = .agg #[.int .u64 r0, .int .u32 c0, .int .u32 p0, .int .u32 q0]) (hr : Word v.round) (hw : v.writes < 4294967295) (hsz : sz ≤ 1048576 ∧ szp ≤ 4294967296) :
  Calls Tryz.prog 114 #[.pointer (some ⟨p, 0, none⟩), .int .i64 (q : Int)] w fun e w' => e = .returned (.int .i64 0) ∧ ∃ M2 ver, U32 ver ∧ PgM w' p gh gp h { v with writes := v.writes + 1 } (updF fh q (.agg #[.slice ao t c, .int .i64 1])) sz (updF fp q (.agg (placeC v.round v.writes q ver).toArray)) (if (fp q).isSome then szp else szp + 1) M2 ((s.next.wrote q (pageL v.key v.round v.writes q ver zs)).logged ⟨1, q, s.size, headL (pageL v.key v.round v.writes q ver zs)⟩) ∧ Kept (Ow Mh p gh gp) w w' ∧ (∀ k, Mh k → M2 k) ∧ ∀ k, M2 k → Mh k ∨ w.heap.size ≤ k := by
 obtain ⟨szq, hzq⟩ : ∃ z, (if (fp q).isSome then szp else szp + 1) = z := ⟨_, rfl⟩
 have HZQ : Hid ((if (fp q).isSome then szp else szp + 1) = szq) := hzq
 rw [hzq]
 clear hzq
 obtain ⟨ver, hver⟩ : ∃ ver, IntKind.u32.wrap (q0 + 1) = ver := ⟨_, rfl⟩
 have HV : Hid (IntKind.u32.wrap (q0 + 1) = ver ∧ U32 ver) := ⟨hver, by rw [← hver]; simp only [IntKind.wrap, IntKind.bits, IntKind.signed, U32]; constructor <;> (simp; omega)⟩
 have HQ : Hid (q < 65536 ∧ IntKind.u32.wrap (q : Int) = (q : Int)) := ⟨hq2, by simp [IntKind.wrap, IntKind.bits, IntKind.signed]; omega⟩
 have HQ3 : Hid (q < s.pages ∧ s.size = t + 28 ∧ s.ops < 3000000000000) := ⟨hq, hz, hops⟩
 have X0 : Hid (PgM w p gh gp h v fh sz fp szp Mh s) := x
 have HT : Hid (Seen w ao t zs ∧ t ≤ c ∧ t ≤ 4096) := ⟨hs, hc, ht⟩
 have HF : Hid ((fp q).getD (.agg #[.int .u64 0, .int .u32 0, .int .u32 0, .int .u32 0]) = .agg #[.int .u64 r0, .int .u32 c0, .int .u32 p0, .int .u32 q0]) := hfp
 have HR : Hid (Word v.round ∧ U32 (v.writes : Int)) := ⟨hr, ⟨by omega, by omega⟩⟩
 have HW : Hid (v.writes < 4294967295 ∧ IntKind.u32.wrap ((v.writes : Int) + 1) = ((v.writes + 1 : Nat) : Int)) := ⟨hw, by simp [IntKind.wrap, IntKind.bits, IntKind.signed]; omega⟩
 have HZ : Hid (sz ≤ 1048576 ∧ szp ≤ 4294967296) := hsz
 have HH : Hid ((if (fh q).isSome then sz else sz + 1) = sz) := by rw [hfh]; rfl
 have HN : Hid (Hn s) := hn
 have cW : w.cell? ⟨p, 41, none⟩ = some (.int .u32 (v.writes : Int)) := x.pa.cell 8 _ rfl
 have cH : w.cell? ⟨p, 37, none⟩ = some (.map (some gh)) := x.pa.cell 4 _ (by rw [← x.he]; rfl)
 have hL : (Instr.lookup 143 (.map (some gh)) (.int .i64 (q : Int)) false).run Tryz.prog w = .ok (.agg #[.slice ao t c, l1]) w := by
  have := x.hm.look (t := 143) Tryz.underlying143 (zeroLeaf w) (k := (q : Int)) (i64_nat (by omega))
  rw [hfh] at this
  exact this
 have hF0 := leaf0 ao t c l1 w
 have hwE : ((v.writes : Int) == 4294967295) = false := by simp; omega
 clear x hn hq hq2 hops hz ht hfh hs hc hfp hr hsz hver
 go_enter Tryz.func114, Tryz.ntmps114
 go_wp2_with fail
 clear cW cH hL hwE hw hF0
 refine region_invT [.val (.pointer (some ⟨p, 0, none⟩)), .val (.pointer (some ⟨p, 0, none⟩)), .val (.pointer (some ⟨p, 33, none⟩)), .val (.int .u64 v.round), .val (.pointer (some ⟨p, 0, none⟩)), .val (.pointer (some ⟨p, 0, none⟩)), .val (.pointer (some ⟨p, 41, none⟩)), .val (.int .u32 (v.writes : Int)), .val (.int .i64 (q : Int)), .val (.int .u32 (q : Int)), .val (.pointer (some ⟨p, 0, none⟩)), .val (.pointer (some ⟨p, 0, none⟩)), .val (.pointer (some ⟨p, 39, none⟩)), .val (.map (some gp)), .val (.int .i64 (q : Int)), .val (.agg #[.int .u64 r0, .int .u32 c0, .int .u32 p0, .int .u32 q0]), .val (.int .u32 q0), .val (.int .u32 ver), .val (.agg (placeC v.round v.writes q ver).toArray), .blk 169 (placeC 0 0 0 0)] (by kernel_rfl) (by kernel_rfl) (by kernel_rfl) ?_ ?_
 ·refine Steps'.cons ?_ (Steps'.cons ?_ (Steps'.cons ?_ (Steps'.cons ?_ (Steps'.cons ?_ (Steps'.cons ?_ (Steps'.cons ?_ (Steps'.cons ?_ (Steps'.cons ?_ (Steps'.cons ?_ (Steps'.cons ?_ (Steps'.cons ?_ (Steps'.cons ?_ (Steps'.cons ?_ (Steps'.cons ?_ (Steps'.cons ?_ (Steps'.cons ?_ (Steps'.cons ?_ (Steps'.cons ?_ (Steps'.cons ?_ (Steps'.one _ _ _ _ _ _ _))))))))))))))))))))
  ·intro ax wx hb hs hd
   have h0 : ax.tmps.getD 0 undef = (.pointer (some ⟨p, 0, none⟩)) := hs 0 (by kernel_rfl)
   exact Does.value _ (by clear hs hd; go_simp) rfl
  ·intro ax wx hb hs hd
   have h22 := sqV (hd 0 22 rfl (by kernel_rfl) (by decide))
   exact Does.value _ (by clear hs hd; go_simp) rfl
  ·intro ax wx hb hs hd
   have h23 := sqV (hd 1 23 rfl (by kernel_rfl) (by decide))
   exact Does.value _ (by clear hs hd; go_simp) rfl
  ·intro ax wx hb hs hd
   have h24 := sqV (hd 2 24 rfl (by kernel_rfl) (by decide))
   have c0 : wx.cell? ⟨p, 33, none⟩ = some (.int .u64 v.round) := (X0.out.later hb).pa.cell 0 _ rfl
   exact Does.value _ (by clear hs hd; go_simp) rfl
  ·intro ax wx hb hs hd
   have h0 : ax.tmps.getD 0 undef = (.pointer (some ⟨p, 0, none⟩)) := hs 0 (by kernel_rfl)
   exact Does.value _ (by clear hs hd; go_simp) rfl
  ·intro ax wx hb hs hd
   have h26 := sqV (hd 4 26 rfl (by kernel_rfl) (by decide))
   exact Does.value _ (by clear hs hd; go_simp) rfl
  ·intro ax wx hb hs hd
   have h27 := sqV (hd 5 27 rfl (by kernel_rfl) (by decide))
   exact Does.value _ (by clear hs hd; go_simp) rfl
  ·intro ax wx hb hs hd
   have h28 := sqV (hd 6 28 rfl (by kernel_rfl) (by decide))
   have c0 : wx.cell? ⟨p, 41, none⟩ = some (.int .u32 (v.writes : Int)) := (X0.out.later hb).pa.cell 8 _ rfl
   exact Does.value _ (by clear hs hd; go_simp) rfl
  ·intro ax wx hb hs hd
   have h1 : ax.tmps.getD 1 undef = (.int .i64 (q : Int)) := hs 1 (by kernel_rfl)
   exact Does.value _ (by clear hs hd; go_simp) rfl
  ·intro ax wx hb hs hd
   have h30 := sqV (hd 8 30 rfl (by kernel_rfl) (by decide))
   have hwr := HQ.out.2
   exact Does.value _ (by clear hs hd; go_simp) rfl
  ·intro ax wx hb hs hd
   have h0 : ax.tmps.getD 0 undef = (.pointer (some ⟨p, 0, none⟩)) := hs 0 (by kernel_rfl)
   exact Does.value _ (by clear hs hd; go_simp) rfl
  ·intro ax wx hb hs hd
   have h32 := sqV (hd 10 32 rfl (by kernel_rfl) (by decide))
   exact Does.value _ (by clear hs hd; go_simp) rfl
  ·intro ax wx hb hs hd
   have h33 := sqV (hd 11 33 rfl (by kernel_rfl) (by decide))
   exact Does.value _ (by clear hs hd; go_simp) rfl
  ·intro ax wx hb hs hd
   have h34 := sqV (hd 12 34 rfl (by kernel_rfl) (by decide))
   have c0 : wx.cell? ⟨p, 39, none⟩ = some (.map (some gp)) := (X0.out.later hb).pa.cell 6 _ (by rw [← X0.out.pe]; rfl)
   exact Does.value _ (by clear hs hd; go_simp) rfl
  ·intro ax wx hb hs hd
   have h1 : ax.tmps.getD 1 undef = (.int .i64 (q : Int)) := hs 1 (by kernel_rfl)
   exact Does.value _ (by clear hs hd; go_simp) rfl
  ·intro ax wx hb hs hd
   have h35 := sqV (hd 13 35 rfl (by kernel_rfl) (by decide))
   have h36 := sqV (hd 14 36 rfl (by kernel_rfl) (by decide))
   have hL := (X0.out.later hb).pm.look (t := 144) Tryz.underlying144 (zeroPlace wx) (k := (q : Int)) (i64_nat (by have := HQ.out.1; omega))
   rw [HF.out] at hL
   exact Does.value _ (by clear hs hd; go_simp) rfl
  ·intro ax wx hb hs hd
   have h37 := sqV (hd 15 37 rfl (by kernel_rfl) (by decide))
   have hP3 := place3 r0 c0 p0 q0 wx
   exact Does.value _ (by clear hs hd; go_simp) rfl
  ·intro ax wx hb hs hd
   have h38 := sqV (hd 16 38 rfl (by kernel_rfl) (by decide))
   have hv := HV.out.1
   exact Does.value _ (by clear hs hd; go_simp) rfl
  ·intro ax wx hb hs hd
   have h25 := sqV (hd 3 25 rfl (by kernel_rfl) (by decide))
   have h29 := sqV (hd 7 29 rfl (by kernel_rfl) (by decide))
   have h31 := sqV (hd 9 31 rfl (by kernel_rfl) (by decide))
   have h39 := sqV (hd 17 39 rfl (by kernel_rfl) (by decide))
   refine Does.build 169 _ rfl #[(0, .int .u64 v.round), (1, .int .u32 (v.writes : Int)), (2, .int .u32 (q : Int)), (3, .int .u32 ver)] ?_ _ (pbuild _ _ _ _ wx)
   simp only [List.map_toArray, List.map_cons, List.map_nil, Act.eval, h25, h29, h31, h39]
  ·intro ax wx hb hs hd
   exact Does.alloc 169 rfl 4 _ pzPlace hb.size
 ·intro wx hb
  iterate 19 refine @Ends.val _ _ _ _ _ _ _ _ _ _ rfl ?_
  refine @Ends.blk _ _ _ _ _ _ _ _ _ 169 (placeC 0 0 0 0) rfl ?_
  intro g6 hg6 bg6
  refine @Ends.one _ _ _ _ _ _ _ ?_
  simp only [Act.put, sqA, sqB, sqC]
  refine last_store 169 (.tmp 6) (.tmp 40) rfl rfl g6 rfl 169 _ (placeC v.round v.writes q ver) rfl bg6 rfl pzKey (placeC_one _ _ _ _) ?_
  intro w1 b1 s1 k1
  have L1 : Hid (Below w.heap.size w w1) := below_kept hb k1 (by have := hb.size; omega) (fun j hj => by omega)
  have X1 : Hid (PgM w1 p gh gp h v fh sz fp szp Mh s) := X0.out.later L1.out
  have T1 : Hid (Seen w1 ao t zs) := HT.out.1.later L1.out (Nat.le_refl _)
  have B1 : Hid (Blk w1 g6 169 (placeC v.round v.writes q ver) ∧ w.heap.size ≤ g6) := ⟨b1, hg6⟩
  clear b1 s1 k1
  go_wp2_with fail
  refine region_invP 8 ((.val (.pointer (some ⟨p, 0, none⟩))) :: (.val (.pointer (some ⟨p, 0, none⟩))) :: (.val (.pointer (some ⟨p, 1, none⟩))) :: (.val (.agg (u8s v.key).toArray)) :: (.val (.agg (placeC v.round v.writes q ver).toArray)) :: (.val (.slice ao t c)) :: (.any (isT w1.heap.size (t + 28) (pageL v.key v.round v.writes q ver zs) 0) (isT_later _ _ _ _)) :: (.any (isT w1.heap.size (t + 28) (pageL v.key v.round v.writes q ver zs) 0) (isT_later _ _ _ _)) :: []) (by kernel_rfl) (by kernel_rfl) (by kernel_rfl) [] ⟨.inl rfl, .inl rfl, .inl rfl, .inl rfl, .inl rfl, .inl rfl, .inl rfl, .inl rfl, trivial⟩ (by kernel_rfl) ?_ ?_
  ·refine Steps'.cons ?_ (Steps'.cons ?_ (Steps'.cons ?_ (Steps'.cons ?_ (Steps'.cons ?_ (Steps'.cons ?_ (Steps'.cons ?_ (Steps'.cons ?_ (Steps'.one _ _ _ _ _ _ _))))))))
   ·intro ax wx hb hs hd
    have h0 : ax.tmps.getD 0 undef = (.pointer (some ⟨p, 0, none⟩)) := hs 0 (by kernel_rfl)
    exact Does.value _ (by clear hs hd; go_simp) rfl
   ·intro ax wx hb hs hd
    have h42 := sqV (hd 0 42 rfl (by kernel_rfl) (by decide))
    exact Does.value _ (by clear hs hd; go_simp) rfl
   ·intro ax wx hb hs hd
    have h43 := sqV (hd 1 43 rfl (by kernel_rfl) (by decide))
    exact Does.value _ (by clear hs hd; go_simp) rfl
   ·intro ax wx hb hs hd
    have h44 := sqV (hd 2 44 rfl (by kernel_rfl) (by decide))
    have P3 := (X1.out.later hb).pa
    exact Does.load 30 (.tmp 44) rfl p 1 h44 (u8s v.key) _ P3.key Tryz.underlying30 rfl (by rw [u8s_length, P3.klen]; exact keySize)
   ·intro ax wx hb hs hd
    have h6 : ax.tmps.getD 6 undef = (.pointer (some ⟨g6, 0, none⟩)) := hs 6 (by kernel_rfl)
    exact Does.load 169 (.tmp 6) rfl g6 0 h6 (placeC v.round v.writes q ver) _ ((B1.out.1.later hb B1.out.1.lt).allR) Tryz.underlying169 rfl pzKey
   ·intro ax wx hb hs hd
    have h5 : ax.tmps.getD 5 undef = (.slice ao t c) := hs 5 (by kernel_rfl)
    exact Does.value _ (by clear hs hd; go_simp) rfl
   ·intro ax wx hb hs hd
    have h45 := sqV (hd 3 45 rfl (by kernel_rfl) (by decide))
    have h46 := sqV (hd 4 46 rfl (by kernel_rfl) (by decide))
    have h47 := sqV (hd 5 47 rfl (by kernel_rfl) (by decide))
    refine Does.call 116 #[(.agg (u8s v.key).toArray), (.agg (placeC v.round v.writes q ver).toArray), (.slice ao t c)] (by clear hs hd; go_simp) ?_
    refine (pseal_any v.key v.round v.writes q ver ao t c zs X1.out.pa.klen X1.out.pa.kb HR.out.1 HR.out.2 ⟨by omega, by have := HQ.out.1; omega⟩ HV.out.2 HT.out.2.2 wx (T1.out.later hb (Nat.le_refl _)) HT.out.2.1).mono ?_
    rintro e w' ⟨u, rfl, o, l⟩
    exact ⟨_, rfl, ⟨u, rfl, ownsRow_base o hb.size⟩, l⟩
   ·intro ax wx hb hs hd
    have p48 : (isT w1.heap.size (t + 28) (pageL v.key v.round v.writes q ver zs) 0) (ax.tmps.getD 48 undef) wx := hd 6 48 rfl (by kernel_rfl) (by decide)
    exact Does.value (ax.tmps.getD 48 undef) (by clear hs hd p48; go_simp) p48
  ·intro wx hb
   iterate 6 refine @EndsP.val _ _ _ _ _ _ _ _ _ rfl ?_
   refine @EndsP.any _ _ _ _ _ _ _ _ (isT w1.heap.size (t + 28) (pageL v.key v.round v.writes q ver zs) 0) (isT_later _ _ _ _) rfl ?_
   intro v48 p48
   refine @EndsP.any _ _ _ _ _ _ _ _ (isT w1.heap.size (t + 28) (pageL v.key v.round v.writes q ver zs) 0) (isT_later _ _ _ _) rfl ?_
   intro v41 p41
   intro hD nf hn
   obtain ⟨_, rfl, ou⟩ := p41
   obtain ⟨uo, uc, rfl, su, huc, -⟩ := pown_sl (by rw [pageL_length, HT.out.1.len]) (pageL_bytes _ _ _ _ _ HT.out.1.bytes) (by have := HT.out.2.2; omega) ou
   have hfr : Hid (∀ b o, uo = some ⟨b, o, none⟩ → w1.heap.size ≤ b) := fun b o e => own_far ou b o e
   obtain ⟨mf, rfl⟩ : ∃ mf, nf = mf + 4 := ⟨nf - 4, by have h3 : 4 ≤ nf := hn; omega⟩
   clear hD hn
   simp only [Act.put, sqA, sqB, sqC]
   refine take_op 8 (some 49) (.slice uo (t + 28) uc) rfl rfl (by kernel_rfl) (by kernel_rfl) (by kernel_rfl) (fun _ _ _ h => h) (by rfl) (fun W' => by go_simp) ?_
   simp only [Act.put, sqA, sqB, sqC]
   refine take_op 9 (some 50) (.int .i64 0) rfl rfl (by kernel_rfl) (by kernel_rfl) (by kernel_rfl) (fun _ _ _ h => h) (by rfl) (fun W' => by go_simp) ?_
   simp only [Act.put, sqA, sqB, sqC]
   refine take_op 10 (some 7) (.slice uo (t + 28) uc) rfl rfl (by kernel_rfl) (by kernel_rfl) (by kernel_rfl) (fun _ _ _ h => h) (by rfl) (fun W' => by go_simp) ?_
   simp only [Act.put, sqA, sqB, sqC]
   refine take_op 11 (some 8) (.int .i64 0) rfl rfl (by kernel_rfl) (by kernel_rfl) (by kernel_rfl) (fun _ _ _ h => h) (by rfl) (fun W' => by go_simp) ?_
   simp only [Act.put, sqA, sqB, sqC]
   refine wpAny_done (by kernel_rfl) (NoPanic.normal ?_) _
   have su' := su
   have CW := write_good h s q HQ3.out.1 uo (t + 28) uc (pageL v.key v.round v.writes q ver zs) HQ3.out.2.1.symm Mh wx (X1.out.later hb).ho su (fun b o _ e hM => by have h1 := hfr.out b o e; have h2 := X1.out.ho.all b hM; omega) HQ3.out.2.2
   rw [HN.out.opE, HN.out.opS] at CW
   have HCW : Hid (Calls Tryz.prog 196 #[.pointer (some ⟨h, 0, none⟩), .int .i64 (q : Int), .slice uo (t + 28) uc] wx fun e w' => e = .returned (.int .i64 0) ∧ ∃ M2, HostAt w' M2 h ((s.next.wrote q (pageL v.key v.round v.writes q ver zs)).logged ⟨1, q, s.size, headL (pageL v.key v.round v.writes q ver zs)⟩) ∧ Goes Mh M2 wx w') := CW
   have X2 : Hid (PgM wx p gh gp h v fh sz fp szp Mh s ∧ Blk wx g6 169 (placeC v.round v.writes q ver)) := ⟨X1.out.later hb, B1.out.1.later hb B1.out.1.lt⟩
   have L2 : Hid (Below w.heap.size w wx) := below_chain L1.out hb L1.out.size
   have c2 : wx.cell? ⟨p, 0, none⟩ = some (.iface 42 (.pointer (some ⟨h, 0, none⟩))) := by rw [X2.out.1.pa.blk.cell]; show some v.st = _; rw [X2.out.1.st]
   have hmW : ∀ W, (method 404 42 (.pointer (some ⟨h, 0, none⟩)) "Write").run Tryz.prog W = .ok (196, .pointer (some ⟨h, 0, none⟩)) W := meth_write _
   clear CW su su' ou
   go_wp2_with (go_at_call 196; refine HCW.out.mono ?_)
   rintro e w4 ⟨rfl, M2, h4, g4⟩
   have X4 : Hid (PgM w4 p gh gp h v fh sz fp szp M2 ((s.next.wrote q (pageL v.key v.round v.writes q ver zs)).logged ⟨1, q, s.size, headL (pageL v.key v.round v.writes q ver zs)⟩)) := X2.out.1.hosted g4 h4
   obtain ⟨S5, hS5⟩ : ∃ S5, (s.next.wrote q (pageL v.key v.round v.writes q ver zs)).logged ⟨1, q, s.size, headL (pageL v.key v.round v.writes q ver zs)⟩ = S5 := ⟨_, rfl⟩
   rw [hS5] at X4
   have HS5 : Hid ((s.next.wrote q (pageL v.key v.round v.writes q ver zs)).logged ⟨1, q, s.size, headL (pageL v.key v.round v.writes q ver zs)⟩ = S5) := hS5
   clear hS5 h4 c2
   have B4 : Hid (Blk w4 g6 169 (placeC v.round v.writes q ver) ∧ ¬ Mh g6 ∧ g6 ≠ p) := ⟨X2.out.2.kept g4.kept (fun e => by have := X0.out.ho.all _ e; have := B1.out.2; omega), fun e => by have := X0.out.ho.all _ e; have := B1.out.2; omega, fun e => by have := X0.out.pa.blk.lt; have := B1.out.2; omega⟩
   have K4 : Hid (Kept (Ow Mh p gh gp) w w4) := (Kept.new _ L2.out).trans (g4.kept.mono (fun b e => .inr (.inr (.inr e))))
   have G5 : Hid ((∀ k, Mh k → M2 k) ∧ ∀ k, M2 k → Mh k ∨ w.heap.size ≤ k) := ⟨g4.sub, fun k hk => (g4.new k hk).imp id (fun e => Nat.le_trans L2.out.size e)⟩
   clear g4
   have c4 : w4.cell? ⟨p, 41, none⟩ = some (.int .u32 (v.writes : Int)) := X4.out.pa.cell 8 _ rfl
   have f4 := X4.out.pa.blk.frozen 41
   have hww := HW.out.2
   have X5 : Hid (PgM (w4.setCell ⟨p, 41, none⟩ (.int .u32 ((v.writes + 1 : Nat) : Int))) p gh gp h { v with writes := v.writes + 1 } fh sz fp szp M2 S5) := X4.out.own (X4.out.pa.put 8 _ rfl rfl rfl) ((Kept.refl (fun b => b = p) w4).setCell (p := ⟨p, 41, none⟩) rfl _) rfl rfl rfl
   have K5 : Hid (Kept (Ow Mh p gh gp) w (w4.setCell ⟨p, 41, none⟩ (.int .u32 ((v.writes + 1 : Nat) : Int)))) := K4.out.setCell (.inl rfl) _
   have B5 : Hid (Blk (w4.setCell ⟨p, 41, none⟩ (.int .u32 ((v.writes + 1 : Nat) : Int))) g6 169 (placeC v.round v.writes q ver)) := B4.out.1.kept ((Kept.refl (fun b => b = p) w4).setCell (p := ⟨p, 41, none⟩) rfl _) (fun e => B4.out.2.2 e)
   go_wp2_with fail
   clear c4 f4 hww
   obtain ⟨w5, hw5⟩ : ∃ w5, w4.setCell ⟨p, 41, none⟩ (.int .u32 ((v.writes : Int) + 1)) = w5 := ⟨_, rfl⟩
   have ec : ((v.writes + 1 : Nat) : Int) = (v.writes : Int) + 1 := by omega
   rw [ec, hw5] at X5 K5 B5
   rw [hw5]
   clear hw5 ec
   refine region_inv [.val (.pointer (some ⟨p, 0, none⟩)), .val (.pointer (some ⟨p, 0, none⟩)), .val (.pointer (some ⟨p, 39, none⟩)), .val (.map (some gp)), .val (.int .i64 (q : Int)), .val (.agg (placeC v.round v.writes q ver).toArray)] (by kernel_rfl) (by kernel_rfl) (by kernel_rfl) ?_ ?_
   ·refine Steps'.cons ?_ (Steps'.cons ?_ (Steps'.cons ?_ (Steps'.cons ?_ (Steps'.cons ?_ (Steps'.cons ?_ (Steps'.one _ _ _ _ _ _ _))))))
    ·intro ax wx hb hs hd
     have h0 : ax.tmps.getD 0 undef = (.pointer (some ⟨p, 0, none⟩)) := hs 0 (by kernel_rfl)
     exact Does.value _ (by clear hs hd; go_simp) rfl
    ·intro ax wx hb hs hd
     have h71 := sqV (hd 0 71 rfl (by kernel_rfl) (by decide))
     exact Does.value _ (by clear hs hd; go_simp) rfl
    ·intro ax wx hb hs hd
     have h72 := sqV (hd 1 72 rfl (by kernel_rfl) (by decide))
     exact Does.value _ (by clear hs hd; go_simp) rfl
    ·intro ax wx hb hs hd
     have h73 := sqV (hd 2 73 rfl (by kernel_rfl) (by decide))
     have c0 : wx.cell? ⟨p, 39, none⟩ = some (.map (some gp)) := (X5.out.later hb).pa.cell 6 _ (by rw [← X5.out.pe]; rfl)
     exact Does.value _ (by clear hs hd; go_simp) rfl
    ·intro ax wx hb hs hd
     have h1 : ax.tmps.getD 1 undef = (.int .i64 (q : Int)) := hs 1 (by kernel_rfl)
     exact Does.value _ (by clear hs hd; go_simp) rfl
    ·intro ax wx hb hs hd
     have h6 : ax.tmps.getD 6 undef = (.pointer (some ⟨g6, 0, none⟩)) := hs 6 (by kernel_rfl)
     exact Does.load 169 (.tmp 6) rfl g6 0 h6 (placeC v.round v.writes q ver) _ ((B5.out.later hb B5.out.lt).allR) Tryz.underlying169 rfl pzKey
   ·intro wx hb
    iterate 6 refine @Ends.val _ _ _ _ _ _ _ _ _ _ rfl ?_
    refine @Ends.one _ _ _ _ _ _ _ ?_
    simp only [Act.put, sqA, sqB, sqC]
    obtain ⟨w6, hr, m6, k6⟩ := (X5.out.later hb).pm.store (t := 144) Tryz.underlying144 (by have := HZ.out; unfold maxLen; omega) (k := (q : Int)) (i64_nat (by have := HQ.out.1; omega)) (.agg (placeC v.round v.writes q ver).toArray)
    refine last_mapU 144 (.tmp 74) (.tmp 75) (.tmp 76) rfl rfl _ rfl _ rfl _ rfl _ hr ?_
    have X6 : Hid (PgM w6 p gh gp h { v with writes := v.writes + 1 } fh sz (updF fp q (.agg (placeC v.round v.writes q ver).toArray)) szq M2 S5) := by have := (X5.out.later hb).placeT k6 m6; rw [HZQ.out] at this; exact this
    have K6 : Hid (Kept (Ow Mh p gh gp) w w6) := (K5.out.trans (Kept.new _ hb)).trans (k6.mono (fun b e => .inr (.inr (.inl e))))
    clear hr m6 k6
    obtain ⟨w7, hr7, m7, k7⟩ := X6.out.hm.store (t := 143) Tryz.underlying143 (by have := HZ.out; unfold maxLen; omega) (k := (q : Int)) (i64_nat (by have := HQ.out.1; omega)) (.agg #[.slice ao t c, .int .i64 1])
    have X7 : Hid (PgM w7 p gh gp h { v with writes := v.writes + 1 } (updF fh q (.agg #[.slice ao t c, .int .i64 1])) sz (updF fp q (.agg (placeC v.round v.writes q ver).toArray)) szq M2 S5) := by
     have := X6.out.heldT k7 m7
     rw [HH.out] at this
     exact this
    have K7 : Hid (Kept (Ow Mh p gh gp) w w7) := K6.out.trans (k7.mono (fun b e => .inr (.inl e)))
    have c6 : w6.cell? ⟨p, 37, none⟩ = some (.map (some gh)) := X6.out.pa.cell 4 _ (by rw [← X6.out.he]; rfl)
    have HR7 : Hid ((Instr.mapUpdate 143 (.map (some gh)) (.int .i64 (q : Int)) (.agg #[.slice ao t c, .int .i64 1])).run Tryz.prog w6 = .ok () w7) := hr7
    clear m7 k7 hr7
    go_wp2_with (at_mapUpdate; refine wpList_mapU rfl 143 _ _ _ rfl _ _ _ rfl rfl rfl w7 HR7.out ?_)
    go_ret
    exact ⟨rfl, M2, ver, HV.out.2, by rw [HS5.out]; exact X7.out, K7.out, G5.out.1, G5.out.2⟩
theorem last_valR {o : Oper} {a : Act} {w : World} {K : Act → World → Prop} {Q : Exit → Act → World → Prop} (d : Option Tmp) (hdst : o.dst = d) (v : Value) (hv : (execOp a.eval o).run Tryz.prog w = .ok (.value v) w) (h : K (a.put d v) w) : o.wp Tryz.prog a w K Q := by
 subst hdst
 unfold Oper.wp
 rw [hv]
 exact h
structure PgO (w : World) (p gh gp h : Nat) (v : PgV) (fh : Int → Option Value) (sz : Nat) (fp : Int → Option Value) (szp : Nat) (Mh : Nat → Prop) (s : HSt) (zs : List Int) : Prop where
 m : PgM w p gh gp h v fh sz fp szp Mh s
 o : w.ownsRow 0 3 1 v.order zs.length (zs.map (Value.int .i64))
 d : ∀ g, v.order.ownBlock = some g → ¬ Mh g
def OwO (Mh : Nat → Prop) (p gh gp : Nat) (v : PgV) (b : Nat) : Prop := Ow Mh p gh gp b ∨ v.order.ownBlock = some b
theorem own_neM {w : World} {base n : Nat} {v : Value} {xs : List Value} (h : w.ownsRow base 3 1 v n xs) {g : Nat} {f : Int → Option Value} {sz : Nat} (hm : MapV w g f sz) : ¬ v.ownBlock = some g := by
 rcases h.2 with ⟨rfl, _⟩ | ⟨b, cap, cur, rfl, hg, hh, r⟩
 ·intro e; cases e
 ·intro e
  simp [Value.ownBlock] at e
  subst e
  exact hm.ne (show Blk w b 3 cur.toList by simpa [Blk] using hh) rfl
theorem own_lt {w : World} {base n : Nat} {v : Value} {xs : List Value} (h : w.ownsRow base 3 1 v n xs) {g : Nat} (e : v.ownBlock = some g) : g < w.heap.size := by
 rcases h.2 with ⟨rfl, _⟩ | ⟨b, cap, cur, rfl, hg, hh, r⟩
 ·cases e
 ·simp [Value.ownBlock] at e; subst e; exact lt_of_block hh
section
variable {w w' : World} {p gh gp h : Nat} {v : PgV} {fh : Int → Option Value} {sz : Nat} {fp : Int → Option Value} {szp : Nat} {Mh : Nat → Prop} {s : HSt} {zs : List Int}
theorem PgO.nO (x : PgO w p gh gp h v fh sz fp szp Mh s zs) : ∀ g, v.order.ownBlock = some g → ¬ Ow Mh p gh gp g := fun g hg e => by
 rcases e with rfl | rfl | rfl | e
 ·exact own_neP x.o x.m.pa.blk hg
 ·exact own_neM x.o x.m.hm hg
 ·exact own_neM x.o x.m.pm hg
 ·exact x.d g hg e
theorem PgO.all (x : PgO w p gh gp h v fh sz fp szp Mh s zs) : ∀ b, OwO Mh p gh gp v b → b < w.heap.size := fun b hb => by
 rcases hb with hb | hb
 ·exact x.m.all b hb
 ·exact own_lt x.o hb
theorem PgO.later (x : PgO w p gh gp h v fh sz fp szp Mh s zs) (hb : Below w.heap.size w w') : PgO w' p gh gp h v fh sz fp szp Mh s zs := ⟨x.m.later hb, ownsRow_below x.o hb, x.d⟩
theorem PgO.off {S : Nat → Prop} (x : PgO w p gh gp h v fh sz fp szp Mh s zs) (k : Kept S w w') (hS : ∀ b, S b → ¬ OwO Mh p gh gp v b) : PgO w' p gh gp h v fh sz fp szp Mh s zs :=
 ⟨x.m.off k (fun b hb e => hS b hb (.inl e)), own_keptP x.o k (fun b hb e => hS b e (.inr hb)), x.d⟩
theorem PgO.on {v' : PgV} {fh' : Int → Option Value} {sz' : Nat} {fp' : Int → Option Value} {szp' : Nat} {M2 : Nat → Prop} {s' : HSt} (x : PgO w p gh gp h v fh sz fp szp Mh s zs) (k : Kept (Ow Mh p gh gp) w w') (m : PgM w' p gh gp h v' fh' sz' fp' szp' M2 s') (e : v'.order = v.order) (hM : ∀ b, M2 b → Mh b ∨ w.heap.size ≤ b) : PgO w' p gh gp h v' fh' sz' fp' szp' M2 s' zs :=
 ⟨m, by rw [e]; exact own_keptP x.o k (fun b hb e => x.nO b hb e), fun g hg h2 => by
  rw [e] at hg
  rcases hM g h2 with h3 | h3
  ·exact x.d g hg h3
  ·have := own_lt x.o hg; omega⟩
end
theorem room_free (p gh gp h : Nat) (v : PgV) (fh : Int → Option Value) (sz : Nat) (fp : Int → Option Value) (szp : Nat) (Mh : Nat → Prop) (s : HSt) (zs : List Int) (w : World) (x : PgO w p gh gp h v fh sz fp szp Mh s zs) (hl : zs.length < v.win) :
  Calls Tryz.prog 103 #[.pointer (some ⟨p, 0, none⟩)] w fun e w' => e = .returned (.int .i64 0) ∧ Below w.heap.size w w' := by
 obtain ⟨ao, c, eo, -⟩ := own_z x.o
 have X0 : Hid (PgO w p gh gp h v fh sz fp szp Mh s zs) := x
 have EO : Hid (v.order = .slice ao zs.length c) := eo
 have HL : Hid ((zs.length : Int) < (v.win : Int)) := (by omega : (zs.length : Int) < (v.win : Int))
 clear x eo hl
 go_enter Tryz.func103, Tryz.ntmps103
 go_wp2_with fail
 refine region_invT [.val (.pointer (some ⟨p, 0, none⟩)), .val (.pointer (some ⟨p, 0, none⟩)), .val (.pointer (some ⟨p, 38, none⟩)), .val (.slice ao zs.length c), .val (.int .i64 (zs.length : Int)), .val (.pointer (some ⟨p, 0, none⟩)), .val (.pointer (some ⟨p, 0, none⟩)), .val (.pointer (some ⟨p, 34, none⟩)), .val (.int .i64 (v.win : Int))] (by kernel_rfl) (by kernel_rfl) (by kernel_rfl) ?_ ?_
 ·refine Steps'.cons ?_ (Steps'.cons ?_ (Steps'.cons ?_ (Steps'.cons ?_ (Steps'.cons ?_ (Steps'.cons ?_ (Steps'.cons ?_ (Steps'.cons ?_ (Steps'.cons ?_ (Steps'.one _ _ _ _ _ _ _)))))))))
  ·intro ax wx hb hs hd
   have h0 : ax.tmps.getD 0 undef = (.pointer (some ⟨p, 0, none⟩)) := hs 0 (by kernel_rfl)
   exact Does.value _ (by clear hs hd; go_simp) rfl
  ·intro ax wx hb hs hd
   have h5 := sqV (hd 0 5 rfl (by kernel_rfl) (by decide))
   exact Does.value _ (by clear hs hd; go_simp) rfl
  ·intro ax wx hb hs hd
   have h6 := sqV (hd 1 6 rfl (by kernel_rfl) (by decide))
   exact Does.value _ (by clear hs hd; go_simp) rfl
  ·intro ax wx hb hs hd
   have h7 := sqV (hd 2 7 rfl (by kernel_rfl) (by decide))
   have c0 : wx.cell? ⟨p, 38, none⟩ = some (.slice ao zs.length c) := (X0.out.later hb).m.pa.cell 5 _ (by rw [← EO.out]; rfl)
   exact Does.value _ (by clear hs hd; go_simp) rfl
  ·intro ax wx hb hs hd
   have h8 := sqV (hd 3 8 rfl (by kernel_rfl) (by decide))
   exact Does.value _ (by clear hs hd; go_simp) rfl
  ·intro ax wx hb hs hd
   have h0 : ax.tmps.getD 0 undef = (.pointer (some ⟨p, 0, none⟩)) := hs 0 (by kernel_rfl)
   exact Does.value _ (by clear hs hd; go_simp) rfl
  ·intro ax wx hb hs hd
   have h10 := sqV (hd 5 10 rfl (by kernel_rfl) (by decide))
   exact Does.value _ (by clear hs hd; go_simp) rfl
  ·intro ax wx hb hs hd
   have h11 := sqV (hd 6 11 rfl (by kernel_rfl) (by decide))
   exact Does.value _ (by clear hs hd; go_simp) rfl
  ·intro ax wx hb hs hd
   have h12 := sqV (hd 7 12 rfl (by kernel_rfl) (by decide))
   have c0 : wx.cell? ⟨p, 34, none⟩ = some (.int .i64 (v.win : Int)) := (X0.out.later hb).m.pa.cell 1 _ rfl
   exact Does.value _ (by clear hs hd; go_simp) rfl
 ·intro wx hb
  iterate 9 refine @Ends.val _ _ _ _ _ _ _ _ _ _ rfl ?_
  refine @Ends.one _ _ _ _ _ _ _ ?_
  simp only [Act.put, sqA, sqB, sqC]
  have hl := HL.out
  refine last_valR (some 14) rfl (.bool true) (by go_simp) ?_
  have L1 : Hid (Below w.heap.size w wx) := hb
  clear hb
  go_wp2
  go_ret
  exact ⟨rfl, L1.out⟩
theorem wpList_delR {ops : Array Oper} {rest : List Oper} {o : Oper} {a : Act} {Q : Exit → Act → World → Prop} {w : World} (hgd : o.guard = none) (m x : Operand) (t k : TypeId) (ho : o.op = .call { callee := .builtin .delete, args := #[m, x], argTypes := #[t, k] }) (mv kv : Value) (hm : a.eval m = mv) (hx : a.eval x = kv) (w' : World)
  (hr : (Builtin.delete_ #[t, k] o.type #[mv, kv]).run Tryz.prog w = .ok (.tuple #[]) w') (h : wpList Tryz.prog ops Q rest (a.put o.dst (.tuple #[])) w') : wpList Tryz.prog ops Q (o :: rest) a w := by
 refine wpList_plain hgd fun K hK => ?_
 unfold Oper.wp
 simp [execOp, ho, resolve, invoke, builtin, hm, hx, hr, Result.andThen]
 exact hK _ _ h
theorem room_drop (p gh gp h : Nat) (v : PgV) (fh : Int → Option Value) (sz : Nat) (fp : Int → Option Value) (szp : Nat) (Mh : Nat → Prop) (s : HSt) (x : Int) (r : List Int) (lv : Value) (z : Int) (w : World) (X : PgO w p gh gp h v fh sz fp szp Mh s (x :: r)) (hx : I64 x) (hl : v.win ≤ r.length + 1) (hl2 : r.length ≤ 100) (hf : fh x = some (.agg #[lv, .int .i64 z])) (hz : z ≠ 2) :
  Calls Tryz.prog 103 #[.pointer (some ⟨p, 0, none⟩)] w fun e w' => e = .returned (.int .i64 0) ∧ ∃ o', PgO w' p gh gp h { v with order := o' } (delF fh x) (sz - 1) fp szp Mh s r ∧ Kept (OwO Mh p gh gp v) w w' ∧ o'.ownBlock = v.order.ownBlock := by
 obtain ⟨g, c, eo⟩ : ∃ g c, v.order = .slice (some ⟨g, 0, none⟩) (r.length + 1) c := by
  rcases X.o.2 with ⟨h1, h2⟩ | ⟨g, cap, cur, h1, _⟩
  ·simp at h2
  ·exact ⟨g, cap, h1⟩
 have X0 : Hid (PgO w p gh gp h v fh sz fp szp Mh s (x :: r)) := X
 have EO : Hid (v.order = .slice (some ⟨g, 0, none⟩) (r.length + 1) c) := eo
 have HL : Hid (¬ (r.length : Int) + 1 < (v.win : Int) ∧ r.length ≤ 100) := ⟨by omega, hl2⟩
 have HX : Hid (I64 x) := hx
 have HF : Hid (fh x = some (.agg #[lv, .int .i64 z]) ∧ (z == 2) = false) := ⟨hf, by simpa using hz⟩
 clear X eo hl hl2 hx hf hz
 go_enter Tryz.func103, Tryz.ntmps103
 go_wp2_with fail
 refine region_invT [.val (.pointer (some ⟨p, 0, none⟩)), .val (.pointer (some ⟨p, 0, none⟩)), .val (.pointer (some ⟨p, 38, none⟩)), .val (.slice (some ⟨g, 0, none⟩) (r.length + 1) c), .val (.int .i64 ((r.length : Int) + 1)), .val (.pointer (some ⟨p, 0, none⟩)), .val (.pointer (some ⟨p, 0, none⟩)), .val (.pointer (some ⟨p, 34, none⟩)), .val (.int .i64 (v.win : Int))] (by kernel_rfl) (by kernel_rfl) (by kernel_rfl) ?_ ?_
 ·refine Steps'.cons ?_ (Steps'.cons ?_ (Steps'.cons ?_ (Steps'.cons ?_ (Steps'.cons ?_ (Steps'.cons ?_ (Steps'.cons ?_ (Steps'.cons ?_ (Steps'.cons ?_ (Steps'.one _ _ _ _ _ _ _)))))))))
  ·intro ax wx hb hs hd
   have h0 : ax.tmps.getD 0 undef = (.pointer (some ⟨p, 0, none⟩)) := hs 0 (by kernel_rfl)
   exact Does.value _ (by clear hs hd; go_simp) rfl
  ·intro ax wx hb hs hd
   have h5 := sqV (hd 0 5 rfl (by kernel_rfl) (by decide))
   exact Does.value _ (by clear hs hd; go_simp) rfl
  ·intro ax wx hb hs hd
   have h6 := sqV (hd 1 6 rfl (by kernel_rfl) (by decide))
   exact Does.value _ (by clear hs hd; go_simp) rfl
  ·intro ax wx hb hs hd
   have h7 := sqV (hd 2 7 rfl (by kernel_rfl) (by decide))
   have c0 : wx.cell? ⟨p, 38, none⟩ = some (.slice (some ⟨g, 0, none⟩) (r.length + 1) c) := (X0.out.later hb).m.pa.cell 5 _ (by rw [← EO.out]; rfl)
   exact Does.value _ (by clear hs hd; go_simp) rfl
  ·intro ax wx hb hs hd
   have h8 := sqV (hd 3 8 rfl (by kernel_rfl) (by decide))
   exact Does.value _ (by clear hs hd; go_simp) rfl
  ·intro ax wx hb hs hd
   have h0 : ax.tmps.getD 0 undef = (.pointer (some ⟨p, 0, none⟩)) := hs 0 (by kernel_rfl)
   exact Does.value _ (by clear hs hd; go_simp) rfl
  ·intro ax wx hb hs hd
   have h10 := sqV (hd 5 10 rfl (by kernel_rfl) (by decide))
   exact Does.value _ (by clear hs hd; go_simp) rfl
  ·intro ax wx hb hs hd
   have h11 := sqV (hd 6 11 rfl (by kernel_rfl) (by decide))
   exact Does.value _ (by clear hs hd; go_simp) rfl
  ·intro ax wx hb hs hd
   have h12 := sqV (hd 7 12 rfl (by kernel_rfl) (by decide))
   have c0 : wx.cell? ⟨p, 34, none⟩ = some (.int .i64 (v.win : Int)) := (X0.out.later hb).m.pa.cell 1 _ rfl
   exact Does.value _ (by clear hs hd; go_simp) rfl
 ·intro wx hb
  iterate 9 refine @Ends.val _ _ _ _ _ _ _ _ _ _ rfl ?_
  refine @Ends.one _ _ _ _ _ _ _ ?_
  simp only [Act.put, sqA, sqB, sqC]
  have hl := HL.out.1
  refine last_valR (some 14) rfl (.bool false) (by go_simp) ?_
  have X1 : Hid (PgO wx p gh gp h v fh sz fp szp Mh s (x :: r)) := X0.out.later hb
  have K1 : Hid (Kept (OwO Mh p gh gp v) w wx) := Kept.new _ hb
  clear hb hl
  have c1 : wx.cell? ⟨p, 38, none⟩ = some (.slice (some ⟨g, 0, none⟩) (r.length + 1) c) := X1.out.m.pa.cell 5 _ (by rw [← EO.out]; rfl)
  have c2 : wx.cell? ⟨g, 0, none⟩ = some (.int .i64 x) := by
   have := X1.out.o
   rw [EO.out] at this
   exact this.cellAt 0 (by simp)
  have c3 : wx.cell? ⟨p, 37, none⟩ = some (.map (some gh)) := X1.out.m.pa.cell 4 _ (by rw [← X1.out.m.he]; rfl)
  have hL : (Instr.lookup 143 (.map (some gh)) (.int .i64 x) false).run Tryz.prog wx = .ok (.agg #[lv, .int .i64 z]) wx := by
   have := X1.out.m.hm.look (t := 143) Tryz.underlying143 (zeroLeaf wx) HX.out
   rw [HF.out.1] at this
   exact this
  have hF1 := leaf1 lv z wx
  have hz := HF.out.2
  obtain ⟨wd, hrd, md, kd⟩ := X1.out.m.hm.drop (t := 143) Tryz.underlying143 (k := x) HX.out (ty := 0)
  have XD : Hid (PgM wd p gh gp h v (delF (fh) x) (if (fh x).isSome then sz - 1 else sz) fp szp Mh s ∧ wd.ownsRow 0 3 1 v.order (x :: r).length ((x :: r).map (Value.int .i64))) := ⟨X1.out.m.heldT kd md, own_keptP X1.out.o kd (fun b hb e => X1.out.nO b hb (.inr (.inl e)))⟩
  have KD : Hid (Kept (OwO Mh p gh gp v) w wd) := K1.out.trans (kd.mono (fun b e => .inl (.inr (.inl e))))
  have cD : wx.cell? ⟨p, 37, none⟩ = some (.map (some gh)) := X1.out.m.pa.cell 4 _ (by rw [← X1.out.m.he]; rfl)
  clear md kd
  have DL := sdel_any 0 g c 0 (x :: r) wd (by have := XD.out.2; rw [show v.order = _ from EO.out] at this; exact this) (by simp) (by have := HL.out.2; simp at this ⊢; omega)
  have cE : wd.cell? ⟨p, 38, none⟩ = some (.slice (some ⟨g, 0, none⟩) (r.length + 1) c) := XD.out.1.pa.cell 5 _ (by rw [← EO.out]; rfl)
  have HDL : Hid (Calls Tryz.prog 112 #[.slice (some ⟨g, 0, none⟩) (r.length + 1) c, .int .i64 0, .int .i64 1] wd fun e w' => e = .returned (.slice (some ⟨g, 0, none⟩) r.length c) ∧ w'.ownsRow 0 3 1 (.slice (some ⟨g, 0, none⟩) r.length c) r.length (r.map (Value.int .i64)) ∧ Kept (fun b => b = g) wd w') := DL
  clear DL
  go_wp2_with (first | (at_delete; refine wpList_delR rfl _ _ 143 3 rfl _ _ rfl rfl _ hrd ?_) | (go_at_call 112; refine HDL.out.mono ?_))
  rintro e we ⟨rfl, oe, ke⟩
  have hg : Hid (¬ Ow Mh p gh gp g) := X1.out.nO g (by rw [show v.order = _ from EO.out]; rfl)
  have XE : Hid (PgM we p gh gp h v (delF (fh) x) (if (fh x).isSome then sz - 1 else sz) fp szp Mh s) := XD.out.1.off ke (fun b e => by subst e; exact hg.out)
  have KE : Hid (Kept (OwO Mh p gh gp v) w we) := KD.out.trans (ke.mono (fun b e => .inr (by rw [EO.out, e]; rfl)))
  have OE : Hid (we.ownsRow 0 3 1 (.slice (some ⟨g, 0, none⟩) r.length c) r.length (r.map (Value.int .i64))) := oe
  clear oe ke cE cD hrd
  have cF : we.cell? ⟨p, 38, none⟩ = some (.slice (some ⟨g, 0, none⟩) (r.length + 1) c) := XE.out.pa.cell 5 _ (by rw [← EO.out]; rfl)
  have fF := XE.out.pa.blk.frozen 38
  have KF := (Kept.refl (fun b => b = p) we).setCell (p := ⟨p, 38, none⟩) rfl (.slice (some ⟨g, 0, none⟩) r.length c)
  have XF : Hid (PgM (we.setCell ⟨p, 38, none⟩ (.slice (some ⟨g, 0, none⟩) r.length c)) p gh gp h { (v) with order := .slice (some ⟨g, 0, none⟩) r.length c } (delF (fh) x) (if (fh x).isSome then sz - 1 else sz) fp szp Mh s) := XE.out.own (XE.out.pa.put 5 _ rfl rfl rfl) KF rfl rfl rfl
  have OF : Hid ((we.setCell ⟨p, 38, none⟩ (.slice (some ⟨g, 0, none⟩) r.length c)).ownsRow 0 3 1 (.slice (some ⟨g, 0, none⟩) r.length c) r.length (r.map (Value.int .i64))) := own_keptP OE.out KF (fun b hb e => by subst e; exact own_neP OE.out XE.out.pa.blk hb)
  have KG : Hid (Kept (OwO Mh p gh gp v) w (we.setCell ⟨p, 38, none⟩ (.slice (some ⟨g, 0, none⟩) r.length c))) := KE.out.setCell (.inl (.inl rfl)) _
  clear KF
  go_wp2_with fail
  go_ret
  exact ⟨rfl, _, ⟨by have := XF.out; rw [HF.out.1] at this; exact this, OF.out, fun b hb => X0.out.d b (by rw [EO.out]; exact hb)⟩, KG.out, by rw [EO.out]; rfl⟩
theorem room_write (p gh gp h q : Nat) (v : PgV) (fh : Int → Option Value) (sz : Nat) (fp : Int → Option Value) (szp : Nat) (Mh : Nat → Prop) (s : HSt) (x : Int) (r : List Int) (ao : Option Addr) (t c0 : Nat) (zs : List Int) (r0 c1 p0 q0 : Int) (w : World) (X : PgO w p gh gp h v fh sz fp szp Mh s (x :: r)) (hq : x = (q : Int)) (hl : v.win ≤ r.length + 1) (hl2 : r.length ≤ 100) (hf : fh x = some (.agg #[.slice ao t c0, .int .i64 2]))
  (hn : Hn s) (hq1 : q < s.pages) (hq2 : q < 65536) (hops : s.ops < 3000000000000) (hz : s.size = t + 28) (ht : t ≤ 4096) (hs : Seen w ao t zs) (hso : ∀ b o, ao = some ⟨b, o, none⟩ → b < w.heap.size) (hc : t ≤ c0)
  (hfp : (fp q).getD (.agg #[.int .u64 0, .int .u32 0, .int .u32 0, .int .u32 0]) = .agg #[.int .u64 r0, .int .u32 c1, .int .u32 p0, .int .u32 q0]) (hr : Word v.round) (hw : v.writes < 4294967295) (hsz : sz ≤ 1048576 ∧ szp ≤ 4294967296) :
  Calls Tryz.prog 103 #[.pointer (some ⟨p, 0, none⟩)] w fun e w' => e = .returned (.int .i64 0) ∧ ∃ o' M2 ver, U32 ver ∧ PgO w' p gh gp h { v with writes := v.writes + 1, order := o' } (delF (updF fh x (.agg #[.slice ao t c0, .int .i64 1])) x) (sz - 1) (updF fp x (.agg (placeC v.round v.writes x ver).toArray)) (if (fp q).isSome then szp else szp + 1) M2 ((s.next.wrote q (pageL v.key v.round v.writes x ver zs)).logged ⟨1, x, s.size, headL (pageL v.key v.round v.writes x ver zs)⟩) r ∧ Kept (OwO Mh p gh gp v) w w' ∧ o'.ownBlock = v.order.ownBlock ∧ (∀ k, Mh k → M2 k) ∧ ∀ k, M2 k → Mh k ∨ w.heap.size ≤ k := by
 obtain ⟨g, c, eo⟩ : ∃ g c, v.order = .slice (some ⟨g, 0, none⟩) (r.length + 1) c := by
  rcases X.o.2 with ⟨h1, h2⟩ | ⟨g, cap, cur, h1, _⟩
  ·simp at h2
  ·exact ⟨g, cap, h1⟩
 obtain ⟨szq, hzq⟩ : ∃ z, (if (fp q).isSome then szp else szp + 1) = z := ⟨_, rfl⟩
 have HZQ : Hid ((if (fp q).isSome then szp else szp + 1) = szq) := hzq
 rw [hzq]
 clear hzq
 have X0 : Hid (PgO w p gh gp h v fh sz fp szp Mh s (x :: r)) := X
 have EO : Hid (v.order = .slice (some ⟨g, 0, none⟩) (r.length + 1) c) := eo
 have HL : Hid (¬ (r.length : Int) + 1 < (v.win : Int) ∧ r.length ≤ 100) := ⟨by omega, hl2⟩
 have HX : Hid (I64 x) := by subst hq; exact i64_nat (by omega)
 have HF : Hid (fh x = some (.agg #[.slice ao t c0, .int .i64 2])) := hf
 have GW : Hid (∀ W, Below w.heap.size w W → Calls Tryz.prog 114 #[.pointer (some ⟨p, 0, none⟩), .int .i64 x] W fun e w' => e = .returned (.int .i64 0) ∧ ∃ M2 ver, U32 ver ∧ PgM w' p gh gp h { v with writes := v.writes + 1 } (updF fh x (.agg #[.slice ao t c0, .int .i64 1])) sz (updF fp x (.agg (placeC v.round v.writes x ver).toArray)) szq M2 ((s.next.wrote q (pageL v.key v.round v.writes x ver zs)).logged ⟨1, x, s.size, headL (pageL v.key v.round v.writes x ver zs)⟩) ∧ Kept (Ow Mh p gh gp) W w' ∧ (∀ k, Mh k → M2 k) ∧ ∀ k, M2 k → Mh k ∨ W.heap.size ≤ k) := fun W hW => by
  subst hq
  have := gwrite_any p gh gp h q v fh sz fp szp Mh s ao t c0 _ zs r0 c1 p0 q0 W (X.m.later hW) hn hq1 hq2 hops hz ht hf (hs.later hW (Nat.le_refl _)) hc hfp hr hw hsz
  rw [HZQ.out] at this
  exact this
 clear X eo hl hl2 hf hn hq hq1 hq2 hops hz ht hs hso hc hfp hr hw hsz
 go_enter Tryz.func103, Tryz.ntmps103
 go_wp2_with fail
 refine region_invT [.val (.pointer (some ⟨p, 0, none⟩)), .val (.pointer (some ⟨p, 0, none⟩)), .val (.pointer (some ⟨p, 38, none⟩)), .val (.slice (some ⟨g, 0, none⟩) (r.length + 1) c), .val (.int .i64 ((r.length : Int) + 1)), .val (.pointer (some ⟨p, 0, none⟩)), .val (.pointer (some ⟨p, 0, none⟩)), .val (.pointer (some ⟨p, 34, none⟩)), .val (.int .i64 (v.win : Int))] (by kernel_rfl) (by kernel_rfl) (by kernel_rfl) ?_ ?_
 ·refine Steps'.cons ?_ (Steps'.cons ?_ (Steps'.cons ?_ (Steps'.cons ?_ (Steps'.cons ?_ (Steps'.cons ?_ (Steps'.cons ?_ (Steps'.cons ?_ (Steps'.cons ?_ (Steps'.one _ _ _ _ _ _ _)))))))))
  ·intro ax wx hb hs hd
   have h0 : ax.tmps.getD 0 undef = (.pointer (some ⟨p, 0, none⟩)) := hs 0 (by kernel_rfl)
   exact Does.value _ (by clear hs hd; go_simp) rfl
  ·intro ax wx hb hs hd
   have h5 := sqV (hd 0 5 rfl (by kernel_rfl) (by decide))
   exact Does.value _ (by clear hs hd; go_simp) rfl
  ·intro ax wx hb hs hd
   have h6 := sqV (hd 1 6 rfl (by kernel_rfl) (by decide))
   exact Does.value _ (by clear hs hd; go_simp) rfl
  ·intro ax wx hb hs hd
   have h7 := sqV (hd 2 7 rfl (by kernel_rfl) (by decide))
   have c0 : wx.cell? ⟨p, 38, none⟩ = some (.slice (some ⟨g, 0, none⟩) (r.length + 1) c) := (X0.out.later hb).m.pa.cell 5 _ (by rw [← EO.out]; rfl)
   exact Does.value _ (by clear hs hd; go_simp) rfl
  ·intro ax wx hb hs hd
   have h8 := sqV (hd 3 8 rfl (by kernel_rfl) (by decide))
   exact Does.value _ (by clear hs hd; go_simp) rfl
  ·intro ax wx hb hs hd
   have h0 : ax.tmps.getD 0 undef = (.pointer (some ⟨p, 0, none⟩)) := hs 0 (by kernel_rfl)
   exact Does.value _ (by clear hs hd; go_simp) rfl
  ·intro ax wx hb hs hd
   have h10 := sqV (hd 5 10 rfl (by kernel_rfl) (by decide))
   exact Does.value _ (by clear hs hd; go_simp) rfl
  ·intro ax wx hb hs hd
   have h11 := sqV (hd 6 11 rfl (by kernel_rfl) (by decide))
   exact Does.value _ (by clear hs hd; go_simp) rfl
  ·intro ax wx hb hs hd
   have h12 := sqV (hd 7 12 rfl (by kernel_rfl) (by decide))
   have c0 : wx.cell? ⟨p, 34, none⟩ = some (.int .i64 (v.win : Int)) := (X0.out.later hb).m.pa.cell 1 _ rfl
   exact Does.value _ (by clear hs hd; go_simp) rfl
 ·intro wx hb
  iterate 9 refine @Ends.val _ _ _ _ _ _ _ _ _ _ rfl ?_
  refine @Ends.one _ _ _ _ _ _ _ ?_
  simp only [Act.put, sqA, sqB, sqC]
  have hl := HL.out.1
  refine last_valR (some 14) rfl (.bool false) (by go_simp) ?_
  have HB : Hid (Below w.heap.size w wx) := hb
  have X1 : Hid (PgO wx p gh gp h v fh sz fp szp Mh s (x :: r)) := X0.out.later hb
  have K1 : Hid (Kept (OwO Mh p gh gp v) w wx) := Kept.new _ hb
  clear hb hl
  have c1 : wx.cell? ⟨p, 38, none⟩ = some (.slice (some ⟨g, 0, none⟩) (r.length + 1) c) := X1.out.m.pa.cell 5 _ (by rw [← EO.out]; rfl)
  have c2 : wx.cell? ⟨g, 0, none⟩ = some (.int .i64 x) := by
   have := X1.out.o
   rw [EO.out] at this
   exact this.cellAt 0 (by simp)
  have c3 : wx.cell? ⟨p, 37, none⟩ = some (.map (some gh)) := X1.out.m.pa.cell 4 _ (by rw [← X1.out.m.he]; rfl)
  have hL : (Instr.lookup 143 (.map (some gh)) (.int .i64 x) false).run Tryz.prog wx = .ok (.agg #[.slice ao t c0, .int .i64 2]) wx := by
   have := X1.out.m.hm.look (t := 143) Tryz.underlying143 (zeroLeaf wx) HX.out
   rw [HF.out] at this
   exact this
  have hF1 := leaf1 (.slice ao t c0) 2 wx
  have L0 : Hid (Below w.heap.size w wx) := HB.out
  go_wp2_with (go_at_call 114; refine (GW.out wx L0.out).mono ?_)
  rintro e w2 ⟨rfl, M2, ver, hver, m2, k2, s2, n2⟩
  have HV : Hid (U32 ver ∧ (∀ k, Mh k → M2 k) ∧ ∀ k, M2 k → Mh k ∨ w.heap.size ≤ k) := ⟨hver, s2, fun k hk => (n2 k hk).imp id (fun e => Nat.le_trans L0.out.size e)⟩
  obtain ⟨S2, hS2⟩ : ∃ S2, ((s.next.wrote q (pageL v.key v.round v.writes x ver zs)).logged ⟨1, x, s.size, headL (pageL v.key v.round v.writes x ver zs)⟩) = S2 := ⟨_, rfl⟩
  have HS2 : Hid (((s.next.wrote q (pageL v.key v.round v.writes x ver zs)).logged ⟨1, x, s.size, headL (pageL v.key v.round v.writes x ver zs)⟩) = S2) := hS2
  rw [hS2] at m2
  clear hS2
  obtain ⟨P2, hP2⟩ : ∃ P2, (updF fp x (.agg (placeC v.round v.writes x ver).toArray)) = P2 := ⟨_, rfl⟩
  have HP2 : Hid ((updF fp x (.agg (placeC v.round v.writes x ver).toArray)) = P2) := hP2
  rw [hP2] at m2
  clear hP2
  obtain ⟨F2, hF2⟩ : ∃ F2, (updF fh x (.agg #[.slice ao t c0, .int .i64 1])) = F2 := ⟨_, rfl⟩
  have HF2 : Hid ((updF fh x (.agg #[.slice ao t c0, .int .i64 1])) = F2) := hF2
  rw [hF2] at m2
  clear hF2
  have X2 : Hid (PgO w2 p gh gp h { v with writes := v.writes + 1 } F2 sz P2 szq M2 S2 (x :: r)) := X1.out.on k2 m2 rfl n2
  have K2 : Hid (Kept (OwO Mh p gh gp v) w w2) := K1.out.trans (k2.mono (fun b e => .inl e))
  clear hver m2 k2 s2 n2 c1 c2 c3 hL hF1
  obtain ⟨wd, hrd, md, kd⟩ := X2.out.m.hm.drop (t := 143) Tryz.underlying143 (k := x) HX.out (ty := 0)
  have XD : Hid (PgM wd p gh gp h { v with writes := v.writes + 1 } (delF (F2) x) (if (F2 x).isSome then sz - 1 else sz) P2 szq M2 S2 ∧ wd.ownsRow 0 3 1 v.order (x :: r).length ((x :: r).map (Value.int .i64))) := ⟨X2.out.m.heldT kd md, own_keptP X2.out.o kd (fun b hb e => X2.out.nO b hb (.inr (.inl e)))⟩
  have KD : Hid (Kept (OwO Mh p gh gp v) w wd) := K2.out.trans (kd.mono (fun b e => .inl (.inr (.inl e))))
  have cD : w2.cell? ⟨p, 37, none⟩ = some (.map (some gh)) := X2.out.m.pa.cell 4 _ (by rw [← X2.out.m.he]; rfl)
  clear md kd
  have DL := sdel_any 0 g c 0 (x :: r) wd (by have := XD.out.2; rw [show v.order = _ from EO.out] at this; exact this) (by simp) (by have := HL.out.2; simp at this ⊢; omega)
  have cE : wd.cell? ⟨p, 38, none⟩ = some (.slice (some ⟨g, 0, none⟩) (r.length + 1) c) := XD.out.1.pa.cell 5 _ (by rw [← EO.out]; rfl)
  have HDL : Hid (Calls Tryz.prog 112 #[.slice (some ⟨g, 0, none⟩) (r.length + 1) c, .int .i64 0, .int .i64 1] wd fun e w' => e = .returned (.slice (some ⟨g, 0, none⟩) r.length c) ∧ w'.ownsRow 0 3 1 (.slice (some ⟨g, 0, none⟩) r.length c) r.length (r.map (Value.int .i64)) ∧ Kept (fun b => b = g) wd w') := DL
  clear DL
  go_wp2_with (first | (at_delete; refine wpList_delR rfl _ _ 143 3 rfl _ _ rfl rfl _ hrd ?_) | (go_at_call 112; refine HDL.out.mono ?_))
  rintro e we ⟨rfl, oe, ke⟩
  have hg : Hid (¬ Ow M2 p gh gp g) := X2.out.nO g (by rw [show v.order = _ from EO.out]; rfl)
  have XE : Hid (PgM we p gh gp h { v with writes := v.writes + 1 } (delF (F2) x) (if (F2 x).isSome then sz - 1 else sz) P2 szq M2 S2) := XD.out.1.off ke (fun b e => by subst e; exact hg.out)
  have KE : Hid (Kept (OwO Mh p gh gp v) w we) := KD.out.trans (ke.mono (fun b e => .inr (by rw [EO.out, e]; rfl)))
  have OE : Hid (we.ownsRow 0 3 1 (.slice (some ⟨g, 0, none⟩) r.length c) r.length (r.map (Value.int .i64))) := oe
  clear oe ke cE cD hrd
  have cF : we.cell? ⟨p, 38, none⟩ = some (.slice (some ⟨g, 0, none⟩) (r.length + 1) c) := XE.out.pa.cell 5 _ (by rw [← EO.out]; rfl)
  have fF := XE.out.pa.blk.frozen 38
  have KF := (Kept.refl (fun b => b = p) we).setCell (p := ⟨p, 38, none⟩) rfl (.slice (some ⟨g, 0, none⟩) r.length c)
  have XF : Hid (PgM (we.setCell ⟨p, 38, none⟩ (.slice (some ⟨g, 0, none⟩) r.length c)) p gh gp h { ({ v with writes := v.writes + 1 }) with order := .slice (some ⟨g, 0, none⟩) r.length c } (delF (F2) x) (if (F2 x).isSome then sz - 1 else sz) P2 szq M2 S2) := XE.out.own (XE.out.pa.put 5 _ rfl rfl rfl) KF rfl rfl rfl
  have OF : Hid ((we.setCell ⟨p, 38, none⟩ (.slice (some ⟨g, 0, none⟩) r.length c)).ownsRow 0 3 1 (.slice (some ⟨g, 0, none⟩) r.length c) r.length (r.map (Value.int .i64))) := own_keptP OE.out KF (fun b hb e => by subst e; exact own_neP OE.out XE.out.pa.blk hb)
  have KG : Hid (Kept (OwO Mh p gh gp v) w (we.setCell ⟨p, 38, none⟩ (.slice (some ⟨g, 0, none⟩) r.length c))) := KE.out.setCell (.inl (.inl rfl)) _
  clear KF
  go_wp2_with fail
  go_ret
  exact ⟨rfl, _, M2, ver, HV.out.1, by rw [HF2.out, HP2.out, HS2.out]; exact ⟨by have := XF.out; rw [show F2 x = some (.agg #[.slice ao t c0, .int .i64 1]) by rw [← HF2.out]; simp [updF]] at this; exact this, OF.out, fun b hb => X2.out.d b (by show v.order.ownBlock = _; rw [EO.out]; exact hb)⟩, KG.out, by rw [EO.out]; rfl, HV.out.2.1, HV.out.2.2⟩
structure Cf where
  key : List Int
  round : Int
  win : Nat
  pages : Nat
  text : Nat
structure Cf.Good (c : Cf) : Prop where
  win : 2 ≤ c.win ∧ c.win ≤ 16
  pages : c.pages ≤ 65536
  text : 1 ≤ c.text ∧ c.text ≤ 4096
  round : Word c.round
structure Nm where
  ord : List Nat
  st : Nat → Int
  wr : Nat → Bool
  writes : Nat
  most : Nat
  log : List Tc
def upn {α : Type} (f : Nat → α) (q : Nat) (x : α) : Nat → α := fun k => if k = q then x else f k
def Nm.room (cf : Cf) (n : Nm) : Nm :=
  if n.ord.length < cf.win then n else
  match n.ord with
  | [] => n
  | q :: r => if n.st q = 2 then { n with ord := r, st := upn n.st q 1, wr := upn n.wr q true, writes := n.writes + 1, log := n.log ++ [⟨1, q, cf.text + 28, hdL cf.round n.writes⟩] } else { n with ord := r }
abbrev oI (l : List Nat) : List Int := l.map (fun k : Nat => (k : Int))
theorem keepL_last (d : Nat) (L : List (List Int)) (z : List Int) : ∃ L', keepL d L z = L' ++ [z] := by
  unfold keepL
  split
  · cases L with
    | nil => exact ⟨[], by simp at *⟩
    | cons y L => exact ⟨L, by simp⟩
  · exact ⟨L, rfl⟩
theorem ago_wrote (s : HSt) (q : Nat) (z : List Int) : agoL (s.wrote q z) q 0 = z := by
  obtain ⟨L', e⟩ := keepL_last s.depth (s.laid q) z
  have e2 : (s.wrote q z).laid q = L' ++ [z] := by show (if q = q then _ else _) = _; rw [if_pos rfl, e]
  unfold agoL
  rw [e2]
  simp
theorem ago_other (s : HSt) (q k : Nat) (h : k ≠ q) (z : List Int) : agoL (s.wrote q z) k 0 = agoL s k 0 := by
  have e2 : (s.wrote q z).laid k = s.laid k := by show (if k = q then _ else _) = _; rw [if_neg h]
  unfold agoL
  rw [e2]
  rfl
theorem ago_same {s s' : HSt} (k : Nat) (h1 : s'.laid = s.laid) (h2 : s'.size = s.size) : agoL s' k 0 = agoL s k 0 := by unfold agoL; rw [h1, h2]
theorem head_page (key : List Int) (r c p q : Int) (zs : List Int) : headL (pageL key r c p q zs) = hdL r c := by
  unfold headL
  rw [pageL_head, show 12 - (pageL key r c p q zs).length = 0 by rw [pageL_length]; omega]
  simp
structure PagL (w : World) (p h : Nat) (cf : Cf) (hl : List Nat) (n : Nm) (txt : Nat → List Int) (gh gp : Nat) (v : PgV) (fh fp : Int → Option Value) (szp : Nat) (Mh : Nat → Prop) (s : HSt) (Mt : Nat → Prop) : Prop where
  o : PgO w p gh gp h v fh hl.length fp szp Mh s (oI n.ord)
  ek : v.key = cf.key
  er : v.round = cf.round
  ew : v.win = cf.win
  ep : v.pages = cf.pages
  et : v.text = cf.text
  em : v.most = n.most
  ewr : v.writes = n.writes
  ed : v.dead = 0
  good : cf.Good
  held : ∀ q ∈ hl, ∃ ao c, fh q = some (.agg #[.slice ao cf.text c, .int .i64 (n.st q)]) ∧ Seen w ao cf.text (txt q) ∧ cf.text ≤ c ∧ ∀ b o, ao = some ⟨b, o, none⟩ → Mt b
  none : ∀ k : Int, (∀ q ∈ hl, (q : Int) ≠ k) → fh k = none
  nd : hl.Nodup
  len : hl.length ≤ 17 ∧ n.ord.length ≤ 17
  rng : ∀ q ∈ hl, q < cf.pages
  wrt : ∀ q, q < cf.pages → n.wr q = true → ∃ c ver, fp q = some (.agg #[.int .u64 cf.round, .int .u32 c, .int .u32 q, .int .u32 ver]) ∧ U32 c ∧ U32 ver ∧ ((q ∉ hl ∨ n.st q ≠ 2) → agoL s q 0 = pageL cf.key cf.round c q ver (txt q))
  nwr : ∀ q, q < cf.pages → n.wr q = false → fp q = Option.none ∧ ((q ∉ hl ∨ n.st q ≠ 2) → txt q = List.replicate cf.text 0)
  tl : ∀ q, (txt q).length = cf.text ∧ Bytes (txt q)
  sz : szp ≤ n.writes
  hn : Hn s
  sp : s.pages = cf.pages
  ss : s.size = cf.text + 28
  so : s.ops = n.log.length
  sl : s.log = n.log
  mt : ∀ b, Mt b → b < w.heap.size ∧ ¬ OwO Mh p gh gp v b
def PagS (w : World) (p h : Nat) (cf : Cf) (hl : List Nat) (n : Nm) (txt : Nat → List Int) (F : Nat → Prop) : Prop :=
  ∃ gh gp v fh fp szp Mh s Mt, PagL w p h cf hl n txt gh gp v fh fp szp Mh s Mt ∧ (∀ b, OwO Mh p gh gp v b ∨ Mt b → F b) ∧ ∀ b, F b → b < w.heap.size
structure Ev (F F' : Nat → Prop) (w w' : World) : Prop where
  kept : Kept F w w'
  new : ∀ b, F' b → F b ∨ w.heap.size ≤ b
theorem Ev.trans {F F' F'' : Nat → Prop} {w w' w'' : World} (a : Ev F F' w w') (b : Ev F' F'' w' w'') : Ev F F'' w w'' :=
  ⟨⟨b.kept.os.trans a.kept.os, b.kept.tape.trans a.kept.tape, b.kept.output.trans a.kept.output, Nat.le_trans a.kept.size b.kept.size, fun k hk hn => (b.kept.block k (Nat.lt_of_lt_of_le hk a.kept.size) (fun h => (a.new k h).elim hn (fun e => by omega))).trans (a.kept.block k hk hn)⟩,
   fun k hk => (b.new k hk).elim (a.new k) (fun e => .inr (Nat.le_trans a.kept.size e))⟩
theorem Ev.below {F : Nat → Prop} {w w' : World} (hb : Below w.heap.size w w') : Ev F F w w' := ⟨Kept.new F hb, fun b hb => .inl hb⟩
section
variable {w w' : World} {p h : Nat} {cf : Cf} {hl : List Nat} {n : Nm} {txt : Nat → List Int} {gh gp : Nat} {v : PgV} {fh fp : Int → Option Value} {szp : Nat} {Mh : Nat → Prop} {s : HSt} {Mt F : Nat → Prop}
theorem PagL.later (x : PagL w p h cf hl n txt gh gp v fh fp szp Mh s Mt) (hb : Below w.heap.size w w') : PagL w' p h cf hl n txt gh gp v fh fp szp Mh s Mt :=
  { x with
    o := x.o.later hb
    held := fun q hq => by
      obtain ⟨ao, c, h1, h2, h3⟩ := x.held q hq
      exact ⟨ao, c, h1, h2.later hb (Nat.le_refl _), h3⟩
    mt := fun b hb' => ⟨Nat.lt_of_lt_of_le (x.mt b hb').1 hb.size, (x.mt b hb').2⟩ }
theorem PagS.later (x : PagS w p h cf hl n txt F) (hb : Below w.heap.size w w') : PagS w' p h cf hl n txt F := by
  obtain ⟨gh, gp, v, fh, fp, szp, Mh, s, Mt, x, hf, ha⟩ := x
  exact ⟨gh, gp, v, fh, fp, szp, Mh, s, Mt, x.later hb, hf, fun b h => Nat.lt_of_lt_of_le (ha b h) hb.size⟩
theorem PagL.off {S : Nat → Prop} (x : PagL w p h cf hl n txt gh gp v fh fp szp Mh s Mt) (k : Kept S w w') (hS : ∀ b, S b → ¬ (OwO Mh p gh gp v b ∨ Mt b)) : PagL w' p h cf hl n txt gh gp v fh fp szp Mh s Mt :=
  { x with
    o := x.o.off k (fun b hb e => hS b hb (.inl e))
    held := fun q hq => by
      obtain ⟨ao, c, h1, h2, h3, h4⟩ := x.held q hq
      exact ⟨ao, c, h1, h2.off k (fun b o e hs => hS b hs (.inr (h4 b o e))), h3, h4⟩
    mt := fun b hb' => ⟨Nat.lt_of_lt_of_le (x.mt b hb').1 k.size, (x.mt b hb').2⟩ }
theorem PagS.off {S : Nat → Prop} (x : PagS w p h cf hl n txt F) (k : Kept S w w') (hS : ∀ b, S b → ¬ F b) : PagS w' p h cf hl n txt F := by
  obtain ⟨gh, gp, v, fh, fp, szp, Mh, s, Mt, x, hf, ha⟩ := x
  exact ⟨gh, gp, v, fh, fp, szp, Mh, s, Mt, x.off k (fun b hb e => hS b hb (hf b e)), hf, fun b h => Nat.lt_of_lt_of_le (ha b h) k.size⟩
theorem PagS.all (x : PagS w p h cf hl n txt F) : ∀ b, F b → b < w.heap.size := by
  obtain ⟨gh, gp, v, fh, fp, szp, Mh, s, Mt, x, hf, ha⟩ := x
  exact ha
theorem PagS.good (x : PagS w p h cf hl n txt F) : cf.Good := by
  obtain ⟨gh, gp, v, fh, fp, szp, Mh, s, Mt, x, hf, ha⟩ := x
  exact x.good
theorem PagS.perm {hl' : List Nat} (x : PagS w p h cf hl n txt F) (hp : hl.Perm hl') : PagS w p h cf hl' n txt F := by
  obtain ⟨gh, gp, v, fh, fp, szp, Mh, s, Mt, x, hf, ha⟩ := x
  have hm : ∀ q, q ∈ hl ↔ q ∈ hl' := fun q => hp.mem_iff
  refine ⟨gh, gp, v, fh, fp, szp, Mh, s, Mt, { x with o := ?_, held := fun q hq => x.held q ((hm q).2 hq), none := fun k hk => x.none k (fun q hq => hk q ((hm q).1 hq)), nd := hp.nodup_iff.1 x.nd, len := ?_, rng := fun q hq => x.rng q ((hm q).2 hq), wrt := ?_, nwr := ?_ }, hf, ha⟩
  · rw [← hp.length_eq]; exact x.o
  · rw [← hp.length_eq]; exact x.len
  · intro q h1 h2
    obtain ⟨c, ver, h3, h4, h5, h6⟩ := x.wrt q h1 h2
    exact ⟨c, ver, h3, h4, h5, fun e => h6 (by rw [hm q]; exact e)⟩
  · intro q h1 h2
    obtain ⟨h3, h4⟩ := x.nwr q h1 h2
    exact ⟨h3, fun e => h4 (by rw [hm q]; exact e)⟩
end
theorem Hn.wrote {s : HSt} (x : Hn s) (q : Nat) (z : List Int) : Hn (s.wrote q z) := ⟨x.dn, x.cm, x.dp⟩
theorem Hn.logged {s : HSt} (x : Hn s) (t : Tc) : Hn (s.logged t) := ⟨x.dn, x.cm, x.dp⟩
theorem room_S (p h : Nat) (cf : Cf) (n : Nm) (txt : Nat → List Int) (F : Nat → Prop) (w : World) (x : PagS w p h cf n.ord n txt F) (hlog : n.log.length < 2000000000) (hwr : n.writes < 2000000000) :
    Calls Tryz.prog 103 #[.pointer (some ⟨p, 0, none⟩)] w fun e w' => e = .returned (.int .i64 0) ∧ ∃ F', PagS w' p h cf (n.room cf).ord (n.room cf) txt F' ∧ Ev F F' w w' := by
  by_cases hlt : n.ord.length < cf.win
  · have e : n.room cf = n := by unfold Nm.room; rw [if_pos hlt]
    rw [e]
    obtain ⟨gh, gp, v, fh, fp, szp, Mh, s, Mt, y, hf, ha⟩ := id x
    refine (room_free p gh gp h v fh _ fp szp Mh s _ w y.o (by rw [y.ew]; simpa using hlt)).mono ?_
    rintro e w' ⟨rfl, hb⟩
    exact ⟨rfl, F, x.later hb, Ev.below hb⟩
  · obtain ⟨gh, gp, v, fh, fp, szp, Mh, s, Mt, y, hf, ha⟩ := x
    have hw2 := y.good.win.1
    cases ho : n.ord with
    | nil => rw [ho] at hlt; simp at hlt; omega
    | cons q r =>
      have hlen := y.len.1
      rw [ho] at hlt hlen y
      simp at hlt hlen
      obtain ⟨ao, c, h1, h2, h3, h4⟩ := y.held q (by simp)
      have hqp := y.rng q (by simp)
      have hpg := y.good.pages
      have htx := y.good.text
      have hqr : q ∉ r := by have := y.nd; simp at this; exact this.1
      by_cases hst : n.st q = 2
      · have e : n.room cf = { n with ord := r, st := upn n.st q 1, wr := upn n.wr q true, writes := n.writes + 1, log := n.log ++ [⟨1, q, cf.text + 28, hdL cf.round n.writes⟩] } := by
          unfold Nm.room; rw [ho, if_neg (by simpa using hlt)]; simp [hst]
        rw [e]
        rw [hst] at h1
        obtain ⟨r0, c0, p0, q0, hfp⟩ : ∃ r0 c0 p0 q0, (fp q).getD (.agg #[.int .u64 0, .int .u32 0, .int .u32 0, .int .u32 0]) = .agg #[.int .u64 r0, .int .u32 c0, .int .u32 p0, .int .u32 q0] := by
          cases hw : n.wr q with
          | true => obtain ⟨c, ver, h5, _⟩ := y.wrt q hqp hw; exact ⟨_, _, _, _, by rw [h5]; rfl⟩
          | false => rw [(y.nwr q hqp hw).1]; exact ⟨_, _, _, _, rfl⟩
        have yo := y.o
        rw [ho] at yo
        refine (room_write p gh gp h q v fh _ fp szp Mh s (q : Int) (oI r) ao cf.text c (txt q) r0 c0 p0 q0 w yo rfl (by rw [y.ew]; simpa using hlt) (by simp; omega) h1 y.hn (by rw [y.sp]; exact hqp) (by omega) (by rw [y.so]; omega) y.ss (by omega) h2 (fun b o e => (y.mt b (h4 b o e)).1) h3 hfp (by rw [y.er]; exact y.good.round) (by rw [y.ewr]; omega) ⟨by simp; omega, by have := y.sz; omega⟩).mono ?_
        rintro e' w' ⟨rfl, o', M2, ver, hver, po, kk, hob, hs1, hs2⟩
        refine ⟨rfl, fun b => OwO M2 p gh gp { v with writes := v.writes + 1, order := o' } b ∨ Mt b, ⟨gh, gp, { v with writes := v.writes + 1, order := o' }, _, _, _, M2, _, Mt, { o := by have := po; rw [show (q :: r).length - 1 = r.length by simp] at this; exact this, ek := y.ek, er := y.er, ew := y.ew, ep := y.ep, et := y.et, em := y.em, ewr := by show v.writes + 1 = _; rw [y.ewr], ed := y.ed, good := y.good, held := ?_, none := ?_, nd := by have := y.nd; simp at this; exact this.2, len := ⟨by show r.length ≤ 17; omega, by show r.length ≤ 17; omega⟩, rng := fun k hk => y.rng k (by simp [hk]), wrt := ?_, nwr := ?_, tl := y.tl, sz := ?_, hn := (y.hn.next.wrote _ _).logged _, sp := y.sp, ss := y.ss, so := ?_, sl := ?_, mt := ?_ }, fun b hb => hb, ?_⟩, ⟨kk.mono (fun b hb => hf b (.inl hb)), ?_⟩⟩
        · intro k hk
          have hkq : k ≠ q := fun e => hqr (e ▸ hk)
          obtain ⟨ao', c', g1, g2, g3, g4⟩ := y.held k (by simp [hk])
          refine ⟨ao', c', ?_, g2.off kk (fun b o e hO => (y.mt b (g4 b o e)).2 hO), g3, g4⟩
          have hkq' : (k : Int) ≠ (q : Int) := by omega
          simp only [delF, updF, if_neg hkq', upn, if_neg hkq]
          exact g1
        · intro k hk
          by_cases e : k = (q : Int)
          · simp [delF, e]
          · simp only [delF, updF, if_neg e]
            exact y.none k (fun j hj => by
              rcases List.mem_cons.1 hj with rfl | hj
              · exact fun e2 => e e2.symm
              · exact hk j hj)
        · intro k hk hwk
          by_cases e : k = q
          · subst e
            refine ⟨n.writes, ver, by simp [updF, placeC, y.er, y.ewr], ⟨by omega, by omega⟩, hver, fun _ => ?_⟩
            have := ago_wrote s.next k (pageL v.key v.round v.writes k ver (txt k))
            rw [← y.ek, ← y.er, ← y.ewr]
            exact (ago_same k rfl rfl).trans this
          · have hw : n.wr k = true := by simpa [upn, e] using hwk
            obtain ⟨c', ver', g1, g2, g3, g4⟩ := y.wrt k hk hw
            refine ⟨c', ver', by have : (k : Int) ≠ (q : Int) := by omega
                                 simp only [updF, if_neg this]; exact g1, g2, g3, fun hh => ?_⟩
            refine ((ago_same k rfl rfl).trans (ago_other s.next q k e _)).trans ((ago_same k rfl rfl).trans (g4 ?_))
            rcases hh with hh | hh
            · exact .inl (by simp [e, hh])
            · exact .inr (by simpa [upn, e] using hh)
        · intro k hk hwk
          have e : k ≠ q := fun e => by subst e; simp [upn] at hwk
          have hw : n.wr k = false := by simpa [upn, e] using hwk
          obtain ⟨g1, g2⟩ := y.nwr k hk hw
          refine ⟨by have : (k : Int) ≠ (q : Int) := by omega
                     simp only [updF, if_neg this]; exact g1, fun hh => g2 ?_⟩
          rcases hh with hh | hh
          · exact .inl (by simp [e, hh])
          · exact .inr (by simpa [upn, e] using hh)
        · have := y.sz
          show (if (fp q).isSome then szp else szp + 1) ≤ n.writes + 1
          split <;> omega
        · show s.ops + 1 = (n.log ++ [_]).length
          rw [y.so]; simp
        · show s.log ++ [_] = n.log ++ [_]
          rw [y.sl, head_page, y.ss, y.er, y.ewr]
          rfl
        · intro b hb
          have h6 := y.mt b hb
          refine ⟨Nat.lt_of_lt_of_le h6.1 kk.size, fun hO => h6.2 ?_⟩
          rcases hO with (e | e | e | e) | e
          · exact .inl (.inl e)
          · exact .inl (.inr (.inl e))
          · exact .inl (.inr (.inr (.inl e)))
          · exact .inl (.inr (.inr (.inr ((hs2 b e).elim id (fun e => by omega)))))
          · exact .inr (by rw [← hob]; exact e)
        · intro b hb
          rcases hb with hb | hb
          · exact po.all b hb
          · exact Nat.lt_of_lt_of_le (y.mt b hb).1 kk.size
        · intro b hb
          rcases hb with ((e | e | e | e) | e) | hb
          · exact .inl (hf b (.inl (.inl (.inl e))))
          · exact .inl (hf b (.inl (.inl (.inr (.inl e)))))
          · exact .inl (hf b (.inl (.inl (.inr (.inr (.inl e))))))
          · exact (hs2 b e).imp (fun e => hf b (.inl (.inl (.inr (.inr (.inr e)))))) id
          · exact .inl (hf b (.inl (.inr (by rw [← hob]; exact e))))
          · exact .inl (hf b (.inr hb))
      · have e : n.room cf = { n with ord := r } := by
          unfold Nm.room; rw [ho, if_neg (by simpa using hlt)]; simp [hst]
        rw [e]
        have yo := y.o
        rw [ho] at yo
        refine (room_drop p gh gp h v fh _ fp szp Mh s (q : Int) (oI r) _ (n.st q) w yo (i64_nat (by omega)) (by rw [y.ew]; simpa using hlt) (by simp; omega) h1 hst).mono ?_
        rintro e' w' ⟨rfl, o', po, kk, hob⟩
        refine ⟨rfl, fun b => OwO Mh p gh gp { v with order := o' } b ∨ Mt b, ⟨gh, gp, { v with order := o' }, _, _, _, Mh, _, Mt, { o := by have := po; rw [show (q :: r).length - 1 = r.length by simp] at this; exact this, ek := y.ek, er := y.er, ew := y.ew, ep := y.ep, et := y.et, em := y.em, ewr := y.ewr, ed := y.ed, good := y.good, held := ?_, none := ?_, nd := by have := y.nd; simp at this; exact this.2, len := ⟨by show r.length ≤ 17; omega, by show r.length ≤ 17; omega⟩, rng := fun k hk => y.rng k (by simp [hk]), wrt := ?_, nwr := ?_, tl := y.tl, sz := y.sz, hn := y.hn, sp := y.sp, ss := y.ss, so := y.so, sl := y.sl, mt := ?_ }, fun b hb => hb, ?_⟩, ⟨kk.mono (fun b hb => hf b (.inl hb)), ?_⟩⟩
        · intro k hk
          have hkq : k ≠ q := fun e => hqr (e ▸ hk)
          obtain ⟨ao', c', g1, g2, g3, g4⟩ := y.held k (by simp [hk])
          refine ⟨ao', c', ?_, g2.off kk (fun b o e hO => (y.mt b (g4 b o e)).2 hO), g3, g4⟩
          have hkq' : (k : Int) ≠ (q : Int) := by omega
          simp only [delF, if_neg hkq']
          exact g1
        · intro k hk
          by_cases e : k = (q : Int)
          · simp [delF, e]
          · simp only [delF, if_neg e]
            exact y.none k (fun j hj => by
              rcases List.mem_cons.1 hj with rfl | hj
              · exact fun e2 => e e2.symm
              · exact hk j hj)
        · intro k hk hwk
          obtain ⟨c', ver', g1, g2, g3, g4⟩ := y.wrt k hk hwk
          refine ⟨c', ver', g1, g2, g3, fun hh => g4 ?_⟩
          by_cases e : k = q
          · subst e; exact .inr hst
          · rcases hh with hh | hh
            · exact .inl (by simp [e, hh])
            · exact .inr hh
        · intro k hk hwk
          obtain ⟨g1, g2⟩ := y.nwr k hk hwk
          refine ⟨g1, fun hh => g2 ?_⟩
          by_cases e : k = q
          · subst e; exact .inr hst
          · rcases hh with hh | hh
            · exact .inl (by simp [e, hh])
            · exact .inr hh
        · intro b hb
          have h6 := y.mt b hb
          refine ⟨Nat.lt_of_lt_of_le h6.1 kk.size, fun hO => h6.2 ?_⟩
          rcases hO with e | e
          · exact .inl e
          · exact .inr (by rw [← hob]; exact e)
        · intro b hb
          rcases hb with hb | hb
          · exact po.all b hb
          · exact Nat.lt_of_lt_of_le (y.mt b hb).1 kk.size
        · intro b hb
          rcases hb with (e | e) | hb
          · exact .inl (hf b (.inl (.inl e)))
          · exact .inl (hf b (.inl (.inr (by rw [← hob]; exact e))))
          · exact .inl (hf b (.inr hb))
end Go.Proofs.YtpanagghppdiiaaGreat
