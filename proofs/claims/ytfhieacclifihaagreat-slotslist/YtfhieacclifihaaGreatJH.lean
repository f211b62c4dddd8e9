/- Joined by program: what the theorem reaches. -/
import Derived.Test.YtfhieacclifihaaGreatJA
import Derived.Test.YtfhieacclifihaaGreatJD
import Derived.Test.YtfhieacclifihaaGreatJG
namespace Go.Proofs.YtfhieacclifihaaGreat
open Go.RowKit
set_option linter.unusedVariables false
set_option linter.unusedSimpArgs false

theorem wpList_yieldH {ops : Array Oper} {rest : List Oper} {o : Oper} {a : Act} {Q : Exit → Act → World → Prop} {w : World} (hgd : o.guard = none) (v : Value) (hrun : (execOp a.eval o).run Tryz.prog w = .ok (.value v) w) (h : wpList Tryz.prog ops Q rest (a.put o.dst v) w) : wpList Tryz.prog ops Q (o :: rest) a w := by
  refine wpList_plain hgd fun K hK => ?_
  unfold Oper.wp
  rw [hrun]
  exact hK _ _ h
/-- The first twelve bytes, the rest 0. -/
def headL (zs : List Int) : List Int := zs.take 12 ++ List.replicate (12 - zs.length) 0
theorem headL_length (zs : List Int) : (headL zs).length = 12 := by simp [headL]; omega
theorem build_tc (op : Int) (w : World) : (Instr.build 126 #[(0, .int .i64 op), (2, .int .i64 8)]).run Tryz.prog w = .ok (.agg (tcC ⟨op, 0, 8, List.replicate 12 0⟩).toArray) w := by kernel_rfl
set_option maxRecDepth 20000 in
theorem sl_nonce (g : Nat) (w : World) : (Instr.sliceAt 124 (.pointer (some ⟨g, 3, none⟩)) none none none).run Tryz.prog w = .ok (.slice (some ⟨g, 3, none⟩) 12 12) w := by kernel_rfl
set_option maxRecDepth 20000 in
set_option maxHeartbeats 1000000 in
theorem touch_reg (h : Nat) (s : HSt) (op : Int) (hop : op = 2 ∨ op = 3) (M : Nat → Prop) (w : World) (x : HostAt w M h s) :
    Calls Tryz.prog 174 #[.pointer (some ⟨h, 0, none⟩), .int .i64 op, .int .i64 0, .slice none 0 0] w fun e w' => e = .returned (.agg (tcC ⟨op, 0, 8, List.replicate 12 0⟩).toArray) ∧ Below w.heap.size w w' := by
  have bt := build_tc op
  have q1 : (op == 1) = false := by rcases hop with rfl | rfl <;> rfl
  have q0 : (op == 0) = false := by rcases hop with rfl | rfl <;> rfl
  clear x hop
  go_enter Tryz.func174, Tryz.ntmps174
  go_wp2_with (first | ((with_reducible show wpList _ _ _ (({ dst := some 8, op := _, type := _, pos := _, after := _, guard := _ } : Oper) :: _) _ _); refine wpList_alloc_new rfl 126 rfl 15 _ zeroTc ?_; intro w1 b1 s1 l1; have z1 : Hid (w1.heap.size = w.heap.size + 1) := s1; clear s1) | ((with_reducible show wpList _ _ _ (({ dst := some 11, op := _, type := _, pos := _, after := _, guard := _ } : Oper) :: _) _ _); refine wpList_build rfl 126 _ rfl #[(0, .int .i64 op), (2, .int .i64 8)] (by simp [Act.eval]) _ (bt _) ?_) | ((with_reducible show wpList _ _ _ (({ dst := some 9, op := _, type := _, pos := _, after := _, guard := _ } : Oper) :: _) _ _); refine wpList_alloc_new rfl 126 rfl 15 _ zeroTc ?_; intro w2 b2 s2 l2; have z2 : Hid (w2.heap.size = w1.heap.size + 1) := s2; clear s2) | (refine wpList_store_blk rfl 126 126 (.tmp 9) (.tmp 11) rfl _ rfl _ (tcC ⟨op, 0, 8, List.replicate 12 0⟩) rfl b2 rfl (sizeTc rfl) (tcC_one _) ?_; intro w3 b3 s3 k3; have z3 : Hid (w3.heap.size = w2.heap.size) := s3; clear s3) | (refine wpList_load_blk rfl 126 (.tmp 9) rfl _ rfl (tcC ⟨op, 0, 8, List.replicate 12 0⟩) _ b3 Tryz.underlying126 rfl (sizeTc rfl) ?_) | (refine wpList_store_blk rfl 126 126 (.tmp 8) (.tmp 28) rfl _ rfl _ (tcC ⟨op, 0, 8, List.replicate 12 0⟩) rfl ((b1.later l2 b1.lt).kept k3 (by have := b1.lt; omega)) rfl (sizeTc rfl) (tcC_one _) ?_; intro w4 b4 s4 k4))
  refine ret_blk rfl w.heap.size (tcC ⟨op, 0, 8, List.replicate 12 0⟩) _ rfl b4 Tryz.underlying126 rfl (sizeTc rfl) rfl ⟨rfl, ?_⟩
  have := z1.out; have := z2.out; have := z3.out
  exact below_kept (below_kept (below_chain l1 l2 (by omega)) k3 (by omega) (fun j hj => by omega)) k4 (by omega) (fun j hj => by omega)
set_option maxRecDepth 20000 in
set_option maxHeartbeats 1000000 in
theorem touch_read (h : Nat) (s : HSt) (p : Int) (M : Nat → Prop) (w : World) (x : HostAt w M h s) :
    Calls Tryz.prog 174 #[.pointer (some ⟨h, 0, none⟩), .int .i64 0, .int .i64 p, .slice none 0 0] w fun e w' => e = .returned (.agg (tcC ⟨0, p, s.size, List.replicate 12 0⟩).toArray) ∧ Below w.heap.size w w' := by
  have bt := build_tc 0
  obtain ⟨gl, gm, lg, rws, n, D, x⟩ := x
  have X : Hid (Blk w h 104 (hostC s gl gm lg)) := x.blk
  clear x
  go_enter Tryz.func174, Tryz.ntmps174
  go_wp2_with (first | ((with_reducible show wpList _ _ _ (({ dst := some 8, op := _, type := _, pos := _, after := _, guard := _ } : Oper) :: _) _ _); refine wpList_alloc_new rfl 126 rfl 15 _ zeroTc ?_; intro w1 b1 s1 l1; have z1 : Hid (w1.heap.size = w.heap.size + 1) := s1; clear s1) | ((with_reducible show wpList _ _ _ (({ dst := some 11, op := _, type := _, pos := _, after := _, guard := _ } : Oper) :: _) _ _); refine wpList_build rfl 126 _ rfl #[(0, .int .i64 0), (2, .int .i64 8)] (by simp [Act.eval]) _ (bt _) ?_) | ((with_reducible show wpList _ _ _ (({ dst := some 9, op := _, type := _, pos := _, after := _, guard := _ } : Oper) :: _) _ _); refine wpList_alloc_new rfl 126 rfl 15 _ zeroTc ?_; intro w2 b2 s2 l2; have z2 : Hid (w2.heap.size = w1.heap.size + 1) := s2; clear s2) | (refine wpList_store_blk rfl 126 126 (.tmp 9) (.tmp 11) rfl _ rfl _ (tcC ⟨0, 0, 8, List.replicate 12 0⟩) rfl b2 rfl (sizeTc rfl) (tcC_one _) ?_; intro w3 b3 s3 k3; have z3 : Hid (w3.heap.size = w2.heap.size) := s3; clear s3; have d0 : w3.cell? ⟨h, 0, none⟩ = some (.int .i64 s.size) := ((((X.out.later l1 X.out.lt).later l2 (by have := z1.out; have := X.out.lt; omega)).kept k3 (by have := z1.out; have := X.out.lt; omega))).cell 0; have d1 : w3.cell? ⟨w1.heap.size, 1, none⟩ = some (.int .i64 0) := b3.cell 1; have d2 : w3.cell? ⟨w1.heap.size, 2, none⟩ = some (.int .i64 8) := b3.cell 2; have g1 : w3.frozen? ⟨w1.heap.size, 1, none⟩ = false := b3.frozen 1; have g2 : w3.frozen? ⟨w1.heap.size, 2, none⟩ = false := b3.frozen 2; have nh : w1.heap.size ≠ h := by { have := z1.out; have := X.out.lt; omega }) | (refine wpList_load_blk rfl 126 (.tmp 9) rfl _ rfl (tcC ⟨0, p, s.size, List.replicate 12 0⟩) _ (show Blk _ _ _ (tcC ⟨0, p, s.size, List.replicate 12 0⟩) from (b3.set 1 (.int .i64 p)).set 2 (.int .i64 s.size)) Tryz.underlying126 rfl (sizeTc rfl) ?_) | (refine wpList_store_blk rfl 126 126 (.tmp 8) (.tmp 28) rfl _ rfl _ (tcC ⟨0, p, s.size, List.replicate 12 0⟩) rfl ((((b1.later l2 b1.lt).kept k3 (by have := b1.lt; omega)).other (p := ⟨w1.heap.size, 1, none⟩) (by have := b1.lt; simp; omega) _).other (p := ⟨w1.heap.size, 2, none⟩) (by have := b1.lt; simp; omega) _) rfl (sizeTc rfl) (tcC_one _) ?_; intro w4 b4 s4 k4))
  refine ret_blk rfl w.heap.size (tcC ⟨0, p, s.size, List.replicate 12 0⟩) _ rfl b4 Tryz.underlying126 rfl (sizeTc rfl) rfl ⟨rfl, ?_⟩
  have := z1.out; have := z2.out; have := z3.out
  have l3 : Below w.heap.size w w3 := below_kept (below_chain l1 l2 (by omega)) k3 (by omega) (fun j hj => by omega)
  exact below_kept (below_kept l3 (((Kept.refl (fun k => k = w1.heap.size) w3).setCell (p := ⟨w1.heap.size, 1, none⟩) rfl _).setCell (p := ⟨w1.heap.size, 2, none⟩) rfl _) (by omega) (fun j hj => by omega)) k4 (by simp [World.setCell]; omega) (fun j hj => by omega)

theorem lenTc (p z : Int) (zs : List Int) : (tcC ⟨1, p, z, headL zs⟩).length = (tcC default).length := by
  rw [tcC_length (show (Tc.mk 1 p z (headL zs)).Good from headL_length zs)]; rfl
theorem u8s_rep12 (n : Nat) : u8s (List.replicate 12 0) = u8s (List.replicate (Nat.min n 12) 0) ++ u8s (List.replicate (12 - Nat.min n 12) 0) := by
  have : Nat.min n 12 ≤ 12 := Nat.min_le_right _ _
  simp only [u8s, ← List.map_append, List.replicate_append_replicate]
  congr 2; omega
theorem head_cut (zs : List Int) (n : Nat) (hn : zs.length = n) : u8s (zs.take (Nat.min n 12)) ++ u8s (List.replicate (12 - Nat.min n 12) 0) = u8s (headL zs) := by
  unfold headL
  subst hn
  rcases Nat.le_total zs.length 12 with h | h
  · have e : Nat.min zs.length 12 = zs.length := Nat.min_eq_left h
    rw [e, List.take_of_length_le (Nat.le_refl _), List.take_of_length_le h]
    simp [u8s]
  · have e : Nat.min zs.length 12 = 12 := Nat.min_eq_right h
    rw [e, Nat.sub_eq_zero_of_le h]
    simp [u8s]
set_option maxRecDepth 20000 in
set_option maxHeartbeats 1000000 in
theorem touch_write (h : Nat) (s : HSt) (p : Int) (ao : Option Addr) (n c : Nat) (zs : List Int) (M : Nat → Prop) (w : World) (x : HostAt w M h s) (hx : Seen w ao n zs) :
    Calls Tryz.prog 174 #[.pointer (some ⟨h, 0, none⟩), .int .i64 1, .int .i64 p, .slice ao n c] w fun e w' => e = .returned (.agg (tcC ⟨1, p, s.size, headL zs⟩).toArray) ∧ Below w.heap.size w w' := by
  have bt := build_tc 1
  obtain ⟨gl, gm, lg, rws, n', D, x⟩ := x
  have X : Hid (Blk w h 104 (hostC s gl gm lg) ∧ Seen w ao n zs) := ⟨x.blk, hx⟩
  have sn := fun g => sl_nonce g
  clear x hx
  go_enter Tryz.func174, Tryz.ntmps174
  go_wp2_with (first | ((with_reducible show wpList _ _ _ (({ dst := some 8, op := _, type := _, pos := _, after := _, guard := _ } : Oper) :: _) _ _); refine wpList_alloc_new rfl 126 rfl 15 _ zeroTc ?_; intro w1 b1 s1 l1; have z1 : Hid (w1.heap.size = w.heap.size + 1) := s1; clear s1) | ((with_reducible show wpList _ _ _ (({ dst := some 11, op := _, type := _, pos := _, after := _, guard := _ } : Oper) :: _) _ _); refine wpList_build rfl 126 _ rfl #[(0, .int .i64 1), (2, .int .i64 8)] (by simp [Act.eval]) _ (bt _) ?_) | ((with_reducible show wpList _ _ _ (({ dst := some 9, op := _, type := _, pos := _, after := _, guard := _ } : Oper) :: _) _ _); refine wpList_alloc_new rfl 126 rfl 15 _ zeroTc ?_; intro w2 b2 s2 l2; have z2 : Hid (w2.heap.size = w1.heap.size + 1) := s2; clear s2) | (refine wpList_store_blk rfl 126 126 (.tmp 9) (.tmp 11) rfl _ rfl _ (tcC ⟨1, 0, 8, List.replicate 12 0⟩) rfl b2 rfl (sizeTc rfl) (tcC_one _) ?_; intro w3 b3 s3 k3; have z3 : Hid (w3.heap.size = w2.heap.size) := s3; clear s3) | ((with_reducible show wpList _ _ _ (({ dst := some 18, op := _, type := _, pos := _, after := _, guard := _ } : Oper) :: _) _ _); refine wpList_yieldH rfl (.slice (some ⟨w1.heap.size, 3, none⟩) 12 12) (by simp [execOp, Act.eval, sn]) ?_) | ((with_reducible show wpList _ _ _ (({ dst := some 19, op := _, type := _, pos := _, after := _, guard := _ } : Oper) :: _) _ _); refine wpList_yieldH rfl (.slice ao n c) (by simp [execOp, Act.eval]) ?_) | ((with_reducible show wpList _ _ _ (({ dst := some 20, op := _, type := _, pos := _, after := _, guard := _ } : Oper) :: _) _ _); refine wpList_copy_seen rfl _ _ rfl w1.heap.size 3 12 12 _ ao n c rfl rfl zs (((X.out.2.later l1 (Nat.le_refl _)).later l2 (Nat.le_refl _)).kept k3 (fun b o hn e => by { have := (X.out.2.later l1 (Nat.le_refl _)).old (Nat.le_refl _) b o hn e; omega })) 126 [.int .i64 1, .int .i64 0, .int .i64 8] (u8s (List.replicate (Nat.min n 12) 0)) (u8s (List.replicate (12 - Nat.min n 12) 0)) (by { rw [← u8s_rep12 n]; exact b3 }) rfl (Nat.min n 12) rfl (by simp [u8s_length]) (fun _ => rfl) ?_; intro w5 b5 s5 k5; rw [head_cut zs n X.out.2.len] at b5; have z5 : Hid (w5.heap.size = w3.heap.size) := s5; clear s5; have d0 : w5.cell? ⟨h, 0, none⟩ = some (.int .i64 s.size) := ((((X.out.1.later l1 X.out.1.lt).later l2 (by have := z1.out; have := X.out.1.lt; omega)).kept k3 (by have := z1.out; have := X.out.1.lt; omega)).kept k5 (by have := z1.out; have := X.out.1.lt; omega)).cell 0; have d1 : w5.cell? ⟨w1.heap.size, 1, none⟩ = some (.int .i64 0) := b5.cell 1; have d2 : w5.cell? ⟨w1.heap.size, 2, none⟩ = some (.int .i64 8) := b5.cell 2; have g1 : w5.frozen? ⟨w1.heap.size, 1, none⟩ = false := b5.frozen 1; have g2 : w5.frozen? ⟨w1.heap.size, 2, none⟩ = false := b5.frozen 2; have nh : w1.heap.size ≠ h := by { have := z1.out; have := X.out.1.lt; omega }) | (refine wpList_load_blk rfl 126 (.tmp 9) rfl _ rfl (tcC ⟨1, p, s.size, headL zs⟩) _ (show Blk _ _ _ (tcC ⟨1, p, s.size, headL zs⟩) from (b5.set 1 (.int .i64 p)).set 2 (.int .i64 s.size)) Tryz.underlying126 rfl (sizeTc (headL_length zs)) ?_) | (refine wpList_store_blk rfl 126 126 (.tmp 8) (.tmp 28) rfl _ rfl _ (tcC ⟨1, p, s.size, headL zs⟩) rfl (((((b1.later l2 b1.lt).kept k3 (by have := b1.lt; omega)).kept k5 (by have := b1.lt; omega)).other (p := ⟨w1.heap.size, 1, none⟩) (by have := b1.lt; simp; omega) _).other (p := ⟨w1.heap.size, 2, none⟩) (by have := b1.lt; simp; omega) _) (lenTc p s.size zs) (sizeTc (headL_length zs)) (tcC_one _) ?_; intro w4 b4 s4 k4))
  refine ret_blk rfl w.heap.size (tcC ⟨1, p, s.size, headL zs⟩) _ rfl b4 Tryz.underlying126 rfl (sizeTc (headL_length zs)) rfl ⟨rfl, ?_⟩
  have := z1.out; have := z2.out; have := z3.out; have := z5.out
  have l3 : Below w.heap.size w w5 := below_kept (below_kept (below_chain l1 l2 (by omega)) k3 (by omega) (fun j hj => by omega)) k5 (by omega) (fun j hj => by omega)
  exact below_kept (below_kept l3 (((Kept.refl (fun k => k = w1.heap.size) w5).setCell (p := ⟨w1.heap.size, 1, none⟩) rfl _).setCell (p := ⟨w1.heap.size, 2, none⟩) rfl _) (by omega) (fun j hj => by omega)) k4 (by simp [World.setCell]; omega) (fun j hj => by omega)
end Go.Proofs.YtfhieacclifihaaGreat
namespace Go.Proofs.YtfhieacclifihaaGreat
open Go.RowKit
set_option linter.unusedVariables false
set_option linter.unusedSimpArgs false

theorem till_run {md : Region.Mode} {ops : Array Oper} {Q : Exit → Act → World → Prop} {c : Nat} {S : World → Prop} {oi : Oper} {n : Nat} {l : Array Bool} {a : Act} {w : World} (i : Nat) (d : Option Tmp) (v : Value) (w' : World) (hr : Region.ready md ops l = [i]) (hi : ops[i]? = some oi) (hd : oi.dst = d)
    (hw : Region.wanted oi (yielded ops a.tmps) = true) (hrun : (execOp a.eval oi).run Tryz.prog w = .ok (.value v) w') (hS : S w') (h : wpTill md ops Q c S n (l.setIfInBounds i true) (a.put d v) w') : wpTill md ops Q c S (n + 1) l a w := by
  subst hd
  refine till_ready i hr hi fun K hK => ?_
  rw [if_pos hw]
  unfold Oper.wp
  rw [hrun]
  exact hK _ _ ⟨hS, h⟩
theorem exec_append {a : Act} {o : Oper} {w w' : World} {v' : Value} (s x : Operand) (t ty : TypeId) (ho : o.op = .call { callee := .builtin .append, args := #[s, x], argTypes := #[t, t] }) (hty : o.type = ty) (va vb : Value) (hs : a.eval s = va) (hx : a.eval x = vb)
    (hr : (Builtin.append_ #[t, t] ty #[va, vb]).run Tryz.prog w = .ok v' w') : (execOp a.eval o).run Tryz.prog w = .ok (.value v') w' := by
  subst hty
  unfold execOp
  simp only [ho, resolve, invoke, builtin, Sem.run_bind, Sem.run_pure, Result.andThen_ok, List.map_toArray, List.map_cons, List.map_nil, hs, hx, hr]
theorem exec_build {a : Act} {o : Oper} {w w' : World} {v : Value} (t : TypeId) (m : Nat) (parts : Array (Nat × Operand)) (ho : o.op = .buildSlice t m parts) (ps : Array (Nat × Value)) (hp : (parts.map fun (i, x) => (i, a.eval x)) = ps) (hr : (Instr.buildSlice t m ps).run Tryz.prog w = .ok v w') : (execOp a.eval o).run Tryz.prog w = .ok (.value v) w' := by
  unfold execOp
  simp only [ho, hp, Sem.run_bind, hr, Sem.run_pure, Result.andThen_ok]
theorem list12 (l : List Int) (h : l.length = 12) : ∃ a0 a1 a2 a3 a4 a5 a6 a7 a8 a9 a10 a11, l = [a0, a1, a2, a3, a4, a5, a6, a7, a8, a9, a10, a11] := by
  match l, h with
  | [a0, a1, a2, a3, a4, a5, a6, a7, a8, a9, a10, a11], _ => exact ⟨a0, a1, a2, a3, a4, a5, a6, a7, a8, a9, a10, a11, rfl⟩
theorem build1_tc (t : Tc) (ht : t.Good) (w : World) : (Instr.buildSlice 49 1 #[(0, .agg (tcC t).toArray)]).run Tryz.prog w = .ok (.slice (some ⟨w.heap.size, 0, none⟩) 1 1) (w.alloc (.cells (tcC t).toArray 126)) := by
  obtain ⟨op, pg, ln, hd⟩ := t
  obtain ⟨a0, a1, a2, a3, a4, a5, a6, a7, a8, a9, a10, a11, rfl⟩ := list12 hd ht
  kernel_rfl
end Go.Proofs.YtfhieacclifihaaGreat
namespace Go.Proofs.YtfhieacclifihaaGreat
open Go.RowKit
set_option linter.unusedVariables false
set_option linter.unusedSimpArgs false

/-- The next operation is counted. -/
def HSt.pow (s : HSt) : Int := powL (s.coming s.ops)
def HSt.next (s : HSt) : HSt := { s.past with ops := s.ops + 1, down := decide (s.pow ≠ 0) }
def HSt.logged (s : HSt) (t : Tc) : HSt := { s with log := s.log ++ [t] }
theorem powL_cases (fs : List Fl) : powL fs = 0 ∨ powL fs = 1 ∨ powL fs = 2 := by unfold powL; split <;> (try split) <;> simp
theorem next_good {s : HSt} (g : s.Good) (h : s.ops < 3000000000000) : s.next.Good :=
  ⟨g.size, g.pages, g.depth, g.reg, by show s.ops + 1 ≤ _; omega, by show s.log.length ≤ s.ops + 1; have := g.log; omega, fun p => by show (s.laid p).length ≤ s.ops + 1; have := g.laid p; omega, g.len⟩
theorem HostIn.nexted {w w' : World} {M : Nat → Prop} {h : Nat} {s : HSt} {gl gm : Nat} {lg : Value} {rws : List Value} {n : Nat} {D : DataW Value} (x : HostIn w M h s.past gl gm lg rws n D) (hs : s.ops < 3000000000000) (v : Value) (hv : v = .bool (decide (s.pow ≠ 0)))
    (hw : w' = (w.setCell ⟨h, 5, none⟩ (.int .i64 ((s.ops : Int) + 1))).setCell ⟨h, 7, none⟩ v) : HostIn w' M h s.next gl gm lg rws n D ∧ Kept (fun k => k = h) w w' := by
  subst hv
  have hk : Kept (fun k => k = h) w w' := by rw [hw]; exact ((Kept.refl (fun k => k = h) w).setCell (p := ⟨h, 5, none⟩) rfl _).setCell (p := ⟨h, 7, none⟩) rfl _
  refine ⟨x.turned s.next (next_good (s := s) ⟨x.good.size, x.good.pages, x.good.depth, x.good.reg, x.good.ops, x.good.log, x.good.laid, x.good.len⟩ hs) rfl rfl rfl rfl ?_ hk, hk⟩
  rw [hw]
  have := (x.blk.set 5 (.int .i64 ((s.ops : Int) + 1))).set 7 (.bool (decide (s.pow ≠ 0)))
  have e : ((hostC s.past gl gm lg).set 5 (.int .i64 ((s.ops : Int) + 1))).set 7 (.bool (decide (s.pow ≠ 0))) = hostC s.next gl gm lg := by
    simp only [hostC, List.set_cons_zero, List.set_cons_succ]
    rw [show ((s.next.ops : Nat) : Int) = (s.ops : Int) + 1 from by show ((s.ops + 1 : Nat) : Int) = _; omega]
    rfl
  rw [e] at this
  exact this
/-- A touch is appended to the log. -/
theorem HostIn.log_more {w : World} {M : Nat → Prop} {h : Nat} {s : HSt} {gl gm : Nat} {lg : Value} {rws : List Value} {n : Nat} {D : DataW Value} (x : HostIn w M h s gl gm lg rws n D) (t : Tc) (ht : t.Good) (hl : s.log.length < s.ops) :
    ∃ v' w', (Builtin.append_ #[49, 49] 49 #[lg, .slice (some ⟨w.heap.size, 0, none⟩) 1 1]).run Tryz.prog (w.alloc (.cells (tcC t).toArray 126)) = .ok v' w' ∧ Kept M w w' ∧ w'.heap[h]? = w.heap[h]? ∧ h < w'.heap.size ∧
      (∀ k, k < w.heap.size → ¬ M k → w'.heap[k]? = w.heap[k]?) ∧ ∀ w'', w'' = w'.setCell ⟨h, 6, none⟩ v' → HostIn w'' (more M w w'') h (s.logged t) gl gm v' rws n D ∧ Kept M w w'' := by
  obtain ⟨w0, hw0⟩ : ∃ q, w.alloc (.cells (tcC t).toArray 126) = q := ⟨_, rfl⟩
  have b0 : Below w.heap.size w w0 := by rw [← hw0]; exact (Below.refl _ _).alloc (Nat.le_refl _) _
  have s0 : w0.heap.size = w.heap.size + 1 := by rw [← hw0]; simp
  have bt : Blk w0 w.heap.size 126 (tcC t) := by rw [← hw0]; exact heap_alloc_new w _
  rw [hw0]
  have x0 := x.later b0
  obtain ⟨i0, hi, hz0, hz1, hz2⟩ := info_parts info_tc
  have hop := x.good.ops
  obtain ⟨v', w', hr, hown, hg, _, hat⟩ := run_append_own_at (P := Tryz.prog) w0 0 49 49 126 i0 (.agg (tcC default).toArray) 15 40 Tryz.underlying49 hi hz0 hz1 hz2 rfl (by decide) lg s.log.length _ x0.log.own ⟨w.heap.size, 0, none⟩ 1 1 (tcC t) (by rw [tcC_length ht])
    (fun j u hu => by rw [add_mid, Nat.zero_add, bt.cell]; exact hu) (tcC_one t) (by unfold maxLen; omega) (by omega) (Nat.zero_le _)
  have hb : ∀ g, lg.ownBlock = some g → Blk w g 126 (match w.heap[g]? with | some (.cells a _ _) => a.toList | _ => []) := fun g hg => by
    rcases x.log.own.2 with ⟨e, _⟩ | ⟨g', cap, cur, e, _, hh, _⟩
    · rw [e] at hg; cases hg
    · rw [e] at hg; cases hg; unfold Blk; rw [hh]
  have km : ∀ k, k < w.heap.size → lg.ownBlock ≠ some k → w'.heap[k]? = w.heap[k]? := fun k hk hne => (hg.block k (by omega) (Ne.symm hne)).trans (b0.block k hk)
  have nM : ∀ k, ¬ M k → lg.ownBlock ≠ some k := fun k hM e => hM (x.log.foot k e)
  have kp : Kept (fun k => lg.ownBlock = some k) w w' := ⟨hg.os.trans b0.os, hg.tape.trans b0.tape, hg.output.trans b0.output, Nat.le_trans b0.size hg.size, fun k hk hne => km k hk hne⟩
  have kM : Kept M w w' := kp.mono (fun k e => x.log.foot k e)
  have nh : lg.ownBlock ≠ some h := fun e => blk_ne (hb h e) x.blk (by decide) rfl
  have hsz := hg.size
  refine ⟨v', w', hr, kM, km h x.blk.lt nh, by have := x.blk.lt; omega, fun k hk hM => km k hk (nM k hM), fun w'' hw'' => ?_⟩
  have k2 : Kept (fun k => k = h) w' w'' := by rw [hw'']; exact (Kept.refl (fun k => k = h) w').setCell (p := ⟨h, 6, none⟩) rfl _
  have s2 : w''.heap.size = w'.heap.size := by rw [hw'']; simp [World.setCell]
  have kall : Kept (fun k => lg.ownBlock = some k ∨ k = h) w w'' := (kp.mono (fun k e => .inl e)).trans (k2.mono (fun k e => .inr e))
  have ne : ∀ {ty : TypeId}, ty ≠ 126 → ty ≠ 104 → ∀ (b : Nat) (vs : List Value), Blk w b ty vs → ¬ (lg.ownBlock = some b ∨ b = h) := fun h1 h2 b vs hbb e => by
    rcases e with e | e
    · exact blk_ne hbb (hb b e) h1 rfl
    · exact blk_ne hbb x.blk h2 e
  have bh : Blk w'' h 104 (hostC (s.logged t) gl gm v') := by
    have := (x.blk.block (km h x.blk.lt nh)).set 6 v'
    rw [← hw''] at this
    exact this
  have hv' : ∀ g, v'.ownBlock = some g → more M w w'' g ∧ g ≠ h := fun g hg2 => by
    rcases hat with e | e
    · rw [e] at hg2
      exact ⟨.inl (x.log.foot g hg2), fun e2 => nh (e2 ▸ hg2)⟩
    · rw [e] at hg2
      have : w0.heap.size = g := Option.some.inj hg2
      have h3 := (hown.lt g (by rw [e]; exact hg2)).2
      refine ⟨.inr ⟨by omega, by omega⟩, fun e2 => ?_⟩
      have := x.blk.lt; omega
  have hown2 : w''.ownsRow 0 126 15 v' (s.log.length + 1) ((s.log ++ [t]).flatMap tcC) := by
    refine ⟨by rw [List.flatMap_append]; simpa using hown.1, ?_⟩
    have e3 : (s.log ++ [t]).flatMap tcC = s.log.flatMap tcC ++ tcC t := by simp [List.flatMap_append]
    rw [e3]
    rcases hown.2 with h2 | ⟨g, cap, cur, hv, hg0, hh, r⟩
    · exact .inl h2
    · exact .inr ⟨g, cap, cur, hv, hg0, by rw [k2.block g (lt_of_block hh) (hv' g (by rw [hv]; rfl)).2]; exact hh, r⟩
  have mono : ∀ k, M k → more M w w'' k := fun k hk => .inl hk
  refine ⟨⟨⟨x.good.size, x.good.pages, x.good.depth, x.good.reg, x.good.ops, by show (s.log ++ [t]).length ≤ s.ops; simp; omega, x.good.laid, x.good.len⟩, bh, x.lot.kept kall (ne (by decide) (by decide) _ _ x.lot), x.cnt, .inl x.mh, .inl x.ml, .inl x.mm, ownsMap_same x.map (kall.block _ x.map.lt (fun e => ?_)), fun k => com_mono (com_kept (x.com k) kall (ne (by decide) (by decide))) mono, ⟨?_, ?_, fun g hg2 => (hv' g hg2).1⟩, fun p hp => (row_kept (x.row p hp) kall (fun b hbb => ?_) (ne (by decide) (by decide))).mono mono, x.apart, fun k hk => ?_⟩, kall.mono (fun k e => ?_)⟩
  · rcases e with e | e
    · exact map_ne x.map (hb _ e) rfl
    · exact map_ne x.map x.blk e.symm
  · intro t' ht'
    rcases List.mem_append.1 ht' with h1 | h1
    · exact x.log.good t' h1
    · simp at h1; subst h1; exact ht
  · have e4 : (s.logged t).log.length = s.log.length + 1 := by simp [HSt.logged]
    rw [e4]; exact hown2
  · obtain ⟨vs, hv⟩ := (x.row p hp).isBlk hbb
    exact ne (by decide) (by decide) _ _ hv
  · rcases hk with hk | hk
    · have := x.all k hk; have := kall.size; omega
    · exact hk.2
  · rcases e with e | e
    · exact x.log.foot k e
    · subst e; exact x.mh
end Go.Proofs.YtfhieacclifihaaGreat
namespace Go.Proofs.YtfhieacclifihaaGreat
open Go.RowKit
set_option linter.unusedVariables false
set_option linter.unusedSimpArgs false

/-- What an operation does, s2: the host behind what is done of it, ahead of the log. -/
def OpPost (M C : Nat → Prop) (h : Nat) (s s2 : HSt) (t : Tc) (Post : (Nat → Prop) → World → Prop) (w : World) (e : Ending) (w' : World) : Prop :=
  ((s.down = true ∧ e = .returned (.int .i64 110) ∧ HostAt w' M h s ∨ s.down = false ∧ s.pow = 1 ∧ e = .returned (.int .i64 110) ∧ HostAt w' M h s.next) ∧ Kept M w w') ∨
   (s.down = false ∧ s.pow ≠ 1 ∧ e = .returned (.int .i64 (if s.pow = 2 then 110 else 0)) ∧ ∃ M2, HostAt w' M2 h (s2.logged t) ∧ (∀ k, M k → M2 k) ∧ (∀ k, M2 k → M k ∨ w.heap.size ≤ k) ∧ Kept (fun k => M k ∨ C k) w w' ∧ Post M2 w')
theorem own_slice {w : World} {base : Nat} {e : TypeId} {size n : Nat} {v : Value} {xs : List Value} (h : w.ownsRow base e size v n xs) : ∃ a m c, v = .slice a m c := by
  rcases h.2 with ⟨rfl, _⟩ | ⟨g, cap, cur, rfl, _⟩
  · exact ⟨_, _, _, rfl⟩
  · exact ⟨_, _, _, rfl⟩
theorem fl_not_host {w : World} {h : Nat} {s : HSt} {gl gm : Nat} {lg : Value} (b : Blk w h 104 (hostC s gl gm lg)) {o : Nat} {f : Fl} (hr : w.rangeAt h o (flC f)) : False := by
  have r0 := hr 0 (.int .i64 f.a) rfl
  have r1 := hr 1 (.int .i64 f.k) rfl
  have r2 := hr 2 (.int .i64 f.p) rfl
  have r3 := hr 3 (.int .i64 f.b) rfl
  rw [b.cell] at r0 r1 r2 r3
  match o, r0, r1, r2, r3 with
  | 0, _, r1, _, _ => simp [hostC] at r1
  | 1, r0, _, _, _ => simp [hostC] at r0
  | 2, _, r1, _, _ => simp [hostC] at r1
  | 3, r0, _, _, _ => simp [hostC] at r0
  | 4, r0, _, _, _ => simp [hostC] at r0
  | 5, _, _, r2, _ => simp [hostC] at r2
  | 6, _, r1, _, _ => simp [hostC] at r1
  | 7, r0, _, _, _ => simp [hostC] at r0
  | (n + 8), r0, _, _, _ => simp [hostC] at r0
set_option maxRecDepth 20000 in
set_option maxHeartbeats 2000000 in
theorem operate_any (h : Nat) (s s2 : HSt) (t : Tc) (ht : t.Good) (F : Nat) (caps : Array Value) (hent : ∀ args w, (callFunc F args).run Tryz.prog w = .ok (.enter F args) w) (M C : Nat → Prop) (Post : (Nat → Prop) → World → Prop) (w : World) (x : HostAt w M h s) (hops : s.ops < 3000000000000) (hC : ∀ k, C k → k < w.heap.size)
    (hdr : ∀ M2 (W : World), Post M2 W → Post M2 { W with drawn := W.drawn + 1 }) (hst : ∀ M2 W W', Post M2 W → (∀ k, M2 k → k < W.heap.size) → Kept M2 W W' → Post (more M2 W W') W')
    (h2 : s2.ops = s.ops + 1 ∧ s2.log = s.log)
    (HD : s.down = false → s.pow ≠ 1 → ∀ W fv, HostAt W M h s.next → FlS W M fv (s.coming s.ops) → Kept M w W → Calls Tryz.prog F (#[fv] ++ caps) W fun e W' => e = .returned (.tuple #[]) ∧ ∃ M2, HostAt W' M2 h s2 ∧ (∀ k, M k → M2 k) ∧ (∀ k, M2 k → M k ∨ W.heap.size ≤ k) ∧ Kept (fun k => M k ∨ C k) W W' ∧ Post M2 W') :
    Calls Tryz.prog 173 #[.pointer (some ⟨h, 0, none⟩), .agg (tcC t).toArray, .func (.func F) #[] caps] w (OpPost M C h s s2 t Post w) := by
  obtain ⟨gl, gm, lg0, rws, n, D, x⟩ := x
  have X : Hid (HostIn w M h s gl gm lg0 rws n D ∧ s.ops < 3000000000000) := ⟨x, hops⟩
  have hh := x.blk.lt
  have hnw : w.heap.size ≠ h := by omega
  cases hd : s.down
  · -- the power is there
    have CB := fun W (y : HostIn W M h s gl gm lg0 rws n D) => bef_any h s M gl gm lg0 rws n D W y
    obtain ⟨fv, hfv⟩ : ∃ q, lookV D s.ops = q := ⟨_, rfl⟩
    rw [hfv] at CB
    obtain ⟨pw, hpw⟩ : ∃ q, s.pow = q := ⟨_, rfl⟩
    have CP := fun W (y : FlS W M fv (s.coming s.ops)) => power_any fv (s.coming s.ops) M W y
    rw [show powL (s.coming s.ops) = pw from hpw] at CP
    have HP : Hid (s.pow = pw) := hpw
    have HCB : Hid (∀ W, HostIn W M h s gl gm lg0 rws n D → Calls Tryz.prog 180 #[.pointer (some ⟨h, 0, none⟩)] W fun e w' => e = .returned fv ∧ HostIn w' M h s.past gl gm lg0 rws n (D.del (.int .i64 s.ops)) ∧ FlS w' M fv (s.coming s.ops) ∧ Kept (fun k => k = gm) W w') := CB
    have HCP : Hid (∀ W, FlS W M fv (s.coming s.ops) → Calls Tryz.prog 181 #[fv] W fun e w' => e = .returned (.int .i64 pw) ∧ Below W.heap.size W w') := CP
    have hop := x.good.ops
    obtain ⟨dn, hdn⟩ : ∃ q, (pw != 0) = q := ⟨_, rfl⟩
    have HDN : Hid (dn = decide (s.pow ≠ 0)) := by
      have : dn = decide (s.pow ≠ 0) := by rw [hpw, ← hdn]; by_cases e : pw = 0 <;> simp [e]
      exact this
    have hpc : pw = 0 ∨ pw = 1 ∨ pw = 2 := by rw [← hpw]; exact powL_cases _
    have HD' : Hid (s.pow ≠ 1 → ∀ W fv, HostAt W M h s.next → FlS W M fv (s.coming s.ops) → Kept M w W → Calls Tryz.prog F (#[fv] ++ caps) W fun e W' => e = .returned (.tuple #[]) ∧ ∃ M2, HostAt W' M2 h s2 ∧ (∀ k, M k → M2 k) ∧ (∀ k, M2 k → M k ∨ W.heap.size ≤ k) ∧ Kept (fun k => M k ∨ C k) W W' ∧ Post M2 W') := HD hd
    have HH : Hid (s.down = false ∧ (∀ k, C k → k < w.heap.size) ∧ s2.ops = s.ops + 1 ∧ s2.log = s.log) := ⟨hd, hC, h2⟩
    -- the states on the way
    have N : Hid (∀ w1 w2 w3, Below w.heap.size w w1 → Kept (fun k => k = gm) w1 w2 → Below w2.heap.size w2 w3 → HostIn w2 M h s.past gl gm lg0 rws n (D.del (.int .i64 s.ops)) → FlS w2 M fv (s.coming s.ops) → HostIn w3 M h s.past gl gm lg0 rws n (D.del (.int .i64 s.ops)) ∧ FlS w3 M fv (s.coming s.ops) ∧ Kept M w w3) := fun w1 w2 w3 l1 k2 l3 x2 f2 =>
      ⟨x2.later l3, f2.frame (Same.below l3 x2.all), ((Kept.new M l1).trans (k2.mono (fun k e => by rw [e]; exact X.out.1.mm))).trans (Kept.new M l3)⟩
    clear CB CP hfv HD hC h2 hd hops hpw x
    by_cases h1 : pw = 1
    · have q1 : (pw == 1) = true := by simp [h1]
      have HQ : Hid (pw = 1) := h1
      clear h1 hpc
      go_enter Tryz.func173, Tryz.ntmps173
      go_wp2_with (first | (refine wpList_box_new rfl 126 _ rfl (tcC t) rfl ?_; intro w1 b1 s1 l1; have z1 : Hid (w1.heap.size = w.heap.size + 1) := s1; clear s1; have c7 : w1.cell? ⟨h, 7, none⟩ = some (.bool false) := by { rw [← HH.out.1]; exact (X.out.1.later l1).blk.cell 7 }) | (go_at_call 180; refine (HCB.out w1 (X.out.1.later l1)).mono ?_; rintro e w2 ⟨rfl, x2, f2, k2⟩) | (go_at_call 181; refine (HCP.out w2 f2).mono ?_; rintro e w3 ⟨rfl, l3⟩; obtain ⟨x3, f3, k3⟩ := N.out w1 w2 w3 l1 k2 l3 x2 f2; have c5 : w3.cell? ⟨h, 5, none⟩ = some (.int .i64 s.ops) := x3.blk.cell 5; have g5 : w3.frozen? ⟨h, 5, none⟩ = false := x3.blk.frozen 5; have d7 : w3.cell? ⟨h, 7, none⟩ = some (.bool s.down) := x3.blk.cell 7; have g7 : w3.frozen? ⟨h, 7, none⟩ = false := x3.blk.frozen 7; have T3 : Hid (Blk w3 w.heap.size 126 (tcC t) ∧ HostIn w3 M h s.past gl gm lg0 rws n (D.del (.int .i64 s.ops)) ∧ FlS w3 M fv (s.coming s.ops) ∧ Kept M w w3 ∧ w.heap.size < w3.heap.size) := ⟨(b1.kept k2 (map_ne (X.out.1.later l1).map b1)).later l3 (b1.kept k2 (map_ne (X.out.1.later l1).map b1)).lt, x3, f3, k3, by { have := z1.out; have := k2.size; have := l3.size; omega }⟩; clear x2 f2 k2 l3 x3 f3 k3 b1 l1 z1))
      go_ret
      obtain ⟨y, ky⟩ := T3.out.2.1.nexted (s := s) X.out.2 (.bool dn) (by rw [HDN.out]) rfl
      exact .inl ⟨.inr ⟨HH.out.1, by rw [HP.out]; exact HQ.out, rfl, y.at⟩, T3.out.2.2.2.1.trans (ky.mono (fun k e => by rw [e]; exact X.out.1.mh))⟩
    · have q1 : (pw == 1) = false := by simp [h1]
      have HQ : Hid (pw ≠ 1 ∧ (pw = 0 ∨ pw = 2)) := ⟨h1, by omega⟩
      clear h1 hpc
      go_enter Tryz.func173, Tryz.ntmps173
      go_wp2_with (first | (refine wpList_box_new rfl 126 _ rfl (tcC t) rfl ?_; intro w1 b1 s1 l1; have z1 : Hid (w1.heap.size = w.heap.size + 1) := s1; clear s1; have c7 : w1.cell? ⟨h, 7, none⟩ = some (.bool false) := by { rw [← HH.out.1]; exact (X.out.1.later l1).blk.cell 7 }) | (go_at_call 180; refine (HCB.out w1 (X.out.1.later l1)).mono ?_; rintro e w2 ⟨rfl, x2, f2, k2⟩) | (go_at_call 181; refine (HCP.out w2 f2).mono ?_; rintro e w3 ⟨rfl, l3⟩; obtain ⟨x3, f3, k3⟩ := N.out w1 w2 w3 l1 k2 l3 x2 f2; have c5 : w3.cell? ⟨h, 5, none⟩ = some (.int .i64 s.ops) := x3.blk.cell 5; have g5 : w3.frozen? ⟨h, 5, none⟩ = false := x3.blk.frozen 5; have d7 : w3.cell? ⟨h, 7, none⟩ = some (.bool s.down) := x3.blk.cell 7; have g7 : w3.frozen? ⟨h, 7, none⟩ = false := x3.blk.frozen 7; have T3 : Hid (Blk w3 w.heap.size 126 (tcC t) ∧ HostIn w3 M h s.past gl gm lg0 rws n (D.del (.int .i64 s.ops)) ∧ FlS w3 M fv (s.coming s.ops) ∧ Kept M w w3 ∧ w.heap.size < w3.heap.size) := ⟨(b1.kept k2 (map_ne (X.out.1.later l1).map b1)).later l3 (b1.kept k2 (map_ne (X.out.1.later l1).map b1)).lt, x3, f3, k3, by { have := z1.out; have := k2.size; have := l3.size; omega }⟩; clear x2 f2 k2 l3 x3 f3 k3 b1 l1 z1))
      obtain ⟨w5, hw5⟩ : ∃ q, (w3.setCell ⟨h, 5, none⟩ (.int .i64 ((s.ops : Int) + 1))).setCell ⟨h, 7, none⟩ (.bool dn) = q := ⟨_, rfl⟩
      rw [hw5]
      have T5 : Hid (HostIn w5 M h s.next gl gm lg0 rws n (D.del (.int .i64 s.ops)) ∧ FlS w5 M fv (s.coming s.ops) ∧ Kept M w w5 ∧ Blk w5 w.heap.size 126 (tcC t) ∧ w.heap.size < w5.heap.size) := by
        obtain ⟨y, ky⟩ := T3.out.2.1.nexted (s := s) X.out.2 (.bool dn) (by rw [HDN.out]) hw5.symm
        refine ⟨y, ?_, T3.out.2.2.2.1.trans (ky.mono (fun k e => by rw [e]; exact X.out.1.mh)), T3.out.1.kept ky hnw, by have := T3.out.2.2.2.2; have := ky.size; omega⟩
        have cm := y.com
        obtain ⟨tp, gd, ao, c, e, hx⟩ := T3.out.2.2.1
        refine ⟨tp, gd, ao, c, e, fun i hi => ?_⟩
        obtain ⟨b, o, e1, hb, hM, hr⟩ := hx i hi
        refine ⟨b, o, e1, Nat.lt_of_lt_of_le hb ky.size, hM, rangeAt_same hr (ky.block b hb (fun e2 => ?_))⟩
        subst e2
        exact fl_not_host T3.out.2.1.blk hr
      refine (HD'.out (by rw [HP.out]; exact HQ.out.1) w5 fv T5.out.1.at T5.out.2.1 T5.out.2.2.1).mono ?_
      rintro e w6 ⟨rfl, M2, x6, m6, n6, k6, p6⟩
      obtain ⟨gl2, gm2, lg, rws2, n2, D2, x6⟩ := x6
      have hMw : ∀ k, M k → k < w.heap.size := X.out.1.all
      have L6 : Hid (w6.cell? ⟨h, 6, none⟩ = some lg ∧ w6.rangeAt w.heap.size 0 (tcC t) ∧ HostIn w6 M2 h s2 gl2 gm2 lg rws2 n2 D2 ∧ Kept (fun k => M k ∨ C k) w w6 ∧ Post M2 w6) := by
        refine ⟨x6.blk.cell 6, ?_, x6, (T5.out.2.2.1.mono (fun k e => .inl e)).trans k6, p6⟩
        have b6 := T5.out.2.2.2.1.kept k6 (fun e => by
          rcases e with e | e
          · have := hMw _ e; omega
          · have := HH.out.2.1 _ e; omega)
        intro j v hv
        rw [Nat.zero_add, b6.cell]; exact hv
      have TB6 : Hid (w.heap.size < w6.heap.size ∧ ¬ M2 w.heap.size ∧ (∀ k, M k → M2 k) ∧ (∀ k, M2 k → M k ∨ w5.heap.size ≤ k) ∧ w5.heap.size ≤ w6.heap.size) := ⟨by have := T5.out.2.2.2.2; have := k6.size; omega, fun e => by
        rcases n6 _ e with e | e
        · have := hMw _ e; omega
        · have := T5.out.2.2.2.2; omega, m6, n6, k6.size⟩
      have LG : Hid (s2.log.length < s2.ops) := by
        have := X.out.1.good.log
        have q : s2.log.length < s2.ops := by rw [HH.out.2.2.1, HH.out.2.2.2]; omega
        exact q
      have HM : Hid (∀ k, M k → k < w.heap.size) := hMw
      clear x6 m6 n6 k6 p6 hw5 hMw
      go_wp2_with fail
      refine wp_region_noPanic (till_region 10 (fun W => W.cell? ⟨h, 6, none⟩ = some lg ∧ W.rangeAt w.heap.size 0 (tcC t)) (by kernel_rfl) ?_)
      have hS : (fun W : World => W.cell? ⟨h, 6, none⟩ = some lg ∧ W.rangeAt w.heap.size 0 (tcC t)) { w6 with drawn := w6.drawn + 1 } := ⟨L6.out.1, L6.out.2.1⟩
      obtain ⟨w7, hw7⟩ : ∃ q, ({ w6 with drawn := w6.drawn + 1 } : World) = q := ⟨_, rfl⟩
      have TB : Hid (w.heap.size < w7.heap.size ∧ ¬ M2 w.heap.size) := by { rw [← hw7]; exact ⟨TB6.out.1, TB6.out.2.1⟩ }
      have L7 : Hid (HostIn w7 M2 h s2 gl2 gm2 lg rws2 n2 D2 ∧ Kept (fun k => M k ∨ C k) w w7 ∧ Post M2 w7 ∧ w7.heap.size = w6.heap.size) := by subst hw7; exact ⟨L6.out.2.2.1.frame ⟨Nat.le_refl _, fun _ _ => rfl⟩, ⟨L6.out.2.2.2.1.os, L6.out.2.2.2.1.tape, L6.out.2.2.2.1.output, L6.out.2.2.2.1.size, L6.out.2.2.2.1.block⟩, hdr M2 w6 L6.out.2.2.2.2, rfl⟩
      rw [hw7] at hS ⊢
      clear hw7
      refine tTake 0 (some 34) (.pointer (some ⟨h, 0, none⟩)) rfl rfl (by kernel_rfl) (by kernel_rfl) (by kernel_rfl) (by decide) (fun _ _ _ h => h) (by rfl) (fun W' => by go_simp) hS ?_
      simp only [Act.put, List.setIfInBounds_toArray, List.set_cons_zero, List.set_cons_succ]
      refine tTake 1 (some 35) (.pointer (some ⟨h, 0, none⟩)) rfl rfl (by kernel_rfl) (by kernel_rfl) (by kernel_rfl) (by decide) (fun _ _ _ h => h) (by rfl) (fun W' => by go_simp) hS ?_
      simp only [Act.put, List.setIfInBounds_toArray, List.set_cons_zero, List.set_cons_succ]
      refine tTake 2 (some 36) (.pointer (some ⟨h, 0, none⟩)) rfl rfl (by kernel_rfl) (by kernel_rfl) (by kernel_rfl) (by decide) (fun _ _ _ h => h) (by rfl) (fun W' => by go_simp) hS ?_
      simp only [Act.put, List.setIfInBounds_toArray, List.set_cons_zero, List.set_cons_succ]
      refine tTake 3 (some 37) (.pointer (some ⟨h, 6, none⟩)) rfl rfl (by kernel_rfl) (by kernel_rfl) (by kernel_rfl) (by decide) (fun _ _ _ h => h) (by rfl) (fun W' => by go_simp) hS ?_
      simp only [Act.put, List.setIfInBounds_toArray, List.set_cons_zero, List.set_cons_succ]
      refine tLoad 4 (some 38) lg rfl rfl (by kernel_rfl) (by kernel_rfl) (by kernel_rfl) (by decide) (by kernel_rfl) (by kernel_rfl) (fun _ _ _ h => h) (by rfl) (fun W' hS' => by have hc := hS'.1; go_simp) hS ?_
      simp only [Act.put, List.setIfInBounds_toArray, List.set_cons_zero, List.set_cons_succ]
      refine tLoadMid 5 (some 39) (tcC t) rfl rfl (by kernel_rfl) (by kernel_rfl) (by kernel_rfl) (by decide) (by kernel_rfl) (by kernel_rfl) (fun _ _ _ h => h) (by rfl) 126 (.tmp 4) rfl w.heap.size 0 rfl _ (fun _ h => h.2) Tryz.underlying126 rfl (sizeTc ht) hS ?_
      simp only [Act.put, List.setIfInBounds_toArray, List.set_cons_zero, List.set_cons_succ]
      obtain ⟨v8, w8, hr8, k8, e8, l8, o8, f8⟩ := L7.out.1.log_more t ht LG.out
      have hS8 : (fun W : World => W.cell? ⟨h, 6, none⟩ = some lg ∧ W.rangeAt w.heap.size 0 (tcC t)) w8 := ⟨(World.cell?_of_block (w := w7) (a := ⟨h, 6, none⟩) e8).trans hS.1, rangeAt_same hS.2 (o8 _ TB.out.1 TB.out.2)⟩
      have hS7 : (fun W : World => W.cell? ⟨h, 6, none⟩ = some lg ∧ W.rangeAt w.heap.size 0 (tcC t)) (w7.alloc (.cells (tcC t).toArray 126)) := ⟨(World.cell?_of_block (w := w7) (a := ⟨h, 6, none⟩) (Below.heap_alloc w7 _ h L7.out.1.blk.lt)).trans hS.1, rangeAt_same hS.2 (Below.heap_alloc w7 _ _ TB.out.1)⟩
      refine till_run 6 (some 40) (.slice (some ⟨w7.heap.size, 0, none⟩) 1 1) (w7.alloc (.cells (tcC t).toArray 126)) (by kernel_rfl) rfl rfl (by rfl) (exec_build 49 1 _ rfl #[(0, .agg (tcC t).toArray)] (by simp [Act.eval]) (build1_tc t ht w7)) hS7 ?_
      simp only [Act.put, List.setIfInBounds_toArray, List.set_cons_zero, List.set_cons_succ]
      refine till_run 7 (some 41) v8 w8 (by kernel_rfl) rfl rfl (by rfl) (exec_append (.tmp 38) (.tmp 40) 49 49 rfl rfl lg (.slice (some ⟨w7.heap.size, 0, none⟩) 1 1) rfl rfl hr8) hS8 ?_
      simp only [Act.put, List.setIfInBounds_toArray, List.set_cons_zero, List.set_cons_succ]
      clear hS hS7
      have hS := hS8
      refine tTake 8 (some 42) (.pointer (some ⟨h, 0, none⟩)) rfl rfl (by kernel_rfl) (by kernel_rfl) (by kernel_rfl) (by decide) (fun _ _ _ h => h) (by rfl) (fun W' => by go_simp) hS ?_
      simp only [Act.put, List.setIfInBounds_toArray, List.set_cons_zero, List.set_cons_succ]
      refine tTake 9 (some 43) (.pointer (some ⟨h, 6, none⟩)) rfl rfl (by kernel_rfl) (by kernel_rfl) (by kernel_rfl) (by decide) (fun _ _ _ h => h) (by rfl) (fun W' => by go_simp) hS ?_
      simp only [Act.put, List.setIfInBounds_toArray, List.set_cons_zero, List.set_cons_succ]
      have c8 := hS.1
      have g8 : w8.frozen? ⟨h, 6, none⟩ = false := (World.frozen?_of_block (w := w7) (a := ⟨h, 6, none⟩) e8).trans (L7.out.1.blk.frozen 6)
      have F8 : Hid (HostIn (w8.setCell ⟨h, 6, none⟩ v8) (more M2 w7 (w8.setCell ⟨h, 6, none⟩ v8)) h (s2.logged t) gl2 gm2 v8 rws2 n2 D2 ∧ Kept M2 w7 (w8.setCell ⟨h, 6, none⟩ v8)) := f8 _ rfl
      clear hS hS8 f8 k8 o8 hr8
      obtain ⟨vo, vn, vc, rfl⟩ := own_slice F8.out.1.log.own
      refine till_at (by kernel_rfl) ?_
      refine wpAny_ready (rs := [10]) (by kernel_rfl) (by simp) (AllReady.cons rfl (fun K hK => ?_) AllReady.nil)
      go_simp
      refine hK _ _ ?_
      clear hK K
      refine wpAny_done (by kernel_rfl) (NoPanic.normal ?_) _
      have FIN : Hid (∃ M3, HostAt (w8.setCell ⟨h, 6, none⟩ (.slice vo vn vc)) M3 h (s2.logged t) ∧ (∀ k, M k → M3 k) ∧ (∀ k, M3 k → M k ∨ w.heap.size ≤ k) ∧ Kept (fun k => M k ∨ C k) w (w8.setCell ⟨h, 6, none⟩ (.slice vo vn vc)) ∧ Post M3 (w8.setCell ⟨h, 6, none⟩ (.slice vo vn vc))) := by
        obtain ⟨q1, q2⟩ := F8.out
        refine ⟨_, q1.at, fun k hk => .inl (TB6.out.2.2.1 k hk), fun k hk => ?_, ?_, hst M2 w7 _ L7.out.2.2.1 L7.out.1.all q2⟩
        · have := T5.out.2.2.2.2
          have := TB6.out.2.2.2.2
          have := L7.out.2.2.2
          rcases hk with hk | hk
          · rcases TB6.out.2.2.2.1 k hk with h3 | h3
            · exact .inl h3
            · exact .inr (by omega)
          · exact .inr (by omega)
        · have k7 := L7.out.2.1
          have := T5.out.2.2.2.2
          have := k7.size
          refine ⟨q2.os.trans k7.os, q2.tape.trans k7.tape, q2.output.trans k7.output, Nat.le_trans k7.size q2.size, fun k hk hS => (q2.block k (by omega) (fun hm => ?_)).trans (k7.block k hk hS)⟩
          rcases TB6.out.2.2.2.1 k hm with h3 | h3
          · exact hS (.inl h3)
          · omega
      clear F8 L7 c8 g8 e8 l8
      rcases HQ.out.2 with h0 | h0
      · have q2 : (pw == 2) = false := by simp [h0]
        have HR : Hid ((if s.pow = 2 then (110 : Int) else 0) = 0) := if_neg (by rw [HP.out]; omega)
        clear h0
        go_wp2_with fail
        go_ret
        exact .inr ⟨HH.out.1, by rw [HP.out]; exact HQ.out.1, by rw [HR.out]; rfl, FIN.out⟩
      · have q2 : (pw == 2) = true := by simp [h0]
        have HR : Hid ((if s.pow = 2 then (110 : Int) else 0) = 110) := if_pos (by rw [HP.out]; omega)
        clear h0
        go_wp2_with fail
        go_ret
        exact .inr ⟨HH.out.1, by rw [HP.out]; exact HQ.out.1, by rw [HR.out]; rfl, FIN.out⟩
  · have HH : Hid (s.down = true) := hd
    clear HD hst hdr x
    go_enter Tryz.func173, Tryz.ntmps173
    go_wp2_with (first | (refine wpList_box_new rfl 126 _ rfl (tcC t) rfl ?_; intro w1 b1 s1 l1; have c7 : w1.cell? ⟨h, 7, none⟩ = some (.bool true) := by { rw [← HH.out]; exact (X.out.1.later l1).blk.cell 7 }))
    go_ret
    exact .inl ⟨.inl ⟨HH.out, rfl, (X.out.1.later l1).at⟩, Kept.new _ l1⟩
end Go.Proofs.YtfhieacclifihaaGreat
namespace Go.Proofs.YtfhieacclifihaaGreat
open Go.RowKit
set_option linter.unusedVariables false
set_option linter.unusedSimpArgs false

/-- A new variable that holds a value of one cell. -/
theorem wpList_boxV {ops : Array Oper} {rest : List Oper} {o : Oper} {a : Act} {Q : Exit → Act → World → Prop} {w : World} (hgd : o.guard = none) (t : TypeId) (x : Operand) (ho : o.op = .box t x) (v : Value) (hx : a.eval x = v) (hv : v.cells = #[v])
    (h : ∀ w', Blk w' w.heap.size t [v] → w'.heap.size = w.heap.size + 1 → Below w.heap.size w w' → wpList Tryz.prog ops Q rest (a.put o.dst (.pointer (some ⟨w.heap.size, 0, none⟩))) w') : wpList Tryz.prog ops Q (o :: rest) a w := by
  refine wpList_plain hgd fun K hK => ?_
  unfold Oper.wp execOp
  simp only [ho, hx, Sem.run_bind, Instr.box, hv, newVar, newRow, run_newObj_alloc, Sem.run_pure, Result.andThen_ok]
  exact hK _ _ (h _ (heap_alloc_new w _) (by simp) ((Below.refl _ _).alloc (Nat.le_refl _) _))
def HSt.opE (s : HSt) : Int := if s.down = true ∨ s.pow = 1 ∨ s.pow = 2 then 110 else 0
def HSt.opS (s : HSt) (f : HSt → HSt) (t : Tc) : HSt := if s.down = true then s else if s.pow = 1 then s.next else (f s.next).logged t
def HSt.done (s : HSt) : Prop := s.down = false ∧ s.pow ≠ 1
/-- The footprint grows by new blocks alone; nothing else is written. -/
structure Goes (M M2 : Nat → Prop) (w w' : World) : Prop where
  sub : ∀ k, M k → M2 k
  new : ∀ k, M2 k → M k ∨ w.heap.size ≤ k
  kept : Kept M w w'
theorem Goes.later {M M2 : Nat → Prop} {w w1 w' : World} (hb : Below w.heap.size w w1) (h : Goes M M2 w1 w') : Goes M M2 w w' :=
  ⟨h.sub, fun k hk => (h.new k hk).imp id (fun x => Nat.le_trans hb.size x), (Kept.new M hb).trans h.kept⟩
theorem opE_eq (s : HSt) : s.opE = 0 ∨ s.opE = 110 := by unfold HSt.opE; split <;> simp
theorem operate_all (h : Nat) (s : HSt) (f : HSt → HSt) (t : Tc) (ht : t.Good) (F : Nat) (caps : Array Value) (hent : ∀ args w, (callFunc F args).run Tryz.prog w = .ok (.enter F args) w) (M C : Nat → Prop) (Post : (Nat → Prop) → World → Prop) (w : World) (x : HostAt w M h s) (hops : s.ops < 3000000000000) (hC : ∀ k, C k → k < w.heap.size)
    (hdr : ∀ M2 (W : World), Post M2 W → Post M2 { W with drawn := W.drawn + 1 }) (hst : ∀ M2 W W', Post M2 W → (∀ k, M2 k → k < W.heap.size) → Kept M2 W W' → Post (more M2 W W') W')
    (h2 : (f s.next).ops = s.ops + 1 ∧ (f s.next).log = s.log)
    (HD : s.done → ∀ W fv, HostAt W M h s.next → FlS W M fv (s.coming s.ops) → Kept M w W → Calls Tryz.prog F (#[fv] ++ caps) W fun e W' => e = .returned (.tuple #[]) ∧ ∃ M2, HostAt W' M2 h (f s.next) ∧ (∀ k, M k → M2 k) ∧ (∀ k, M2 k → M k ∨ W.heap.size ≤ k) ∧ Kept (fun k => M k ∨ C k) W W' ∧ Post M2 W') :
    Calls Tryz.prog 173 #[.pointer (some ⟨h, 0, none⟩), .agg (tcC t).toArray, .func (.func F) #[] caps] w fun e w' => e = .returned (.int .i64 s.opE) ∧ ∃ M2, HostAt w' M2 h (s.opS f t) ∧ (∀ k, M k → M2 k) ∧ (∀ k, M2 k → M k ∨ w.heap.size ≤ k) ∧ Kept (fun k => M k ∨ C k) w w' ∧ (s.done → Post M2 w') := by
  refine (operate_any h s (f s.next) t ht F caps hent M C Post w x hops hC hdr hst h2 (fun h1 h3 => HD ⟨h1, h3⟩)).mono ?_
  rintro e w' (⟨⟨h1, rfl, y⟩ | ⟨h1, h3, rfl, y⟩, k⟩ | ⟨h1, h3, rfl, M2, y, m1, m2, k, p⟩)
  · refine ⟨by rw [HSt.opE, if_pos (.inl h1)], M, by rw [HSt.opS, if_pos h1]; exact y, fun _ h => h, fun _ h => .inl h, k.mono (fun _ h => .inl h), fun hd => ?_⟩
    rw [hd.1] at h1; cases h1
  · exact ⟨by rw [HSt.opE, if_pos (.inr (.inl h3))], M, by rw [HSt.opS, if_neg (by rw [h1]; simp), if_pos h3]; exact y, fun _ h => h, fun _ h => .inl h, k.mono (fun _ h => .inl h), fun hd => absurd h3 hd.2⟩
  · refine ⟨?_, M2, by rw [HSt.opS, if_neg (by rw [h1]; simp), if_neg h3]; exact y, m1, m2, k, fun _ => p⟩
    unfold HSt.opE
    by_cases e : s.pow = 2
    · rw [if_pos e, if_pos (.inr (.inr e))]
    · rw [if_neg e, if_neg (by rw [h1]; simp; exact ⟨h3, e⟩)]
end Go.Proofs.YtfhieacclifihaaGreat
namespace Go.Proofs.YtfhieacclifihaaGreat
open Go.RowKit
set_option linter.unusedVariables false
set_option linter.unusedSimpArgs false

theorem clone_row {w w' : World} {v : Value} {n : Nat} {zs : List Int} (hl : zs.length = n) (hn : 1 ≤ n) (h : w'.ownsRow w.heap.size 5 1 v n (zs.map (Value.int .u8))) : ∃ g cap, v = .slice (some ⟨g, 0, none⟩) n cap ∧ RowAt w' g zs ∧ w.heap.size ≤ g := by
  rcases own_len hl h with ⟨_, e⟩ | ⟨g, cap, rfl, hr, hg, _⟩
  · omega
  · exact ⟨g, cap, rfl, hr, hg⟩
theorem HostIn.wider {w : World} {M : Nat → Prop} {h : Nat} {s : HSt} {gl gm : Nat} {lg : Value} {rws : List Value} {n : Nat} {D : DataW Value} (x : HostIn w M h s gl gm lg rws n D) (g : Nat) (hg : g < w.heap.size) : HostIn w (fun k => M k ∨ k = g) h s gl gm lg rws n D :=
  ⟨x.good, x.blk, x.lot, x.cnt, .inl x.mh, .inl x.ml, .inl x.mm, x.map, fun k => com_mono (x.com k) (fun _ h => .inl h), x.log.mono (fun _ h => .inl h), fun p hp => (x.row p hp).mono (fun _ h => .inl h), x.apart, fun k hk => by
    rcases hk with hk | rfl
    · exact x.all k hk
    · exact hg⟩
theorem enter_write : ∀ args w, (callFunc 177 args).run Tryz.prog w = .ok (.enter 177 args) w := fun args w => by kernel_rfl
set_option maxRecDepth 20000 in
set_option maxHeartbeats 1000000 in
theorem write1_any (h : Nat) (s : HSt) (p : Nat) (hp : p < s.pages) (ao : Option Addr) (c : Nat) (zs : List Int) (hr : (s.laid p).length < s.ops) (fv : Value) (bh bp bb : Nat) (M : Nat → Prop) (w : World) (x : HostAt w M h s) (b1 : Blk w bh 31 [.pointer (some ⟨h, 0, none⟩)]) (b2 : Blk w bp 3 [.int .i64 p]) (b3 : Blk w bb 66 [.slice ao s.size c]) (hx : Seen w ao s.size zs) :
    Calls Tryz.prog 177 #[fv, .pointer (some ⟨bh, 0, none⟩), .pointer (some ⟨bp, 0, none⟩), .pointer (some ⟨bb, 0, none⟩)] w fun e w' => e = .returned (.tuple #[]) ∧ ∃ M2, HostAt w' M2 h (s.wrote p zs) ∧ (∀ k, M k → M2 k) ∧ (∀ k, M2 k → M k ∨ w.heap.size ≤ k) ∧ Kept M w w' := by
  have X : Hid (HostAt w M h s ∧ Blk w bh 31 [.pointer (some ⟨h, 0, none⟩)] ∧ Blk w bp 3 [.int .i64 p] ∧ Blk w bb 66 [.slice ao s.size c] ∧ Seen w ao s.size zs) := ⟨x, b1, b2, b3, hx⟩
  have G : Hid s.Good := by obtain ⟨_, _, _, _, _, _, q⟩ := x; exact q.good
  have B : Hid (bh < w.heap.size ∧ bp < w.heap.size ∧ bb < w.heap.size) := ⟨b1.lt, b2.lt, b3.lt⟩
  clear x b1 b2 b3 hx
  go_enter Tryz.func177, Tryz.ntmps177
  refine wp_region_noPanic (till_region 4 (fun W => W.cell? ⟨bh, 0, none⟩ = some (.pointer (some ⟨h, 0, none⟩)) ∧ W.cell? ⟨bp, 0, none⟩ = some (.int .i64 p) ∧ W.cell? ⟨bb, 0, none⟩ = some (.slice ao s.size c)) (by kernel_rfl) ?_)
  obtain ⟨w1, hw1⟩ : ∃ q, ({ w with drawn := w.drawn + 1 } : World) = q := ⟨_, rfl⟩
  have V1 : Hid ((fun W : World => W.cell? ⟨bh, 0, none⟩ = some (.pointer (some ⟨h, 0, none⟩)) ∧ W.cell? ⟨bp, 0, none⟩ = some (.int .i64 p) ∧ W.cell? ⟨bb, 0, none⟩ = some (.slice ao s.size c)) w1 ∧ HostAt w1 M h s ∧ Seen w1 ao s.size zs ∧ Kept M w w1 ∧ w1.heap.size = w.heap.size ∧ w1.heap = w.heap) := by rw [← hw1]; exact ⟨⟨X.out.2.1.cell 0, X.out.2.2.1.cell 0, X.out.2.2.2.1.cell 0⟩, X.out.1.frame ⟨Nat.le_refl _, fun _ _ => rfl⟩, ⟨X.out.2.2.2.2.len, X.out.2.2.2.2.top, X.out.2.2.2.2.bytes, X.out.2.2.2.2.cells⟩, (Kept.refl M w).drew, rfl, rfl⟩
  rw [hw1]
  clear hw1
  have hS := V1.out.1
  refine tLoad 0 (some 5) (.pointer (some ⟨h, 0, none⟩)) rfl rfl (by kernel_rfl) (by kernel_rfl) (by kernel_rfl) (by decide) (by kernel_rfl) (by kernel_rfl) (fun _ _ _ h => h) (by rfl) (fun W' hS' => by obtain ⟨s1, s2, s3⟩ := hS'; go_simp) hS ?_
  simp only [Act.put, List.setIfInBounds_toArray, List.set_cons_zero, List.set_cons_succ]
  refine tLoad 1 (some 6) (.int .i64 p) rfl rfl (by kernel_rfl) (by kernel_rfl) (by kernel_rfl) (by decide) (by kernel_rfl) (by kernel_rfl) (fun _ _ _ h => h) (by rfl) (fun W' hS' => by obtain ⟨s1, s2, s3⟩ := hS'; go_simp) hS ?_
  simp only [Act.put, List.setIfInBounds_toArray, List.set_cons_zero, List.set_cons_succ]
  refine till_run 2 (some 7) (.slice ao s.size c) w1 (by kernel_rfl) rfl rfl (by rfl) (by have hc := hS.2.2; go_simp) hS ?_
  simp only [Act.put, List.setIfInBounds_toArray, List.set_cons_zero, List.set_cons_succ]
  refine till_ready 3 (by kernel_rfl) rfl (fun K hK => ?_)
  go_simp
  go_wp2_with (go_at_call 69; refine (clone_any ao s.size c zs w1 V1.out.2.2.1).mono ?_; rintro e w2 ⟨v2, rfl, o2, l2⟩)
  obtain ⟨g, cap, rfl, r2, hg2⟩ := clone_row V1.out.2.2.1.len (by have := G.out.size; omega) o2
  have hS2 : (fun W : World => W.cell? ⟨bh, 0, none⟩ = some (.pointer (some ⟨h, 0, none⟩)) ∧ W.cell? ⟨bp, 0, none⟩ = some (.int .i64 p) ∧ W.cell? ⟨bb, 0, none⟩ = some (.slice ao s.size c)) w2 := ⟨(l2.cell (p := ⟨bh, 0, none⟩) (by have := B.out.1; have := V1.out.2.2.2.2.1; simp; omega)).trans hS.1, (l2.cell (p := ⟨bp, 0, none⟩) (by have := B.out.2.1; have := V1.out.2.2.2.2.1; simp; omega)).trans hS.2.1, (l2.cell (p := ⟨bb, 0, none⟩) (by have := B.out.2.2; have := V1.out.2.2.2.2.1; simp; omega)).trans hS.2.2⟩
  refine ⟨hS2, ?_⟩
  have U2 : Hid (∃ gl gm lg rws n D, HostIn w2 (fun k => M k ∨ k = g) h s gl gm lg rws n D) := by
    obtain ⟨gl, gm, lg, rws, n, D, y⟩ := V1.out.2.1.later l2
    exact ⟨gl, gm, lg, rws, n, D, y.wider g r2.lt⟩
  have R2 : Hid (RowAt w2 g zs ∧ w1.heap.size ≤ g ∧ Below w1.heap.size w1 w2) := ⟨r2, hg2, l2⟩
  clear hS hS2 o2 l2 r2 hg2
  obtain ⟨gl, gm, lg, rws, n, D, y2⟩ := U2.out
  refine till_at (by kernel_rfl) ?_
  refine wpAny_ready (rs := [4]) (by kernel_rfl) (by simp) (AllReady.cons rfl (fun K hK => ?_) AllReady.nil)
  go_simp
  go_wp2_with (go_at_call 178; refine (keep_any h s p hp zs V1.out.2.2.1.len V1.out.2.2.1.bytes hr g cap (fun k => M k ∨ k = g) gl gm lg rws n D w2 y2 (.inr rfl) R2.out.1).mono ?_; rintro e w3 ⟨rfl, y3, k3⟩)
  refine wpAny_done (by kernel_rfl) (NoPanic.normal ?_) _
  go_end0
  refine ⟨rfl, more (fun k => M k ∨ k = g) w2 w3, y3, fun k hk => .inl (.inl hk), fun k hk => ?_, ?_⟩
  · have := R2.out.2.1; have := R2.out.2.2.size; have := V1.out.2.2.2.2.1
    rcases hk with (hk | hk) | hk
    · exact .inl hk
    · exact .inr (by omega)
    · exact .inr (by omega)
  · have := R2.out.2.1; have := R2.out.2.2.size; have := V1.out.2.2.2.2.1
    have k1 := V1.out.2.2.2.1
    have l2 := R2.out.2.2
    refine ⟨k3.os.trans (l2.os.trans k1.os), k3.tape.trans (l2.tape.trans k1.tape), k3.output.trans (l2.output.trans k1.output), Nat.le_trans k1.size (Nat.le_trans l2.size k3.size), fun k hk hS => (k3.block k (by omega) (fun e => ?_)).trans ((l2.block k (by omega)).trans (k1.block k hk hS))⟩
    rcases e with e | e
    · exact hS e
    · omega
/-- What Write answers, and the host behind it. -/
def wrE (s : HSt) (p : Int) (n : Nat) : Int := if hasP s p = false then 2 else if n ≠ s.size then 4 else s.opE
set_option maxRecDepth 20000 in
set_option maxHeartbeats 2000000 in
theorem write_bad (h : Nat) (s : HSt) (p : Int) (ao : Option Addr) (n c : Nat) (M : Nat → Prop) (w : World) (x : HostAt w M h s) (hn : n ≤ 140737488355328) (hb : hasP s p = false ∨ n ≠ s.size) :
    Calls Tryz.prog 171 #[.pointer (some ⟨h, 0, none⟩), .int .i64 p, .slice ao n c] w fun e w' => e = .returned (.int .i64 (wrE s p n)) ∧ Below w.heap.size w w' := by
  have CC : Hid (∀ W, Below w.heap.size w W → Calls Tryz.prog 172 #[.pointer (some ⟨h, 0, none⟩), .int .i64 p] W fun e w' => e = .returned (.int .i64 (if hasP s p then 0 else 2)) ∧ W = w') := fun W hW => checkH_any h s p M W (x.later hW)
  have hh : h < w.heap.size := by obtain ⟨_, _, _, _, _, _, q⟩ := x; exact q.blk.lt
  have c0 : w.cell? ⟨h, 0, none⟩ = some (.int .i64 s.size) := by obtain ⟨_, _, _, _, _, _, q⟩ := x; exact q.blk.cell 0
  have hsz : s.size ≤ 4124 := by obtain ⟨_, _, _, _, _, _, q⟩ := x; exact q.good.size.2
  clear x
  cases hp : hasP s p
  · rw [hp] at CC
    have HF : Hid (wrE s p n = 2) := if_pos hp
    clear hp hb
    go_enter Tryz.func171, Tryz.ntmps171
    go_wp2_with (first | ((with_reducible show wpList _ _ _ (({ dst := some 3, op := _, type := _, pos := _, after := _, guard := _ } : Oper) :: _) _ _); refine wpList_boxV rfl 31 _ rfl (.pointer (some ⟨h, 0, none⟩)) rfl rfl ?_; intro w1 b1 s1 l1; have z1 : Hid (w1.heap.size = w.heap.size + 1) := s1; clear s1) | ((with_reducible show wpList _ _ _ (({ dst := some 4, op := _, type := _, pos := _, after := _, guard := _ } : Oper) :: _) _ _); refine wpList_boxV rfl 3 _ rfl (.int .i64 p) rfl rfl ?_; intro w2 b2 s2 l2; have z2 : Hid (w2.heap.size = w1.heap.size + 1) := s2; clear s2) | ((with_reducible show wpList _ _ _ (({ dst := some 5, op := _, type := _, pos := _, after := _, guard := _ } : Oper) :: _) _ _); refine wpList_boxV rfl 66 _ rfl (.slice ao n c) rfl rfl ?_; intro w3 b3 s3 l3; have z3 : Hid (w3.heap.size = w2.heap.size + 1) := s3; clear s3; have d0 : w3.cell? ⟨w.heap.size, 0, none⟩ = some (.pointer (some ⟨h, 0, none⟩)) := ((b1.later l2 b1.lt).later l3 (b1.later l2 b1.lt).lt).cell 0; have d1 : w3.cell? ⟨w1.heap.size, 0, none⟩ = some (.int .i64 p) := (b2.later l3 b2.lt).cell 0; have d2 : w3.cell? ⟨w2.heap.size, 0, none⟩ = some (.slice ao n c) := b3.cell 0; have hb3 : Below w.heap.size w w3 := below_chain (below_chain l1 l2 l1.size) l3 (by have := l1.size; have := l2.size; omega); have d3 : w3.cell? ⟨h, 0, none⟩ = some (.int .i64 s.size) := (hb3.cell (p := ⟨h, 0, none⟩) hh).trans c0) | (go_at_call 172; refine (CC.out w3 hb3).mono ?_; rintro e _ ⟨rfl, rfl⟩))
    go_ret
    exact ⟨ret_int HF.out.symm, hb3⟩
  · rw [hp] at CC
    have hne : n ≠ s.size := by rcases hb with h1 | h1; rw [hp] at h1; cases h1; exact h1
    have HF : Hid (wrE s p n = 4) := by
      have : wrE s p n = 4 := by unfold wrE; rw [if_neg (by rw [hp]; simp), if_pos hne]
      exact this
    have hne' : ((n : Int) != (s.size : Int)) = true := by simp; omega
    clear hp hb hne
    go_enter Tryz.func171, Tryz.ntmps171
    go_wp2_with (first | ((with_reducible show wpList _ _ _ (({ dst := some 3, op := _, type := _, pos := _, after := _, guard := _ } : Oper) :: _) _ _); refine wpList_boxV rfl 31 _ rfl (.pointer (some ⟨h, 0, none⟩)) rfl rfl ?_; intro w1 b1 s1 l1; have z1 : Hid (w1.heap.size = w.heap.size + 1) := s1; clear s1) | ((with_reducible show wpList _ _ _ (({ dst := some 4, op := _, type := _, pos := _, after := _, guard := _ } : Oper) :: _) _ _); refine wpList_boxV rfl 3 _ rfl (.int .i64 p) rfl rfl ?_; intro w2 b2 s2 l2; have z2 : Hid (w2.heap.size = w1.heap.size + 1) := s2; clear s2) | ((with_reducible show wpList _ _ _ (({ dst := some 5, op := _, type := _, pos := _, after := _, guard := _ } : Oper) :: _) _ _); refine wpList_boxV rfl 66 _ rfl (.slice ao n c) rfl rfl ?_; intro w3 b3 s3 l3; have z3 : Hid (w3.heap.size = w2.heap.size + 1) := s3; clear s3; have d0 : w3.cell? ⟨w.heap.size, 0, none⟩ = some (.pointer (some ⟨h, 0, none⟩)) := ((b1.later l2 b1.lt).later l3 (b1.later l2 b1.lt).lt).cell 0; have d1 : w3.cell? ⟨w1.heap.size, 0, none⟩ = some (.int .i64 p) := (b2.later l3 b2.lt).cell 0; have d2 : w3.cell? ⟨w2.heap.size, 0, none⟩ = some (.slice ao n c) := b3.cell 0; have hb3 : Below w.heap.size w w3 := below_chain (below_chain l1 l2 l1.size) l3 (by have := l1.size; have := l2.size; omega); have d3 : w3.cell? ⟨h, 0, none⟩ = some (.int .i64 s.size) := (hb3.cell (p := ⟨h, 0, none⟩) hh).trans c0) | (go_at_call 172; refine (CC.out w3 hb3).mono ?_; rintro e _ ⟨rfl, rfl⟩))
    go_quiet (fail)
    go_wp2_with fail
    go_ret
    exact ⟨ret_int HF.out.symm, below_dn hb3 _⟩
set_option maxRecDepth 20000 in
set_option maxHeartbeats 2000000 in
theorem write_good (h : Nat) (s : HSt) (p : Nat) (hp : p < s.pages) (ao : Option Addr) (n c : Nat) (zs : List Int) (hn : n = s.size) (M : Nat → Prop) (w : World) (x : HostAt w M h s) (hx : Seen w ao n zs) (ho : ∀ b o, 0 < n → ao = some ⟨b, o, none⟩ → ¬ M b) (hops : s.ops < 3000000000000) :
    Calls Tryz.prog 171 #[.pointer (some ⟨h, 0, none⟩), .int .i64 p, .slice ao n c] w fun e w' => e = .returned (.int .i64 s.opE) ∧ ∃ M2, HostAt w' M2 h (s.opS (fun s => s.wrote p zs) ⟨1, p, s.size, headL zs⟩) ∧ Goes M M2 w w' := by
  have hpt : hasP s p = true := by simp [hasP]; omega
  have CC : Hid (∀ W, Below w.heap.size w W → Calls Tryz.prog 172 #[.pointer (some ⟨h, 0, none⟩), .int .i64 p] W fun e w' => e = .returned (.int .i64 0) ∧ W = w') := fun W hW => by
    have := checkH_any h s p M W (x.later hW)
    rw [hpt] at this
    exact this
  have G : Hid s.Good := by obtain ⟨_, _, _, _, _, _, q⟩ := x; exact q.good
  have CO : Hid (∀ bp bb w4 w5, w.heap.size ≤ bp → w.heap.size ≤ bb → HostAt w4 M h s → Blk w4 w.heap.size 31 [.pointer (some ⟨h, 0, none⟩)] → Blk w4 bp 3 [.int .i64 p] → Blk w4 bb 66 [.slice ao n c] → Seen w4 ao n zs → Below w4.heap.size w4 w5 → Calls Tryz.prog 173 #[.pointer (some ⟨h, 0, none⟩), .agg (tcC ⟨1, p, s.size, headL zs⟩).toArray, .func (.func 177) #[] #[.pointer (some ⟨w.heap.size, 0, none⟩), .pointer (some ⟨bp, 0, none⟩), .pointer (some ⟨bb, 0, none⟩)]] w5 fun e w' => e = .returned (.int .i64 s.opE) ∧ ∃ M2, HostAt w' M2 h (s.opS (fun s => s.wrote p zs) ⟨1, p, s.size, headL zs⟩) ∧ (∀ k, M k → M2 k) ∧ (∀ k, M2 k → M k ∨ w5.heap.size ≤ k) ∧ Kept (fun k => M k ∨ False) w5 w' ∧ (s.done → True)) := fun bp bb w4 w5 hbp hbb y b1 b2 b3 hx4 l5 =>
    operate_all h s (fun s => s.wrote p zs) ⟨1, p, s.size, headL zs⟩ (headL_length zs) 177 _ enter_write M (fun _ => False) (fun _ _ => True) w5 (y.later l5) hops (fun _ h => h.elim) (fun _ _ _ => trivial) (fun _ _ _ _ _ _ => trivial) ⟨rfl, rfl⟩ (fun _ W fv y2 _ k5 => by
      have nb : ∀ b, w.heap.size ≤ b → ¬ M b := fun b hb e => by have := x.all b e; omega
      have hx5 := hx4.later l5 (Nat.le_refl _)
      have hxW : Seen W ao n zs := hx5.kept k5 (fun b o h1 h2 => ho b o h1 h2)
      subst hn
      refine (write1_any h s.next p hp ao c zs (by have := G.out.laid p; show (s.laid p).length < s.ops + 1; omega) fv _ _ _ M W y2 ((b1.later l5 b1.lt).kept k5 (nb _ (Nat.le_refl _))) ((b2.later l5 b2.lt).kept k5 (nb _ hbp)) ((b3.later l5 b3.lt).kept k5 (nb _ hbb)) hxW).mono ?_
      rintro e W' ⟨rfl, M2, y3, m1, m2, k3⟩
      exact ⟨rfl, M2, y3, m1, m2, k3.mono (fun k e => .inl e), trivial⟩)
  have X : Hid (HostAt w M h s ∧ Seen w ao n zs) := ⟨x, hx⟩
  have hh : h < w.heap.size := by obtain ⟨_, _, _, _, _, _, q⟩ := x; exact q.blk.lt
  have c0 : w.cell? ⟨h, 0, none⟩ = some (.int .i64 s.size) := by obtain ⟨_, _, _, _, _, _, q⟩ := x; exact q.blk.cell 0
  have hsz : s.size ≤ 4124 := G.out.size.2
  have hne' : ((n : Int) != (s.size : Int)) = false := by simp; omega
  obtain ⟨E, hE'⟩ : ∃ q, s.opE = q := ⟨_, rfl⟩
  rw [hE'] at CO ⊢
  clear hE' x hops hx ho hpt hn
  go_enter Tryz.func171, Tryz.ntmps171
  go_wp2_with (first | ((with_reducible show wpList _ _ _ (({ dst := some 3, op := _, type := _, pos := _, after := _, guard := _ } : Oper) :: _) _ _); refine wpList_boxV rfl 31 _ rfl (.pointer (some ⟨h, 0, none⟩)) rfl rfl ?_; intro w1 b1 s1 l1; have z1 : Hid (w1.heap.size = w.heap.size + 1) := s1; clear s1) | ((with_reducible show wpList _ _ _ (({ dst := some 4, op := _, type := _, pos := _, after := _, guard := _ } : Oper) :: _) _ _); refine wpList_boxV rfl 3 _ rfl (.int .i64 p) rfl rfl ?_; intro w2 b2 s2 l2; have z2 : Hid (w2.heap.size = w1.heap.size + 1) := s2; clear s2) | ((with_reducible show wpList _ _ _ (({ dst := some 5, op := _, type := _, pos := _, after := _, guard := _ } : Oper) :: _) _ _); refine wpList_boxV rfl 66 _ rfl (.slice ao n c) rfl rfl ?_; intro w3 b3 s3 l3; have z3 : Hid (w3.heap.size = w2.heap.size + 1) := s3; clear s3; have d0 : w3.cell? ⟨w.heap.size, 0, none⟩ = some (.pointer (some ⟨h, 0, none⟩)) := ((b1.later l2 b1.lt).later l3 (b1.later l2 b1.lt).lt).cell 0; have d1 : w3.cell? ⟨w1.heap.size, 0, none⟩ = some (.int .i64 p) := (b2.later l3 b2.lt).cell 0; have d2 : w3.cell? ⟨w2.heap.size, 0, none⟩ = some (.slice ao n c) := b3.cell 0; have hb3 : Below w.heap.size w w3 := below_chain (below_chain l1 l2 l1.size) l3 (by have := l1.size; have := l2.size; omega); have d3 : w3.cell? ⟨h, 0, none⟩ = some (.int .i64 s.size) := (hb3.cell (p := ⟨h, 0, none⟩) hh).trans c0) | (go_at_call 172; refine (CC.out w3 hb3).mono ?_; rintro e _ ⟨rfl, rfl⟩))
  have V3 : Hid (HostAt w3 M h s ∧ Blk w3 w.heap.size 31 [.pointer (some ⟨h, 0, none⟩)] ∧ Blk w3 w1.heap.size 3 [.int .i64 p] ∧ Blk w3 w2.heap.size 66 [.slice ao n c] ∧ Seen w3 ao n zs ∧ Below w.heap.size w w3) := ⟨X.out.1.later hb3, (b1.later l2 b1.lt).later l3 (b1.later l2 b1.lt).lt, b2.later l3 b2.lt, b3, X.out.2.later hb3 (Nat.le_refl _), hb3⟩
  clear b1 b2 b3 l1 l2 l3 z3 hb3 hh c0
  go_quiet (fail)
  go_wp2_with fail
  refine wp_region_noPanic (till_region 7 (fun W => W.cell? ⟨w.heap.size, 0, none⟩ = some (.pointer (some ⟨h, 0, none⟩)) ∧ W.cell? ⟨w1.heap.size, 0, none⟩ = some (.int .i64 p) ∧ W.cell? ⟨w2.heap.size, 0, none⟩ = some (.slice ao n c)) (by kernel_rfl) ?_)
  obtain ⟨w4, hw4⟩ : ∃ q, ({ heap := (w3.drewN nq).heap, tape := (w3.drewN nq).tape, drawn := (w3.drewN nq).drawn + 1, os := (w3.drewN nq).os, output := (w3.drewN nq).output } : World) = q := ⟨_, rfl⟩
  have V4 : Hid (HostAt w4 M h s ∧ Blk w4 w.heap.size 31 [.pointer (some ⟨h, 0, none⟩)] ∧ Blk w4 w1.heap.size 3 [.int .i64 p] ∧ Blk w4 w2.heap.size 66 [.slice ao n c] ∧ Seen w4 ao n zs ∧ Below w.heap.size w w4) := by rw [← hw4]; exact ⟨V3.out.1.frame ⟨Nat.le_refl _, fun _ _ => rfl⟩, V3.out.2.1, V3.out.2.2.1, V3.out.2.2.2.1, ⟨V3.out.2.2.2.2.1.len, V3.out.2.2.2.2.1.top, V3.out.2.2.2.2.1.bytes, V3.out.2.2.2.2.1.cells⟩, ⟨V3.out.2.2.2.2.2.os, V3.out.2.2.2.2.2.tape, V3.out.2.2.2.2.2.output, V3.out.2.2.2.2.2.size, V3.out.2.2.2.2.2.block⟩⟩
  rw [hw4]
  clear hw4
  have hS : (fun W : World => W.cell? ⟨w.heap.size, 0, none⟩ = some (.pointer (some ⟨h, 0, none⟩)) ∧ W.cell? ⟨w1.heap.size, 0, none⟩ = some (.int .i64 p) ∧ W.cell? ⟨w2.heap.size, 0, none⟩ = some (.slice ao n c)) w4 := ⟨V4.out.2.1.cell 0, V4.out.2.2.1.cell 0, V4.out.2.2.2.1.cell 0⟩
  refine tLoad 0 (some 21) (.pointer (some ⟨h, 0, none⟩)) rfl rfl (by kernel_rfl) (by kernel_rfl) (by kernel_rfl) (by decide) (by kernel_rfl) (by kernel_rfl) (fun _ _ _ h => h) (by rfl) (fun W' hS' => by obtain ⟨s1, s2, s3⟩ := hS'; go_simp) hS ?_
  simp only [Act.put, List.setIfInBounds_toArray, List.set_cons_zero, List.set_cons_succ]
  refine tLoad 1 (some 22) (.pointer (some ⟨h, 0, none⟩)) rfl rfl (by kernel_rfl) (by kernel_rfl) (by kernel_rfl) (by decide) (by kernel_rfl) (by kernel_rfl) (fun _ _ _ h => h) (by rfl) (fun W' hS' => by obtain ⟨s1, s2, s3⟩ := hS'; go_simp) hS ?_
  simp only [Act.put, List.setIfInBounds_toArray, List.set_cons_zero, List.set_cons_succ]
  refine tLoad 2 (some 23) (.int .i64 p) rfl rfl (by kernel_rfl) (by kernel_rfl) (by kernel_rfl) (by decide) (by kernel_rfl) (by kernel_rfl) (fun _ _ _ h => h) (by rfl) (fun W' hS' => by obtain ⟨s1, s2, s3⟩ := hS'; go_simp) hS ?_
  simp only [Act.put, List.setIfInBounds_toArray, List.set_cons_zero, List.set_cons_succ]
  refine tLoad 3 (some 24) (.slice ao n c) rfl rfl (by kernel_rfl) (by kernel_rfl) (by kernel_rfl) (by decide) (by kernel_rfl) (by kernel_rfl) (fun _ _ _ h => h) (by rfl) (fun W' hS' => by obtain ⟨s1, s2, s3⟩ := hS'; go_simp) hS ?_
  simp only [Act.put, List.setIfInBounds_toArray, List.set_cons_zero, List.set_cons_succ]
  refine tTake 5 (some 26) (.func (.func 177) #[] #[.pointer (some ⟨w.heap.size, 0, none⟩), .pointer (some ⟨w1.heap.size, 0, none⟩), .pointer (some ⟨w2.heap.size, 0, none⟩)]) rfl rfl (by kernel_rfl) (by kernel_rfl) (by kernel_rfl) (by decide) (fun _ _ _ h => h) (by rfl) (fun W' => by go_simp) hS ?_
  simp only [Act.put, List.setIfInBounds_toArray, List.set_cons_zero, List.set_cons_succ]
  refine till_ready 4 (by kernel_rfl) rfl (fun K hK => ?_)
  go_simp
  go_wp2_with (go_at_call 174; refine (touch_write h s p ao n c zs M w4 V4.out.1 V4.out.2.2.2.2.1).mono ?_; rintro e w5 ⟨rfl, l5⟩)
  have V5 : Hid (Blk w5 w.heap.size 31 [.pointer (some ⟨h, 0, none⟩)] ∧ Blk w5 w1.heap.size 3 [.int .i64 p] ∧ Blk w5 w2.heap.size 66 [.slice ao n c] ∧ Below w4.heap.size w4 w5) := ⟨V4.out.2.1.later l5 V4.out.2.1.lt, V4.out.2.2.1.later l5 V4.out.2.2.1.lt, V4.out.2.2.2.1.later l5 V4.out.2.2.2.1.lt, l5⟩
  have hS5 : (fun W : World => W.cell? ⟨w.heap.size, 0, none⟩ = some (.pointer (some ⟨h, 0, none⟩)) ∧ W.cell? ⟨w1.heap.size, 0, none⟩ = some (.int .i64 p) ∧ W.cell? ⟨w2.heap.size, 0, none⟩ = some (.slice ao n c)) w5 := ⟨V5.out.1.cell 0, V5.out.2.1.cell 0, V5.out.2.2.1.cell 0⟩
  refine ⟨hS5, ?_⟩
  refine till_ready 6 (by kernel_rfl) rfl (fun K hK => ?_)
  go_simp
  go_wp2_with (go_at_call 173; refine (CO.out w1.heap.size w2.heap.size w4 w5 (by have := z1.out; omega) (by have := z1.out; have := z2.out; omega) V4.out.1 V4.out.2.1 V4.out.2.2.1 V4.out.2.2.2.1 V4.out.2.2.2.2.1 l5).mono ?_; rintro e w6 ⟨rfl, M2, y, m1, m2, k6, _⟩)
  have kM : Kept M w5 w6 := k6.mono (fun k e => e.elim id False.elim)
  have nM : ∀ b, w.heap.size ≤ b → ¬ M b := fun b hb e => by have := X.out.1.all b e; omega
  have U6 : Hid (HostAt w6 M2 h (s.opS (fun s => s.wrote p zs) ⟨1, p, s.size, headL zs⟩) ∧ Goes M M2 w w6) := ⟨y, Goes.later V4.out.2.2.2.2.2 (Goes.later l5 ⟨m1, m2, kM⟩)⟩
  have hS6 : (fun W : World => W.cell? ⟨w.heap.size, 0, none⟩ = some (.pointer (some ⟨h, 0, none⟩)) ∧ W.cell? ⟨w1.heap.size, 0, none⟩ = some (.int .i64 p) ∧ W.cell? ⟨w2.heap.size, 0, none⟩ = some (.slice ao n c)) w6 := ⟨(V5.out.1.kept kM (nM _ (Nat.le_refl _))).cell 0, (V5.out.2.1.kept kM (nM _ (by have := z1.out; omega))).cell 0, (V5.out.2.2.1.kept kM (nM _ (by have := z1.out; have := z2.out; omega))).cell 0⟩
  refine ⟨hS6, ?_⟩
  clear y m1 m2 k6 kM nM l5 hS hS5 hS6
  refine till_at (by kernel_rfl) ?_
  refine take_op 7 (some 6) (.int .i64 E) rfl rfl (by kernel_rfl) (by kernel_rfl) (by kernel_rfl) (fun _ _ _ h => h) (by rfl) (fun _ => by rfl) ?_
  simp only [Act.put, List.setIfInBounds_toArray, List.set_cons_zero, List.set_cons_succ]
  refine wpAny_done (by kernel_rfl) (NoPanic.normal ?_) _
  go_wp2_with fail
  go_ret
  exact ⟨rfl, M2, U6.out.1, U6.out.2⟩
end Go.Proofs.YtfhieacclifihaaGreat
namespace Go.Proofs.YtfhieacclifihaaGreat
open Go.RowKit
set_option linter.unusedVariables false
set_option linter.unusedSimpArgs false

/-- A new variable of one cell. -/
theorem wpList_allocV {ops : Array Oper} {rest : List Oper} {o : Oper} {a : Act} {Q : Exit → Act → World → Prop} {w : World} (hgd : o.guard = none) (t : TypeId) (ho : o.op = .alloc t) (z : Value) (n : Nat)
    (hz : (Tryz.prog.info? t).map (fun i => (i.zero, i.size)) = some (some z, n)) (hc : z.cells = #[z])
    (h : ∀ w', Blk w' w.heap.size t [z] → w'.heap.size = w.heap.size + 1 → Below w.heap.size w w' → wpList Tryz.prog ops Q rest (a.put o.dst (.pointer (some ⟨w.heap.size, 0, none⟩))) w') : wpList Tryz.prog ops Q (o :: rest) a w := by
  refine wpList_plain hgd fun K hK => ?_
  unfold Oper.wp execOp
  have hzz : ∀ w, (zeroValue t).run Tryz.prog w = .ok z w := fun w => by
    obtain ⟨i, hi, he⟩ := Option.map_eq_some_iff.1 hz
    simp only [Prod.mk.injEq] at he
    simp [zeroValue, typeInfo, hi, he.1]
  simp only [ho, Sem.run_bind, Instr.alloc, hzz, hc, newVar, newRow, run_newObj_alloc, Sem.run_pure, Result.andThen_ok]
  exact hK _ _ (h _ (heap_alloc_new w _) (by simp) ((Below.refl _ _).alloc (Nat.le_refl _) _))
theorem zeroBs : (Tryz.prog.info? 66).map (fun i => (i.zero, i.size)) = some (some (.slice none 0 0), 1) := by kernel_rfl
/-- What a read has laid into its variable. -/
def RdPost (bb : Nat) (z : List Int) (B : Nat) (M2 : Nat → Prop) (W : World) : Prop := ∃ g, Blk W bb 66 [.slice (some ⟨g, 0, none⟩) z.length z.length] ∧ Blk W g 5 (u8s z) ∧ ¬ M2 bb ∧ ¬ M2 g ∧ B ≤ g ∧ Bytes z
theorem RdPost.goes {bb : Nat} {z : List Int} {B : Nat} : ∀ M2 W W', RdPost bb z B M2 W → (∀ k, M2 k → k < W.heap.size) → Kept M2 W W' → RdPost bb z B (more M2 W W') W' := fun M2 W W' ⟨g, h1, h2, h3, h4, h5, h6⟩ _ hk =>
  ⟨g, h1.kept hk h3, h2.kept hk h4, fun e => by
    rcases e with e | e
    · exact h3 e
    · have := h1.lt; omega, fun e => by
    rcases e with e | e
    · exact h4 e
    · have := h2.lt; omega, h5, h6⟩
theorem enter_read : ∀ args w, (callFunc 175 args).run Tryz.prog w = .ok (.enter 175 args) w := fun args w => by kernel_rfl
set_option maxRecDepth 20000 in
set_option maxHeartbeats 1000000 in
theorem read1_any (h : Nat) (s : HSt) (p : Nat) (hp : p < s.pages) (fv : Value) (fs : List Fl) (bh bp bb : Nat) (M : Nat → Prop) (w : World) (x : HostAt w M h s) (y : FlS w M fv fs) (b1 : Blk w bh 31 [.pointer (some ⟨h, 0, none⟩)]) (b2 : Blk w bp 3 [.int .i64 p]) (b3 : Blk w bb 66 [.slice none 0 0]) (nb : ¬ M bb) :
    Calls Tryz.prog 175 #[fv, .pointer (some ⟨bh, 0, none⟩), .pointer (some ⟨bp, 0, none⟩), .pointer (some ⟨bb, 0, none⟩)] w fun e w' => e = .returned (.tuple #[]) ∧ HostAt w' M h s ∧ Kept (fun k => k = bb) w w' ∧ RdPost bb (spoL s p fs) w.heap.size M w' := by
  have C := spoilt_any h s p hp fv fs M w x y
  have X : Hid (HostAt w M h s ∧ Blk w bb 66 [.slice none 0 0] ∧ ¬ M bb) := ⟨x, b3, nb⟩
  have c0 : w.cell? ⟨bh, 0, none⟩ = some (.pointer (some ⟨h, 0, none⟩)) := b1.cell 0
  have c1 : w.cell? ⟨bp, 0, none⟩ = some (.int .i64 p) := b2.cell 0
  clear x y b1 b2 b3 nb
  go_enter Tryz.func175, Tryz.ntmps175
  go_wp2_with (go_at_call 176; refine C.mono ?_; rintro e w1 ⟨v1, rfl, ⟨g, rfl, bg, hg, hby⟩, l1⟩; have d0 : w1.cell? ⟨bb, 0, none⟩ = some (.slice none 0 0) := (X.out.2.1.later l1 X.out.2.1.lt).cell 0; have d1 : w1.frozen? ⟨bb, 0, none⟩ = false := (X.out.2.1.later l1 X.out.2.1.lt).frozen 0)
  go_end0
  have k2 : Kept (fun k => k = bb) w (w1.setCell ⟨bb, 0, none⟩ (.slice (some ⟨g, 0, none⟩) (spoL s p fs).length (spoL s p fs).length)) := (Kept.new (fun k => k = bb) l1).setCell (p := ⟨bb, 0, none⟩) rfl _
  have hlt := X.out.2.1.lt
  refine ⟨rfl, X.out.1.frame (Same.kept k2 (fun k hk => ⟨X.out.1.all k hk, fun e => X.out.2.2 (e ▸ hk)⟩)), k2, g, (X.out.2.1.later l1 X.out.2.1.lt).set 0 _, bg.other (p := ⟨bb, 0, none⟩) (by simp; omega) _, X.out.2.2, fun e => ?_, hg, hby⟩
  have := X.out.1.all g e; omega
set_option maxRecDepth 20000 in
set_option maxHeartbeats 2000000 in
theorem read_good (h : Nat) (s : HSt) (p : Nat) (hp : p < s.pages) (M : Nat → Prop) (w : World) (x : HostAt w M h s) (hops : s.ops < 3000000000000) :
    Calls Tryz.prog 168 #[.pointer (some ⟨h, 0, none⟩), .int .i64 p] w fun e w' => ∃ v, e = .returned (.tuple #[v, .int .i64 s.opE]) ∧ ∃ M2, HostAt w' M2 h (s.opS id ⟨0, p, s.size, List.replicate 12 0⟩) ∧ Goes M M2 w w' ∧ (s.opE ≠ 0 → v = .slice none 0 0) ∧
      (s.opE = 0 → ∃ g, v = .slice (some ⟨g, 0, none⟩) s.size s.size ∧ Blk w' g 5 (u8s (spoL s p (s.coming s.ops))) ∧ w.heap.size ≤ g ∧ ¬ M2 g ∧ Bytes (spoL s p (s.coming s.ops))) := by
  have hpt : hasP s p = true := by simp [hasP]; omega
  have CC : Hid (∀ W, Below w.heap.size w W → Calls Tryz.prog 172 #[.pointer (some ⟨h, 0, none⟩), .int .i64 p] W fun e w' => e = .returned (.int .i64 0) ∧ W = w') := fun W hW => by
    have := checkH_any h s p M W (x.later hW)
    rw [hpt] at this
    exact this
  have G : Hid s.Good := by obtain ⟨_, _, _, _, _, _, q⟩ := x; exact q.good
  have CO : Hid (∀ bp bb w5, w.heap.size ≤ bp → w.heap.size ≤ bb → HostAt w5 M h s → Blk w5 w.heap.size 31 [.pointer (some ⟨h, 0, none⟩)] → Blk w5 bp 3 [.int .i64 p] → Blk w5 bb 66 [.slice none 0 0] → Calls Tryz.prog 173 #[.pointer (some ⟨h, 0, none⟩), .agg (tcC ⟨0, p, s.size, List.replicate 12 0⟩).toArray, .func (.func 175) #[] #[.pointer (some ⟨w.heap.size, 0, none⟩), .pointer (some ⟨bp, 0, none⟩), .pointer (some ⟨bb, 0, none⟩)]] w5 fun e w' => e = .returned (.int .i64 s.opE) ∧ ∃ M2, HostAt w' M2 h (s.opS id ⟨0, p, s.size, List.replicate 12 0⟩) ∧ (∀ k, M k → M2 k) ∧ (∀ k, M2 k → M k ∨ w5.heap.size ≤ k) ∧ Kept (fun k => M k ∨ k = bb) w5 w' ∧ (s.done → RdPost bb (spoL s p (s.coming s.ops)) w.heap.size M2 w')) := fun bp bb w5 hbp hbb y b1 b2 b3 =>
    operate_all h s id ⟨0, p, s.size, List.replicate 12 0⟩ rfl 175 _ enter_read M (fun k => k = bb) (RdPost bb (spoL s p (s.coming s.ops)) w.heap.size) w5 y hops (fun k e => by rw [e]; exact b3.lt) (fun _ _ q => q) RdPost.goes ⟨rfl, rfl⟩ (fun _ W fv y2 f2 k5 => by
      have nb : ∀ b, w.heap.size ≤ b → ¬ M b := fun b hb e => by have := x.all b e; omega
      refine (read1_any h s.next p hp fv (s.coming s.ops) _ _ _ M W y2 f2 (b1.kept k5 (nb _ (Nat.le_refl _))) (b2.kept k5 (nb _ hbp)) (b3.kept k5 (nb _ hbb)) (nb _ hbb)).mono ?_
      rintro e W' ⟨rfl, y3, k3, g, q1, q2, q3, q4, q5, q6⟩
      have hw : w.heap.size ≤ W.heap.size := by have := b3.lt; have := k5.size; omega
      exact ⟨rfl, M, y3, fun _ h => h, fun _ h => .inl h, k3.mono (fun k e => .inr e), g, q1, q2, q3, q4, by omega, q6⟩)
  have X : Hid (HostAt w M h s) := x
  have HL : Hid ((spoL s p (s.coming s.ops)).length = s.size) := spoL_length G.out p _
  have HDone : Hid (s.opE = 0 → s.done) := fun h => by
    unfold HSt.opE at h
    split at h
    · cases h
    · next h1 => exact ⟨by cases hd : s.down; rfl; exact absurd (.inl hd) h1, fun e => h1 (.inr (.inl e))⟩
  have hE := opE_eq s
  obtain ⟨E, hE'⟩ : ∃ q, s.opE = q := ⟨_, rfl⟩
  rw [hE'] at hE CO HDone ⊢
  clear hE' x hops hpt
  rcases hE with rfl | rfl
  · go_enter Tryz.func168, Tryz.ntmps168
    go_wp2_with (first | ((with_reducible show wpList _ _ _ (({ dst := some 2, op := _, type := _, pos := _, after := _, guard := _ } : Oper) :: _) _ _); refine wpList_boxV rfl 31 _ rfl (.pointer (some ⟨h, 0, none⟩)) rfl rfl ?_; intro w1 b1 s1 l1; have z1 : Hid (w1.heap.size = w.heap.size + 1) := s1; clear s1) | ((with_reducible show wpList _ _ _ (({ dst := some 3, op := _, type := _, pos := _, after := _, guard := _ } : Oper) :: _) _ _); refine wpList_boxV rfl 3 _ rfl (.int .i64 p) rfl rfl ?_; intro w2 b2 s2 l2; have z2 : Hid (w2.heap.size = w1.heap.size + 1) := s2; clear s2; have d0 : w2.cell? ⟨w.heap.size, 0, none⟩ = some (.pointer (some ⟨h, 0, none⟩)) := (b1.later l2 b1.lt).cell 0; have d1 : w2.cell? ⟨w1.heap.size, 0, none⟩ = some (.int .i64 p) := b2.cell 0; have hb2 : Below w.heap.size w w2 := below_chain l1 l2 l1.size) | (go_at_call 172; refine (CC.out w2 hb2).mono ?_; rintro e _ ⟨rfl, rfl⟩) | ((with_reducible show wpList _ _ _ (({ dst := some 7, op := _, type := _, pos := _, after := _, guard := _ } : Oper) :: _) _ _); refine wpList_allocV rfl 66 rfl (.slice none 0 0) 1 zeroBs rfl ?_; intro w3 b3 s3 l3; have z3 : Hid (w3.heap.size = w2.heap.size + 1) := s3; clear s3))
    have V3 : Hid (HostAt w3 M h s ∧ Blk w3 w.heap.size 31 [.pointer (some ⟨h, 0, none⟩)] ∧ Blk w3 w1.heap.size 3 [.int .i64 p] ∧ Blk w3 w2.heap.size 66 [.slice none 0 0] ∧ Below w.heap.size w w3) := ⟨X.out.later (below_chain hb2 l3 hb2.size), (b1.later l2 b1.lt).later l3 (b1.later l2 b1.lt).lt, b2.later l3 b2.lt, b3, below_chain hb2 l3 hb2.size⟩
    clear b1 b2 b3 l1 l2 l3 z3 hb2
    refine wp_region_noPanic (till_region 6 (fun W => W.cell? ⟨w.heap.size, 0, none⟩ = some (.pointer (some ⟨h, 0, none⟩)) ∧ W.cell? ⟨w1.heap.size, 0, none⟩ = some (.int .i64 p)) (by kernel_rfl) ?_)
    obtain ⟨w4, hw4⟩ : ∃ q, ({ heap := w3.heap, tape := w3.tape, drawn := w3.drawn + 1, os := w3.os, output := w3.output } : World) = q := ⟨_, rfl⟩
    have V4 : Hid (HostAt w4 M h s ∧ Blk w4 w.heap.size 31 [.pointer (some ⟨h, 0, none⟩)] ∧ Blk w4 w1.heap.size 3 [.int .i64 p] ∧ Blk w4 w2.heap.size 66 [.slice none 0 0] ∧ Below w.heap.size w w4) := by rw [← hw4]; exact ⟨V3.out.1.frame ⟨Nat.le_refl _, fun _ _ => rfl⟩, V3.out.2.1, V3.out.2.2.1, V3.out.2.2.2.1, ⟨V3.out.2.2.2.2.os, V3.out.2.2.2.2.tape, V3.out.2.2.2.2.output, V3.out.2.2.2.2.size, V3.out.2.2.2.2.block⟩⟩
    rw [hw4]
    clear hw4
    have hS : (fun W : World => W.cell? ⟨w.heap.size, 0, none⟩ = some (.pointer (some ⟨h, 0, none⟩)) ∧ W.cell? ⟨w1.heap.size, 0, none⟩ = some (.int .i64 p)) w4 := ⟨V4.out.2.1.cell 0, V4.out.2.2.1.cell 0⟩
    refine tLoad 0 (some 15) (.pointer (some ⟨h, 0, none⟩)) rfl rfl (by kernel_rfl) (by kernel_rfl) (by kernel_rfl) (by decide) (by kernel_rfl) (by kernel_rfl) (fun _ _ _ h => h) (by rfl) (fun W' hS' => by obtain ⟨s1, s2⟩ := hS'; go_simp) hS ?_
    simp only [Act.put, List.setIfInBounds_toArray, List.set_cons_zero, List.set_cons_succ]
    refine tLoad 1 (some 16) (.pointer (some ⟨h, 0, none⟩)) rfl rfl (by kernel_rfl) (by kernel_rfl) (by kernel_rfl) (by decide) (by kernel_rfl) (by kernel_rfl) (fun _ _ _ h => h) (by rfl) (fun W' hS' => by obtain ⟨s1, s2⟩ := hS'; go_simp) hS ?_
    simp only [Act.put, List.setIfInBounds_toArray, List.set_cons_zero, List.set_cons_succ]
    refine tLoad 2 (some 17) (.int .i64 p) rfl rfl (by kernel_rfl) (by kernel_rfl) (by kernel_rfl) (by decide) (by kernel_rfl) (by kernel_rfl) (fun _ _ _ h => h) (by rfl) (fun W' hS' => by obtain ⟨s1, s2⟩ := hS'; go_simp) hS ?_
    simp only [Act.put, List.setIfInBounds_toArray, List.set_cons_zero, List.set_cons_succ]
    refine tTake 4 (some 19) (.func (.func 175) #[] #[.pointer (some ⟨w.heap.size, 0, none⟩), .pointer (some ⟨w1.heap.size, 0, none⟩), .pointer (some ⟨w2.heap.size, 0, none⟩)]) rfl rfl (by kernel_rfl) (by kernel_rfl) (by kernel_rfl) (by decide) (fun _ _ _ h => h) (by rfl) (fun W' => by go_simp) hS ?_
    simp only [Act.put, List.setIfInBounds_toArray, List.set_cons_zero, List.set_cons_succ]
    refine till_ready 3 (by kernel_rfl) rfl (fun K hK => ?_)
    go_simp
    go_wp2_with (go_at_call 174; refine (touch_read h s p M w4 V4.out.1).mono ?_; rintro e w5 ⟨rfl, l5⟩)
    have V5 : Hid (Blk w5 w.heap.size 31 [.pointer (some ⟨h, 0, none⟩)] ∧ Blk w5 w1.heap.size 3 [.int .i64 p] ∧ Blk w5 w2.heap.size 66 [.slice none 0 0] ∧ Below w4.heap.size w4 w5) := ⟨V4.out.2.1.later l5 V4.out.2.1.lt, V4.out.2.2.1.later l5 V4.out.2.2.1.lt, V4.out.2.2.2.1.later l5 V4.out.2.2.2.1.lt, l5⟩
    have hS5 : (fun W : World => W.cell? ⟨w.heap.size, 0, none⟩ = some (.pointer (some ⟨h, 0, none⟩)) ∧ W.cell? ⟨w1.heap.size, 0, none⟩ = some (.int .i64 p)) w5 := ⟨V5.out.1.cell 0, V5.out.2.1.cell 0⟩
    refine ⟨hS5, ?_⟩
    refine till_ready 5 (by kernel_rfl) rfl (fun K hK => ?_)
    go_simp
    go_wp2_with (go_at_call 173; refine (CO.out w1.heap.size w2.heap.size w5 (by have := z1.out; omega) (by have := z1.out; have := z2.out; omega) (V4.out.1.later l5) V5.out.1 V5.out.2.1 V5.out.2.2.1).mono ?_; rintro e w6 ⟨rfl, M2, y, m1, m2, k6, p6⟩)
    have nM : ∀ b, w.heap.size ≤ b → b ≠ w2.heap.size → ¬ (M b ∨ b = w2.heap.size) := fun b hb hne e => by
      rcases e with e | e
      · have := X.out.all b e; omega
      · exact hne e
    have U6 : Hid (HostAt w6 M2 h (s.opS id ⟨0, p, s.size, List.replicate 12 0⟩) ∧ Goes M M2 w w6 ∧ (s.done → RdPost w2.heap.size (spoL s p (s.coming s.ops)) w.heap.size M2 w6)) := by
      refine ⟨y, ⟨m1, fun k hk => ?_, ?_⟩, p6⟩
      · have := V4.out.2.2.2.2.size; have := l5.size
        rcases m2 k hk with e | e
        · exact .inl e
        · exact .inr (by omega)
      · have l4 := V4.out.2.2.2.2
        have := l4.size; have := l5.size; have := z1.out; have := z2.out
        refine ⟨k6.os.trans (l5.os.trans l4.os), k6.tape.trans (l5.tape.trans l4.tape), k6.output.trans (l5.output.trans l4.output), Nat.le_trans l4.size (Nat.le_trans l5.size k6.size), fun k hk hM => (k6.block k (by omega) (fun e => ?_)).trans ((l5.block k (by omega)).trans (l4.block k hk))⟩
        rcases e with e | e
        · exact hM e
        · omega
    have hS6 : (fun W : World => W.cell? ⟨w.heap.size, 0, none⟩ = some (.pointer (some ⟨h, 0, none⟩)) ∧ W.cell? ⟨w1.heap.size, 0, none⟩ = some (.int .i64 p)) w6 := ⟨(V5.out.1.kept k6 (nM _ (Nat.le_refl _) (by have := z1.out; have := z2.out; omega))).cell 0, (V5.out.2.1.kept k6 (nM _ (by have := z1.out; omega) (by have := z2.out; omega))).cell 0⟩
    refine ⟨hS6, ?_⟩
    clear y m1 m2 k6 p6 nM l5 hS hS5 hS6
    refine till_at (by kernel_rfl) ?_
    refine take_op 6 (some 8) (.int .i64 0) rfl rfl (by kernel_rfl) (by kernel_rfl) (by kernel_rfl) (fun _ _ _ h => h) (by rfl) (fun _ => by rfl) ?_
    simp only [Act.put, List.setIfInBounds_toArray, List.set_cons_zero, List.set_cons_succ]
    refine wpAny_done (by kernel_rfl) (NoPanic.normal ?_) _
    obtain ⟨g, q1, q2, q3, q4, q5, q6⟩ := U6.out.2.2 (HDone.out (by first | rfl | trivial))
    have d6 : w6.cell? ⟨w2.heap.size, 0, none⟩ = some (.slice (some ⟨g, 0, none⟩) s.size s.size) := by rw [← HL.out]; exact q1.cell 0
    have Q : Hid (Blk w6 g 5 (u8s (spoL s p (s.coming s.ops))) ∧ w.heap.size ≤ g ∧ ¬ M2 g ∧ Bytes (spoL s p (s.coming s.ops))) := ⟨q2, q5, q4, q6⟩
    clear q1 q2 q3 q4 q5 q6
    go_wp2_with fail
    go_ret2
    exact ⟨_, rfl, M2, U6.out.1, U6.out.2.1, fun h => absurd rfl h, fun _ => ⟨g, rfl, Q.out⟩⟩
  · go_enter Tryz.func168, Tryz.ntmps168
    go_wp2_with (first | ((with_reducible show wpList _ _ _ (({ dst := some 2, op := _, type := _, pos := _, after := _, guard := _ } : Oper) :: _) _ _); refine wpList_boxV rfl 31 _ rfl (.pointer (some ⟨h, 0, none⟩)) rfl rfl ?_; intro w1 b1 s1 l1; have z1 : Hid (w1.heap.size = w.heap.size + 1) := s1; clear s1) | ((with_reducible show wpList _ _ _ (({ dst := some 3, op := _, type := _, pos := _, after := _, guard := _ } : Oper) :: _) _ _); refine wpList_boxV rfl 3 _ rfl (.int .i64 p) rfl rfl ?_; intro w2 b2 s2 l2; have z2 : Hid (w2.heap.size = w1.heap.size + 1) := s2; clear s2; have d0 : w2.cell? ⟨w.heap.size, 0, none⟩ = some (.pointer (some ⟨h, 0, none⟩)) := (b1.later l2 b1.lt).cell 0; have d1 : w2.cell? ⟨w1.heap.size, 0, none⟩ = some (.int .i64 p) := b2.cell 0; have hb2 : Below w.heap.size w w2 := below_chain l1 l2 l1.size) | (go_at_call 172; refine (CC.out w2 hb2).mono ?_; rintro e _ ⟨rfl, rfl⟩) | ((with_reducible show wpList _ _ _ (({ dst := some 7, op := _, type := _, pos := _, after := _, guard := _ } : Oper) :: _) _ _); refine wpList_allocV rfl 66 rfl (.slice none 0 0) 1 zeroBs rfl ?_; intro w3 b3 s3 l3; have z3 : Hid (w3.heap.size = w2.heap.size + 1) := s3; clear s3))
    have V3 : Hid (HostAt w3 M h s ∧ Blk w3 w.heap.size 31 [.pointer (some ⟨h, 0, none⟩)] ∧ Blk w3 w1.heap.size 3 [.int .i64 p] ∧ Blk w3 w2.heap.size 66 [.slice none 0 0] ∧ Below w.heap.size w w3) := ⟨X.out.later (below_chain hb2 l3 hb2.size), (b1.later l2 b1.lt).later l3 (b1.later l2 b1.lt).lt, b2.later l3 b2.lt, b3, below_chain hb2 l3 hb2.size⟩
    clear b1 b2 b3 l1 l2 l3 z3 hb2
    refine wp_region_noPanic (till_region 6 (fun W => W.cell? ⟨w.heap.size, 0, none⟩ = some (.pointer (some ⟨h, 0, none⟩)) ∧ W.cell? ⟨w1.heap.size, 0, none⟩ = some (.int .i64 p)) (by kernel_rfl) ?_)
    obtain ⟨w4, hw4⟩ : ∃ q, ({ heap := w3.heap, tape := w3.tape, drawn := w3.drawn + 1, os := w3.os, output := w3.output } : World) = q := ⟨_, rfl⟩
    have V4 : Hid (HostAt w4 M h s ∧ Blk w4 w.heap.size 31 [.pointer (some ⟨h, 0, none⟩)] ∧ Blk w4 w1.heap.size 3 [.int .i64 p] ∧ Blk w4 w2.heap.size 66 [.slice none 0 0] ∧ Below w.heap.size w w4) := by rw [← hw4]; exact ⟨V3.out.1.frame ⟨Nat.le_refl _, fun _ _ => rfl⟩, V3.out.2.1, V3.out.2.2.1, V3.out.2.2.2.1, ⟨V3.out.2.2.2.2.os, V3.out.2.2.2.2.tape, V3.out.2.2.2.2.output, V3.out.2.2.2.2.size, V3.out.2.2.2.2.block⟩⟩
    rw [hw4]
    clear hw4
    have hS : (fun W : World => W.cell? ⟨w.heap.size, 0, none⟩ = some (.pointer (some ⟨h, 0, none⟩)) ∧ W.cell? ⟨w1.heap.size, 0, none⟩ = some (.int .i64 p)) w4 := ⟨V4.out.2.1.cell 0, V4.out.2.2.1.cell 0⟩
    refine tLoad 0 (some 15) (.pointer (some ⟨h, 0, none⟩)) rfl rfl (by kernel_rfl) (by kernel_rfl) (by kernel_rfl) (by decide) (by kernel_rfl) (by kernel_rfl) (fun _ _ _ h => h) (by rfl) (fun W' hS' => by obtain ⟨s1, s2⟩ := hS'; go_simp) hS ?_
    simp only [Act.put, List.setIfInBounds_toArray, List.set_cons_zero, List.set_cons_succ]
    refine tLoad 1 (some 16) (.pointer (some ⟨h, 0, none⟩)) rfl rfl (by kernel_rfl) (by kernel_rfl) (by kernel_rfl) (by decide) (by kernel_rfl) (by kernel_rfl) (fun _ _ _ h => h) (by rfl) (fun W' hS' => by obtain ⟨s1, s2⟩ := hS'; go_simp) hS ?_
    simp only [Act.put, List.setIfInBounds_toArray, List.set_cons_zero, List.set_cons_succ]
    refine tLoad 2 (some 17) (.int .i64 p) rfl rfl (by kernel_rfl) (by kernel_rfl) (by kernel_rfl) (by decide) (by kernel_rfl) (by kernel_rfl) (fun _ _ _ h => h) (by rfl) (fun W' hS' => by obtain ⟨s1, s2⟩ := hS'; go_simp) hS ?_
    simp only [Act.put, List.setIfInBounds_toArray, List.set_cons_zero, List.set_cons_succ]
    refine tTake 4 (some 19) (.func (.func 175) #[] #[.pointer (some ⟨w.heap.size, 0, none⟩), .pointer (some ⟨w1.heap.size, 0, none⟩), .pointer (some ⟨w2.heap.size, 0, none⟩)]) rfl rfl (by kernel_rfl) (by kernel_rfl) (by kernel_rfl) (by decide) (fun _ _ _ h => h) (by rfl) (fun W' => by go_simp) hS ?_
    simp only [Act.put, List.setIfInBounds_toArray, List.set_cons_zero, List.set_cons_succ]
    refine till_ready 3 (by kernel_rfl) rfl (fun K hK => ?_)
    go_simp
    go_wp2_with (go_at_call 174; refine (touch_read h s p M w4 V4.out.1).mono ?_; rintro e w5 ⟨rfl, l5⟩)
    have V5 : Hid (Blk w5 w.heap.size 31 [.pointer (some ⟨h, 0, none⟩)] ∧ Blk w5 w1.heap.size 3 [.int .i64 p] ∧ Blk w5 w2.heap.size 66 [.slice none 0 0] ∧ Below w4.heap.size w4 w5) := ⟨V4.out.2.1.later l5 V4.out.2.1.lt, V4.out.2.2.1.later l5 V4.out.2.2.1.lt, V4.out.2.2.2.1.later l5 V4.out.2.2.2.1.lt, l5⟩
    have hS5 : (fun W : World => W.cell? ⟨w.heap.size, 0, none⟩ = some (.pointer (some ⟨h, 0, none⟩)) ∧ W.cell? ⟨w1.heap.size, 0, none⟩ = some (.int .i64 p)) w5 := ⟨V5.out.1.cell 0, V5.out.2.1.cell 0⟩
    refine ⟨hS5, ?_⟩
    refine till_ready 5 (by kernel_rfl) rfl (fun K hK => ?_)
    go_simp
    go_wp2_with (go_at_call 173; refine (CO.out w1.heap.size w2.heap.size w5 (by have := z1.out; omega) (by have := z1.out; have := z2.out; omega) (V4.out.1.later l5) V5.out.1 V5.out.2.1 V5.out.2.2.1).mono ?_; rintro e w6 ⟨rfl, M2, y, m1, m2, k6, p6⟩)
    have nM : ∀ b, w.heap.size ≤ b → b ≠ w2.heap.size → ¬ (M b ∨ b = w2.heap.size) := fun b hb hne e => by
      rcases e with e | e
      · have := X.out.all b e; omega
      · exact hne e
    have U6 : Hid (HostAt w6 M2 h (s.opS id ⟨0, p, s.size, List.replicate 12 0⟩) ∧ Goes M M2 w w6 ∧ (s.done → RdPost w2.heap.size (spoL s p (s.coming s.ops)) w.heap.size M2 w6)) := by
      refine ⟨y, ⟨m1, fun k hk => ?_, ?_⟩, p6⟩
      · have := V4.out.2.2.2.2.size; have := l5.size
        rcases m2 k hk with e | e
        · exact .inl e
        · exact .inr (by omega)
      · have l4 := V4.out.2.2.2.2
        have := l4.size; have := l5.size; have := z1.out; have := z2.out
        refine ⟨k6.os.trans (l5.os.trans l4.os), k6.tape.trans (l5.tape.trans l4.tape), k6.output.trans (l5.output.trans l4.output), Nat.le_trans l4.size (Nat.le_trans l5.size k6.size), fun k hk hM => (k6.block k (by omega) (fun e => ?_)).trans ((l5.block k (by omega)).trans (l4.block k hk))⟩
        rcases e with e | e
        · exact hM e
        · omega
    have hS6 : (fun W : World => W.cell? ⟨w.heap.size, 0, none⟩ = some (.pointer (some ⟨h, 0, none⟩)) ∧ W.cell? ⟨w1.heap.size, 0, none⟩ = some (.int .i64 p)) w6 := ⟨(V5.out.1.kept k6 (nM _ (Nat.le_refl _) (by have := z1.out; have := z2.out; omega))).cell 0, (V5.out.2.1.kept k6 (nM _ (by have := z1.out; omega) (by have := z2.out; omega))).cell 0⟩
    refine ⟨hS6, ?_⟩
    clear y m1 m2 k6 p6 nM l5 hS hS5 hS6
    refine till_at (by kernel_rfl) ?_
    refine take_op 6 (some 8) (.int .i64 110) rfl rfl (by kernel_rfl) (by kernel_rfl) (by kernel_rfl) (fun _ _ _ h => h) (by rfl) (fun _ => by rfl) ?_
    simp only [Act.put, List.setIfInBounds_toArray, List.set_cons_zero, List.set_cons_succ]
    refine wpAny_done (by kernel_rfl) (NoPanic.normal ?_) _
    go_wp2_with fail
    go_ret2
    exact ⟨_, rfl, M2, U6.out.1, U6.out.2.1, fun _ => rfl, fun h => by cases h⟩
end Go.Proofs.YtfhieacclifihaaGreat
namespace Go.Proofs.YtfhieacclifihaaGreat
open Go.RowKit
set_option linter.unusedVariables false
set_option linter.unusedSimpArgs false

/-- The faults that befall the operation k. -/
def comeL (fs : List Fl) (k : Int) : List Fl := fs.filter fun f => decide (0 ≤ f.a ∧ f.a = k)
/-- How many writes back they look at most. -/
def depL (fs : List Fl) : Int := fs.foldl (fun d f => if 0 ≤ f.a ∧ f.k = 1 ∧ d < f.c then f.c else d) 0
theorem depL_bd (fs : List Fl) (h : ∀ f ∈ fs, f.Good) : 0 ≤ depL fs ∧ depL fs ≤ 9223372036854775807 := by
  unfold depL
  have : ∀ (l : List Fl) (d : Int), (∀ f ∈ l, f.Good) → 0 ≤ d ∧ d ≤ 9223372036854775807 → 0 ≤ l.foldl (fun d f => if 0 ≤ f.a ∧ f.k = 1 ∧ d < f.c then f.c else d) d ∧ l.foldl (fun d f => if 0 ≤ f.a ∧ f.k = 1 ∧ d < f.c then f.c else d) d ≤ 9223372036854775807 := by
    intro l
    induction l with
    | nil => intro d _ hd; exact hd
    | cons f l ih =>
      intro d hg hd
      refine ih _ (fun x hx => hg x (by simp [hx])) ?_
      have := (hg f (by simp)).2.2.2.2.2
      dsimp only
      split
      · next h1 => exact ⟨by omega, this.2⟩
      · exact hd
  exact this fs 0 h (by omega)
theorem comeL_take (fs : List Fl) (i : Nat) (hi : i < fs.length) (k : Int) : comeL (fs.take (i + 1)) k = comeL (fs.take i) k ++ (if 0 ≤ (fs.getD i default).a ∧ (fs.getD i default).a = k then [fs.getD i default] else []) := by
  unfold comeL
  have e : fs.getD i default = fs[i] := by simp [List.getD, hi]
  rw [List.take_succ_eq_append_getElem hi, List.filter_append, e]
  congr 1
  by_cases h : 0 ≤ fs[i].a ∧ fs[i].a = k
  · rw [if_pos h]; simp only [List.filter_cons, List.filter_nil]; rw [if_pos (by simpa using h)]
  · rw [if_neg h]; simp only [List.filter_cons, List.filter_nil]; rw [if_neg (by simpa using h)]
theorem depL_take (fs : List Fl) (i : Nat) (hi : i < fs.length) : depL (fs.take (i + 1)) = if 0 ≤ (fs.getD i default).a ∧ (fs.getD i default).k = 1 ∧ depL (fs.take i) < (fs.getD i default).c then (fs.getD i default).c else depL (fs.take i) := by
  have e : fs.getD i default = fs[i] := by simp [List.getD, hi]
  unfold depL
  rw [List.take_succ_eq_append_getElem hi, List.foldl_append, e]
  rfl
theorem comeL_length (fs : List Fl) (k : Int) : (comeL fs k).length ≤ fs.length := List.length_filter_le ..
theorem comeL_good {fs : List Fl} (h : ∀ f ∈ fs, f.Good) (k : Int) : ∀ f ∈ comeL fs k, f.Good := fun f hf => h f (List.mem_filter.1 hf).1
theorem flat_at (l : List Fl) (i j : Nat) (hi : i < l.length) (hj : j < 6) : (l.flatMap flC)[i * 6 + j]? = (flC (l.getD i default))[j]? := by
  induction l generalizing i with
  | nil => cases hi
  | cons a r ih =>
    rw [List.flatMap_cons]
    cases i with
    | zero => rw [Nat.zero_mul, Nat.zero_add, List.getElem?_append_left (by rw [flC_length]; exact hj)]; rfl
    | succ i =>
      rw [List.getElem?_append_right (by rw [flC_length]; omega), flC_length, show (i + 1) * 6 + j - 6 = i * 6 + j by omega, ih i (by simpa using hi)]
      simp
/-- Rows of faults, one a key. -/
structure Groups (w : World) (gm n : Nat) (D : DataW Value) (G : Int → List Fl) (B : Nat) : Prop where
  map : w.ownsMap Tryz.prog 3 heldR gm n D
  own : ∀ k, w.ownsRow B 109 6 (lookV D k) (G k).length ((G k).flatMap flC)
  apart : ∀ j k g, j ≠ k → (lookV D j).ownBlock = some g → (lookV D k).ownBlock ≠ some g
theorem own_same {w w' : World} {B : Nat} {e : TypeId} {z n : Nat} {v : Value} {xs : List Value} (h : w.ownsRow B e z v n xs) (hs : ∀ g, v.ownBlock = some g → w'.heap[g]? = w.heap[g]?) : w'.ownsRow B e z v n xs := by
  refine ⟨h.1, ?_⟩
  rcases h.2 with h2 | ⟨g, cap, cur, hv, hg, hh, r⟩
  · exact .inl h2
  · exact .inr ⟨g, cap, cur, hv, hg, by rw [hs g (by rw [hv]; rfl)]; exact hh, r⟩
theorem own_blk {w : World} {B : Nat} {e : TypeId} {z n : Nat} {v : Value} {xs : List Value} (h : w.ownsRow B e z v n xs) {g : Nat} (hg : v.ownBlock = some g) : ∃ vs, Blk w g e vs := by
  rcases h.2 with ⟨h2, _⟩ | ⟨g', cap, cur, hv, _, hh, r⟩
  · rw [h2] at hg; cases hg
  · rw [hv] at hg; cases hg; exact ⟨cur.toList, by simpa [Blk] using hh⟩
theorem Groups.later {w w' : World} {gm n B : Nat} {D : DataW Value} {G : Int → List Fl} (x : Groups w gm n D G B) (hb : Below w.heap.size w w') : Groups w' gm n D G B :=
  ⟨ownsMap_same x.map (hb.block gm x.map.lt), fun k => own_same (x.own k) (fun g hg => hb.block g ((x.own k).lt g hg).2), x.apart⟩
theorem Groups.drew {w : World} {gm n B : Nat} {D : DataW Value} {G : Int → List Fl} (x : Groups w gm n D G B) : Groups { w with drawn := w.drawn + 1 } gm n D G B := ⟨x.map, x.own, x.apart⟩
theorem Groups.seen {w : World} {gm n B : Nat} {D : DataW Value} {G : Int → List Fl} (x : Groups w gm n D G B) (M : Nat → Prop) (hM : ∀ g, B ≤ g → g < w.heap.size → M g) (k : Int) (hg : ∀ f ∈ G k, f.Good) (hl : (G k).length ≤ 3000000000000) : FlS w (FT w M) (lookV D k) (G k) := by
  refine ⟨hl, hg, ?_⟩
  rcases (x.own k).2 with ⟨h2, h3⟩ | ⟨g, cap, cur, hv, hgB, hh, hc, _, hs, ht⟩
  · rw [h2, h3]
    exact ⟨none, 0, rfl, fun i hi => (by cases hi)⟩
  · rw [hv]
    refine ⟨_, cap, rfl, fun i hi => ⟨g, 0, rfl, lt_of_block hh, ⟨hM g hgB (lt_of_block hh), cur.toList, by simpa [Blk] using hh⟩, fun j v hj => ?_⟩⟩
    have hj6 : j < 6 := by have := (List.getElem?_eq_some_iff.1 hj).1; rw [flC_length] at this; exact this
    rw [Nat.zero_add, cell_of_row w g _ cur 109 (0, 0) hh, ← hj, ← flat_at (G k) i j hi hj6, ← ht, List.getElem?_take, if_pos (by omega)]
    simp
theorem build1_fl (f : Fl) (w : World) : (Instr.buildSlice 58 1 #[(0, .agg (flC f).toArray)]).run Tryz.prog w = .ok (.slice (some ⟨w.heap.size, 0, none⟩) 1 1) (w.alloc (.cells (flC f).toArray 109)) := by
  obtain ⟨a, k, p, b, y, c⟩ := f
  kernel_rfl
/-- One fault more. -/
theorem Groups.add {w : World} {gm n B : Nat} {D : DataW Value} {G : Int → List Fl} (x : Groups w gm n D G B) (f : Fl) (hf : f.Good) (hn : n < 3000000000000) (hl : (G f.a).length ≤ n) (hB : B ≤ w.heap.size) (lb : Nat) (hlb : lb < w.heap.size) (hlb' : ∀ k, (lookV D k).ownBlock ≠ some lb) (hlm : lb ≠ gm) (hn48 : (n + 1) * 48 ≤ 140737488355328) :
    ∃ v' w2 w3, (Builtin.append_ #[58, 58] 58 #[lookV D f.a, .slice (some ⟨w.heap.size, 0, none⟩) 1 1]).run Tryz.prog (w.alloc (.cells (flC f).toArray 109)) = .ok v' w2 ∧
      (Instr.mapUpdate 99 (.map (some gm)) (.int .i64 f.a) v').run Tryz.prog w2 = .ok () w3 ∧ w2.heap[gm]? = w.heap[gm]? ∧ w2.heap[lb]? = w.heap[lb]? ∧ w3.heap[lb]? = w.heap[lb]? ∧
      Groups w3 gm (n + 1) (D.put (.int .i64 f.a) (.held v')) (fun k => if k = f.a then G k ++ [f] else G k) B ∧ w.heap.size ≤ w3.heap.size ∧ (∀ k, k < w.heap.size → k < B → k ≠ gm → w3.heap[k]? = w.heap[k]?) ∧ w3.os = w.os ∧ w3.tape = w.tape ∧ w3.output = w.output := by
  obtain ⟨w0, hw0⟩ : ∃ q, w.alloc (.cells (flC f).toArray 109) = q := ⟨_, rfl⟩
  have b0 : Below w.heap.size w w0 := by rw [← hw0]; exact (Below.refl _ _).alloc (Nat.le_refl _) _
  have s0 : w0.heap.size = w.heap.size + 1 := by rw [← hw0]; simp
  have bf : Blk w0 w.heap.size 109 (flC f) := by rw [← hw0]; exact heap_alloc_new w _
  rw [hw0]
  have x0 := x.later b0
  obtain ⟨i0, hi, hz0, hz1, hz2⟩ := info_parts info_fl
  obtain ⟨v', w2, hr, hown, hg, _, hat⟩ := run_append_own_at (P := Tryz.prog) w0 B 58 58 109 i0 (.agg (flC default).toArray) 6 48 Tryz.underlying58 hi hz0 hz1 hz2 rfl (by decide) (lookV D f.a) (G f.a).length _ (x0.own f.a) ⟨w.heap.size, 0, none⟩ 1 1 (flC f) (by rw [flC_length])
    (fun j u hu => by rw [add_mid, Nat.zero_add, bf.cell]; exact hu) (flC_one f) (by unfold maxLen; omega) (by have := Nat.mul_le_mul_right 48 (Nat.add_le_add_right hl 1); omega) (by omega)
  have nm : (lookV D f.a).ownBlock ≠ some gm := fun e => by
    obtain ⟨vs, hv⟩ := own_blk (x.own f.a) e
    exact map_ne x.map hv rfl
  have km : ∀ k, k < w.heap.size → (lookV D f.a).ownBlock ≠ some k → w2.heap[k]? = w.heap[k]? := fun k hk hne => (hg.block k (by omega) (Ne.symm hne)).trans (b0.block k hk)
  have m2 : w2.ownsMap Tryz.prog 3 heldR gm n D := ownsMap_same x.map (km gm x.map.lt nm)
  obtain ⟨w3, hu, m3, g3⟩ := m2.update keysI Tryz.underlying99 (by unfold maxLen; omega) (key := .int .i64 f.a) (val := v') (Maps.keyOf_int_mk Tryz.underlying3 (wf_of_i64 hf.1)) (d := .held v') (ps := []) rfl
  have h12 := hg.size
  have h23 := g3.size
  have k3 : ∀ k, k < w2.heap.size → k ≠ gm → w3.heap[k]? = w2.heap[k]? := fun k hk hne => g3.block k hk (fun e => hne (Option.some.inj e))
  have gml := x.map.lt
  have isM : Maps.IsMap D := x.map.isMap
  refine ⟨v', w2, w3, hr, hu, km gm gml nm, km lb hlb (hlb' _), (k3 lb (by omega) hlm).trans (km lb hlb (hlb' _)), ⟨m3, fun k => ?_, fun j k g hjk hj hk => ?_⟩, by omega, fun k hk hkB hne => ?_, ?_, ?_, ?_⟩
  · by_cases e : k = f.a
    · subst e
      rw [lookV_put isM, if_pos rfl]
      have e2 : (G f.a ++ [f]).flatMap flC = (G f.a).flatMap flC ++ flC f := by simp [List.flatMap_append]
      rw [List.length_append, List.length_singleton, e2]
      exact own_same hown (fun g hg2 => k3 g (hown.lt g hg2).2 (fun e3 => by
        obtain ⟨vs, hv⟩ := own_blk hown hg2
        exact map_ne m2 hv e3))
    · rw [lookV_put_other _ _ e, if_neg e]
      refine own_same (x.own k) (fun g hg2 => ?_)
      have hgl := ((x.own k).lt g hg2).2
      refine (k3 g (by omega) (fun e3 => ?_)).trans (km g hgl (fun e4 => x.apart k f.a g e hg2 e4))
      obtain ⟨vs, hv⟩ := own_blk (x.own k) hg2
      exact map_ne x.map hv e3
  · have nw : ∀ q g, q ≠ f.a → (lookV D q).ownBlock = some g → v'.ownBlock ≠ some g := fun q g hq h1 h2 => by
      rcases hat with e | e
      · rw [e] at h2; exact x.apart q f.a g hq h1 h2
      · rw [e] at h2
        have := ((x.own q).lt g h1).2
        have h3 : w0.heap.size = g := Option.some.inj h2
        omega
    by_cases e1 : j = f.a
    · subst e1
      rw [lookV_put isM] at hj
      rw [lookV_put_other _ _ (Ne.symm hjk)] at hk
      exact nw k g (Ne.symm hjk) hk hj
    · rw [lookV_put_other _ _ e1] at hj
      by_cases e2 : k = f.a
      · subst e2
        rw [lookV_put isM] at hk
        exact nw j g e1 hj hk
      · rw [lookV_put_other _ _ e2] at hk
        exact x.apart j k g hjk hj hk
  · refine (k3 k (by omega) hne).trans (km k hk (fun e => ?_))
    have := ((x.own f.a).lt k e).1
    omega
  · rw [g3.os, hg.os, b0.os]
  · rw [g3.tape, hg.tape, b0.tape]
  · rw [g3.output, hg.output, b0.output]
end Go.Proofs.YtfhieacclifihaaGreat
namespace Go.Proofs.YtfhieacclifihaaGreat
open Go.RowKit
set_option linter.unusedVariables false
set_option linter.unusedSimpArgs false

theorem Groups.made (w : World) : Groups (w.alloc (.map #[] 0)) w.heap.size 0 (.map []) (comeL []) (w.heap.size + 1) :=
  ⟨World.ownsMap_made w _ _ _, fun k => World.ownsRow_nil _ _ _ _, fun j k g _ h => by cases h⟩
set_option maxRecDepth 20000 in
set_option maxHeartbeats 2000000 in
theorem byOp_any (v : Value) (fs : List Fl) (M : Nat → Prop) (w : World) (x : FlS w M v fs) (hlen : fs.length * 48 ≤ 140737488355328) : Calls Tryz.prog 50 #[v] w fun e w' => ∃ gm n D, e = .returned (.tuple #[.map (some gm), .int .i64 (depL fs)]) ∧ Groups w' gm n D (comeL fs) (w.heap.size + 1) ∧ gm = w.heap.size ∧ Below w.heap.size w w' := by
  obtain ⟨ao, c, rfl, hx⟩ := x.ex
  have X : Hid (FlS w M (.slice ao fs.length c) fs ∧ fs.length * 48 ≤ 140737488355328) := ⟨x, hlen⟩
  have HX : Hid (∀ i, i < fs.length → ∃ b o, ao = some ⟨b, o, none⟩ ∧ b < w.heap.size ∧ M b ∧ w.rangeAt b (o + i * 6) (flC (fs.getD i default))) := hx
  have ht := x.top
  clear x hx hlen
  obtain ⟨n, hn⟩ : ∃ n, fs.length = n := ⟨_, rfl⟩
  rw [hn] at ht ⊢
  have HN : Hid (fs.length = n) := hn
  clear hn
  have hmm := @run_makeMap Tryz.prog
  have HM := Groups.made w
  have HMB : Below w.heap.size w (w.alloc (.map #[] 0)) := (Below.refl _ _).alloc (Nat.le_refl _) _
  have HMH : Hid (Groups (w.alloc (.map #[] 0)) w.heap.size 0 (.map []) (comeL []) (w.heap.size + 1) ∧ Below w.heap.size w (w.alloc (.map #[] 0))) := ⟨HM, HMB⟩
  clear HM HMB
  go_enter Tryz.func50, Tryz.ntmps50
  go_wp2
  go_loopw [5, 11] (fun d i wr => ∃ (k : Nat) (D : DataW Value), k ≤ n ∧ i = .int .i64 k ∧ Groups wr w.heap.size k D (comeL (fs.take k)) (w.heap.size + 1) ∧ Below w.heap.size w wr ∧ d = .int .i64 (depL (fs.take k))) (fun _ i _ => n - (intOf i).toNat)
  case atStart => exact ⟨0, .map [], Nat.zero_le _, rfl, HMH.out.1, HMH.out.2, rfl⟩
  case round =>
    obtain ⟨k, D, hk, rfl, hgr, hbel, rfl⟩ := hrel
    obtain ⟨dp, hdp⟩ : ∃ q, depL (fs.take k) = q := ⟨_, rfl⟩
    rw [hdp]
    have HDP : Hid (depL (fs.take k) = dp) := hdp
    have hdb : 0 ≤ dp ∧ dp ≤ 9223372036854775807 := by rw [← hdp]; exact depL_bd _ (fun f hf => X.out.1.good f (List.mem_of_mem_take hf))
    clear hdp
    by_cases hlt : k < n
    · obtain ⟨b, o, rfl, hbl, _, hrg⟩ := HX.out k (by rw [HN.out]; exact hlt)
      have hlt' : k < fs.length := by rw [HN.out]; exact hlt
      obtain ⟨f, hf⟩ : ∃ f, fs.getD k default = f := ⟨_, rfl⟩
      rw [hf] at hrg
      have hg : f.Good := by rw [← hf]; exact Fl.good_at X.out.1.good k hlt'
      have HG : Hid (Groups wr w.heap.size k D (comeL (fs.take k)) (w.heap.size + 1)) := hgr
      have HB : Hid (Below w.heap.size w wr ∧ wr.rangeAt b (o + k * 6) (flC f) ∧ f.Good ∧ (k < fs.length ∧ fs.getD k default = f) ∧ (k < 3000000000000 ∧ (k + 1) * 48 ≤ 140737488355328) ∧ (comeL (fs.take k) f.a).length ≤ k ∧ w.heap.size < wr.heap.size ∧ (∀ j, (lookV D j).ownBlock ≠ some wr.heap.size)) := by
        refine ⟨hbel, rangeAt_same hrg (hbel.block b hbl), hg, ⟨hlt', hf⟩, ⟨by have := X.out.1.top; omega, ?_⟩, ?_, hgr.map.lt, fun j e => ?_⟩
        · have := X.out.2; omega
        · have := comeL_length (fs.take k) f.a; simp at this; omega
        · have := ((hgr.own j).lt _ e).2; omega
      have hfa := hg.1
      have hfc := hg.2.2.2.2.2
      have i1 : (0 : Int) ≤ (k : Int) := by omega
      have i2 : (k : Int) < (n : Int) := by omega
      clear hbl hrg hf hg hbel hgr hlt'
      by_cases h0 : 0 ≤ f.a
      · go_wp2_with (first | (refine wpList_load_mid rfl 109 (.tmp 13) rfl b (o + k * 6) rfl (flC f) _ HB.out.2.1 Tryz.underlying109 rfl (sizeFl f) ?_) | (refine wpList_alloc_new rfl 109 rfl 6 _ zeroFl ?_; intro w4 b4 s4 l4; have z4 : Hid (w4.heap.size = wr.heap.size + 1) := s4; clear s4) | (refine wpList_store_blk rfl 109 109 (.tmp 7) _ rfl _ rfl _ (flC f) rfl b4 rfl (sizeFl f) (flC_one f) ?_; intro w5 b5 s5 k5; have z5 : Hid (w5.heap.size = w4.heap.size) := s5; clear s5; have c0 : w5.cell? ⟨wr.heap.size, 0, none⟩ = some (.int .i64 f.a) := b5.cell 0))
        have V5 : Hid (Groups w5 w.heap.size k D (comeL (fs.take k)) (w.heap.size + 1) ∧ Blk w5 wr.heap.size 109 (flC f) ∧ w5.heap.size = wr.heap.size + 1 ∧ Below w.heap.size w w5) := by
          have l5 : Below wr.heap.size wr w5 := below_kept l4 k5 (by have := z4.out; omega) (fun j hj => by omega)
          exact ⟨HG.out.later l5, b5, by rw [z5.out, z4.out], below_chain HB.out.1 l5 HB.out.1.size⟩
        clear b4 l4 b5 k5 c0 z4 z5
        refine wp_region_noPanic (till_region 10 (fun W => W.rangeAt wr.heap.size 0 (flC f) ∧ W.ownsMap Tryz.prog 3 heldR w.heap.size k D) (by kernel_rfl) ?_)
        obtain ⟨w6, hw6⟩ : ∃ q, ({ heap := w5.heap, tape := w5.tape, drawn := w5.drawn + 1, os := w5.os, output := w5.output } : World) = q := ⟨_, rfl⟩
        have V6 : Hid (Groups w6 w.heap.size k D (comeL (fs.take k)) (w.heap.size + 1) ∧ Blk w6 wr.heap.size 109 (flC f) ∧ w6.heap.size = wr.heap.size + 1 ∧ Below w.heap.size w w6) := by rw [← hw6]; exact ⟨V5.out.1.drew, V5.out.2.1, V5.out.2.2.1, ⟨V5.out.2.2.2.os, V5.out.2.2.2.tape, V5.out.2.2.2.output, V5.out.2.2.2.size, V5.out.2.2.2.block⟩⟩
        rw [hw6]
        clear hw6
        have hS : (fun W : World => W.rangeAt wr.heap.size 0 (flC f) ∧ W.ownsMap Tryz.prog 3 heldR w.heap.size k D) w6 := ⟨fun j v hv => by rw [Nat.zero_add, V6.out.2.1.cell]; exact hv, V6.out.1.map⟩
        obtain ⟨v8, w8, w9, hr8, hu9, e1, e2, e3, G9, z9, o9, os9, tp9, out9⟩ := V6.out.1.add f HB.out.2.2.1 HB.out.2.2.2.2.1.1 HB.out.2.2.2.2.2.1 (by have := V6.out.2.2.2.size; have := V6.out.2.2.1; have := HB.out.1.size; omega) wr.heap.size (by have := V6.out.2.2.1; omega) HB.out.2.2.2.2.2.2.2 (by have := HB.out.2.2.2.2.2.2.1; omega) HB.out.2.2.2.2.1.2
        obtain ⟨v0, hv0⟩ : ∃ q, lookV D f.a = q := ⟨_, rfl⟩
        have HV : Hid (lookV D f.a = v0) := hv0
        rw [hv0] at hr8
        clear hv0
        have hS8 : (fun W : World => W.rangeAt wr.heap.size 0 (flC f) ∧ W.ownsMap Tryz.prog 3 heldR w.heap.size k D) w8 := ⟨rangeAt_same hS.1 e2, ownsMap_same hS.2 e1⟩
        have hS7 : (fun W : World => W.rangeAt wr.heap.size 0 (flC f) ∧ W.ownsMap Tryz.prog 3 heldR w.heap.size k D) (w6.alloc (.cells (flC f).toArray 109)) := ⟨rangeAt_same hS.1 (Below.heap_alloc w6 _ _ (by have := V6.out.2.2.1; omega)), ownsMap_same hS.2 (Below.heap_alloc w6 _ _ hS.2.lt)⟩
        refine tTake 0 (some 18) (.map (some w.heap.size)) rfl rfl (by kernel_rfl) (by kernel_rfl) (by kernel_rfl) (by decide) (fun _ _ _ h => h) (by rfl) (fun W' => by go_simp) hS ?_
        simp only [Act.put, List.setIfInBounds_toArray, List.set_cons_zero, List.set_cons_succ]
        refine tTake 1 (some 19) (.pointer (some ⟨wr.heap.size, 0, none⟩)) rfl rfl (by kernel_rfl) (by kernel_rfl) (by kernel_rfl) (by decide) (fun _ _ _ h => h) (by rfl) (fun W' => by go_simp) hS ?_
        simp only [Act.put, List.setIfInBounds_toArray, List.set_cons_zero, List.set_cons_succ]
        refine tLoad 2 (some 20) (.int .i64 f.a) rfl rfl (by kernel_rfl) (by kernel_rfl) (by kernel_rfl) (by decide) (by kernel_rfl) (by kernel_rfl) (fun _ _ _ h => h) (by rfl) (fun W' hS' => by have hc : W'.cell? ⟨wr.heap.size, 0, none⟩ = some (.int .i64 f.a) := hS'.1 0 _ rfl; go_simp) hS ?_
        simp only [Act.put, List.setIfInBounds_toArray, List.set_cons_zero, List.set_cons_succ]
        refine tTake 3 (some 21) (.map (some w.heap.size)) rfl rfl (by kernel_rfl) (by kernel_rfl) (by kernel_rfl) (by decide) (fun _ _ _ h => h) (by rfl) (fun W' => by go_simp) hS ?_
        simp only [Act.put, List.setIfInBounds_toArray, List.set_cons_zero, List.set_cons_succ]
        refine tTake 4 (some 22) (.pointer (some ⟨wr.heap.size, 0, none⟩)) rfl rfl (by kernel_rfl) (by kernel_rfl) (by kernel_rfl) (by decide) (fun _ _ _ h => h) (by rfl) (fun W' => by go_simp) hS ?_
        simp only [Act.put, List.setIfInBounds_toArray, List.set_cons_zero, List.set_cons_succ]
        refine tLoad 5 (some 23) (.int .i64 f.a) rfl rfl (by kernel_rfl) (by kernel_rfl) (by kernel_rfl) (by decide) (by kernel_rfl) (by kernel_rfl) (fun _ _ _ h => h) (by rfl) (fun W' hS' => by have hc : W'.cell? ⟨wr.heap.size, 0, none⟩ = some (.int .i64 f.a) := hS'.1 0 _ rfl; go_simp) hS ?_
        simp only [Act.put, List.setIfInBounds_toArray, List.set_cons_zero, List.set_cons_succ]
        refine tLoad 6 (some 24) v0 rfl rfl (by kernel_rfl) (by kernel_rfl) (by kernel_rfl) (by decide) (by kernel_rfl) (by kernel_rfl) (fun _ _ _ h => h) (by rfl) (fun W' hS' => by have hl := look_at hS'.2 HB.out.2.2.1.1; rw [HV.out] at hl; go_simp) hS ?_
        simp only [Act.put, List.setIfInBounds_toArray, List.set_cons_zero, List.set_cons_succ]
        refine tLoadMid 7 (some 25) (flC f) rfl rfl (by kernel_rfl) (by kernel_rfl) (by kernel_rfl) (by decide) (by kernel_rfl) (by kernel_rfl) (fun _ _ _ h => h) (by rfl) 109 (.tmp 7) rfl wr.heap.size 0 rfl _ (fun _ h => h.1) Tryz.underlying109 rfl (sizeFl f) hS ?_
        simp only [Act.put, List.setIfInBounds_toArray, List.set_cons_zero, List.set_cons_succ]
        refine till_run 8 (some 26) (.slice (some ⟨w6.heap.size, 0, none⟩) 1 1) (w6.alloc (.cells (flC f).toArray 109)) (by kernel_rfl) rfl rfl (by rfl) (exec_build 58 1 _ rfl #[(0, .agg (flC f).toArray)] (by simp [Act.eval]) (build1_fl f w6)) hS7 ?_
        simp only [Act.put, List.setIfInBounds_toArray, List.set_cons_zero, List.set_cons_succ]
        refine till_run 9 (some 27) v8 w8 (by kernel_rfl) rfl rfl (by rfl) (exec_append (.tmp 24) (.tmp 26) 58 58 rfl rfl v0 (.slice (some ⟨w6.heap.size, 0, none⟩) 1 1) rfl rfl hr8) hS8 ?_
        simp only [Act.put, List.setIfInBounds_toArray, List.set_cons_zero, List.set_cons_succ]
        clear hS hS7 hS8 hr8
        refine till_at (by kernel_rfl) ?_
        refine wpAny_ready (rs := [10]) (by kernel_rfl) (by simp) (AllReady.cons rfl (fun K hK => ?_) AllReady.nil)
        go_simp
        refine hK _ _ ?_
        clear hK K
        refine wpAny_done (by kernel_rfl) (NoPanic.normal ?_) _
        have R9 : Hid (Groups w9 w.heap.size (k + 1) (D.put (.int .i64 f.a) (.held v8)) (comeL (fs.take (k + 1))) (w.heap.size + 1) ∧ Below w.heap.size w w9) := by
          refine ⟨?_, ?_⟩
          · have e : (fun j => if j = f.a then comeL (fs.take k) j ++ [f] else comeL (fs.take k) j) = comeL (fs.take (k + 1)) := by
              funext j
              rw [comeL_take fs k HB.out.2.2.2.1.1, HB.out.2.2.2.1.2]
              by_cases e : j = f.a
              · rw [if_pos e, if_pos ⟨h0, e.symm⟩]
              · rw [if_neg e, if_neg (fun h => e h.2.symm), List.append_nil]
            rw [← e]; exact G9
          · have l6 := V6.out.2.2.2
            have := V6.out.2.2.1; have := HB.out.1.size
            exact ⟨os9.trans l6.os, tp9.trans l6.tape, out9.trans l6.output, Nat.le_trans l6.size z9, fun j hj => (o9 j (by omega) (by omega) (by omega)).trans (l6.block j hj)⟩
        have c1 : w9.cell? ⟨wr.heap.size, 1, none⟩ = some (.int .i64 f.k) := (World.cell?_of_block (w := w6) (a := ⟨wr.heap.size, 1, none⟩) e3).trans (V6.out.2.1.cell 1)
        have c5 : w9.cell? ⟨wr.heap.size, 5, none⟩ = some (.int .i64 f.c) := (World.cell?_of_block (w := w6) (a := ⟨wr.heap.size, 5, none⟩) e3).trans (V6.out.2.1.cell 5)
        clear G9 z9 o9 os9 tp9 out9 e1 e2 e3 hu9 V5 V6
        by_cases hk1 : f.k = 1
        · have q1 : (f.k == 1) = true := by simp [hk1]
          by_cases hlt2 : dp < f.c
          · have DEP : Hid (depL (fs.take (k + 1)) = f.c) := by
              have : depL (fs.take (k + 1)) = f.c := by rw [depL_take fs k HB.out.2.2.2.1.1, HB.out.2.2.2.1.2, HDP.out, if_pos ⟨h0, hk1, hlt2⟩]
              exact this
            clear hk1
            go_wp2_with fail
            go_roundw
            case rel => exact ⟨k + 1, _, by omega, by go_num, R9.out.1, R9.out.2, by rw [DEP.out]⟩
            case measure => simp [intOf] <;> omega
          · have DEP : Hid (depL (fs.take (k + 1)) = dp) := by
              have : depL (fs.take (k + 1)) = dp := by rw [depL_take fs k HB.out.2.2.2.1.1, HB.out.2.2.2.1.2, HDP.out, if_neg (fun h => hlt2 h.2.2)]
              exact this
            have hle : f.c ≤ dp := by omega
            clear hk1
            go_wp2_with fail
            go_roundw
            case rel => exact ⟨k + 1, _, by omega, by go_num, R9.out.1, R9.out.2, by rw [DEP.out]⟩
            case measure => simp [intOf] <;> omega
        · have q1 : (f.k == 1) = false := by simp [hk1]
          have DEP : Hid (depL (fs.take (k + 1)) = dp) := by
            have : depL (fs.take (k + 1)) = dp := by rw [depL_take fs k HB.out.2.2.2.1.1, HB.out.2.2.2.1.2, HDP.out, if_neg (fun h => hk1 h.2.1)]
            exact this
          clear hk1
          go_wp2_with fail
          go_roundw
          case rel => exact ⟨k + 1, _, by omega, by go_num, R9.out.1, R9.out.2, by rw [DEP.out]⟩
          case measure => simp [intOf] <;> omega
      · have h0' : f.a < 0 := by omega
        go_wp2_with (first | (refine wpList_load_mid rfl 109 (.tmp 13) rfl b (o + k * 6) rfl (flC f) _ HB.out.2.1 Tryz.underlying109 rfl (sizeFl f) ?_) | (refine wpList_alloc_new rfl 109 rfl 6 _ zeroFl ?_; intro w4 b4 s4 l4; have z4 : Hid (w4.heap.size = wr.heap.size + 1) := s4; clear s4) | (refine wpList_store_blk rfl 109 109 (.tmp 7) _ rfl _ rfl _ (flC f) rfl b4 rfl (sizeFl f) (flC_one f) ?_; intro w5 b5 s5 k5; have z5 : Hid (w5.heap.size = w4.heap.size) := s5; clear s5; have c0 : w5.cell? ⟨wr.heap.size, 0, none⟩ = some (.int .i64 f.a) := b5.cell 0))
        have R9 : Hid (Groups w5 w.heap.size (k + 1) D (comeL (fs.take (k + 1))) (w.heap.size + 1) ∧ Below w.heap.size w w5 ∧ depL (fs.take (k + 1)) = dp) := by
          have l5 : Below wr.heap.size wr w5 := below_kept l4 k5 (by have := z4.out; omega) (fun j hj => by omega)
          have e : comeL (fs.take (k + 1)) = comeL (fs.take k) := by
            funext j
            rw [comeL_take fs k HB.out.2.2.2.1.1, HB.out.2.2.2.1.2, if_neg (fun h => h0 h.1), List.append_nil]
          rw [e]
          have g5 := HG.out.later l5
          exact ⟨⟨g5.map.mono (by omega), g5.own, g5.apart⟩, below_chain HB.out.1 l5 HB.out.1.size, by rw [depL_take fs k HB.out.2.2.2.1.1, HB.out.2.2.2.1.2, HDP.out, if_neg (fun h => h0 h.1)]⟩
        clear b4 l4 b5 k5 c0 z4 z5
        go_roundw
        case rel => exact ⟨k + 1, D, by omega, by go_num, R9.out.1, R9.out.2.1, by rw [R9.out.2.2]⟩
        case measure => simp [intOf] <;> omega
    · obtain rfl : k = n := by omega
      have HF : Hid (Groups wr w.heap.size k D (comeL fs) (w.heap.size + 1) ∧ Below w.heap.size w wr ∧ depL fs = dp) := by
        have e := HN.out
        have p := HDP.out
        rw [List.take_of_length_le (by omega)] at p hgr
        exact ⟨hgr, hbel, p⟩
      clear hbel hgr hk
      go_wp2
      go_ret2
      exact ⟨w.heap.size, k, D, by rw [HF.out.2.2]; rfl, HF.out.1, rfl, HF.out.2.1⟩
end Go.Proofs.YtfhieacclifihaaGreat
namespace Go.Proofs.YtfhieacclifihaaGreat
open Go.RowKit
set_option linter.unusedVariables false
set_option linter.unusedSimpArgs false

def newS (pages size : Nat) (fs : List Fl) : HSt := ⟨size, pages, (depL fs).toNat, 0, 0, [], false, comeL fs, fun _ => []⟩
theorem mk_rows (n : Nat) (hn : n ≤ 1048576) (w : World) : (Instr.makeSlice 102 (.int .i64 (n : Int)) (.int .i64 (n : Int))).run Tryz.prog w = .ok (.slice (some ⟨w.heap.size, 0, none⟩) n n) (w.alloc (.cells (madeCells #[.slice none 0 0] n) 65)) :=
  run_make_row' 102 65 (.slice none 0 0) 24 Tryz.underlying102 info_rows rfl .i64 .i64 n (by omega) (by omega) w
theorem build_host (sz d : Int) (a : Option Addr) (n c gm : Nat) (w : World) : (Instr.build 104 #[(0, .int .i64 sz), (1, .slice a n c), (2, .int .i64 d), (4, .map (some gm))]).run Tryz.prog w = .ok (.agg #[.int .i64 sz, .slice a n c, .int .i64 d, .int .u64 0, .map (some gm), .int .i64 0, .slice none 0 0, .bool false]) w := by kernel_rfl
set_option maxRecDepth 20000 in
set_option maxHeartbeats 2000000 in
theorem new_good (pages size : Nat) (v : Value) (fs : List Fl) (M : Nat → Prop) (w : World) (x : FlS w M v fs) (hM : ∀ k, M k → k < w.heap.size) (hlen : fs.length * 48 ≤ 140737488355328) (hp : pages ≤ 65536) (hs : 1 ≤ size ∧ size ≤ 4124) (hk : known fs = true) :
    Calls Tryz.prog 11 #[.int .i64 pages, .int .i64 size, v] w fun e w' => ∃ h, e = .returned (.tuple #[.pointer (some ⟨h, 0, none⟩), .int .i64 0]) ∧ HostAt w' (fun k => w.heap.size ≤ k ∧ k < w'.heap.size) h (newS pages size fs) ∧ Below w.heap.size w w' := by
  have CK := allKnown_any v fs M w x
  rw [hk] at CK
  have CB : Hid (∀ w1, Below w.heap.size w w1 → Calls Tryz.prog 50 #[v] w1 fun e w' => ∃ gm n D, e = .returned (.tuple #[.map (some gm), .int .i64 (depL fs)]) ∧ Groups w' gm n D (comeL fs) (w1.heap.size + 1) ∧ gm = w1.heap.size ∧ Below w1.heap.size w1 w') := fun w1 l1 =>
    byOp_any v fs M w1 (x.frame (Same.below l1 hM)) hlen
  have mk := mk_rows pages (by omega)
  have hdb := depL_bd fs x.good
  obtain ⟨dp, hdp⟩ : ∃ q, depL fs = q := ⟨_, rfl⟩
  rw [hdp] at CB hdb
  have X : Hid (FlS w M v fs ∧ depL fs = dp ∧ pages ≤ 65536 ∧ (1 ≤ size ∧ size ≤ 4124)) := ⟨x, hdp, hp, hs⟩
  have i1 : (0 : Int) ≤ (pages : Int) := by omega
  have i2 : (pages : Int) ≤ 65536 := by omega
  have i3 : (1 : Int) ≤ (size : Int) := by omega
  have i4 : (size : Int) ≤ 4124 := by omega
  have FIN : Hid (∀ w1 w2 w3 w4 gm n D, Below w.heap.size w w1 → Groups w2 gm n D (comeL fs) (w1.heap.size + 1) → gm = w1.heap.size → Below w1.heap.size w1 w2 → w3 = w2.alloc (.cells (madeCells #[.slice none 0 0] pages) 65) → Blk w4 w3.heap.size 104 [.int .i64 size, .slice (some ⟨w2.heap.size, 0, none⟩) pages pages, .int .i64 dp, .int .u64 0, .map (some gm), .int .i64 0, .slice none 0 0, .bool false] → Below w3.heap.size w3 w4 → w4.heap.size = w3.heap.size + 1 → HostAt w4 (fun k => w.heap.size ≤ k ∧ k < w4.heap.size) w3.heap.size (newS pages size fs) ∧ Below w.heap.size w w4) := fun w1 w2 w3 w4 gm n D l1 G2 hgm l2 hw3 b4 l4 s4 => by
    have l3 : Below w2.heap.size w2 w3 := by rw [hw3]; exact (Below.refl _ _).alloc (Nat.le_refl _) _
    have s3 : w3.heap.size = w2.heap.size + 1 := by rw [hw3]; simp
    have b3 : Blk w3 w2.heap.size 65 (List.replicate pages (.slice none 0 0)) := by rw [hw3]; exact made_blk _ _ _ _
    have l24 : Below w2.heap.size w2 w4 := below_chain l3 l4 (by omega)
    have G4 := G2.later l24
    have := l1.size; have := l2.size
    have hgl := G2.map.lt
    have rep : ∀ p, (List.replicate pages (Value.slice none 0 0)).getD p (.slice none 0 0) = .slice none 0 0 := fun p => by
      by_cases h : p < pages <;> simp [List.getD, List.getElem?_replicate, h]
    refine ⟨⟨w2.heap.size, gm, .slice none 0 0, List.replicate pages (.slice none 0 0), n, D, ⟨⟨X.out.2.2.2, X.out.2.2.1, ?_, ?_, Nat.zero_le _, Nat.le_refl _, fun p => Nat.le_refl _, fun p z hz => (by cases hz)⟩, ?_, b3.later l4 (by omega), by simp [newS], ⟨by omega, by omega⟩, ⟨by omega, by omega⟩, ⟨by omega, by omega⟩, G4.map, fun k => ?_, ⟨fun t ht => (by cases ht), World.ownsRow_nil _ _ _ _, fun g hg => (by cases hg)⟩, fun p hp => ?_, fun p q hpq hq g hg => ?_, fun k hk => hk.2⟩⟩, below_chain (below_chain l1 l2 l1.size) l24 (by omega)⟩
    · show (depL fs).toNat ≤ 9223372036854775807
      rw [X.out.2.1]; omega
    · exact ⟨Int.le_refl _, show (0 : Int) < 18446744073709551616 by decide⟩
    · have e : hostC (newS pages size fs) w2.heap.size gm (.slice none 0 0) = [.int .i64 size, .slice (some ⟨w2.heap.size, 0, none⟩) pages pages, .int .i64 dp, .int .u64 0, .map (some gm), .int .i64 0, .slice none 0 0, .bool false] := by
        have : (((depL fs).toNat : Nat) : Int) = dp := by rw [X.out.2.1]; omega
        simp only [hostC, newS, this]
        rfl
      rw [e]; exact b4
    · exact G4.seen _ (fun g h1 h2 => ⟨by omega, h2⟩) k (comeL_good X.out.1.good k) (Nat.le_trans (comeL_length fs k) X.out.1.top)
    · rw [rep]; exact .inl ⟨rfl, rfl⟩
    · rw [rep] at hg; cases hg
  clear x hk hp hs hlen hM hdp
  go_enter Tryz.func11, Tryz.ntmps11
  go_wp2_with (first | (go_at_call 49; refine CK.mono ?_; rintro e w1 ⟨rfl, l1⟩) | (go_at_call 50; refine (CB.out w1 l1).mono ?_; rintro e w2 ⟨gm, n, D, rfl, G2, hgm, l2⟩; have HH : Hid (Groups w2 gm n D (comeL fs) (w1.heap.size + 1) ∧ gm = w1.heap.size ∧ Below w1.heap.size w1 w2 ∧ Below w.heap.size w w1) := ⟨G2, hgm, l2, l1⟩; clear G2 hgm l2 l1) | ((with_reducible show wpList _ _ _ (({ dst := some 39, op := _, type := _, pos := _, after := _, guard := _ } : Oper) :: _) _ _); refine wpList_build rfl 104 _ rfl #[(0, .int .i64 size), (1, .slice (some ⟨w2.heap.size, 0, none⟩) pages pages), (2, .int .i64 dp), (4, .map (some gm))] (by simp [Act.eval]) _ (build_host _ _ _ _ _ _ _) ?_) | (refine wpList_box_new rfl 104 _ rfl [.int .i64 size, .slice (some ⟨w2.heap.size, 0, none⟩) pages pages, .int .i64 dp, .int .u64 0, .map (some gm), .int .i64 0, .slice none 0 0, .bool false] rfl ?_; intro w4 b4 s4 l4; have q4 := FIN.out w1 w2 _ w4 gm n D HH.out.2.2.2 HH.out.1 HH.out.2.1 HH.out.2.2.1 rfl b4 l4 s4; have Q4 : Hid (HostAt w4 (fun k => w.heap.size ≤ k ∧ k < w4.heap.size) (w2.alloc (.cells (madeCells #[.slice none 0 0] pages) 65)).heap.size (newS pages size fs) ∧ Below w.heap.size w w4) := q4; clear q4 b4 s4 l4))
  go_ret2
  exact ⟨_, rfl, by simpa using Q4.out.1, Q4.out.2⟩
theorem own_made_t (w : World) : (w.alloc (.cells #[] 126)).ownsRow w.heap.size 126 15 (.slice (some ⟨w.heap.size, 0, none⟩) 0 0) 0 [] :=
  World.ownsRow_made w _ 0 (Nat.le_refl _) (Nat.zero_le _) rfl
set_option maxRecDepth 20000 in
set_option maxHeartbeats 1000000 in
theorem cloneT_any (v : Value) (l : List Tc) (M : Nat → Prop) (w : World) (x : LogS w M v l) (hl : l.length ≤ 3000000000000) : Calls Tryz.prog 51 #[v] w fun e w' => ∃ v', e = .returned v' ∧ w'.ownsRow w.heap.size 126 15 v' l.length (l.flatMap tcC) ∧ Below w.heap.size w w' := by
  obtain ⟨i0, hi, hz0, hz1, hz2⟩ := info_parts info_tc
  have ho := x.own
  rcases x.own.2 with ⟨rfl, h0⟩ | ⟨g, cap, cur, rfl, _, hh, hc, hm, hs, ht⟩
  · obtain rfl : l = [] := List.length_eq_zero_iff.1 h0
    have hq : ∀ wx, (binOp .eql 49 (.slice none 0 0) (.slice none 0 0)).run Tryz.prog wx = .ok (.bool true) wx := fun wx => Lib.run_eql_slice_nil wx 49 126 none 0 0 0 0 Tryz.underlying49
    clear ho x
    go_enter Tryz.func51, Tryz.ntmps51
    go_wp2
    go_ret
    exact ⟨_, rfl, World.ownsRow_nil _ _ _ _, Below.refl _ _⟩
  · have hb1 : Below w.heap.size w (w.alloc (.cells #[] 126)) := (Below.refl _ _).alloc (Nat.le_refl _) _
    have ho1 := own_made_t w
    have gl : g < w.heap.size := lt_of_block hh
    have HNW : Hid (∀ j u, (l.flatMap tcC)[j]? = some u → (w.alloc (.cells #[] 126)).cell? ((⟨g, 0, none⟩ : Addr).add j) = some u) := fun j u hu => by
      have := ho.cells (g := g) rfl j u hu
      rw [add_mid] at this ⊢
      exact (hb1.cell (p := ⟨g, 0 + j, none⟩) gl).trans this
    have HL : Hid ((l.flatMap tcC).length = l.length * 15) := ho.1
    have H1 : Hid (∀ u ∈ l.flatMap tcC, u.oneCell' = true) := fun u hu => by
      obtain ⟨t, _, h2⟩ := List.mem_flatMap.1 hu
      exact tcC_one t u h2
    have hq : ∀ wx, (binOp .eql 49 (.slice (some ⟨g, 0, none⟩) l.length cap) (.slice none 0 0)).run Tryz.prog wx = .ok (.bool false) wx := fun wx => Lib.run_eql_slice_nil wx 49 126 (some ⟨g, 0, none⟩) l.length cap 0 0 Tryz.underlying49
    obtain ⟨n, hn⟩ : ∃ n, l.length = n := ⟨_, rfl⟩
    rw [hn] at hq HL hl ⊢
    clear ho x hh hc hm hs ht hn
    go_enter Tryz.func51, Tryz.ntmps51
    go_wp2_with (at_builtin; refine wpList_append_own _ rfl _ _ 49 rfl w.heap.size 126 i0 (.agg (tcC default).toArray) 15 40 Tryz.underlying49 hi hz0 hz1 hz2 rfl (by decide) _ 0 [] rfl ho1 ⟨g, 0, none⟩ n cap (l.flatMap tcC) rfl HL.out HNW.out H1.out ?c3 ?c4 hb1.size ?_)
    case c3 => unfold maxLen; omega
    case c4 => omega
    · intro v' w1 hown hgrow _
      have R : Hid (Below w.heap.size w w1) := hb1.grown hgrow hb1.size (fun j hj => (ho1.lt j hj).1)
      try simp only [Nat.zero_add, List.nil_append] at hown
      have HO : Hid (w1.ownsRow w.heap.size 126 15 v' n (l.flatMap tcC)) := hown
      clear hown hgrow ho1
      go_wp2
      go_ret
      exact ⟨_, rfl, HO.out, R.out⟩
theorem log_any (h : Nat) (s : HSt) (M : Nat → Prop) (w : World) (x : HostAt w M h s) : Calls Tryz.prog 16 #[.pointer (some ⟨h, 0, none⟩)] w fun e w' => ∃ v', e = .returned v' ∧ w'.ownsRow w.heap.size 126 15 v' s.log.length (s.log.flatMap tcC) ∧ Below w.heap.size w w' := by
  obtain ⟨gl, gm, lg, rws, n, D, x⟩ := x
  have c6 : w.cell? ⟨h, 6, none⟩ = some lg := x.blk.cell 6
  have C := cloneT_any lg s.log M w x.log (by have := x.good.log; have := x.good.ops; omega)
  obtain ⟨a, m, c, rfl⟩ := own_slice x.log.own
  clear x
  go_enter Tryz.func16, Tryz.ntmps16
  go_wp2_with (go_at_call 51; refine C.mono ?_; rintro e w1 ⟨v', rfl, o1, l1⟩)
  go_ret
  exact ⟨_, rfl, o1, l1⟩
end Go.Proofs.YtfhieacclifihaaGreat
