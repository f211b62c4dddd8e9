/- Layer host: what the log will tell of an operation. -/
import Derived.Test.YtobcolpdkcppoaaHKeepW
namespace Go.Proofs.Ytobcolpdkcppoaa
open Go.RowKit
set_option linter.unusedVariables false
set_option linter.unusedSimpArgs false

theorem wpList_yield {ops : Array Oper} {rest : List Oper} {o : Oper} {a : Act} {Q : Exit → Act → World → Prop} {w : World} (hgd : o.guard = none) (v : Value) (hrun : (execOp a.eval o).run Try.prog w = .ok (.value v) w) (h : wpList Try.prog ops Q rest (a.put o.dst v) w) : wpList Try.prog ops Q (o :: rest) a w := by
  refine wpList_plain hgd fun K hK => ?_
  unfold Oper.wp
  rw [hrun]
  exact hK _ _ h
/-- The first twelve bytes, the rest 0. -/
def headL (zs : List Int) : List Int := zs.take 12 ++ List.replicate (12 - zs.length) 0
theorem headL_length (zs : List Int) : (headL zs).length = 12 := by simp [headL]; omega
theorem build_tc (op : Int) (w : World) : (Instr.build 49 #[(0, .int .i64 op), (2, .int .i64 8)]).run Try.prog w = .ok (.agg (tcC ⟨op, 0, 8, List.replicate 12 0⟩).toArray) w := by kernel_rfl
theorem tcg (op pg ln : Int) : (Tc.mk op pg ln (List.replicate 12 0)).Good := rfl
set_option maxRecDepth 20000 in
theorem sl_nonce (g : Nat) (w : World) : (Instr.sliceAt 47 (.pointer (some ⟨g, 3, none⟩)) none none none).run Try.prog w = .ok (.slice (some ⟨g, 3, none⟩) 12 12) w := by kernel_rfl
set_option maxRecDepth 20000 in
set_option maxHeartbeats 1000000 in
theorem touch_reg (h : Nat) (s : HSt) (op : Int) (hop : op = 2 ∨ op = 3) (M : Nat → Prop) (w : World) (x : HostAt w M h s) :
    Calls Try.prog 50 #[.pointer (some ⟨h, 0, none⟩), .int .i64 op, .int .i64 0, .slice none 0 0] w fun e w' => e = .returned (.agg (tcC ⟨op, 0, 8, List.replicate 12 0⟩).toArray) ∧ Below w.heap.size w w' := by
  have bt := build_tc op
  have q1 : (op == 1) = false := by rcases hop with rfl | rfl <;> rfl
  have q0 : (op == 0) = false := by rcases hop with rfl | rfl <;> rfl
  clear x hop
  go_enter Try.func50, Try.ntmps50
  go_wp2_with (first | ((with_reducible show wpList _ _ _ (({ dst := some 8, op := _, type := _, pos := _, after := _, guard := _ } : Oper) :: _) _ _); refine wpList_alloc_new rfl 49 rfl 15 _ zeroTc ?_; intro w1 b1 s1 l1; have z1 : Hid (w1.heap.size = w.heap.size + 1) := s1; clear s1) | ((with_reducible show wpList _ _ _ (({ dst := some 11, op := _, type := _, pos := _, after := _, guard := _ } : Oper) :: _) _ _); refine wpList_build rfl 49 _ rfl #[(0, .int .i64 op), (2, .int .i64 8)] (by simp [Act.eval]) _ (bt _) ?_) | ((with_reducible show wpList _ _ _ (({ dst := some 9, op := _, type := _, pos := _, after := _, guard := _ } : Oper) :: _) _ _); refine wpList_alloc_new rfl 49 rfl 15 _ zeroTc ?_; intro w2 b2 s2 l2; have z2 : Hid (w2.heap.size = w1.heap.size + 1) := s2; clear s2) | (refine wpList_store_blk rfl 49 49 (.tmp 9) (.tmp 11) rfl _ rfl _ (tcC ⟨op, 0, 8, List.replicate 12 0⟩) rfl b2 rfl (sizeTc rfl) (tcC_one _) ?_; intro w3 b3 s3 k3; have z3 : Hid (w3.heap.size = w2.heap.size) := s3; clear s3) | (refine wpList_load_blk rfl 49 (.tmp 9) rfl _ rfl (tcC ⟨op, 0, 8, List.replicate 12 0⟩) _ b3 Try.underlying49 rfl (sizeTc rfl) ?_) | (refine wpList_store_blk rfl 49 49 (.tmp 8) (.tmp 28) rfl _ rfl _ (tcC ⟨op, 0, 8, List.replicate 12 0⟩) rfl ((b1.later l2 b1.lt).kept k3 (by have := b1.lt; omega)) rfl (sizeTc rfl) (tcC_one _) ?_; intro w4 b4 s4 k4))
  refine ret_blk rfl w.heap.size (tcC ⟨op, 0, 8, List.replicate 12 0⟩) _ rfl b4 Try.underlying49 rfl (sizeTc rfl) rfl ⟨rfl, ?_⟩
  have := z1.out; have := z2.out; have := z3.out
  exact below_kept (below_kept (below_chain l1 l2 (by omega)) k3 (by omega) (fun j hj => by omega)) k4 (by omega) (fun j hj => by omega)
set_option maxRecDepth 20000 in
set_option maxHeartbeats 1000000 in
theorem touch_read (h : Nat) (s : HSt) (p : Int) (M : Nat → Prop) (w : World) (x : HostAt w M h s) :
    Calls Try.prog 50 #[.pointer (some ⟨h, 0, none⟩), .int .i64 0, .int .i64 p, .slice none 0 0] w fun e w' => e = .returned (.agg (tcC ⟨0, p, s.size, List.replicate 12 0⟩).toArray) ∧ Below w.heap.size w w' := by
  have bt := build_tc 0
  obtain ⟨gl, gm, lg, rws, n, D, x⟩ := x
  have X : Hid (Blk w h 91 (hostC s gl gm lg)) := x.blk
  clear x
  go_enter Try.func50, Try.ntmps50
  go_wp2_with (first | ((with_reducible show wpList _ _ _ (({ dst := some 8, op := _, type := _, pos := _, after := _, guard := _ } : Oper) :: _) _ _); refine wpList_alloc_new rfl 49 rfl 15 _ zeroTc ?_; intro w1 b1 s1 l1; have z1 : Hid (w1.heap.size = w.heap.size + 1) := s1; clear s1) | ((with_reducible show wpList _ _ _ (({ dst := some 11, op := _, type := _, pos := _, after := _, guard := _ } : Oper) :: _) _ _); refine wpList_build rfl 49 _ rfl #[(0, .int .i64 0), (2, .int .i64 8)] (by simp [Act.eval]) _ (bt _) ?_) | ((with_reducible show wpList _ _ _ (({ dst := some 9, op := _, type := _, pos := _, after := _, guard := _ } : Oper) :: _) _ _); refine wpList_alloc_new rfl 49 rfl 15 _ zeroTc ?_; intro w2 b2 s2 l2; have z2 : Hid (w2.heap.size = w1.heap.size + 1) := s2; clear s2) | (refine wpList_store_blk rfl 49 49 (.tmp 9) (.tmp 11) rfl _ rfl _ (tcC ⟨0, 0, 8, List.replicate 12 0⟩) rfl b2 rfl (sizeTc rfl) (tcC_one _) ?_; intro w3 b3 s3 k3; have z3 : Hid (w3.heap.size = w2.heap.size) := s3; clear s3; have d0 : w3.cell? ⟨h, 0, none⟩ = some (.int .i64 s.size) := ((((X.out.later l1 X.out.lt).later l2 (by have := z1.out; have := X.out.lt; omega)).kept k3 (by have := z1.out; have := X.out.lt; omega))).cell 0; have d1 : w3.cell? ⟨w1.heap.size, 1, none⟩ = some (.int .i64 0) := b3.cell 1; have d2 : w3.cell? ⟨w1.heap.size, 2, none⟩ = some (.int .i64 8) := b3.cell 2; have g1 : w3.frozen? ⟨w1.heap.size, 1, none⟩ = false := b3.frozen 1; have g2 : w3.frozen? ⟨w1.heap.size, 2, none⟩ = false := b3.frozen 2; have nh : w1.heap.size ≠ h := by { have := z1.out; have := X.out.lt; omega }) | (refine wpList_load_blk rfl 49 (.tmp 9) rfl _ rfl (tcC ⟨0, p, s.size, List.replicate 12 0⟩) _ (show Blk _ _ _ (tcC ⟨0, p, s.size, List.replicate 12 0⟩) from (b3.set 1 (.int .i64 p)).set 2 (.int .i64 s.size)) Try.underlying49 rfl (sizeTc rfl) ?_) | (refine wpList_store_blk rfl 49 49 (.tmp 8) (.tmp 28) rfl _ rfl _ (tcC ⟨0, p, s.size, List.replicate 12 0⟩) rfl ((((b1.later l2 b1.lt).kept k3 (by have := b1.lt; omega)).other (p := ⟨w1.heap.size, 1, none⟩) (by have := b1.lt; simp; omega) _).other (p := ⟨w1.heap.size, 2, none⟩) (by have := b1.lt; simp; omega) _) rfl (sizeTc rfl) (tcC_one _) ?_; intro w4 b4 s4 k4))
  refine ret_blk rfl w.heap.size (tcC ⟨0, p, s.size, List.replicate 12 0⟩) _ rfl b4 Try.underlying49 rfl (sizeTc rfl) rfl ⟨rfl, ?_⟩
  have := z1.out; have := z2.out; have := z3.out
  have l3 : Below w.heap.size w w3 := below_kept (below_chain l1 l2 (by omega)) k3 (by omega) (fun j hj => by omega)
  exact below_kept (below_kept l3 (((Kept.refl (fun k => k = w1.heap.size) w3).setCell (p := ⟨w1.heap.size, 1, none⟩) rfl _).setCell (p := ⟨w1.heap.size, 2, none⟩) rfl _) (by omega) (fun j hj => by omega)) k4 (by simp [World.setCell]; omega) (fun j hj => by omega)

theorem lenTc (p z : Int) (zs : List Int) : (tcC ⟨1, p, z, headL zs⟩).length = (tcC default).length := by
  rw [tcC_length (show (Tc.mk 1 p z (headL zs)).Good from headL_length zs)]; rfl
theorem u8s_rep12 (n : Nat) : u8s (List.replicate 12 0) = u8s (List.replicate (Nat.min n 12) 0) ++ u8s (List.replicate (12 - Nat.min n 12) 0) := by
  have : Nat.min n 12 ≤ 12 := Nat.min_le_right _ _
  simp only [u8s, ← List.map_append, List.replicate_append_replicate]
  congr 2; omega
theorem head_cut (zs : List Int) (n : Nat) (hn : zs.length = n) : u8s (zs.take (Nat.min n 12)) ++ u8s (List.replicate (12 - Nat.min n 12) 0) = u8s (headL zs) := by
  unfold headL
  subst hn
  rcases Nat.le_total zs.length 12 with h | h
  · have e : Nat.min zs.length 12 = zs.length := Nat.min_eq_left h
    rw [e, List.take_of_length_le (Nat.le_refl _), List.take_of_length_le h]
    simp [u8s]
  · have e : Nat.min zs.length 12 = 12 := Nat.min_eq_right h
    rw [e, Nat.sub_eq_zero_of_le h]
    simp [u8s]
set_option maxRecDepth 20000 in
set_option maxHeartbeats 1000000 in
theorem touch_write (h : Nat) (s : HSt) (p : Int) (ao : Option Addr) (n c : Nat) (zs : List Int) (M : Nat → Prop) (w : World) (x : HostAt w M h s) (hx : Seen w ao n zs) :
    Calls Try.prog 50 #[.pointer (some ⟨h, 0, none⟩), .int .i64 1, .int .i64 p, .slice ao n c] w fun e w' => e = .returned (.agg (tcC ⟨1, p, s.size, headL zs⟩).toArray) ∧ Below w.heap.size w w' := by
  have bt := build_tc 1
  obtain ⟨gl, gm, lg, rws, n', D, x⟩ := x
  have X : Hid (Blk w h 91 (hostC s gl gm lg) ∧ Seen w ao n zs) := ⟨x.blk, hx⟩
  have sn := fun g => sl_nonce g
  clear x hx
  go_enter Try.func50, Try.ntmps50
  go_wp2_with (first | ((with_reducible show wpList _ _ _ (({ dst := some 8, op := _, type := _, pos := _, after := _, guard := _ } : Oper) :: _) _ _); refine wpList_alloc_new rfl 49 rfl 15 _ zeroTc ?_; intro w1 b1 s1 l1; have z1 : Hid (w1.heap.size = w.heap.size + 1) := s1; clear s1) | ((with_reducible show wpList _ _ _ (({ dst := some 11, op := _, type := _, pos := _, after := _, guard := _ } : Oper) :: _) _ _); refine wpList_build rfl 49 _ rfl #[(0, .int .i64 1), (2, .int .i64 8)] (by simp [Act.eval]) _ (bt _) ?_) | ((with_reducible show wpList _ _ _ (({ dst := some 9, op := _, type := _, pos := _, after := _, guard := _ } : Oper) :: _) _ _); refine wpList_alloc_new rfl 49 rfl 15 _ zeroTc ?_; intro w2 b2 s2 l2; have z2 : Hid (w2.heap.size = w1.heap.size + 1) := s2; clear s2) | (refine wpList_store_blk rfl 49 49 (.tmp 9) (.tmp 11) rfl _ rfl _ (tcC ⟨1, 0, 8, List.replicate 12 0⟩) rfl b2 rfl (sizeTc rfl) (tcC_one _) ?_; intro w3 b3 s3 k3; have z3 : Hid (w3.heap.size = w2.heap.size) := s3; clear s3) | ((with_reducible show wpList _ _ _ (({ dst := some 18, op := _, type := _, pos := _, after := _, guard := _ } : Oper) :: _) _ _); refine wpList_yield rfl (.slice (some ⟨w1.heap.size, 3, none⟩) 12 12) (by simp [execOp, Act.eval, sn]) ?_) | ((with_reducible show wpList _ _ _ (({ dst := some 19, op := _, type := _, pos := _, after := _, guard := _ } : Oper) :: _) _ _); refine wpList_yield rfl (.slice ao n c) (by simp [execOp, Act.eval]) ?_) | ((with_reducible show wpList _ _ _ (({ dst := some 20, op := _, type := _, pos := _, after := _, guard := _ } : Oper) :: _) _ _); refine wpList_copy_seen rfl _ _ rfl w1.heap.size 3 12 12 _ ao n c rfl rfl zs (((X.out.2.later l1 (Nat.le_refl _)).later l2 (Nat.le_refl _)).kept k3 (fun b o hn e => by { have := (X.out.2.later l1 (Nat.le_refl _)).old (Nat.le_refl _) b o hn e; omega })) 49 [.int .i64 1, .int .i64 0, .int .i64 8] (u8s (List.replicate (Nat.min n 12) 0)) (u8s (List.replicate (12 - Nat.min n 12) 0)) (by { rw [← u8s_rep12 n]; exact b3 }) rfl (Nat.min n 12) rfl (by simp [u8s_length]) (fun _ => rfl) ?_; intro w5 b5 s5 k5; rw [head_cut zs n X.out.2.len] at b5; have z5 : Hid (w5.heap.size = w3.heap.size) := s5; clear s5; have d0 : w5.cell? ⟨h, 0, none⟩ = some (.int .i64 s.size) := ((((X.out.1.later l1 X.out.1.lt).later l2 (by have := z1.out; have := X.out.1.lt; omega)).kept k3 (by have := z1.out; have := X.out.1.lt; omega)).kept k5 (by have := z1.out; have := X.out.1.lt; omega)).cell 0; have d1 : w5.cell? ⟨w1.heap.size, 1, none⟩ = some (.int .i64 0) := b5.cell 1; have d2 : w5.cell? ⟨w1.heap.size, 2, none⟩ = some (.int .i64 8) := b5.cell 2; have g1 : w5.frozen? ⟨w1.heap.size, 1, none⟩ = false := b5.frozen 1; have g2 : w5.frozen? ⟨w1.heap.size, 2, none⟩ = false := b5.frozen 2; have nh : w1.heap.size ≠ h := by { have := z1.out; have := X.out.1.lt; omega }) | (refine wpList_load_blk rfl 49 (.tmp 9) rfl _ rfl (tcC ⟨1, p, s.size, headL zs⟩) _ (show Blk _ _ _ (tcC ⟨1, p, s.size, headL zs⟩) from (b5.set 1 (.int .i64 p)).set 2 (.int .i64 s.size)) Try.underlying49 rfl (sizeTc (headL_length zs)) ?_) | (refine wpList_store_blk rfl 49 49 (.tmp 8) (.tmp 28) rfl _ rfl _ (tcC ⟨1, p, s.size, headL zs⟩) rfl (((((b1.later l2 b1.lt).kept k3 (by have := b1.lt; omega)).kept k5 (by have := b1.lt; omega)).other (p := ⟨w1.heap.size, 1, none⟩) (by have := b1.lt; simp; omega) _).other (p := ⟨w1.heap.size, 2, none⟩) (by have := b1.lt; simp; omega) _) (lenTc p s.size zs) (sizeTc (headL_length zs)) (tcC_one _) ?_; intro w4 b4 s4 k4))
  refine ret_blk rfl w.heap.size (tcC ⟨1, p, s.size, headL zs⟩) _ rfl b4 Try.underlying49 rfl (sizeTc (headL_length zs)) rfl ⟨rfl, ?_⟩
  have := z1.out; have := z2.out; have := z3.out; have := z5.out
  have l3 : Below w.heap.size w w5 := below_kept (below_kept (below_chain l1 l2 (by omega)) k3 (by omega) (fun j hj => by omega)) k5 (by omega) (fun j hj => by omega)
  exact below_kept (below_kept l3 (((Kept.refl (fun k => k = w1.heap.size) w5).setCell (p := ⟨w1.heap.size, 1, none⟩) rfl _).setCell (p := ⟨w1.heap.size, 2, none⟩) rfl _) (by omega) (fun j hj => by omega)) k4 (by simp [World.setCell]; omega) (fun j hj => by omega)
end Go.Proofs.Ytobcolpdkcppoaa
