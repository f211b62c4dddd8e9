/- The walk of PageNames. -/
import Derived.Test.YtcimiajkbgabiaaZG
import Derived.Deep.OwnRows
namespace Go.Proofs.Ytcimiajkbgabiaa
open Go.RowKit Go.Deep
set_option linter.unusedVariables false
set_option linter.unusedSimpArgs false

def k0 : List Int := List.replicate 32 0
theorem bk0 (w : World) : (Instr.build 27 #[]).run Try.prog w = .ok (.agg (u8s k0).toArray) w := by kernel_rfl
theorem bp0 (w : World) : (Instr.build 31 #[]).run Try.prog w = .ok (.agg (placeC 0 0 0 0).toArray) w := by kernel_rfl
theorem pmk_bytes (n : Nat) (hn : n ≤ 1048576) (w : World) : (Instr.makeSlice 22 (.int .i64 (n : Int)) (.int .i64 (n : Int))).run Try.prog w = .ok (.slice (some ⟨w.heap.size, 0, none⟩) n n) (w.alloc (.cells (madeCells #[.int .u8 0] n) 5)) :=
  run_make_row' 22 5 (.int .u8 0) 1 Try.underlying22 info_byte rfl .i64 .i64 n (by omega) (by omega) w
theorem wpList_make {ops : Array Oper} {rest : List Oper} {o : Oper} {a : Act} {Q : Exit → Act → World → Prop} {w : World} (hgd : o.guard = none) (t : TypeId) (x y : Operand) (ho : o.op = .makeSlice t x y) (vx vy : Value) (hx : a.eval x = vx) (hy : a.eval y = vy) (v : Value) (w' : World) (hr : (Instr.makeSlice t vx vy).run Try.prog w = .ok v w') (h : wpList Try.prog ops Q rest (a.put o.dst v) w') : wpList Try.prog ops Q (o :: rest) a w := by
  refine wpList_plain hgd fun K hK => ?_
  unfold Oper.wp execOp
  simp only [ho, hx, hy, Sem.run_bind, hr, Sem.run_pure, Result.andThen_ok]
  exact hK _ _ h
theorem made_below (w : World) (n : Nat) : ∃ W, w.alloc (.cells (madeCells #[.int .u8 0] n) 5) = W ∧ Below w.heap.size w W := ⟨_, rfl, (Below.refl _ _).alloc (Nat.le_refl _) _⟩
set_option maxRecDepth 20000 in
set_option maxHeartbeats 4000000 in
theorem pageNames.walk (w : World) : Calls Try.prog 3 #[] w fun e w' => e = .returned (.bool true) ∧ Below w.heap.size w w' := by
  obtain ⟨n1, h1⟩ : ∃ n, n = 27 := ⟨_, rfl⟩
  obtain ⟨n2, h2⟩ : ∃ n, n = 4125 := ⟨_, rfl⟩
  obtain ⟨n3, h3⟩ : ∃ n, n = 4097 := ⟨_, rfl⟩
  have M1 : Hid (∀ w, (Instr.makeSlice 22 (.int .i64 27) (.int .i64 27)).run Try.prog w = .ok (.slice (some ⟨w.heap.size, 0, none⟩) n1 n1) (w.alloc (.cells (madeCells #[.int .u8 0] n1) 5))) := fun w => by subst h1; exact pmk_bytes 27 (by decide) w
  have M2 : Hid (∀ w, (Instr.makeSlice 22 (.int .i64 4125) (.int .i64 4125)).run Try.prog w = .ok (.slice (some ⟨w.heap.size, 0, none⟩) n2 n2) (w.alloc (.cells (madeCells #[.int .u8 0] n2) 5))) := fun w => by subst h2; exact pmk_bytes 4125 (by decide) w
  have M3 : Hid (∀ w, (Instr.makeSlice 22 (.int .i64 4097) (.int .i64 4097)).run Try.prog w = .ok (.slice (some ⟨w.heap.size, 0, none⟩) n3 n3) (w.alloc (.cells (madeCells #[.int .u8 0] n3) 5))) := fun w => by subst h3; exact pmk_bytes 4097 (by decide) w
  have HN : Hid (n1 < 28 ∧ 4124 < n2 ∧ n2 ≤ 140737488355328 ∧ 4096 < n3 ∧ n3 ≤ 140737488355328) := by subst h1 h2 h3; exact ⟨by decide, by decide, by decide, by decide, by decide⟩
  clear h1 h2 h3
  go_enter Try.func3, Try.ntmps3
  go_wp2_with (first | (refine wpList_build rfl 27 _ rfl #[] (by simp) _ (bk0 _) ?_) | (refine wpList_build rfl 31 _ rfl #[] (by simp) _ (bp0 _) ?_) | (refine wpList_make rfl 22 _ _ rfl _ _ rfl rfl _ _ (M1.out _) ?_))
  obtain ⟨w1, hw1, l1⟩ := made_below w n1
  rw [hw1]
  refine (popen_short k0 0 0 0 0 _ n1 n1 HN.out.1 w1).mono ?_
  rintro e w2 ⟨rfl, l2⟩
  have L2 : Hid (Below w.heap.size w w2) := below_chain l1 l2 l1.size
  clear hw1 l1 l2
  go_wp2_with (first | (refine wpList_build rfl 27 _ rfl #[] (by simp) _ (bk0 _) ?_) | (refine wpList_build rfl 31 _ rfl #[] (by simp) _ (bp0 _) ?_) | (refine wpList_make rfl 22 _ _ rfl _ _ rfl rfl _ _ (M2.out _) ?_))
  obtain ⟨w3, hw3, l3⟩ := made_below w2 n2
  rw [hw3]
  refine (popen_long k0 0 0 0 0 _ n2 n2 HN.out.2.2.1 HN.out.2.1 w3).mono ?_
  rintro e w4 ⟨rfl, l4⟩
  have L4 : Hid (Below w.heap.size w w4) := below_chain (below_chain L2.out l3 L2.out.size) l4 (by have := L2.out.size; have := l3.size; omega)
  clear hw3 l3 l4
  go_wp2_with (first | (refine wpList_build rfl 27 _ rfl #[] (by simp) _ (bk0 _) ?_) | (refine wpList_build rfl 31 _ rfl #[] (by simp) _ (bp0 _) ?_) | (refine wpList_make rfl 22 _ _ rfl _ _ rfl rfl _ _ (M3.out _) ?_))
  obtain ⟨w5, hw5, l5⟩ := made_below w4 n3
  rw [hw5]
  refine (pseal_bad k0 0 0 0 0 _ n3 n3 HN.out.2.2.2.2 HN.out.2.2.2.1 w5).mono ?_
  rintro e w6 ⟨rfl, l6⟩
  have L6 : Hid (Below w.heap.size w w6) := below_chain (below_chain L4.out l5 L4.out.size) l6 (by have := L4.out.size; have := l5.size; omega)
  clear hw5 l5 l6
  go_wp2_with (refine wpList_make rfl 22 _ _ rfl _ _ rfl rfl _ _ (M1.out _) ?_)
  obtain ⟨w7, hw7, l7⟩ := made_below w6 n1
  rw [hw7]
  refine (phead_bad _ n1 n1 HN.out.1 w7).mono ?_
  rintro e w8 ⟨rfl, rfl⟩
  have L8 : Hid (Below w.heap.size w w7) := below_chain L6.out l7 L6.out.size
  clear hw7 l7
  go_wp2_with (go_at_call 11; refine (pworks_any _).mono ?_; rintro e w9 ⟨rfl, l9⟩)
  go_ret
  exact ⟨rfl, below_chain L8.out l9 L8.out.size⟩
end Go.Proofs.Ytcimiajkbgabiaa
