/- Layer codec: the statements' small config; awake. -/
import Derived.Test.YtmgkjldjeomcmaaDoorCcPages
import Derived.Test.YtmgkjldjeomcmaaDoorCcPut
import Derived.Test.YtmgkjldjeomcmaaDoorCcParse
import Derived.Deep.RegionWith
import Derived.Deep.CutRange
namespace Go.Proofs.YtmgkjldjeomcmaaDoor
open Go.RowKit
set_option linter.unusedVariables false
set_option linter.unusedSimpArgs false


def smC : Cg := ⟨4, 32, 3, 114, 2, 1⟩
theorem smC_ok : smC.ok = true := by decide +kernel
theorem sm_build (w : World) : (Instr.build 23 #[(0, .int .i64 4), (1, .int .i64 32), (2, .int .i64 3), (3, .int .i64 114), (4, .int .i64 2), (5, .int .i64 1)]).run Tryd.prog w = .ok (.agg smC.cs.toArray) w := by kernel_rfl
set_option maxRecDepth 20000 in
theorem small_any (w : World) : Calls Tryd.prog 71 #[] w fun e w' => e = .returned (.agg #[.int .i64 4, .int .i64 32, .int .i64 3, .int .i64 114, .int .i64 2, .int .i64 1]) ∧ Below w.heap.size w w' := by
  go_enter Tryd.func71, Tryd.ntmps71
  go_wp2_with (first | ((with_reducible show wpList _ _ _ (({ dst := some 0, op := _, type := _, pos := _, after := _, guard := _ } : Oper) :: _) _ _); refine wpList_alloc_new rfl 23 rfl 6 _ cg_zero ?_; intro w1 b1 s1 l1; have z1 : Hid (w1.heap.size = w.heap.size + 1) := s1; clear s1) | ((with_reducible show wpList _ _ _ (({ dst := some 1, op := _, type := _, pos := _, after := _, guard := _ } : Oper) :: _) _ _); refine wpList_build rfl 23 _ rfl _ (by simp [Act.eval]; rfl) _ (sm_build _) ?_) | (refine wpList_store_blk rfl 23 23 (.tmp 0) (.tmp 1) rfl _ rfl _ smC.cs rfl (b1) rfl (cg_size smC) (cg_one smC) ?_; intro w2 b2 s2 k2; have z2 : Hid (w2.heap.size = w1.heap.size) := s2; clear s2))
  exact ret_blk rfl w.heap.size smC.cs _ rfl b2 Tryd.underlying23 rfl (cg_size smC) rfl ⟨rfl, below_kept l1 k2 (by have := z1.out; omega) (fun j hj => by omega)⟩
theorem made32 (w : World) : (Instr.makeSlice 24 (.int .i64 32) (.int .i64 32)).run Tryd.prog w = .ok (.slice (some ⟨w.heap.size, 0, none⟩) 32 32) (w.alloc (.cells (u8s (zer 32)).toArray 5)) := by kernel_rfl
theorem z32_seen (w : World) : Seen (w.alloc (.cells (u8s (zer 32)).toArray 5)) (some ⟨w.heap.size, 0, none⟩) 32 (zer 32) := by
  have b : Blk (w.alloc (.cells (u8s (zer 32)).toArray 5)) w.heap.size 5 (u8s (zer 32)) := heap_alloc_new w _
  exact ⟨rfl, by decide, fun z hz => by simp [zer] at hz; omega, fun _ => ⟨w.heap.size, 0, rfl, b.lt, fun i hi => by rw [Nat.zero_add, u8s_cell b i (by simpa [zer] using hi)]⟩⟩
theorem aw_a {w w4 w1 w5 : World} {o : Obj} (L : Below w.heap.size w w4) (l1 : Below w4.drew.heap.size w4.drew w1) (l5 : Below (w1.alloc o).heap.size (w1.alloc o) w5) : Below w.heap.size w w5 := by
  have q4 := L.size
  have q1 : w4.heap.size ≤ w1.heap.size := l1.size
  exact below_chain ((below_chain (Below.drew L) l1 q4).alloc (Nat.le_trans q4 q1) _) l5 (by simp; omega)
theorem aw_b {w w4 w1 w5 : World} {o : Obj} (L : Below w.heap.size w w4) (l1 : Below (w4.alloc o).drew.heap.size (w4.alloc o).drew w1) (l5 : Below w1.heap.size w1 w5) : Below w.heap.size w w5 := by
  have q4 := L.size
  have q1 : (w4.alloc o).heap.size ≤ w1.heap.size := l1.size
  simp at q1
  exact below_chain (below_chain (Below.drew (L.alloc q4 o)) l1 (by show _ ≤ (w4.alloc o).heap.size; simp; omega)) l5 (by omega)
set_option maxRecDepth 20000 in
set_option maxHeartbeats 4000000 in
theorem awake_any (w : World) : Calls Tryd.prog 45 #[] w fun e w' => e = .returned (.bool true) ∧ Below w.heap.size w w' := by
  have C1 : Hid (∀ W, Calls Tryd.prog 13 #[.agg #[.int .i64 4, .int .i64 32, .int .i64 3, .int .i64 114, .int .i64 2, .int .i64 1], .int .i64 1] W fun e w' => e = .returned (.tuple #[.int .i64 48, .int .i64 0]) ∧ Below W.heap.size W w') := fun W => requestSize_any smC 1 W
  have C2 : Hid (∀ W, Calls Tryd.prog 15 #[.agg #[.int .i64 4, .int .i64 32, .int .i64 3, .int .i64 114, .int .i64 2, .int .i64 1], .int .i64 2] W fun e w' => e = .returned (.tuple #[.int .i64 16, .int .i64 0]) ∧ Below W.heap.size W w') := fun W => replySize_any smC 2 W
  have C3 : Hid (∀ W, Calls Tryd.prog 17 #[.agg #[.int .i64 4, .int .i64 32, .int .i64 3, .int .i64 114, .int .i64 2, .int .i64 1], .int .i64 2, .int .i64 4] W fun e w' => e = .returned (.tuple #[.int .i64 6, .int .i64 0]) ∧ Below W.heap.size W w') := fun W => by
    have h6 : (pgC smC 2 4 : Int) = 6 := by decide +kernel
    have := pages_yes smC 2 4 (by decide +kernel) (by decide) W
    rw [h6] at this
    exact this
  have C4 : Hid (∀ W, Calls Tryd.prog 10 #[.agg #[.int .i64 4, .int .i64 32, .int .i64 3, .int .i64 114, .int .i64 2, .int .i64 1]] W fun e w' => e = .returned (.int .i64 0) ∧ Below W.heap.size W w') := fun W => ok_err smC_ok ▸ check_any smC W
  have C5 : Hid (∀ W, Calls Tryd.prog 10 #[.agg #[.int .i64 0, .int .i64 0, .int .i64 0, .int .i64 0, .int .i64 0, .int .i64 0]] W fun e w' => e = .returned (.int .i64 200) ∧ Below W.heap.size W w') := fun W => (show cg0.err = 200 by decide +kernel) ▸ check_any cg0 W
  have C6 : Hid (∀ (W : World) (ao : Option Addr), Seen W ao 32 (zer 32) → ao ≠ none → Calls Tryd.prog 23 #[.agg #[.int .i64 4, .int .i64 32, .int .i64 3, .int .i64 114, .int .i64 2, .int .i64 1], .bool false, .slice ao 32 32] W fun e w' => ∃ vo cv, e = .returned (.tuple #[.slice vo 33 cv, .int .i64 0]) ∧ Below W.heap.size W w') := fun W ao hs hne => by
    refine (talkReply_not smC ao 32 32 (zer 32) rfl smC_ok W hs (fun h => absurd h hne)).mono ?_
    rintro e w' ⟨vo, cv, rfl, _, hb⟩
    exact ⟨vo, cv, by rw [List.length_replicate], hb⟩
  go_enter Tryd.func45, Tryd.ntmps45
  go_wp2_with (go_at_call 71; refine (small_any _).mono ?_; rintro e w1 ⟨rfl, l1⟩)
  refine (C1.out _).mono ?_
  rintro e w2 ⟨rfl, l2⟩
  have L2 : Hid (Below w.heap.size w w2) := below_chain l1 l2 l1.size
  clear l1 l2
  go_wp2_with (go_at_call 71; refine (small_any _).mono ?_; rintro e w1 ⟨rfl, l1⟩)
  refine (C2.out _).mono ?_
  rintro e w3 ⟨rfl, l2⟩
  have L3 : Hid (Below w.heap.size w w3) := below_chain (below_chain L2.out l1 L2.out.size) l2 (Nat.le_trans L2.out.size l1.size)
  clear l1 l2
  go_wp2_with (go_at_call 71; refine (small_any _).mono ?_; rintro e w1 ⟨rfl, l1⟩)
  refine (C3.out _).mono ?_
  rintro e w4 ⟨rfl, l2⟩
  have L4 : Hid (Below w.heap.size w w4) := below_chain (below_chain L3.out l1 L3.out.size) l2 (Nat.le_trans L3.out.size l1.size)
  clear l1 l2
  go_upto_region 4 with fail
  go_cut [7, 8] from 24 to 29 (fun s7 s8 wc => (∃ vo cv, s7 = .slice vo 33 cv) ∧ s8 = .int .i64 0 ∧ Below w.heap.size w wc)
  case first =>
    have hmk := made32
    go_region_with (first | (go_at_call 71; refine (small_any _).mono ?_; rintro e w1 ⟨rfl, l1⟩) | (go_at_call 23; first | (refine (C6.out _ _ (z32_seen _) (by simp)).mono ?_; rintro e w5 ⟨vo, cv, rfl, l5⟩) | (refine (C6.out _ _ ((z32_seen _).drew.later l1 (Nat.le_refl _)) (by simp)).mono ?_; rintro e w5 ⟨vo, cv, rfl, l5⟩)))
    all_goals (have L5 : Hid (Below w.heap.size w w5) := (by first | exact aw_a L4.out l1 l5 | exact aw_b L4.out l1 l5))
    all_goals clear l1 l5
    all_goals go_wp2_with fail
    all_goals go_meet
    all_goals exact ⟨⟨_, _, rfl⟩, rfl, L5.out⟩
  case rest =>
  obtain ⟨⟨vo, cv, rfl⟩, rfl, L5⟩ := hcut
  have L6 : Hid (Below w.heap.size w wc) := L5
  clear L5 L4 C1 C2 C3 C6
  go_wp2_with (first | (go_at_call 71; refine (small_any _).mono ?_; rintro e w6 ⟨rfl, l6⟩) | (go_at_call 10; with_reducible refine (C4.out _).mono ?_; rintro e w7 ⟨rfl, l7⟩) | (go_at_call 10; with_reducible refine (C5.out _).mono ?_; rintro e w8 ⟨rfl, l8⟩))
  go_ret
  exact ⟨rfl, below_chain (below_chain (below_chain L6.out l6 L6.out.size) l7 (Nat.le_trans L6.out.size l6.size)) l8 (Nat.le_trans (Nat.le_trans L6.out.size l6.size) l7.size)⟩
end Go.Proofs.YtmgkjldjeomcmaaDoor
