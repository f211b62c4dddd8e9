/- CodecPages: the walk. -/
import Derived.Test.YtmgkjldjeomcmabDoorCcPgM
import Derived.Test.YtmgkjldjeomcmabDoorCcAwake
namespace Go.Proofs.YtmgkjldjeomcmabDoor.codecPages
open Go.RowKit
set_option linter.unusedVariables false
set_option linter.unusedSimpArgs false

set_option maxRecDepth 20000 in
set_option maxHeartbeats 2000000 in
theorem bad_config (c : Cg) (k n : Int) (w : World) (hok : c.ok = false) : Calls Tryd.prog 5 #[c.v, .int .i64 k, .int .i64 n] w fun e w' => e = .returned (.bool true) ∧ Below w.heap.size w w' := by
  have HP : Hid (∀ W, Calls Tryd.prog 26 #[c.v, .int .i64 k, .int .i64 n] W fun e w' => e = .returned (.tuple #[.int .i64 0, .int .i64 200]) ∧ Below W.heap.size W w') := fun W => (by have := pages_err c k n (by rw [show szE c k = 200 by simp [szE, hok]]; decide) W; rwa [show szE c k = 200 by simp [szE, hok]] at this)
  have HC : Hid (∀ W, Calls Tryd.prog 8 #[c.v] W fun e w' => e = .returned (.int .i64 200) ∧ Below W.heap.size W w') := fun W => no_err hok ▸ check_any c W
  go_enter Tryd.func5, Tryd.ntmps5
  go_wp2_with (first | ((with_reducible show wpList _ _ _ (({ dst := some 3, op := _, type := _, pos := _, after := _, guard := _ } : Oper) :: _) _ _); refine wpList_box_new rfl 23 _ rfl c.cs rfl ?_; intro w1 b1 s1 l1; have z1 : Hid (w1.heap.size = w.heap.size + 1) := s1; clear s1) | (go_at_call 7; refine (awake_any _).mono ?_; rintro e w2 ⟨rfl, l2⟩; have z2 : Hid (w1.heap.size ≤ w2.heap.size) := l2.size; have B2 : Hid (Blk w2 w.heap.size 23 c.cs ∧ Below w.heap.size w w2 ∧ w.heap.size ≤ w2.heap.size) := (by have q1 := z1.out; have q2 := z2.out; exact ⟨b1.later l2 (by omega), below_chain l1 l2 (by omega), by omega⟩); clear b1 l1 l2) | ((with_reducible show wpList _ _ _ (({ dst := some 17, op := _, type := _, pos := _, after := _, guard := _ } : Oper) :: _) _ _); refine wpList_load_blk rfl 23 (.tmp 3) rfl _ rfl c.cs _ (B2.out.1) Tryd.underlying23 rfl (cg_size c) ?_))
  refine (HP.out _).mono ?_
  rintro e w3 ⟨rfl, l3⟩
  have B3 : Hid (Blk w3 w.heap.size 23 c.cs ∧ Below w.heap.size w w3 ∧ w.heap.size ≤ w3.heap.size) := (by have q := B2.out.1.lt; have q3 := l3.size; have := B2.out.2.2; exact ⟨B2.out.1.later l3 q, below_chain B2.out.2.1 l3 this, by omega⟩)
  clear l3 B2
  go_wp2_with (first | ((with_reducible show wpList _ _ _ (({ dst := some 23, op := _, type := _, pos := _, after := _, guard := _ } : Oper) :: _) _ _); refine wpList_load_blk rfl 23 (.tmp 3) rfl _ rfl c.cs _ (B3.out.1) Tryd.underlying23 rfl (cg_size c) ?_))
  refine (HC.out _).mono ?_
  rintro e w4 ⟨rfl, l4⟩
  have B4 : Hid (Blk w4 w.heap.size 23 c.cs ∧ Below w.heap.size w w4 ∧ w.heap.size ≤ w4.heap.size) := (by have q := B3.out.1.lt; have q3 := l4.size; have := B3.out.2.2; exact ⟨B3.out.1.later l4 q, below_chain B3.out.2.1 l4 this, by omega⟩)
  have c0 : w4.cell? ⟨w.heap.size, 0, none⟩ = some (.int .i64 c.bt) := (by rw [B4.out.1.cell]; rfl)
  clear l4 B3
  go_wp2
  go_ret
  exact ⟨rfl, B4.out.2.1⟩
set_option maxRecDepth 20000 in
set_option maxHeartbeats 2000000 in
theorem bad_kind (c : Cg) (k n : Int) (w : World) (hok : c.ok = true) (h1 : ¬ k = 1) (h2 : ¬ k = 2) : Calls Tryd.prog 5 #[c.v, .int .i64 k, .int .i64 n] w fun e w' => e = .returned (.bool true) ∧ Below w.heap.size w w' := by
  have n1 : (k != 1) = true := by simpa using h1
  have n2 : (k != 2) = true := by simpa using h2
  have HP : Hid (∀ W, Calls Tryd.prog 26 #[c.v, .int .i64 k, .int .i64 n] W fun e w' => e = .returned (.tuple #[.int .i64 0, .int .i64 253]) ∧ Below W.heap.size W w') := fun W => (by have := pages_err c k n (by rw [show szE c k = 253 by simp [szE, hok, h1, h2]]; decide) W; rwa [show szE c k = 253 by simp [szE, hok, h1, h2]] at this)
  have HC : Hid (∀ W, Calls Tryd.prog 8 #[c.v] W fun e w' => e = .returned (.int .i64 0) ∧ Below W.heap.size W w') := fun W => ok_err hok ▸ check_any c W
  go_enter Tryd.func5, Tryd.ntmps5
  go_wp2_with (first | ((with_reducible show wpList _ _ _ (({ dst := some 3, op := _, type := _, pos := _, after := _, guard := _ } : Oper) :: _) _ _); refine wpList_box_new rfl 23 _ rfl c.cs rfl ?_; intro w1 b1 s1 l1; have z1 : Hid (w1.heap.size = w.heap.size + 1) := s1; clear s1) | (go_at_call 7; refine (awake_any _).mono ?_; rintro e w2 ⟨rfl, l2⟩; have z2 : Hid (w1.heap.size ≤ w2.heap.size) := l2.size; have B2 : Hid (Blk w2 w.heap.size 23 c.cs ∧ Below w.heap.size w w2 ∧ w.heap.size ≤ w2.heap.size) := (by have q1 := z1.out; have q2 := z2.out; exact ⟨b1.later l2 (by omega), below_chain l1 l2 (by omega), by omega⟩); clear b1 l1 l2) | ((with_reducible show wpList _ _ _ (({ dst := some 17, op := _, type := _, pos := _, after := _, guard := _ } : Oper) :: _) _ _); refine wpList_load_blk rfl 23 (.tmp 3) rfl _ rfl c.cs _ (B2.out.1) Tryd.underlying23 rfl (cg_size c) ?_))
  refine (HP.out _).mono ?_
  rintro e w3 ⟨rfl, l3⟩
  have B3 : Hid (Blk w3 w.heap.size 23 c.cs ∧ Below w.heap.size w w3 ∧ w.heap.size ≤ w3.heap.size) := (by have q := B2.out.1.lt; have q3 := l3.size; have := B2.out.2.2; exact ⟨B2.out.1.later l3 q, below_chain B2.out.2.1 l3 this, by omega⟩)
  clear l3 B2
  go_wp2_with (first | ((with_reducible show wpList _ _ _ (({ dst := some 23, op := _, type := _, pos := _, after := _, guard := _ } : Oper) :: _) _ _); refine wpList_load_blk rfl 23 (.tmp 3) rfl _ rfl c.cs _ (B3.out.1) Tryd.underlying23 rfl (cg_size c) ?_))
  refine (HC.out _).mono ?_
  rintro e w4 ⟨rfl, l4⟩
  have B4 : Hid (Blk w4 w.heap.size 23 c.cs ∧ Below w.heap.size w w4 ∧ w.heap.size ≤ w4.heap.size) := (by have q := B3.out.1.lt; have q3 := l4.size; have := B3.out.2.2; exact ⟨B3.out.1.later l4 q, below_chain B3.out.2.1 l4 this, by omega⟩)
  have c0 : w4.cell? ⟨w.heap.size, 0, none⟩ = some (.int .i64 c.bt) := (by rw [B4.out.1.cell]; rfl)
  clear l4 B3
  go_wp2
  go_ret
  exact ⟨rfl, B4.out.2.1⟩
set_option maxRecDepth 20000 in
set_option maxHeartbeats 2000000 in
theorem bad_neg1 (c : Cg) (n : Int) (w : World) (hok : c.ok = true) (hn : n < 0) : Calls Tryd.prog 5 #[c.v, .int .i64 1, .int .i64 n] w fun e w' => e = .returned (.bool true) ∧ Below w.heap.size w w' := by
  have HP : Hid (∀ W, Calls Tryd.prog 26 #[c.v, .int .i64 1, .int .i64 n] W fun e w' => e = .returned (.tuple #[.int .i64 0, .int .i64 2]) ∧ Below W.heap.size W w') := fun W => pages_neg c 1 n (show szE c 1 = 0 by simp [szE, hok]) hn W
  have HC : Hid (∀ W, Calls Tryd.prog 8 #[c.v] W fun e w' => e = .returned (.int .i64 0) ∧ Below W.heap.size W w') := fun W => ok_err hok ▸ check_any c W
  go_enter Tryd.func5, Tryd.ntmps5
  go_wp2_with (first | ((with_reducible show wpList _ _ _ (({ dst := some 3, op := _, type := _, pos := _, after := _, guard := _ } : Oper) :: _) _ _); refine wpList_box_new rfl 23 _ rfl c.cs rfl ?_; intro w1 b1 s1 l1; have z1 : Hid (w1.heap.size = w.heap.size + 1) := s1; clear s1) | (go_at_call 7; refine (awake_any _).mono ?_; rintro e w2 ⟨rfl, l2⟩; have z2 : Hid (w1.heap.size ≤ w2.heap.size) := l2.size; have B2 : Hid (Blk w2 w.heap.size 23 c.cs ∧ Below w.heap.size w w2 ∧ w.heap.size ≤ w2.heap.size) := (by have q1 := z1.out; have q2 := z2.out; exact ⟨b1.later l2 (by omega), below_chain l1 l2 (by omega), by omega⟩); clear b1 l1 l2) | ((with_reducible show wpList _ _ _ (({ dst := some 17, op := _, type := _, pos := _, after := _, guard := _ } : Oper) :: _) _ _); refine wpList_load_blk rfl 23 (.tmp 3) rfl _ rfl c.cs _ (B2.out.1) Tryd.underlying23 rfl (cg_size c) ?_))
  refine (HP.out _).mono ?_
  rintro e w3 ⟨rfl, l3⟩
  have B3 : Hid (Blk w3 w.heap.size 23 c.cs ∧ Below w.heap.size w w3 ∧ w.heap.size ≤ w3.heap.size) := (by have q := B2.out.1.lt; have q3 := l3.size; have := B2.out.2.2; exact ⟨B2.out.1.later l3 q, below_chain B2.out.2.1 l3 this, by omega⟩)
  clear l3 B2
  go_wp2_with (first | ((with_reducible show wpList _ _ _ (({ dst := some 23, op := _, type := _, pos := _, after := _, guard := _ } : Oper) :: _) _ _); refine wpList_load_blk rfl 23 (.tmp 3) rfl _ rfl c.cs _ (B3.out.1) Tryd.underlying23 rfl (cg_size c) ?_))
  refine (HC.out _).mono ?_
  rintro e w4 ⟨rfl, l4⟩
  have B4 : Hid (Blk w4 w.heap.size 23 c.cs ∧ Below w.heap.size w w4 ∧ w.heap.size ≤ w4.heap.size) := (by have q := B3.out.1.lt; have q3 := l4.size; have := B3.out.2.2; exact ⟨B3.out.1.later l4 q, below_chain B3.out.2.1 l4 this, by omega⟩)
  have c0 : w4.cell? ⟨w.heap.size, 0, none⟩ = some (.int .i64 c.bt) := (by rw [B4.out.1.cell]; rfl)
  clear l4 B3
  go_wp2
  go_ret
  exact ⟨rfl, B4.out.2.1⟩
set_option maxRecDepth 20000 in
set_option maxHeartbeats 2000000 in
theorem bad_big1 (c : Cg) (n : Int) (w : World) (hok : c.ok = true) (hn : ¬ n < 0) (hb : c.bt < n) : Calls Tryd.prog 5 #[c.v, .int .i64 1, .int .i64 n] w fun e w' => e = .returned (.bool true) ∧ Below w.heap.size w w' := by
  have HP : Hid (∀ W, Calls Tryd.prog 26 #[c.v, .int .i64 1, .int .i64 n] W fun e w' => e = .returned (.tuple #[.int .i64 0, .int .i64 252]) ∧ Below W.heap.size W w') := fun W => pages_batch c 1 n (show szE c 1 = 0 by simp [szE, hok]) hn hb W
  have HC : Hid (∀ W, Calls Tryd.prog 8 #[c.v] W fun e w' => e = .returned (.int .i64 0) ∧ Below W.heap.size W w') := fun W => ok_err hok ▸ check_any c W
  go_enter Tryd.func5, Tryd.ntmps5
  go_wp2_with (first | ((with_reducible show wpList _ _ _ (({ dst := some 3, op := _, type := _, pos := _, after := _, guard := _ } : Oper) :: _) _ _); refine wpList_box_new rfl 23 _ rfl c.cs rfl ?_; intro w1 b1 s1 l1; have z1 : Hid (w1.heap.size = w.heap.size + 1) := s1; clear s1) | (go_at_call 7; refine (awake_any _).mono ?_; rintro e w2 ⟨rfl, l2⟩; have z2 : Hid (w1.heap.size ≤ w2.heap.size) := l2.size; have B2 : Hid (Blk w2 w.heap.size 23 c.cs ∧ Below w.heap.size w w2 ∧ w.heap.size ≤ w2.heap.size) := (by have q1 := z1.out; have q2 := z2.out; exact ⟨b1.later l2 (by omega), below_chain l1 l2 (by omega), by omega⟩); clear b1 l1 l2) | ((with_reducible show wpList _ _ _ (({ dst := some 17, op := _, type := _, pos := _, after := _, guard := _ } : Oper) :: _) _ _); refine wpList_load_blk rfl 23 (.tmp 3) rfl _ rfl c.cs _ (B2.out.1) Tryd.underlying23 rfl (cg_size c) ?_))
  refine (HP.out _).mono ?_
  rintro e w3 ⟨rfl, l3⟩
  have B3 : Hid (Blk w3 w.heap.size 23 c.cs ∧ Below w.heap.size w w3 ∧ w.heap.size ≤ w3.heap.size) := (by have q := B2.out.1.lt; have q3 := l3.size; have := B2.out.2.2; exact ⟨B2.out.1.later l3 q, below_chain B2.out.2.1 l3 this, by omega⟩)
  clear l3 B2
  go_wp2_with (first | ((with_reducible show wpList _ _ _ (({ dst := some 23, op := _, type := _, pos := _, after := _, guard := _ } : Oper) :: _) _ _); refine wpList_load_blk rfl 23 (.tmp 3) rfl _ rfl c.cs _ (B3.out.1) Tryd.underlying23 rfl (cg_size c) ?_))
  refine (HC.out _).mono ?_
  rintro e w4 ⟨rfl, l4⟩
  have B4 : Hid (Blk w4 w.heap.size 23 c.cs ∧ Below w.heap.size w w4 ∧ w.heap.size ≤ w4.heap.size) := (by have q := B3.out.1.lt; have q3 := l4.size; have := B3.out.2.2; exact ⟨B3.out.1.later l4 q, below_chain B3.out.2.1 l4 this, by omega⟩)
  have c0 : w4.cell? ⟨w.heap.size, 0, none⟩ = some (.int .i64 c.bt) := (by rw [B4.out.1.cell]; rfl)
  clear l4 B3
  go_wp2
  go_ret
  exact ⟨rfl, B4.out.2.1⟩
set_option maxRecDepth 20000 in
set_option maxHeartbeats 8000000 in
theorem good1_P (c : Cg) (m : Nat) (w : World) (hok : c.ok = true) (hb : (m : Int) ≤ c.bt) : Calls Tryd.prog 5 #[c.v, .int .i64 1, .int .i64 m] w fun e w' => e = .returned (.bool true) ∧ Below w.heap.size w w' := by
  have hE : szE c 1 = 0 := by simp [szE, hok]
  have hF := pgC_facts hE m hb
  have HP : Hid (∀ W, Calls Tryd.prog 26 #[c.v, .int .i64 1, .int .i64 m] W fun e w' => e = .returned (.tuple #[.int .i64 (pgC c 1 m : Int), .int .i64 0]) ∧ Below W.heap.size W w') := fun W => pages_yes c 1 m hE hb W
  have HU : Hid (∀ W, Calls Tryd.prog 26 #[.agg c.up.cs.toArray, .int .i64 1, .int .i64 m] W fun e w' => e = .returned (.tuple #[.int .i64 (pgC c.up 1 m : Int), .int .i64 0]) ∧ Below W.heap.size W w') := fun W => pages_yes c.up 1 m (up_E hE).1 hb W
  have HC : Hid (∀ W, Calls Tryd.prog 8 #[c.v] W fun e w' => e = .returned (.int .i64 0) ∧ Below W.heap.size W w') := fun W => ok_err hok ▸ check_any c W
  have HT : Hid (c.tx < 4096 ∧ c.up.tx = c.tx + 1 ∨ ¬ c.tx < 4096 ∧ c.up.tx = 4096) := (by have h : c.up.tx = min (c.tx + 1) 4096 := rfl; have := rec_bd hE; rcases Int.lt_or_le c.tx 4096 with h1 | h1; exact .inl ⟨h1, by rw [h]; omega⟩; exact .inr ⟨by omega, by rw [h]; omega⟩)
  obtain ⟨P, hP⟩ : ∃ P, pgC c 1 m = P := ⟨_, rfl⟩
  obtain ⟨U, hU⟩ : ∃ U, pgC c.up 1 m = U := ⟨_, rfl⟩
  have htx := rec_bd hE
  have w1t : wrap64 (c.tx + 1) = c.tx + 1 := by simp [wrap64]; omega
  have w3n : wrap64 (3 * (m : Int)) = 3 * (m : Int) := by have := hF.2.2.2.2; simp [wrap64]; omega
  rw [hP] at HP
  rw [hU] at HU
  rcases Nat.eq_zero_or_pos m with rfl | h0
  · have hP0 : P = 0 := hP ▸ pgC_zero c 1
    have hU0 : U = 0 := hU ▸ pgC_zero c.up 1
    subst hP0 hU0
    have HU' : Hid (∀ W, Calls Tryd.prog 26 #[.agg c.up.cs.toArray, .int .i64 1, .int .i64 0] W fun e w' => e = .returned (.tuple #[.int .i64 0, .int .i64 0]) ∧ Below W.heap.size W w') := HU
    clear HU
    have HU := HU'
    clear HU'
    clear hF hP hU hE
    rcases HT.out with ht | ht
    · have hup : c.up.tx = (c.tx + 1) := ht.2
      have hlt := ht.1
      go_enter Tryd.func5, Tryd.ntmps5
      go_wp2_with (first | ((with_reducible show wpList _ _ _ (({ dst := some 3, op := _, type := _, pos := _, after := _, guard := _ } : Oper) :: _) _ _); refine wpList_box_new rfl 23 _ rfl c.cs rfl ?_; intro w1 b1 s1 l1; have z1 : Hid (w1.heap.size = w.heap.size + 1) := s1; clear s1) | (go_at_call 7; refine (awake_any _).mono ?_; rintro e w2 ⟨rfl, l2⟩; have z2 : Hid (w1.heap.size ≤ w2.heap.size) := l2.size; have B2 : Hid (Blk w2 w.heap.size 23 c.cs ∧ Below w.heap.size w w2 ∧ w.heap.size ≤ w2.heap.size) := (by have q1 := z1.out; have q2 := z2.out; exact ⟨b1.later l2 (by omega), below_chain l1 l2 (by omega), by omega⟩); clear b1 l1 l2) | ((with_reducible show wpList _ _ _ (({ dst := some 17, op := _, type := _, pos := _, after := _, guard := _ } : Oper) :: _) _ _); refine wpList_load_blk rfl 23 (.tmp 3) rfl _ rfl c.cs _ (B2.out.1) Tryd.underlying23 rfl (cg_size c) ?_))
      refine (HP.out _).mono ?_
      rintro e w3 ⟨rfl, l3⟩
      have B3 : Hid (Blk w3 w.heap.size 23 c.cs ∧ Below w.heap.size w w3 ∧ w.heap.size ≤ w3.heap.size) := (by have q := B2.out.1.lt; have q3 := l3.size; have := B2.out.2.2; exact ⟨B2.out.1.later l3 q, below_chain B2.out.2.1 l3 this, by omega⟩)
      clear l3 B2
      go_wp2_with (first | ((with_reducible show wpList _ _ _ (({ dst := some 23, op := _, type := _, pos := _, after := _, guard := _ } : Oper) :: _) _ _); refine wpList_load_blk rfl 23 (.tmp 3) rfl _ rfl c.cs _ (B3.out.1) Tryd.underlying23 rfl (cg_size c) ?_))
      refine (HC.out _).mono ?_
      rintro e w4 ⟨rfl, l4⟩
      have B4 : Hid (Blk w4 w.heap.size 23 c.cs ∧ Below w.heap.size w w4 ∧ w.heap.size ≤ w4.heap.size) := (by have q := B3.out.1.lt; have q3 := l4.size; have := B3.out.2.2; exact ⟨B3.out.1.later l4 q, below_chain B3.out.2.1 l4 this, by omega⟩)
      have c0 : w4.cell? ⟨w.heap.size, 0, none⟩ = some (.int .i64 c.bt) := (by rw [B4.out.1.cell]; rfl)
      clear l4 B3
      go_wp2_with (first | ((with_reducible show wpList _ _ _ (({ dst := some 86, op := _, type := _, pos := _, after := _, guard := _ } : Oper) :: _) _ _); refine wpList_load_blk rfl 23 (.tmp 3) rfl _ rfl c.cs _ (B4.out.1) Tryd.underlying23 rfl (cg_size c) ?_) | ((with_reducible show wpList _ _ _ (({ dst := some 11, op := _, type := _, pos := _, after := _, guard := _ } : Oper) :: _) _ _); refine wpList_alloc_new rfl 23 rfl 6 _ cg_zero ?_; intro w6 b6 s6 l6; have z6 : Hid (w6.heap.size = w4.heap.size + 1) := s6; clear s6) | (refine wpList_store_blk rfl 23 23 (.tmp 11) (.tmp 86) rfl _ rfl _ c.cs rfl (b6) rfl (cg_size c) (cg_one c) ?_; intro w7 b7 s7 k7; have z7 : Hid (w7.heap.size = w6.heap.size) := s7; clear s7; have c3 : w7.cell? ⟨w4.heap.size, 3, none⟩ = some (.int .i64 c.tx) := (by rw [b7.cell]; rfl); have f3 := b7.frozen 3; have B8 : Hid (Blk (w7.setCell ⟨w4.heap.size, 3, none⟩ (.int .i64 (c.tx + 1))) w4.heap.size 23 c.up.cs ∧ Below w.heap.size w (w7.setCell ⟨w4.heap.size, 3, none⟩ (.int .i64 (c.tx + 1))) ∧ w.heap.size ≤ (w7.setCell ⟨w4.heap.size, 3, none⟩ (.int .i64 (c.tx + 1))).heap.size) := (by have q1 := B4.out.2.2; have q6 := z6.out; have q7 := z7.out; have hk : Kept (fun k => k = w4.heap.size) w7 (w7.setCell ⟨w4.heap.size, 3, none⟩ (.int .i64 (c.tx + 1))) := Kept.setCell (S := fun k => k = w4.heap.size) (Kept.refl (fun k => k = w4.heap.size) w7) (p := ⟨w4.heap.size, 3, none⟩) rfl _; have hb := b7.set 3 (.int .i64 (c.tx + 1)); have hc : c.cs.set 3 (.int .i64 (c.tx + 1)) = c.up.cs := (by show _ = _; unfold Cg.cs; rw [hup]; rfl); rw [hc] at hb; exact ⟨hb, below_kept (below_kept (below_chain B4.out.2.1 l6 q1) k7 (by omega) (fun j hj => by omega)) hk (by omega) (fun j hj => by omega), by have := hk.size; omega⟩); clear b6 b7 l6 k7) | ((with_reducible show wpList _ _ _ (({ dst := some 93, op := _, type := _, pos := _, after := _, guard := _ } : Oper) :: _) _ _); refine wpList_load_blk rfl 23 (.tmp 11) rfl _ rfl c.up.cs _ (B8.out.1) Tryd.underlying23 rfl (cg_size _) ?_) | (go_at_call 26; (with_reducible refine (HU.out _).mono ?_); rintro e w9 ⟨rfl, l9⟩; have B9 : Hid (Below w.heap.size w w9) := below_chain B8.out.2.1 l9 B8.out.2.2; clear l9))
      go_ret
      exact ⟨rfl, B9.out⟩
    · have hup : c.up.tx = 4096 := ht.2
      have hlt := ht.1
      go_enter Tryd.func5, Tryd.ntmps5
      go_wp2_with (first | ((with_reducible show wpList _ _ _ (({ dst := some 3, op := _, type := _, pos := _, after := _, guard := _ } : Oper) :: _) _ _); refine wpList_box_new rfl 23 _ rfl c.cs rfl ?_; intro w1 b1 s1 l1; have z1 : Hid (w1.heap.size = w.heap.size + 1) := s1; clear s1) | (go_at_call 7; refine (awake_any _).mono ?_; rintro e w2 ⟨rfl, l2⟩; have z2 : Hid (w1.heap.size ≤ w2.heap.size) := l2.size; have B2 : Hid (Blk w2 w.heap.size 23 c.cs ∧ Below w.heap.size w w2 ∧ w.heap.size ≤ w2.heap.size) := (by have q1 := z1.out; have q2 := z2.out; exact ⟨b1.later l2 (by omega), below_chain l1 l2 (by omega), by omega⟩); clear b1 l1 l2) | ((with_reducible show wpList _ _ _ (({ dst := some 17, op := _, type := _, pos := _, after := _, guard := _ } : Oper) :: _) _ _); refine wpList_load_blk rfl 23 (.tmp 3) rfl _ rfl c.cs _ (B2.out.1) Tryd.underlying23 rfl (cg_size c) ?_))
      refine (HP.out _).mono ?_
      rintro e w3 ⟨rfl, l3⟩
      have B3 : Hid (Blk w3 w.heap.size 23 c.cs ∧ Below w.heap.size w w3 ∧ w.heap.size ≤ w3.heap.size) := (by have q := B2.out.1.lt; have q3 := l3.size; have := B2.out.2.2; exact ⟨B2.out.1.later l3 q, below_chain B2.out.2.1 l3 this, by omega⟩)
      clear l3 B2
      go_wp2_with (first | ((with_reducible show wpList _ _ _ (({ dst := some 23, op := _, type := _, pos := _, after := _, guard := _ } : Oper) :: _) _ _); refine wpList_load_blk rfl 23 (.tmp 3) rfl _ rfl c.cs _ (B3.out.1) Tryd.underlying23 rfl (cg_size c) ?_))
      refine (HC.out _).mono ?_
      rintro e w4 ⟨rfl, l4⟩
      have B4 : Hid (Blk w4 w.heap.size 23 c.cs ∧ Below w.heap.size w w4 ∧ w.heap.size ≤ w4.heap.size) := (by have q := B3.out.1.lt; have q3 := l4.size; have := B3.out.2.2; exact ⟨B3.out.1.later l4 q, below_chain B3.out.2.1 l4 this, by omega⟩)
      have c0 : w4.cell? ⟨w.heap.size, 0, none⟩ = some (.int .i64 c.bt) := (by rw [B4.out.1.cell]; rfl)
      clear l4 B3
      go_wp2_with (first | ((with_reducible show wpList _ _ _ (({ dst := some 86, op := _, type := _, pos := _, after := _, guard := _ } : Oper) :: _) _ _); refine wpList_load_blk rfl 23 (.tmp 3) rfl _ rfl c.cs _ (B4.out.1) Tryd.underlying23 rfl (cg_size c) ?_) | ((with_reducible show wpList _ _ _ (({ dst := some 11, op := _, type := _, pos := _, after := _, guard := _ } : Oper) :: _) _ _); refine wpList_alloc_new rfl 23 rfl 6 _ cg_zero ?_; intro w6 b6 s6 l6; have z6 : Hid (w6.heap.size = w4.heap.size + 1) := s6; clear s6) | (refine wpList_store_blk rfl 23 23 (.tmp 11) (.tmp 86) rfl _ rfl _ c.cs rfl (b6) rfl (cg_size c) (cg_one c) ?_; intro w7 b7 s7 k7; have z7 : Hid (w7.heap.size = w6.heap.size) := s7; clear s7; have c3 : w7.cell? ⟨w4.heap.size, 3, none⟩ = some (.int .i64 c.tx) := (by rw [b7.cell]; rfl); have f3 := b7.frozen 3; have B8 : Hid (Blk (w7.setCell ⟨w4.heap.size, 3, none⟩ (.int .i64 4096)) w4.heap.size 23 c.up.cs ∧ Below w.heap.size w (w7.setCell ⟨w4.heap.size, 3, none⟩ (.int .i64 4096)) ∧ w.heap.size ≤ (w7.setCell ⟨w4.heap.size, 3, none⟩ (.int .i64 4096)).heap.size) := (by have q1 := B4.out.2.2; have q6 := z6.out; have q7 := z7.out; have hk : Kept (fun k => k = w4.heap.size) w7 (w7.setCell ⟨w4.heap.size, 3, none⟩ (.int .i64 4096)) := Kept.setCell (S := fun k => k = w4.heap.size) (Kept.refl (fun k => k = w4.heap.size) w7) (p := ⟨w4.heap.size, 3, none⟩) rfl _; have hb := b7.set 3 (.int .i64 4096); have hc : c.cs.set 3 (.int .i64 4096) = c.up.cs := (by show _ = _; unfold Cg.cs; rw [hup]; rfl); rw [hc] at hb; exact ⟨hb, below_kept (below_kept (below_chain B4.out.2.1 l6 q1) k7 (by omega) (fun j hj => by omega)) hk (by omega) (fun j hj => by omega), by have := hk.size; omega⟩); clear b6 b7 l6 k7) | ((with_reducible show wpList _ _ _ (({ dst := some 93, op := _, type := _, pos := _, after := _, guard := _ } : Oper) :: _) _ _); refine wpList_load_blk rfl 23 (.tmp 11) rfl _ rfl c.up.cs _ (B8.out.1) Tryd.underlying23 rfl (cg_size _) ?_) | (go_at_call 26; (with_reducible refine (HU.out _).mono ?_); rintro e w9 ⟨rfl, l9⟩; have B9 : Hid (Below w.heap.size w w9) := below_chain B8.out.2.1 l9 B8.out.2.2; clear l9))
      go_ret
      exact ⟨rfl, B9.out⟩
  · have HV : Hid (∀ W, Calls Tryd.prog 26 #[.agg c.cs.toArray, .int .i64 1, .int .i64 ((m : Int) - 1)] W fun e w' => e = .returned (.tuple #[.int .i64 (pgC c 1 (m - 1) : Int), .int .i64 0]) ∧ Below W.heap.size W w') := fun W => by
      have e : ((m : Int) - 1) = ((m - 1 : Nat) : Int) := by omega
      rw [e]
      exact pages_yes c 1 (m - 1) hE (by omega) W
    obtain ⟨V, hV⟩ : ∃ V, pgC c 1 (m - 1) = V := ⟨_, rfl⟩
    rw [hV] at HV
    have hF3 := hF.2.2.1 h0
    rw [hP, hV] at hF3
    have hF1 : 0 < P := by
      rcases Nat.eq_zero_or_pos P with h | h
      · have := hF.1.1 (by rw [hP, h]); omega
      · exact h
    have hF2 : P ≤ 3 * m := hP ▸ hF.2.1
    have hF4 : U ≤ P := hP ▸ hU ▸ hF.2.2.2.1
    have hF5 := hF.2.2.2.2
    have w4n : wrap64 ((m : Int) - 1) = (m : Int) - 1 := by simp [wrap64]; omega
    have e1 : ((P : Int) == 0) = false := by simp; omega
    have e2 : ((m : Int) == 0) = false := by simp; omega
    have e3 : ¬ 3 * (m : Int) < (P : Int) := by omega
    have e4 : ¬ (65536 : Int) < (P : Int) := by omega
    have e5 : ¬ (P : Int) < (V : Int) := by omega
    have e6 : (U : Int) ≤ (P : Int) := by omega
    have e7 : (0 : Int) < (m : Int) := by omega
    clear hF hP hU hV hE
    rcases HT.out with ht | ht
    · have hup : c.up.tx = (c.tx + 1) := ht.2
      have hlt := ht.1
      go_enter Tryd.func5, Tryd.ntmps5
      go_wp2_with (first | ((with_reducible show wpList _ _ _ (({ dst := some 3, op := _, type := _, pos := _, after := _, guard := _ } : Oper) :: _) _ _); refine wpList_box_new rfl 23 _ rfl c.cs rfl ?_; intro w1 b1 s1 l1; have z1 : Hid (w1.heap.size = w.heap.size + 1) := s1; clear s1) | (go_at_call 7; refine (awake_any _).mono ?_; rintro e w2 ⟨rfl, l2⟩; have z2 : Hid (w1.heap.size ≤ w2.heap.size) := l2.size; have B2 : Hid (Blk w2 w.heap.size 23 c.cs ∧ Below w.heap.size w w2 ∧ w.heap.size ≤ w2.heap.size) := (by have q1 := z1.out; have q2 := z2.out; exact ⟨b1.later l2 (by omega), below_chain l1 l2 (by omega), by omega⟩); clear b1 l1 l2) | ((with_reducible show wpList _ _ _ (({ dst := some 17, op := _, type := _, pos := _, after := _, guard := _ } : Oper) :: _) _ _); refine wpList_load_blk rfl 23 (.tmp 3) rfl _ rfl c.cs _ (B2.out.1) Tryd.underlying23 rfl (cg_size c) ?_))
      refine (HP.out _).mono ?_
      rintro e w3 ⟨rfl, l3⟩
      have B3 : Hid (Blk w3 w.heap.size 23 c.cs ∧ Below w.heap.size w w3 ∧ w.heap.size ≤ w3.heap.size) := (by have q := B2.out.1.lt; have q3 := l3.size; have := B2.out.2.2; exact ⟨B2.out.1.later l3 q, below_chain B2.out.2.1 l3 this, by omega⟩)
      clear l3 B2
      go_wp2_with (first | ((with_reducible show wpList _ _ _ (({ dst := some 23, op := _, type := _, pos := _, after := _, guard := _ } : Oper) :: _) _ _); refine wpList_load_blk rfl 23 (.tmp 3) rfl _ rfl c.cs _ (B3.out.1) Tryd.underlying23 rfl (cg_size c) ?_))
      refine (HC.out _).mono ?_
      rintro e w4 ⟨rfl, l4⟩
      have B4 : Hid (Blk w4 w.heap.size 23 c.cs ∧ Below w.heap.size w w4 ∧ w.heap.size ≤ w4.heap.size) := (by have q := B3.out.1.lt; have q3 := l4.size; have := B3.out.2.2; exact ⟨B3.out.1.later l4 q, below_chain B3.out.2.1 l4 this, by omega⟩)
      have c0 : w4.cell? ⟨w.heap.size, 0, none⟩ = some (.int .i64 c.bt) := (by rw [B4.out.1.cell]; rfl)
      clear l4 B3
      go_wp2_with (first | ((with_reducible show wpList _ _ _ (({ dst := some 72, op := _, type := _, pos := _, after := _, guard := _ } : Oper) :: _) _ _); refine wpList_load_blk rfl 23 (.tmp 3) rfl _ rfl c.cs _ (B4.out.1) Tryd.underlying23 rfl (cg_size c) ?_) | (go_at_call 26; (with_reducible refine (HV.out _).mono ?_); rintro e w5 ⟨rfl, l5⟩; have B5 : Hid (Blk w5 w.heap.size 23 c.cs ∧ Below w.heap.size w w5 ∧ w.heap.size ≤ w5.heap.size) := (by have q := B4.out.1.lt; have q3 := l5.size; have := B4.out.2.2; exact ⟨B4.out.1.later l5 q, below_chain B4.out.2.1 l5 this, by omega⟩); clear l5) | ((with_reducible show wpList _ _ _ (({ dst := some 86, op := _, type := _, pos := _, after := _, guard := _ } : Oper) :: _) _ _); refine wpList_load_blk rfl 23 (.tmp 3) rfl _ rfl c.cs _ (B5.out.1) Tryd.underlying23 rfl (cg_size c) ?_) | ((with_reducible show wpList _ _ _ (({ dst := some 11, op := _, type := _, pos := _, after := _, guard := _ } : Oper) :: _) _ _); refine wpList_alloc_new rfl 23 rfl 6 _ cg_zero ?_; intro w6 b6 s6 l6; have z6 : Hid (w6.heap.size = w5.heap.size + 1) := s6; clear s6) | (refine wpList_store_blk rfl 23 23 (.tmp 11) (.tmp 86) rfl _ rfl _ c.cs rfl (b6) rfl (cg_size c) (cg_one c) ?_; intro w7 b7 s7 k7; have z7 : Hid (w7.heap.size = w6.heap.size) := s7; clear s7; have c3 : w7.cell? ⟨w5.heap.size, 3, none⟩ = some (.int .i64 c.tx) := (by rw [b7.cell]; rfl); have f3 := b7.frozen 3; have B8 : Hid (Blk (w7.setCell ⟨w5.heap.size, 3, none⟩ (.int .i64 (c.tx + 1))) w5.heap.size 23 c.up.cs ∧ Below w.heap.size w (w7.setCell ⟨w5.heap.size, 3, none⟩ (.int .i64 (c.tx + 1))) ∧ w.heap.size ≤ (w7.setCell ⟨w5.heap.size, 3, none⟩ (.int .i64 (c.tx + 1))).heap.size) := (by have q1 := B5.out.2.2; have q6 := z6.out; have q7 := z7.out; have hk : Kept (fun k => k = w5.heap.size) w7 (w7.setCell ⟨w5.heap.size, 3, none⟩ (.int .i64 (c.tx + 1))) := Kept.setCell (S := fun k => k = w5.heap.size) (Kept.refl (fun k => k = w5.heap.size) w7) (p := ⟨w5.heap.size, 3, none⟩) rfl _; have hb := b7.set 3 (.int .i64 (c.tx + 1)); have hc : c.cs.set 3 (.int .i64 (c.tx + 1)) = c.up.cs := (by show _ = _; unfold Cg.cs; rw [hup]; rfl); rw [hc] at hb; exact ⟨hb, below_kept (below_kept (below_chain B5.out.2.1 l6 q1) k7 (by omega) (fun j hj => by omega)) hk (by omega) (fun j hj => by omega), by have := hk.size; omega⟩); clear b6 b7 l6 k7) | ((with_reducible show wpList _ _ _ (({ dst := some 93, op := _, type := _, pos := _, after := _, guard := _ } : Oper) :: _) _ _); refine wpList_load_blk rfl 23 (.tmp 11) rfl _ rfl c.up.cs _ (B8.out.1) Tryd.underlying23 rfl (cg_size _) ?_) | (go_at_call 26; (with_reducible refine (HU.out _).mono ?_); rintro e w9 ⟨rfl, l9⟩; have B9 : Hid (Below w.heap.size w w9) := below_chain B8.out.2.1 l9 B8.out.2.2; clear l9))
      go_ret
      exact ⟨rfl, B9.out⟩
    · have hup : c.up.tx = 4096 := ht.2
      have hlt := ht.1
      go_enter Tryd.func5, Tryd.ntmps5
      go_wp2_with (first | ((with_reducible show wpList _ _ _ (({ dst := some 3, op := _, type := _, pos := _, after := _, guard := _ } : Oper) :: _) _ _); refine wpList_box_new rfl 23 _ rfl c.cs rfl ?_; intro w1 b1 s1 l1; have z1 : Hid (w1.heap.size = w.heap.size + 1) := s1; clear s1) | (go_at_call 7; refine (awake_any _).mono ?_; rintro e w2 ⟨rfl, l2⟩; have z2 : Hid (w1.heap.size ≤ w2.heap.size) := l2.size; have B2 : Hid (Blk w2 w.heap.size 23 c.cs ∧ Below w.heap.size w w2 ∧ w.heap.size ≤ w2.heap.size) := (by have q1 := z1.out; have q2 := z2.out; exact ⟨b1.later l2 (by omega), below_chain l1 l2 (by omega), by omega⟩); clear b1 l1 l2) | ((with_reducible show wpList _ _ _ (({ dst := some 17, op := _, type := _, pos := _, after := _, guard := _ } : Oper) :: _) _ _); refine wpList_load_blk rfl 23 (.tmp 3) rfl _ rfl c.cs _ (B2.out.1) Tryd.underlying23 rfl (cg_size c) ?_))
      refine (HP.out _).mono ?_
      rintro e w3 ⟨rfl, l3⟩
      have B3 : Hid (Blk w3 w.heap.size 23 c.cs ∧ Below w.heap.size w w3 ∧ w.heap.size ≤ w3.heap.size) := (by have q := B2.out.1.lt; have q3 := l3.size; have := B2.out.2.2; exact ⟨B2.out.1.later l3 q, below_chain B2.out.2.1 l3 this, by omega⟩)
      clear l3 B2
      go_wp2_with (first | ((with_reducible show wpList _ _ _ (({ dst := some 23, op := _, type := _, pos := _, after := _, guard := _ } : Oper) :: _) _ _); refine wpList_load_blk rfl 23 (.tmp 3) rfl _ rfl c.cs _ (B3.out.1) Tryd.underlying23 rfl (cg_size c) ?_))
      refine (HC.out _).mono ?_
      rintro e w4 ⟨rfl, l4⟩
      have B4 : Hid (Blk w4 w.heap.size 23 c.cs ∧ Below w.heap.size w w4 ∧ w.heap.size ≤ w4.heap.size) := (by have q := B3.out.1.lt; have q3 := l4.size; have := B3.out.2.2; exact ⟨B3.out.1.later l4 q, below_chain B3.out.2.1 l4 this, by omega⟩)
      have c0 : w4.cell? ⟨w.heap.size, 0, none⟩ = some (.int .i64 c.bt) := (by rw [B4.out.1.cell]; rfl)
      clear l4 B3
      go_wp2_with (first | ((with_reducible show wpList _ _ _ (({ dst := some 72, op := _, type := _, pos := _, after := _, guard := _ } : Oper) :: _) _ _); refine wpList_load_blk rfl 23 (.tmp 3) rfl _ rfl c.cs _ (B4.out.1) Tryd.underlying23 rfl (cg_size c) ?_) | (go_at_call 26; (with_reducible refine (HV.out _).mono ?_); rintro e w5 ⟨rfl, l5⟩; have B5 : Hid (Blk w5 w.heap.size 23 c.cs ∧ Below w.heap.size w w5 ∧ w.heap.size ≤ w5.heap.size) := (by have q := B4.out.1.lt; have q3 := l5.size; have := B4.out.2.2; exact ⟨B4.out.1.later l5 q, below_chain B4.out.2.1 l5 this, by omega⟩); clear l5) | ((with_reducible show wpList _ _ _ (({ dst := some 86, op := _, type := _, pos := _, after := _, guard := _ } : Oper) :: _) _ _); refine wpList_load_blk rfl 23 (.tmp 3) rfl _ rfl c.cs _ (B5.out.1) Tryd.underlying23 rfl (cg_size c) ?_) | ((with_reducible show wpList _ _ _ (({ dst := some 11, op := _, type := _, pos := _, after := _, guard := _ } : Oper) :: _) _ _); refine wpList_alloc_new rfl 23 rfl 6 _ cg_zero ?_; intro w6 b6 s6 l6; have z6 : Hid (w6.heap.size = w5.heap.size + 1) := s6; clear s6) | (refine wpList_store_blk rfl 23 23 (.tmp 11) (.tmp 86) rfl _ rfl _ c.cs rfl (b6) rfl (cg_size c) (cg_one c) ?_; intro w7 b7 s7 k7; have z7 : Hid (w7.heap.size = w6.heap.size) := s7; clear s7; have c3 : w7.cell? ⟨w5.heap.size, 3, none⟩ = some (.int .i64 c.tx) := (by rw [b7.cell]; rfl); have f3 := b7.frozen 3; have B8 : Hid (Blk (w7.setCell ⟨w5.heap.size, 3, none⟩ (.int .i64 4096)) w5.heap.size 23 c.up.cs ∧ Below w.heap.size w (w7.setCell ⟨w5.heap.size, 3, none⟩ (.int .i64 4096)) ∧ w.heap.size ≤ (w7.setCell ⟨w5.heap.size, 3, none⟩ (.int .i64 4096)).heap.size) := (by have q1 := B5.out.2.2; have q6 := z6.out; have q7 := z7.out; have hk : Kept (fun k => k = w5.heap.size) w7 (w7.setCell ⟨w5.heap.size, 3, none⟩ (.int .i64 4096)) := Kept.setCell (S := fun k => k = w5.heap.size) (Kept.refl (fun k => k = w5.heap.size) w7) (p := ⟨w5.heap.size, 3, none⟩) rfl _; have hb := b7.set 3 (.int .i64 4096); have hc : c.cs.set 3 (.int .i64 4096) = c.up.cs := (by show _ = _; unfold Cg.cs; rw [hup]; rfl); rw [hc] at hb; exact ⟨hb, below_kept (below_kept (below_chain B5.out.2.1 l6 q1) k7 (by omega) (fun j hj => by omega)) hk (by omega) (fun j hj => by omega), by have := hk.size; omega⟩); clear b6 b7 l6 k7) | ((with_reducible show wpList _ _ _ (({ dst := some 93, op := _, type := _, pos := _, after := _, guard := _ } : Oper) :: _) _ _); refine wpList_load_blk rfl 23 (.tmp 11) rfl _ rfl c.up.cs _ (B8.out.1) Tryd.underlying23 rfl (cg_size _) ?_) | (go_at_call 26; (with_reducible refine (HU.out _).mono ?_); rintro e w9 ⟨rfl, l9⟩; have B9 : Hid (Below w.heap.size w w9) := below_chain B8.out.2.1 l9 B8.out.2.2; clear l9))
      go_ret
      exact ⟨rfl, B9.out⟩
set_option maxRecDepth 20000 in
set_option maxHeartbeats 2000000 in
theorem bad_neg2 (c : Cg) (n : Int) (w : World) (hok : c.ok = true) (hn : n < 0) : Calls Tryd.prog 5 #[c.v, .int .i64 2, .int .i64 n] w fun e w' => e = .returned (.bool true) ∧ Below w.heap.size w w' := by
  have HP : Hid (∀ W, Calls Tryd.prog 26 #[c.v, .int .i64 2, .int .i64 n] W fun e w' => e = .returned (.tuple #[.int .i64 0, .int .i64 2]) ∧ Below W.heap.size W w') := fun W => pages_neg c 2 n (show szE c 2 = 0 by simp [szE, hok]) hn W
  have HC : Hid (∀ W, Calls Tryd.prog 8 #[c.v] W fun e w' => e = .returned (.int .i64 0) ∧ Below W.heap.size W w') := fun W => ok_err hok ▸ check_any c W
  go_enter Tryd.func5, Tryd.ntmps5
  go_wp2_with (first | ((with_reducible show wpList _ _ _ (({ dst := some 3, op := _, type := _, pos := _, after := _, guard := _ } : Oper) :: _) _ _); refine wpList_box_new rfl 23 _ rfl c.cs rfl ?_; intro w1 b1 s1 l1; have z1 : Hid (w1.heap.size = w.heap.size + 1) := s1; clear s1) | (go_at_call 7; refine (awake_any _).mono ?_; rintro e w2 ⟨rfl, l2⟩; have z2 : Hid (w1.heap.size ≤ w2.heap.size) := l2.size; have B2 : Hid (Blk w2 w.heap.size 23 c.cs ∧ Below w.heap.size w w2 ∧ w.heap.size ≤ w2.heap.size) := (by have q1 := z1.out; have q2 := z2.out; exact ⟨b1.later l2 (by omega), below_chain l1 l2 (by omega), by omega⟩); clear b1 l1 l2) | ((with_reducible show wpList _ _ _ (({ dst := some 17, op := _, type := _, pos := _, after := _, guard := _ } : Oper) :: _) _ _); refine wpList_load_blk rfl 23 (.tmp 3) rfl _ rfl c.cs _ (B2.out.1) Tryd.underlying23 rfl (cg_size c) ?_))
  refine (HP.out _).mono ?_
  rintro e w3 ⟨rfl, l3⟩
  have B3 : Hid (Blk w3 w.heap.size 23 c.cs ∧ Below w.heap.size w w3 ∧ w.heap.size ≤ w3.heap.size) := (by have q := B2.out.1.lt; have q3 := l3.size; have := B2.out.2.2; exact ⟨B2.out.1.later l3 q, below_chain B2.out.2.1 l3 this, by omega⟩)
  clear l3 B2
  go_wp2_with (first | ((with_reducible show wpList _ _ _ (({ dst := some 23, op := _, type := _, pos := _, after := _, guard := _ } : Oper) :: _) _ _); refine wpList_load_blk rfl 23 (.tmp 3) rfl _ rfl c.cs _ (B3.out.1) Tryd.underlying23 rfl (cg_size c) ?_))
  refine (HC.out _).mono ?_
  rintro e w4 ⟨rfl, l4⟩
  have B4 : Hid (Blk w4 w.heap.size 23 c.cs ∧ Below w.heap.size w w4 ∧ w.heap.size ≤ w4.heap.size) := (by have q := B3.out.1.lt; have q3 := l4.size; have := B3.out.2.2; exact ⟨B3.out.1.later l4 q, below_chain B3.out.2.1 l4 this, by omega⟩)
  have c0 : w4.cell? ⟨w.heap.size, 0, none⟩ = some (.int .i64 c.bt) := (by rw [B4.out.1.cell]; rfl)
  clear l4 B3
  go_wp2
  go_ret
  exact ⟨rfl, B4.out.2.1⟩
set_option maxRecDepth 20000 in
set_option maxHeartbeats 2000000 in
theorem bad_big2 (c : Cg) (n : Int) (w : World) (hok : c.ok = true) (hn : ¬ n < 0) (hb : c.bt < n) : Calls Tryd.prog 5 #[c.v, .int .i64 2, .int .i64 n] w fun e w' => e = .returned (.bool true) ∧ Below w.heap.size w w' := by
  have HP : Hid (∀ W, Calls Tryd.prog 26 #[c.v, .int .i64 2, .int .i64 n] W fun e w' => e = .returned (.tuple #[.int .i64 0, .int .i64 252]) ∧ Below W.heap.size W w') := fun W => pages_batch c 2 n (show szE c 2 = 0 by simp [szE, hok]) hn hb W
  have HC : Hid (∀ W, Calls Tryd.prog 8 #[c.v] W fun e w' => e = .returned (.int .i64 0) ∧ Below W.heap.size W w') := fun W => ok_err hok ▸ check_any c W
  go_enter Tryd.func5, Tryd.ntmps5
  go_wp2_with (first | ((with_reducible show wpList _ _ _ (({ dst := some 3, op := _, type := _, pos := _, after := _, guard := _ } : Oper) :: _) _ _); refine wpList_box_new rfl 23 _ rfl c.cs rfl ?_; intro w1 b1 s1 l1; have z1 : Hid (w1.heap.size = w.heap.size + 1) := s1; clear s1) | (go_at_call 7; refine (awake_any _).mono ?_; rintro e w2 ⟨rfl, l2⟩; have z2 : Hid (w1.heap.size ≤ w2.heap.size) := l2.size; have B2 : Hid (Blk w2 w.heap.size 23 c.cs ∧ Below w.heap.size w w2 ∧ w.heap.size ≤ w2.heap.size) := (by have q1 := z1.out; have q2 := z2.out; exact ⟨b1.later l2 (by omega), below_chain l1 l2 (by omega), by omega⟩); clear b1 l1 l2) | ((with_reducible show wpList _ _ _ (({ dst := some 17, op := _, type := _, pos := _, after := _, guard := _ } : Oper) :: _) _ _); refine wpList_load_blk rfl 23 (.tmp 3) rfl _ rfl c.cs _ (B2.out.1) Tryd.underlying23 rfl (cg_size c) ?_))
  refine (HP.out _).mono ?_
  rintro e w3 ⟨rfl, l3⟩
  have B3 : Hid (Blk w3 w.heap.size 23 c.cs ∧ Below w.heap.size w w3 ∧ w.heap.size ≤ w3.heap.size) := (by have q := B2.out.1.lt; have q3 := l3.size; have := B2.out.2.2; exact ⟨B2.out.1.later l3 q, below_chain B2.out.2.1 l3 this, by omega⟩)
  clear l3 B2
  go_wp2_with (first | ((with_reducible show wpList _ _ _ (({ dst := some 23, op := _, type := _, pos := _, after := _, guard := _ } : Oper) :: _) _ _); refine wpList_load_blk rfl 23 (.tmp 3) rfl _ rfl c.cs _ (B3.out.1) Tryd.underlying23 rfl (cg_size c) ?_))
  refine (HC.out _).mono ?_
  rintro e w4 ⟨rfl, l4⟩
  have B4 : Hid (Blk w4 w.heap.size 23 c.cs ∧ Below w.heap.size w w4 ∧ w.heap.size ≤ w4.heap.size) := (by have q := B3.out.1.lt; have q3 := l4.size; have := B3.out.2.2; exact ⟨B3.out.1.later l4 q, below_chain B3.out.2.1 l4 this, by omega⟩)
  have c0 : w4.cell? ⟨w.heap.size, 0, none⟩ = some (.int .i64 c.bt) := (by rw [B4.out.1.cell]; rfl)
  clear l4 B3
  go_wp2
  go_ret
  exact ⟨rfl, B4.out.2.1⟩
set_option maxRecDepth 20000 in
set_option maxHeartbeats 8000000 in
theorem good2_P (c : Cg) (m : Nat) (w : World) (hok : c.ok = true) (hb : (m : Int) ≤ c.bt) : Calls Tryd.prog 5 #[c.v, .int .i64 2, .int .i64 m] w fun e w' => e = .returned (.bool true) ∧ Below w.heap.size w w' := by
  have hE : szE c 2 = 0 := by simp [szE, hok]
  have hF := pgC_facts hE m hb
  have HP : Hid (∀ W, Calls Tryd.prog 26 #[c.v, .int .i64 2, .int .i64 m] W fun e w' => e = .returned (.tuple #[.int .i64 (pgC c 2 m : Int), .int .i64 0]) ∧ Below W.heap.size W w') := fun W => pages_yes c 2 m hE hb W
  have HU : Hid (∀ W, Calls Tryd.prog 26 #[.agg c.up.cs.toArray, .int .i64 2, .int .i64 m] W fun e w' => e = .returned (.tuple #[.int .i64 (pgC c.up 2 m : Int), .int .i64 0]) ∧ Below W.heap.size W w') := fun W => pages_yes c.up 2 m (up_E hE).1 hb W
  have HC : Hid (∀ W, Calls Tryd.prog 8 #[c.v] W fun e w' => e = .returned (.int .i64 0) ∧ Below W.heap.size W w') := fun W => ok_err hok ▸ check_any c W
  have HT : Hid (c.tx < 4096 ∧ c.up.tx = c.tx + 1 ∨ ¬ c.tx < 4096 ∧ c.up.tx = 4096) := (by have h : c.up.tx = min (c.tx + 1) 4096 := rfl; have := rec_bd hE; rcases Int.lt_or_le c.tx 4096 with h1 | h1; exact .inl ⟨h1, by rw [h]; omega⟩; exact .inr ⟨by omega, by rw [h]; omega⟩)
  obtain ⟨P, hP⟩ : ∃ P, pgC c 2 m = P := ⟨_, rfl⟩
  obtain ⟨U, hU⟩ : ∃ U, pgC c.up 2 m = U := ⟨_, rfl⟩
  have htx := rec_bd hE
  have w1t : wrap64 (c.tx + 1) = c.tx + 1 := by simp [wrap64]; omega
  have w3n : wrap64 (3 * (m : Int)) = 3 * (m : Int) := by have := hF.2.2.2.2; simp [wrap64]; omega
  rw [hP] at HP
  rw [hU] at HU
  rcases Nat.eq_zero_or_pos m with rfl | h0
  · have hP0 : P = 0 := hP ▸ pgC_zero c 2
    have hU0 : U = 0 := hU ▸ pgC_zero c.up 2
    subst hP0 hU0
    have HU' : Hid (∀ W, Calls Tryd.prog 26 #[.agg c.up.cs.toArray, .int .i64 2, .int .i64 0] W fun e w' => e = .returned (.tuple #[.int .i64 0, .int .i64 0]) ∧ Below W.heap.size W w') := HU
    clear HU
    have HU := HU'
    clear HU'
    clear hF hP hU hE
    rcases HT.out with ht | ht
    · have hup : c.up.tx = (c.tx + 1) := ht.2
      have hlt := ht.1
      go_enter Tryd.func5, Tryd.ntmps5
      go_wp2_with (first | ((with_reducible show wpList _ _ _ (({ dst := some 3, op := _, type := _, pos := _, after := _, guard := _ } : Oper) :: _) _ _); refine wpList_box_new rfl 23 _ rfl c.cs rfl ?_; intro w1 b1 s1 l1; have z1 : Hid (w1.heap.size = w.heap.size + 1) := s1; clear s1) | (go_at_call 7; refine (awake_any _).mono ?_; rintro e w2 ⟨rfl, l2⟩; have z2 : Hid (w1.heap.size ≤ w2.heap.size) := l2.size; have B2 : Hid (Blk w2 w.heap.size 23 c.cs ∧ Below w.heap.size w w2 ∧ w.heap.size ≤ w2.heap.size) := (by have q1 := z1.out; have q2 := z2.out; exact ⟨b1.later l2 (by omega), below_chain l1 l2 (by omega), by omega⟩); clear b1 l1 l2) | ((with_reducible show wpList _ _ _ (({ dst := some 17, op := _, type := _, pos := _, after := _, guard := _ } : Oper) :: _) _ _); refine wpList_load_blk rfl 23 (.tmp 3) rfl _ rfl c.cs _ (B2.out.1) Tryd.underlying23 rfl (cg_size c) ?_))
      refine (HP.out _).mono ?_
      rintro e w3 ⟨rfl, l3⟩
      have B3 : Hid (Blk w3 w.heap.size 23 c.cs ∧ Below w.heap.size w w3 ∧ w.heap.size ≤ w3.heap.size) := (by have q := B2.out.1.lt; have q3 := l3.size; have := B2.out.2.2; exact ⟨B2.out.1.later l3 q, below_chain B2.out.2.1 l3 this, by omega⟩)
      clear l3 B2
      go_wp2_with (first | ((with_reducible show wpList _ _ _ (({ dst := some 23, op := _, type := _, pos := _, after := _, guard := _ } : Oper) :: _) _ _); refine wpList_load_blk rfl 23 (.tmp 3) rfl _ rfl c.cs _ (B3.out.1) Tryd.underlying23 rfl (cg_size c) ?_))
      refine (HC.out _).mono ?_
      rintro e w4 ⟨rfl, l4⟩
      have B4 : Hid (Blk w4 w.heap.size 23 c.cs ∧ Below w.heap.size w w4 ∧ w.heap.size ≤ w4.heap.size) := (by have q := B3.out.1.lt; have q3 := l4.size; have := B3.out.2.2; exact ⟨B3.out.1.later l4 q, below_chain B3.out.2.1 l4 this, by omega⟩)
      have c0 : w4.cell? ⟨w.heap.size, 0, none⟩ = some (.int .i64 c.bt) := (by rw [B4.out.1.cell]; rfl)
      clear l4 B3
      go_wp2_with (first | ((with_reducible show wpList _ _ _ (({ dst := some 86, op := _, type := _, pos := _, after := _, guard := _ } : Oper) :: _) _ _); refine wpList_load_blk rfl 23 (.tmp 3) rfl _ rfl c.cs _ (B4.out.1) Tryd.underlying23 rfl (cg_size c) ?_) | ((with_reducible show wpList _ _ _ (({ dst := some 11, op := _, type := _, pos := _, after := _, guard := _ } : Oper) :: _) _ _); refine wpList_alloc_new rfl 23 rfl 6 _ cg_zero ?_; intro w6 b6 s6 l6; have z6 : Hid (w6.heap.size = w4.heap.size + 1) := s6; clear s6) | (refine wpList_store_blk rfl 23 23 (.tmp 11) (.tmp 86) rfl _ rfl _ c.cs rfl (b6) rfl (cg_size c) (cg_one c) ?_; intro w7 b7 s7 k7; have z7 : Hid (w7.heap.size = w6.heap.size) := s7; clear s7; have c3 : w7.cell? ⟨w4.heap.size, 3, none⟩ = some (.int .i64 c.tx) := (by rw [b7.cell]; rfl); have f3 := b7.frozen 3; have B8 : Hid (Blk (w7.setCell ⟨w4.heap.size, 3, none⟩ (.int .i64 (c.tx + 1))) w4.heap.size 23 c.up.cs ∧ Below w.heap.size w (w7.setCell ⟨w4.heap.size, 3, none⟩ (.int .i64 (c.tx + 1))) ∧ w.heap.size ≤ (w7.setCell ⟨w4.heap.size, 3, none⟩ (.int .i64 (c.tx + 1))).heap.size) := (by have q1 := B4.out.2.2; have q6 := z6.out; have q7 := z7.out; have hk : Kept (fun k => k = w4.heap.size) w7 (w7.setCell ⟨w4.heap.size, 3, none⟩ (.int .i64 (c.tx + 1))) := Kept.setCell (S := fun k => k = w4.heap.size) (Kept.refl (fun k => k = w4.heap.size) w7) (p := ⟨w4.heap.size, 3, none⟩) rfl _; have hb := b7.set 3 (.int .i64 (c.tx + 1)); have hc : c.cs.set 3 (.int .i64 (c.tx + 1)) = c.up.cs := (by show _ = _; unfold Cg.cs; rw [hup]; rfl); rw [hc] at hb; exact ⟨hb, below_kept (below_kept (below_chain B4.out.2.1 l6 q1) k7 (by omega) (fun j hj => by omega)) hk (by omega) (fun j hj => by omega), by have := hk.size; omega⟩); clear b6 b7 l6 k7) | ((with_reducible show wpList _ _ _ (({ dst := some 93, op := _, type := _, pos := _, after := _, guard := _ } : Oper) :: _) _ _); refine wpList_load_blk rfl 23 (.tmp 11) rfl _ rfl c.up.cs _ (B8.out.1) Tryd.underlying23 rfl (cg_size _) ?_) | (go_at_call 26; (with_reducible refine (HU.out _).mono ?_); rintro e w9 ⟨rfl, l9⟩; have B9 : Hid (Below w.heap.size w w9) := below_chain B8.out.2.1 l9 B8.out.2.2; clear l9))
      go_ret
      exact ⟨rfl, B9.out⟩
    · have hup : c.up.tx = 4096 := ht.2
      have hlt := ht.1
      go_enter Tryd.func5, Tryd.ntmps5
      go_wp2_with (first | ((with_reducible show wpList _ _ _ (({ dst := some 3, op := _, type := _, pos := _, after := _, guard := _ } : Oper) :: _) _ _); refine wpList_box_new rfl 23 _ rfl c.cs rfl ?_; intro w1 b1 s1 l1; have z1 : Hid (w1.heap.size = w.heap.size + 1) := s1; clear s1) | (go_at_call 7; refine (awake_any _).mono ?_; rintro e w2 ⟨rfl, l2⟩; have z2 : Hid (w1.heap.size ≤ w2.heap.size) := l2.size; have B2 : Hid (Blk w2 w.heap.size 23 c.cs ∧ Below w.heap.size w w2 ∧ w.heap.size ≤ w2.heap.size) := (by have q1 := z1.out; have q2 := z2.out; exact ⟨b1.later l2 (by omega), below_chain l1 l2 (by omega), by omega⟩); clear b1 l1 l2) | ((with_reducible show wpList _ _ _ (({ dst := some 17, op := _, type := _, pos := _, after := _, guard := _ } : Oper) :: _) _ _); refine wpList_load_blk rfl 23 (.tmp 3) rfl _ rfl c.cs _ (B2.out.1) Tryd.underlying23 rfl (cg_size c) ?_))
      refine (HP.out _).mono ?_
      rintro e w3 ⟨rfl, l3⟩
      have B3 : Hid (Blk w3 w.heap.size 23 c.cs ∧ Below w.heap.size w w3 ∧ w.heap.size ≤ w3.heap.size) := (by have q := B2.out.1.lt; have q3 := l3.size; have := B2.out.2.2; exact ⟨B2.out.1.later l3 q, below_chain B2.out.2.1 l3 this, by omega⟩)
      clear l3 B2
      go_wp2_with (first | ((with_reducible show wpList _ _ _ (({ dst := some 23, op := _, type := _, pos := _, after := _, guard := _ } : Oper) :: _) _ _); refine wpList_load_blk rfl 23 (.tmp 3) rfl _ rfl c.cs _ (B3.out.1) Tryd.underlying23 rfl (cg_size c) ?_))
      refine (HC.out _).mono ?_
      rintro e w4 ⟨rfl, l4⟩
      have B4 : Hid (Blk w4 w.heap.size 23 c.cs ∧ Below w.heap.size w w4 ∧ w.heap.size ≤ w4.heap.size) := (by have q := B3.out.1.lt; have q3 := l4.size; have := B3.out.2.2; exact ⟨B3.out.1.later l4 q, below_chain B3.out.2.1 l4 this, by omega⟩)
      have c0 : w4.cell? ⟨w.heap.size, 0, none⟩ = some (.int .i64 c.bt) := (by rw [B4.out.1.cell]; rfl)
      clear l4 B3
      go_wp2_with (first | ((with_reducible show wpList _ _ _ (({ dst := some 86, op := _, type := _, pos := _, after := _, guard := _ } : Oper) :: _) _ _); refine wpList_load_blk rfl 23 (.tmp 3) rfl _ rfl c.cs _ (B4.out.1) Tryd.underlying23 rfl (cg_size c) ?_) | ((with_reducible show wpList _ _ _ (({ dst := some 11, op := _, type := _, pos := _, after := _, guard := _ } : Oper) :: _) _ _); refine wpList_alloc_new rfl 23 rfl 6 _ cg_zero ?_; intro w6 b6 s6 l6; have z6 : Hid (w6.heap.size = w4.heap.size + 1) := s6; clear s6) | (refine wpList_store_blk rfl 23 23 (.tmp 11) (.tmp 86) rfl _ rfl _ c.cs rfl (b6) rfl (cg_size c) (cg_one c) ?_; intro w7 b7 s7 k7; have z7 : Hid (w7.heap.size = w6.heap.size) := s7; clear s7; have c3 : w7.cell? ⟨w4.heap.size, 3, none⟩ = some (.int .i64 c.tx) := (by rw [b7.cell]; rfl); have f3 := b7.frozen 3; have B8 : Hid (Blk (w7.setCell ⟨w4.heap.size, 3, none⟩ (.int .i64 4096)) w4.heap.size 23 c.up.cs ∧ Below w.heap.size w (w7.setCell ⟨w4.heap.size, 3, none⟩ (.int .i64 4096)) ∧ w.heap.size ≤ (w7.setCell ⟨w4.heap.size, 3, none⟩ (.int .i64 4096)).heap.size) := (by have q1 := B4.out.2.2; have q6 := z6.out; have q7 := z7.out; have hk : Kept (fun k => k = w4.heap.size) w7 (w7.setCell ⟨w4.heap.size, 3, none⟩ (.int .i64 4096)) := Kept.setCell (S := fun k => k = w4.heap.size) (Kept.refl (fun k => k = w4.heap.size) w7) (p := ⟨w4.heap.size, 3, none⟩) rfl _; have hb := b7.set 3 (.int .i64 4096); have hc : c.cs.set 3 (.int .i64 4096) = c.up.cs := (by show _ = _; unfold Cg.cs; rw [hup]; rfl); rw [hc] at hb; exact ⟨hb, below_kept (below_kept (below_chain B4.out.2.1 l6 q1) k7 (by omega) (fun j hj => by omega)) hk (by omega) (fun j hj => by omega), by have := hk.size; omega⟩); clear b6 b7 l6 k7) | ((with_reducible show wpList _ _ _ (({ dst := some 93, op := _, type := _, pos := _, after := _, guard := _ } : Oper) :: _) _ _); refine wpList_load_blk rfl 23 (.tmp 11) rfl _ rfl c.up.cs _ (B8.out.1) Tryd.underlying23 rfl (cg_size _) ?_) | (go_at_call 26; (with_reducible refine (HU.out _).mono ?_); rintro e w9 ⟨rfl, l9⟩; have B9 : Hid (Below w.heap.size w w9) := below_chain B8.out.2.1 l9 B8.out.2.2; clear l9))
      go_ret
      exact ⟨rfl, B9.out⟩
  · have HV : Hid (∀ W, Calls Tryd.prog 26 #[.agg c.cs.toArray, .int .i64 2, .int .i64 ((m : Int) - 1)] W fun e w' => e = .returned (.tuple #[.int .i64 (pgC c 2 (m - 1) : Int), .int .i64 0]) ∧ Below W.heap.size W w') := fun W => by
      have e : ((m : Int) - 1) = ((m - 1 : Nat) : Int) := by omega
      rw [e]
      exact pages_yes c 2 (m - 1) hE (by omega) W
    obtain ⟨V, hV⟩ : ∃ V, pgC c 2 (m - 1) = V := ⟨_, rfl⟩
    rw [hV] at HV
    have hF3 := hF.2.2.1 h0
    rw [hP, hV] at hF3
    have hF1 : 0 < P := by
      rcases Nat.eq_zero_or_pos P with h | h
      · have := hF.1.1 (by rw [hP, h]); omega
      · exact h
    have hF2 : P ≤ 3 * m := hP ▸ hF.2.1
    have hF4 : U ≤ P := hP ▸ hU ▸ hF.2.2.2.1
    have hF5 := hF.2.2.2.2
    have w4n : wrap64 ((m : Int) - 1) = (m : Int) - 1 := by simp [wrap64]; omega
    have e1 : ((P : Int) == 0) = false := by simp; omega
    have e2 : ((m : Int) == 0) = false := by simp; omega
    have e3 : ¬ 3 * (m : Int) < (P : Int) := by omega
    have e4 : ¬ (65536 : Int) < (P : Int) := by omega
    have e5 : ¬ (P : Int) < (V : Int) := by omega
    have e6 : (U : Int) ≤ (P : Int) := by omega
    have e7 : (0 : Int) < (m : Int) := by omega
    clear hF hP hU hV hE
    rcases HT.out with ht | ht
    · have hup : c.up.tx = (c.tx + 1) := ht.2
      have hlt := ht.1
      go_enter Tryd.func5, Tryd.ntmps5
      go_wp2_with (first | ((with_reducible show wpList _ _ _ (({ dst := some 3, op := _, type := _, pos := _, after := _, guard := _ } : Oper) :: _) _ _); refine wpList_box_new rfl 23 _ rfl c.cs rfl ?_; intro w1 b1 s1 l1; have z1 : Hid (w1.heap.size = w.heap.size + 1) := s1; clear s1) | (go_at_call 7; refine (awake_any _).mono ?_; rintro e w2 ⟨rfl, l2⟩; have z2 : Hid (w1.heap.size ≤ w2.heap.size) := l2.size; have B2 : Hid (Blk w2 w.heap.size 23 c.cs ∧ Below w.heap.size w w2 ∧ w.heap.size ≤ w2.heap.size) := (by have q1 := z1.out; have q2 := z2.out; exact ⟨b1.later l2 (by omega), below_chain l1 l2 (by omega), by omega⟩); clear b1 l1 l2) | ((with_reducible show wpList _ _ _ (({ dst := some 17, op := _, type := _, pos := _, after := _, guard := _ } : Oper) :: _) _ _); refine wpList_load_blk rfl 23 (.tmp 3) rfl _ rfl c.cs _ (B2.out.1) Tryd.underlying23 rfl (cg_size c) ?_))
      refine (HP.out _).mono ?_
      rintro e w3 ⟨rfl, l3⟩
      have B3 : Hid (Blk w3 w.heap.size 23 c.cs ∧ Below w.heap.size w w3 ∧ w.heap.size ≤ w3.heap.size) := (by have q := B2.out.1.lt; have q3 := l3.size; have := B2.out.2.2; exact ⟨B2.out.1.later l3 q, below_chain B2.out.2.1 l3 this, by omega⟩)
      clear l3 B2
      go_wp2_with (first | ((with_reducible show wpList _ _ _ (({ dst := some 23, op := _, type := _, pos := _, after := _, guard := _ } : Oper) :: _) _ _); refine wpList_load_blk rfl 23 (.tmp 3) rfl _ rfl c.cs _ (B3.out.1) Tryd.underlying23 rfl (cg_size c) ?_))
      refine (HC.out _).mono ?_
      rintro e w4 ⟨rfl, l4⟩
      have B4 : Hid (Blk w4 w.heap.size 23 c.cs ∧ Below w.heap.size w w4 ∧ w.heap.size ≤ w4.heap.size) := (by have q := B3.out.1.lt; have q3 := l4.size; have := B3.out.2.2; exact ⟨B3.out.1.later l4 q, below_chain B3.out.2.1 l4 this, by omega⟩)
      have c0 : w4.cell? ⟨w.heap.size, 0, none⟩ = some (.int .i64 c.bt) := (by rw [B4.out.1.cell]; rfl)
      clear l4 B3
      go_wp2_with (first | ((with_reducible show wpList _ _ _ (({ dst := some 72, op := _, type := _, pos := _, after := _, guard := _ } : Oper) :: _) _ _); refine wpList_load_blk rfl 23 (.tmp 3) rfl _ rfl c.cs _ (B4.out.1) Tryd.underlying23 rfl (cg_size c) ?_) | (go_at_call 26; (with_reducible refine (HV.out _).mono ?_); rintro e w5 ⟨rfl, l5⟩; have B5 : Hid (Blk w5 w.heap.size 23 c.cs ∧ Below w.heap.size w w5 ∧ w.heap.size ≤ w5.heap.size) := (by have q := B4.out.1.lt; have q3 := l5.size; have := B4.out.2.2; exact ⟨B4.out.1.later l5 q, below_chain B4.out.2.1 l5 this, by omega⟩); clear l5) | ((with_reducible show wpList _ _ _ (({ dst := some 86, op := _, type := _, pos := _, after := _, guard := _ } : Oper) :: _) _ _); refine wpList_load_blk rfl 23 (.tmp 3) rfl _ rfl c.cs _ (B5.out.1) Tryd.underlying23 rfl (cg_size c) ?_) | ((with_reducible show wpList _ _ _ (({ dst := some 11, op := _, type := _, pos := _, after := _, guard := _ } : Oper) :: _) _ _); refine wpList_alloc_new rfl 23 rfl 6 _ cg_zero ?_; intro w6 b6 s6 l6; have z6 : Hid (w6.heap.size = w5.heap.size + 1) := s6; clear s6) | (refine wpList_store_blk rfl 23 23 (.tmp 11) (.tmp 86) rfl _ rfl _ c.cs rfl (b6) rfl (cg_size c) (cg_one c) ?_; intro w7 b7 s7 k7; have z7 : Hid (w7.heap.size = w6.heap.size) := s7; clear s7; have c3 : w7.cell? ⟨w5.heap.size, 3, none⟩ = some (.int .i64 c.tx) := (by rw [b7.cell]; rfl); have f3 := b7.frozen 3; have B8 : Hid (Blk (w7.setCell ⟨w5.heap.size, 3, none⟩ (.int .i64 (c.tx + 1))) w5.heap.size 23 c.up.cs ∧ Below w.heap.size w (w7.setCell ⟨w5.heap.size, 3, none⟩ (.int .i64 (c.tx + 1))) ∧ w.heap.size ≤ (w7.setCell ⟨w5.heap.size, 3, none⟩ (.int .i64 (c.tx + 1))).heap.size) := (by have q1 := B5.out.2.2; have q6 := z6.out; have q7 := z7.out; have hk : Kept (fun k => k = w5.heap.size) w7 (w7.setCell ⟨w5.heap.size, 3, none⟩ (.int .i64 (c.tx + 1))) := Kept.setCell (S := fun k => k = w5.heap.size) (Kept.refl (fun k => k = w5.heap.size) w7) (p := ⟨w5.heap.size, 3, none⟩) rfl _; have hb := b7.set 3 (.int .i64 (c.tx + 1)); have hc : c.cs.set 3 (.int .i64 (c.tx + 1)) = c.up.cs := (by show _ = _; unfold Cg.cs; rw [hup]; rfl); rw [hc] at hb; exact ⟨hb, below_kept (below_kept (below_chain B5.out.2.1 l6 q1) k7 (by omega) (fun j hj => by omega)) hk (by omega) (fun j hj => by omega), by have := hk.size; omega⟩); clear b6 b7 l6 k7) | ((with_reducible show wpList _ _ _ (({ dst := some 93, op := _, type := _, pos := _, after := _, guard := _ } : Oper) :: _) _ _); refine wpList_load_blk rfl 23 (.tmp 11) rfl _ rfl c.up.cs _ (B8.out.1) Tryd.underlying23 rfl (cg_size _) ?_) | (go_at_call 26; (with_reducible refine (HU.out _).mono ?_); rintro e w9 ⟨rfl, l9⟩; have B9 : Hid (Below w.heap.size w w9) := below_chain B8.out.2.1 l9 B8.out.2.2; clear l9))
      go_ret
      exact ⟨rfl, B9.out⟩
    · have hup : c.up.tx = 4096 := ht.2
      have hlt := ht.1
      go_enter Tryd.func5, Tryd.ntmps5
      go_wp2_with (first | ((with_reducible show wpList _ _ _ (({ dst := some 3, op := _, type := _, pos := _, after := _, guard := _ } : Oper) :: _) _ _); refine wpList_box_new rfl 23 _ rfl c.cs rfl ?_; intro w1 b1 s1 l1; have z1 : Hid (w1.heap.size = w.heap.size + 1) := s1; clear s1) | (go_at_call 7; refine (awake_any _).mono ?_; rintro e w2 ⟨rfl, l2⟩; have z2 : Hid (w1.heap.size ≤ w2.heap.size) := l2.size; have B2 : Hid (Blk w2 w.heap.size 23 c.cs ∧ Below w.heap.size w w2 ∧ w.heap.size ≤ w2.heap.size) := (by have q1 := z1.out; have q2 := z2.out; exact ⟨b1.later l2 (by omega), below_chain l1 l2 (by omega), by omega⟩); clear b1 l1 l2) | ((with_reducible show wpList _ _ _ (({ dst := some 17, op := _, type := _, pos := _, after := _, guard := _ } : Oper) :: _) _ _); refine wpList_load_blk rfl 23 (.tmp 3) rfl _ rfl c.cs _ (B2.out.1) Tryd.underlying23 rfl (cg_size c) ?_))
      refine (HP.out _).mono ?_
      rintro e w3 ⟨rfl, l3⟩
      have B3 : Hid (Blk w3 w.heap.size 23 c.cs ∧ Below w.heap.size w w3 ∧ w.heap.size ≤ w3.heap.size) := (by have q := B2.out.1.lt; have q3 := l3.size; have := B2.out.2.2; exact ⟨B2.out.1.later l3 q, below_chain B2.out.2.1 l3 this, by omega⟩)
      clear l3 B2
      go_wp2_with (first | ((with_reducible show wpList _ _ _ (({ dst := some 23, op := _, type := _, pos := _, after := _, guard := _ } : Oper) :: _) _ _); refine wpList_load_blk rfl 23 (.tmp 3) rfl _ rfl c.cs _ (B3.out.1) Tryd.underlying23 rfl (cg_size c) ?_))
      refine (HC.out _).mono ?_
      rintro e w4 ⟨rfl, l4⟩
      have B4 : Hid (Blk w4 w.heap.size 23 c.cs ∧ Below w.heap.size w w4 ∧ w.heap.size ≤ w4.heap.size) := (by have q := B3.out.1.lt; have q3 := l4.size; have := B3.out.2.2; exact ⟨B3.out.1.later l4 q, below_chain B3.out.2.1 l4 this, by omega⟩)
      have c0 : w4.cell? ⟨w.heap.size, 0, none⟩ = some (.int .i64 c.bt) := (by rw [B4.out.1.cell]; rfl)
      clear l4 B3
      go_wp2_with (first | ((with_reducible show wpList _ _ _ (({ dst := some 72, op := _, type := _, pos := _, after := _, guard := _ } : Oper) :: _) _ _); refine wpList_load_blk rfl 23 (.tmp 3) rfl _ rfl c.cs _ (B4.out.1) Tryd.underlying23 rfl (cg_size c) ?_) | (go_at_call 26; (with_reducible refine (HV.out _).mono ?_); rintro e w5 ⟨rfl, l5⟩; have B5 : Hid (Blk w5 w.heap.size 23 c.cs ∧ Below w.heap.size w w5 ∧ w.heap.size ≤ w5.heap.size) := (by have q := B4.out.1.lt; have q3 := l5.size; have := B4.out.2.2; exact ⟨B4.out.1.later l5 q, below_chain B4.out.2.1 l5 this, by omega⟩); clear l5) | ((with_reducible show wpList _ _ _ (({ dst := some 86, op := _, type := _, pos := _, after := _, guard := _ } : Oper) :: _) _ _); refine wpList_load_blk rfl 23 (.tmp 3) rfl _ rfl c.cs _ (B5.out.1) Tryd.underlying23 rfl (cg_size c) ?_) | ((with_reducible show wpList _ _ _ (({ dst := some 11, op := _, type := _, pos := _, after := _, guard := _ } : Oper) :: _) _ _); refine wpList_alloc_new rfl 23 rfl 6 _ cg_zero ?_; intro w6 b6 s6 l6; have z6 : Hid (w6.heap.size = w5.heap.size + 1) := s6; clear s6) | (refine wpList_store_blk rfl 23 23 (.tmp 11) (.tmp 86) rfl _ rfl _ c.cs rfl (b6) rfl (cg_size c) (cg_one c) ?_; intro w7 b7 s7 k7; have z7 : Hid (w7.heap.size = w6.heap.size) := s7; clear s7; have c3 : w7.cell? ⟨w5.heap.size, 3, none⟩ = some (.int .i64 c.tx) := (by rw [b7.cell]; rfl); have f3 := b7.frozen 3; have B8 : Hid (Blk (w7.setCell ⟨w5.heap.size, 3, none⟩ (.int .i64 4096)) w5.heap.size 23 c.up.cs ∧ Below w.heap.size w (w7.setCell ⟨w5.heap.size, 3, none⟩ (.int .i64 4096)) ∧ w.heap.size ≤ (w7.setCell ⟨w5.heap.size, 3, none⟩ (.int .i64 4096)).heap.size) := (by have q1 := B5.out.2.2; have q6 := z6.out; have q7 := z7.out; have hk : Kept (fun k => k = w5.heap.size) w7 (w7.setCell ⟨w5.heap.size, 3, none⟩ (.int .i64 4096)) := Kept.setCell (S := fun k => k = w5.heap.size) (Kept.refl (fun k => k = w5.heap.size) w7) (p := ⟨w5.heap.size, 3, none⟩) rfl _; have hb := b7.set 3 (.int .i64 4096); have hc : c.cs.set 3 (.int .i64 4096) = c.up.cs := (by show _ = _; unfold Cg.cs; rw [hup]; rfl); rw [hc] at hb; exact ⟨hb, below_kept (below_kept (below_chain B5.out.2.1 l6 q1) k7 (by omega) (fun j hj => by omega)) hk (by omega) (fun j hj => by omega), by have := hk.size; omega⟩); clear b6 b7 l6 k7) | ((with_reducible show wpList _ _ _ (({ dst := some 93, op := _, type := _, pos := _, after := _, guard := _ } : Oper) :: _) _ _); refine wpList_load_blk rfl 23 (.tmp 11) rfl _ rfl c.up.cs _ (B8.out.1) Tryd.underlying23 rfl (cg_size _) ?_) | (go_at_call 26; (with_reducible refine (HU.out _).mono ?_); rintro e w9 ⟨rfl, l9⟩; have B9 : Hid (Below w.heap.size w w9) := below_chain B8.out.2.1 l9 B8.out.2.2; clear l9))
      go_ret
      exact ⟨rfl, B9.out⟩
theorem pagesLaw (c : Cg) (k n : Int) (w : World) : Calls Tryd.prog 5 #[c.v, .int .i64 k, .int .i64 n] w fun e w' => e = .returned (.bool true) ∧ Below w.heap.size w w' := by
  cases hok : c.ok with
  | false => exact bad_config c k n w hok
  | true =>
    by_cases h1 : k = 1
    · subst h1
      by_cases hn : n < 0
      · exact bad_neg1 c n w hok hn
      · by_cases hb : c.bt < n
        · exact bad_big1 c n w hok hn hb
        · obtain ⟨m, rfl⟩ := Int.eq_ofNat_of_zero_le (show 0 ≤ n by omega)
          exact good1_P c m w hok (by omega)
    · by_cases h2 : k = 2
      · subst h2
        by_cases hn : n < 0
        · exact bad_neg2 c n w hok hn
        · by_cases hb : c.bt < n
          · exact bad_big2 c n w hok hn hb
          · obtain ⟨m, rfl⟩ := Int.eq_ofNat_of_zero_le (show 0 ≤ n by omega)
            exact good2_P c m w hok (by omega)
      · exact bad_kind c k n w hok h1 h2
end Go.Proofs.YtmgkjldjeomcmabDoor.codecPages
