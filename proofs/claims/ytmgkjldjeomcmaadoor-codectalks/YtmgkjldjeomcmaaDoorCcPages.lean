/- Layer codec: Pages. -/
import Derived.Test.YtmgkjldjeomcmaaDoorCcSize
import Derived.Test.YtmgkjldjeomcmaaDoorNLen2
namespace Go.Proofs.YtmgkjldjeomcmaaDoor
open Go.RowKit
set_option linter.unusedVariables false
set_option linter.unusedSimpArgs false


theorem wrapN (x : Nat) (h : x ≤ 4294967296) : IntKind.i64.wrap (x : Int) = (x : Int) := by simp [IntKind.wrap, IntKind.bits, IntKind.signed]; omega
theorem divN (a b : Nat) : Int.tdiv (a : Int) (b : Int) = ((a / b : Nat) : Int) := by rw [Int.ofNat_tdiv]
theorem modN (a b : Nat) : Int.tmod (a : Int) (b : Int) = ((a % b : Nat) : Int) := by rw [Int.ofNat_tmod]
/-- How many pages slots take. -/
def pgsN (n each : Nat) : Nat := if 0 < n % each then n / each + 1 else n / each
set_option maxRecDepth 20000 in
set_option maxHeartbeats 1000000 in
theorem spages_good (n size text : Nat) (hs : 1 ≤ size) (ht : size ≤ text) (htx : text ≤ 1000000) (hn : n ≤ 1000000000) (hp : pgsN n (text / size) ≤ 65536) (w : World) :
    Calls Tryd.prog 55 #[.int .i64 (n : Int), .int .i64 (size : Int), .int .i64 (text : Int)] w fun e w' => e = .returned (.tuple #[.int .i64 (pgsN n (text / size) : Int), .int .i64 0]) ∧ w = w' := by
  obtain ⟨each, he⟩ : ∃ e, text / size = e := ⟨_, rfl⟩
  have hepos : 1 ≤ each := by rw [← he]; exact Nat.div_pos ht hs
  rw [he] at hp ⊢
  obtain ⟨pg, hpg⟩ : ∃ p, n / each = p := ⟨_, rfl⟩
  obtain ⟨r, hr⟩ : ∃ r, n % each = r := ⟨_, rfl⟩
  have q1 : Int.tdiv (text : Int) (size : Int) = (each : Int) := by rw [divN, he]
  have q2 : Int.tdiv (n : Int) (each : Int) = (pg : Int) := by rw [divN, hpg]
  have q3 : Int.tmod (n : Int) (each : Int) = (r : Int) := by rw [modN, hr]
  have hbd : pg ≤ 65536 ∧ each ≤ 1000000 ∧ r ≤ 1000000000 := by
    refine ⟨?_, by rw [← he]; exact Nat.le_trans (Nat.div_le_self _ _) htx, by rw [← hr]; exact Nat.le_trans (Nat.mod_le _ _) hn⟩
    unfold pgsN at hp
    rw [hpg] at hp
    split at hp <;> omega
  have z1 := wrapN each (by omega)
  have z2 := wrapN pg (by omega)
  have i1 : ¬ size = 0 := by omega
  have i2 : ¬ each = 0 := by omega
  have i3 : ¬ size < 1 := by omega
  have i4 : ¬ text < size := by omega
  unfold pgsN at hp ⊢
  rw [hr, hpg] at hp ⊢
  clear he hpg hr
  by_cases h0 : 0 < r
  · rw [if_pos h0] at hp ⊢
    obtain ⟨pg1, h1⟩ : ∃ pg1, pg + 1 = pg1 := ⟨_, rfl⟩
    rw [h1] at hp ⊢
    have q4 : (pg : Int) + 1 = (pg1 : Int) := by omega
    have z3 := wrapN pg1 (by omega)
    have i5 : ¬ 65536 < pg1 := by omega
    clear h1
    go_enter Tryd.func55, Tryd.ntmps55
    go_wp2
    go_ret2
    exact ⟨rfl, rfl⟩
  · rw [if_neg h0] at hp ⊢
    have i5 : ¬ 65536 < pg := by omega
    go_enter Tryd.func55, Tryd.ntmps55
    go_wp2
    go_ret2
    exact ⟨rfl, rfl⟩

theorem pgsN_le (n e : Nat) : pgsN n e ≤ n + 1 := by
  have := Nat.div_le_self n e
  unfold pgsN
  split <;> omega
/-- Pad, as a natural number. -/
def pdN (m : Nat) : Nat := (padI (m : Int)).toNat
theorem padI_bd (m : Nat) (h : m ≤ 65536) : 0 ≤ padI (m : Int) ∧ padI (m : Int) ≤ 2 * m := by
  by_cases h1 : (m : Int) < 1
  · rw [pad_out _ (.inl h1)]; omega
  · have h2 := sz_of_pad (m : Int) (by omega) (by omega)
    omega
theorem pdN_eq (m : Nat) (h : m ≤ 65536) : padI (m : Int) = (pdN m : Int) := by
  have := padI_bd m h
  unfold pdN
  omega
theorem pdN_le (m : Nat) (h : m ≤ 65536) : pdN m ≤ 2 * m := by
  have := padI_bd m h
  unfold pdN
  omega
/-- How many pages a round needs. -/
def pgC (c : Cg) (k : Int) (m : Nat) : Nat := pgsN (pdN m) (c.tx.toNat / (szR c k).toNat) + pgsN m (c.tx.toNat / 32)
set_option maxRecDepth 20000 in
set_option maxHeartbeats 1000000 in
theorem pages_err (c : Cg) (k n : Int) (hE : ¬ szE c k = 0) (w : World) : Calls Tryd.prog 17 #[c.v, .int .i64 k, .int .i64 n] w fun e w' => e = .returned (.tuple #[.int .i64 0, .int .i64 (szE c k)]) ∧ Below w.heap.size w w' := by
  have HQ : ∀ W, Calls Tryd.prog 53 #[c.v, .int .i64 k] W fun e w' => e = .returned (.tuple #[.agg (s3 (szQ c k) (szP c k) (szR c k)).toArray, .int .i64 (szE c k)]) ∧ Below W.heap.size W w' := fun W => sizesOf_any c k W
  have n1 : (szE c k != 0) = true := by simpa using hE
  generalize szE c k = E at *
  clear hE
  generalize szQ c k = Q at *
  generalize szP c k = P at *
  generalize szR c k = R at *
  go_enter Tryd.func17, Tryd.ntmps17
  go_wp2_with (first | ((with_reducible show wpList _ _ _ (({ dst := some 3, op := _, type := _, pos := _, after := _, guard := _ } : Oper) :: _) _ _); refine wpList_box_new rfl 23 _ rfl c.cs rfl ?_; intro w1 b1 s1 l1; have z1 : Hid (w1.heap.size = w.heap.size + 1) := s1; clear s1) | ((with_reducible show wpList _ _ _ (({ dst := some 13, op := _, type := _, pos := _, after := _, guard := _ } : Oper) :: _) _ _); refine wpList_load_blk rfl 23 (.tmp 3) rfl _ rfl c.cs _ (b1) Tryd.underlying23 rfl (cg_size c) ?_))
  refine (HQ _).mono ?_
  rintro e w2 ⟨rfl, l2⟩
  have z2 : Hid (w1.heap.size ≤ w2.heap.size) := l2.size
  have bc : Blk w2 w.heap.size 23 c.cs := b1.later l2 (by have := z1.out; omega)
  have HL : Hid (Below w.heap.size w w2 ∧ w.heap.size ≤ w2.heap.size) := ⟨below_chain l1 l2 (by have := z1.out; omega), by have := z1.out; have := z2.out; omega⟩
  clear l1 l2 b1 HQ
  go_wp2_with (first | ((with_reducible show wpList _ _ _ (({ dst := some 8, op := _, type := _, pos := _, after := _, guard := _ } : Oper) :: _) _ _); refine wpList_alloc_new rfl 78 rfl 3 _ s3_zero ?_; intro w3 b3 s3 l3; have z3 : Hid (w3.heap.size = w2.heap.size + 1) := s3; clear s3) | (refine wpList_store_blk rfl 78 78 (.tmp 8) (.tmp 16) rfl _ rfl _ (s3 Q P R) rfl (b3) rfl (s3_size _ _ _) (s3_one _ _ _) ?_; intro w4 b4 s4 k4; have z4 : Hid (w4.heap.size = w3.heap.size) := s4; clear s4; have c0 : w4.cell? ⟨w.heap.size, 0, none⟩ = some (.int .i64 c.bt) := (by rw [((bc.later l3 (by have := bc.lt; omega)).kept k4 (by have := bc.lt; omega)).cell]; rfl)))
  go_ret2
  exact ⟨rfl, below_kept (below_chain HL.out.1 l3 HL.out.2) k4 (by have := HL.out.2; have := z3.out; omega) (fun j hj => by have := HL.out.2; omega)⟩
set_option maxRecDepth 20000 in
set_option maxHeartbeats 1000000 in
theorem pages_neg (c : Cg) (k n : Int) (hE : szE c k = 0) (hn : n < 0) (w : World) : Calls Tryd.prog 17 #[c.v, .int .i64 k, .int .i64 n] w fun e w' => e = .returned (.tuple #[.int .i64 0, .int .i64 2]) ∧ Below w.heap.size w w' := by
  have HQ : ∀ W, Calls Tryd.prog 53 #[c.v, .int .i64 k] W fun e w' => e = .returned (.tuple #[.agg (s3 (szQ c k) (szP c k) (szR c k)).toArray, .int .i64 0]) ∧ Below W.heap.size W w' := fun W => hE ▸ sizesOf_any c k W
  clear hE
  generalize szQ c k = Q at *
  generalize szP c k = P at *
  generalize szR c k = R at *
  go_enter Tryd.func17, Tryd.ntmps17
  go_wp2_with (first | ((with_reducible show wpList _ _ _ (({ dst := some 3, op := _, type := _, pos := _, after := _, guard := _ } : Oper) :: _) _ _); refine wpList_box_new rfl 23 _ rfl c.cs rfl ?_; intro w1 b1 s1 l1; have z1 : Hid (w1.heap.size = w.heap.size + 1) := s1; clear s1) | ((with_reducible show wpList _ _ _ (({ dst := some 13, op := _, type := _, pos := _, after := _, guard := _ } : Oper) :: _) _ _); refine wpList_load_blk rfl 23 (.tmp 3) rfl _ rfl c.cs _ (b1) Tryd.underlying23 rfl (cg_size c) ?_))
  refine (HQ _).mono ?_
  rintro e w2 ⟨rfl, l2⟩
  have z2 : Hid (w1.heap.size ≤ w2.heap.size) := l2.size
  have bc : Blk w2 w.heap.size 23 c.cs := b1.later l2 (by have := z1.out; omega)
  have HL : Hid (Below w.heap.size w w2 ∧ w.heap.size ≤ w2.heap.size) := ⟨below_chain l1 l2 (by have := z1.out; omega), by have := z1.out; have := z2.out; omega⟩
  clear l1 l2 b1 HQ
  go_wp2_with (first | ((with_reducible show wpList _ _ _ (({ dst := some 8, op := _, type := _, pos := _, after := _, guard := _ } : Oper) :: _) _ _); refine wpList_alloc_new rfl 78 rfl 3 _ s3_zero ?_; intro w3 b3 s3 l3; have z3 : Hid (w3.heap.size = w2.heap.size + 1) := s3; clear s3) | (refine wpList_store_blk rfl 78 78 (.tmp 8) (.tmp 16) rfl _ rfl _ (s3 Q P R) rfl (b3) rfl (s3_size _ _ _) (s3_one _ _ _) ?_; intro w4 b4 s4 k4; have z4 : Hid (w4.heap.size = w3.heap.size) := s4; clear s4; have c0 : w4.cell? ⟨w.heap.size, 0, none⟩ = some (.int .i64 c.bt) := (by rw [((bc.later l3 (by have := bc.lt; omega)).kept k4 (by have := bc.lt; omega)).cell]; rfl)))
  go_ret2
  exact ⟨rfl, below_kept (below_chain HL.out.1 l3 HL.out.2) k4 (by have := HL.out.2; have := z3.out; omega) (fun j hj => by have := HL.out.2; omega)⟩
set_option maxRecDepth 20000 in
set_option maxHeartbeats 1000000 in
theorem pages_batch (c : Cg) (k n : Int) (hE : szE c k = 0) (hn : ¬ n < 0) (hb : c.bt < n) (w : World) : Calls Tryd.prog 17 #[c.v, .int .i64 k, .int .i64 n] w fun e w' => e = .returned (.tuple #[.int .i64 0, .int .i64 252]) ∧ Below w.heap.size w w' := by
  have HQ : ∀ W, Calls Tryd.prog 53 #[c.v, .int .i64 k] W fun e w' => e = .returned (.tuple #[.agg (s3 (szQ c k) (szP c k) (szR c k)).toArray, .int .i64 0]) ∧ Below W.heap.size W w' := fun W => hE ▸ sizesOf_any c k W
  clear hE
  generalize szQ c k = Q at *
  generalize szP c k = P at *
  generalize szR c k = R at *
  go_enter Tryd.func17, Tryd.ntmps17
  go_wp2_with (first | ((with_reducible show wpList _ _ _ (({ dst := some 3, op := _, type := _, pos := _, after := _, guard := _ } : Oper) :: _) _ _); refine wpList_box_new rfl 23 _ rfl c.cs rfl ?_; intro w1 b1 s1 l1; have z1 : Hid (w1.heap.size = w.heap.size + 1) := s1; clear s1) | ((with_reducible show wpList _ _ _ (({ dst := some 13, op := _, type := _, pos := _, after := _, guard := _ } : Oper) :: _) _ _); refine wpList_load_blk rfl 23 (.tmp 3) rfl _ rfl c.cs _ (b1) Tryd.underlying23 rfl (cg_size c) ?_))
  refine (HQ _).mono ?_
  rintro e w2 ⟨rfl, l2⟩
  have z2 : Hid (w1.heap.size ≤ w2.heap.size) := l2.size
  have bc : Blk w2 w.heap.size 23 c.cs := b1.later l2 (by have := z1.out; omega)
  have HL : Hid (Below w.heap.size w w2 ∧ w.heap.size ≤ w2.heap.size) := ⟨below_chain l1 l2 (by have := z1.out; omega), by have := z1.out; have := z2.out; omega⟩
  clear l1 l2 b1 HQ
  go_wp2_with (first | ((with_reducible show wpList _ _ _ (({ dst := some 8, op := _, type := _, pos := _, after := _, guard := _ } : Oper) :: _) _ _); refine wpList_alloc_new rfl 78 rfl 3 _ s3_zero ?_; intro w3 b3 s3 l3; have z3 : Hid (w3.heap.size = w2.heap.size + 1) := s3; clear s3) | (refine wpList_store_blk rfl 78 78 (.tmp 8) (.tmp 16) rfl _ rfl _ (s3 Q P R) rfl (b3) rfl (s3_size _ _ _) (s3_one _ _ _) ?_; intro w4 b4 s4 k4; have z4 : Hid (w4.heap.size = w3.heap.size) := s4; clear s4; have c0 : w4.cell? ⟨w.heap.size, 0, none⟩ = some (.int .i64 c.bt) := (by rw [((bc.later l3 (by have := bc.lt; omega)).kept k4 (by have := bc.lt; omega)).cell]; rfl)))
  go_ret2
  exact ⟨rfl, below_kept (below_chain HL.out.1 l3 HL.out.2) k4 (by have := HL.out.2; have := z3.out; omega) (fun j hj => by have := HL.out.2; omega)⟩
theorem szE_ok {c : Cg} {k : Int} (h : szE c k = 0) : c.ok = true ∧ (k = 1 ∨ k = 2) := by
  unfold szE at h
  split at h
  · rename_i h1
    refine ⟨h1, ?_⟩
    split at h
    · rename_i h2; exact h2
    · omega
  · omega
theorem rec_bd {c : Cg} {k : Int} (h : szE c k = 0) : 1 ≤ szR c k ∧ szR c k ≤ c.tx ∧ 114 ≤ c.tx ∧ c.tx ≤ 4096 ∧ 1 ≤ c.bt ∧ c.bt ≤ 256 := by
  obtain ⟨h1, h2⟩ := szE_ok h
  have hf : (1 ≤ c.bt ∧ c.bt ≤ 256) ∧ (32 ≤ c.ms ∧ c.ms ≤ 512) ∧ (2 ≤ c.bk ∧ c.bk ≤ 64) ∧ (c.least ≤ c.tx ∧ c.tx ≤ 4096) ∧ (2 ≤ c.wi ∧ c.wi ≤ 16) ∧ (1 ≤ c.wk ∧ c.wk ≤ 16) := by
    unfold Cg.ok at h1
    simpa [inB, and_assoc] using h1
  have hl : 114 ≤ c.least ∧ 26 + c.ms ≤ c.least := by unfold Cg.least; omega
  have hr : szR c k ≤ c.least ∧ 1 ≤ szR c k := by
    unfold szR
    rw [if_pos h1]
    rcases h2 with rfl | rfl
    · simp; omega
    · simp; omega
  omega
set_option maxRecDepth 20000 in
set_option maxHeartbeats 2000000 in
theorem pages_yes (c : Cg) (k : Int) (m : Nat) (hE : szE c k = 0) (hb : (m : Int) ≤ c.bt) (w : World) : Calls Tryd.prog 17 #[c.v, .int .i64 k, .int .i64 m] w fun e w' => e = .returned (.tuple #[.int .i64 (pgC c k m : Int), .int .i64 0]) ∧ Below w.heap.size w w' := by
  have HQ : ∀ W, Calls Tryd.prog 53 #[c.v, .int .i64 k] W fun e w' => e = .returned (.tuple #[.agg (s3 (szQ c k) (szP c k) (szR c k)).toArray, .int .i64 0]) ∧ Below W.heap.size W w' := fun W => hE ▸ sizesOf_any c k W
  have hd := rec_bd hE
  obtain ⟨R, hR⟩ : ∃ R : Nat, szR c k = (R : Int) := ⟨(szR c k).toNat, by omega⟩
  obtain ⟨T, hT⟩ : ∃ T : Nat, c.tx = (T : Int) := ⟨c.tx.toNat, by omega⟩
  have hm : m ≤ 256 := by omega
  have hp := pdN_le m (by omega)
  have CP : Hid (∀ W, Calls Tryd.prog 56 #[.int .i64 m] W fun e w' => e = .returned (.int .i64 (pdN m : Int)) ∧ w' = W) := fun W => by
    refine (pad_any m W).mono ?_
    rintro e w' ⟨rfl, rfl⟩
    exact ⟨by rw [pdN_eq m (by omega)], rfl⟩
  have b1 := pgsN_le (pdN m) (T / R)
  have b2 := pgsN_le m (T / 32)
  have C1 : Hid (∀ W, Calls Tryd.prog 55 #[.int .i64 (pdN m : Int), .int .i64 (R : Int), .int .i64 (T : Int)] W fun e w' => e = .returned (.tuple #[.int .i64 (pgsN (pdN m) (T / R) : Int), .int .i64 0]) ∧ w' = W) := fun W =>
    (spages_good (pdN m) R T (by omega) (by omega) (by omega) (by omega) (by omega) W).mono (by rintro e w' ⟨rfl, rfl⟩; exact ⟨rfl, rfl⟩)
  have C2 : Hid (∀ W, Calls Tryd.prog 55 #[.int .i64 (m : Int), .int .i64 32, .int .i64 (T : Int)] W fun e w' => e = .returned (.tuple #[.int .i64 (pgsN m (T / 32) : Int), .int .i64 0]) ∧ w' = W) := fun W =>
    (spages_good m 32 T (by omega) (by omega) (by omega) (by omega) (by omega) W).mono (by rintro e w' ⟨rfl, rfl⟩; exact ⟨rfl, rfl⟩)
  have HV : Hid ((pgC c k m : Int) = (pgsN (pdN m) (T / R) : Int) + (pgsN m (T / 32) : Int)) := by
    show _ = _
    unfold pgC
    rw [hT, hR, Int.toNat_natCast, Int.toNat_natCast, Int.natCast_add]
  rw [HV.out]
  obtain ⟨A, hA⟩ : ∃ A, pgsN (pdN m) (T / R) = A := ⟨_, rfl⟩
  obtain ⟨B, hB⟩ : ∃ B, pgsN m (T / 32) = B := ⟨_, rfl⟩
  rw [hA] at b1 C1 ⊢
  rw [hB] at b2 C2 ⊢
  have q1 : wrap64 ((A : Int) + (B : Int)) = (A : Int) + (B : Int) := by simp [wrap64]; omega
  have HQ1 : Hid (wrap64 ((A : Int) + (B : Int)) = (A : Int) + (B : Int)) := q1
  clear q1
  have i1 : ¬ (m : Int) < 0 := by omega
  have HT : Hid (c.cs = [.int .i64 c.bt, .int .i64 c.ms, .int .i64 c.bk, .int .i64 (T : Int), .int .i64 c.wi, .int .i64 c.wk]) := by show _ = _; unfold Cg.cs; rw [hT]
  rw [hR] at HQ
  generalize szQ c k = Q at *
  generalize szP c k = P at *
  clear hA hB HV hd hE hR hT hp b1 b2
  go_enter Tryd.func17, Tryd.ntmps17
  go_wp2_with (first | ((with_reducible show wpList _ _ _ (({ dst := some 3, op := _, type := _, pos := _, after := _, guard := _ } : Oper) :: _) _ _); refine wpList_box_new rfl 23 _ rfl c.cs rfl ?_; intro w1 b1 s1 l1; have z1 : Hid (w1.heap.size = w.heap.size + 1) := s1; clear s1) | ((with_reducible show wpList _ _ _ (({ dst := some 13, op := _, type := _, pos := _, after := _, guard := _ } : Oper) :: _) _ _); refine wpList_load_blk rfl 23 (.tmp 3) rfl _ rfl c.cs _ (b1) Tryd.underlying23 rfl (cg_size c) ?_))
  refine (HQ _).mono ?_
  rintro e w2 ⟨rfl, l2⟩
  have z2 : Hid (w1.heap.size ≤ w2.heap.size) := l2.size
  have bc : Blk w2 w.heap.size 23 c.cs := b1.later l2 (by have := z1.out; omega)
  have HL : Hid (Below w.heap.size w w2 ∧ w.heap.size ≤ w2.heap.size) := ⟨below_chain l1 l2 (by have := z1.out; omega), by have := z1.out; have := z2.out; omega⟩
  clear l1 l2 b1 HQ
  go_wp2_with (first | ((with_reducible show wpList _ _ _ (({ dst := some 8, op := _, type := _, pos := _, after := _, guard := _ } : Oper) :: _) _ _); refine wpList_alloc_new rfl 78 rfl 3 _ s3_zero ?_; intro w3 b3 s3 l3; have z3 : Hid (w3.heap.size = w2.heap.size + 1) := s3; clear s3) | (refine wpList_store_blk rfl 78 78 (.tmp 8) (.tmp 16) rfl _ rfl _ (s3 Q P (R : Int)) rfl (b3) rfl (s3_size _ _ _) (s3_one _ _ _) ?_; intro w4 b4 s4 k4; have z4 : Hid (w4.heap.size = w3.heap.size) := s4; clear s4; have c0 : w4.cell? ⟨w.heap.size, 0, none⟩ = some (.int .i64 c.bt) := (by rw [((bc.later l3 (by have := bc.lt; omega)).kept k4 (by have := bc.lt; omega)).cell]; rfl); have c3 : w4.cell? ⟨w.heap.size, 3, none⟩ = some (.int .i64 (T : Int)) := (by rw [((bc.later l3 (by have := bc.lt; omega)).kept k4 (by have := bc.lt; omega)).cell, HT.out]; rfl); have c2 : w4.cell? ⟨w2.heap.size, 2, none⟩ = some (.int .i64 (R : Int)) := (by rw [b4.cell]; rfl)))
  have HF : Hid (Below w.heap.size w w4) := below_kept (below_chain HL.out.1 l3 HL.out.2) k4 (by have := HL.out.2; have := z3.out; omega) (fun j hj => by have := HL.out.2; omega)
  clear l3 k4 b3 b4 bc
  go_quiet (first | (go_at_call 56; exact Calls.quiet_of_same (CP.out _)) | (go_at_call 55; exact Calls.quiet_of_same (C1.out _)))
  go_wp2_with (go_at_call 55; refine (C2.out _).mono ?_; rintro e w5 ⟨rfl, rfl⟩)
  go_ret2
  refine ⟨?_, below_dn HF.out _⟩
  show Ending.returned (.tuple #[.int .i64 (wrap64 ((A : Int) + (B : Int))), _]) = _
  rw [HQ1.out]
  rfl
end Go.Proofs.YtmgkjldjeomcmaaDoor
