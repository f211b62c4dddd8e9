/- Layer codec: the document's Pages. -/
import Derived.Test.YtmgkjldjeomcmaaDoorCcRSiz
import Derived.Test.YtmgkjldjeomcmaaDoorCcRPag
namespace Go.Proofs.YtmgkjldjeomcmaaDoor
open Go.RowKit
set_option linter.unusedVariables false
set_option linter.unusedSimpArgs false

set_option maxRecDepth 20000 in
set_option maxHeartbeats 1000000 in
theorem rpg_err (c : Cg) (k n : Int) (hE : ¬ szE c k = 0) (w : World) : Calls Tryd.prog 18 #[c.v, .int .i64 k, .int .i64 n] w fun e w' => e = .returned (.tuple #[.int .i64 0, .int .i64 (szE c k)]) ∧ Below w.heap.size w w' := by
  have HC : Hid (∀ W, Calls Tryd.prog 54 #[.agg c.cs.toArray, .int .i64 k] W fun e w' => e = .returned (.tuple #[.int .i64 (szQ c k), .int .i64 (szP c k), .int .i64 (szR c k), .int .i64 (szE c k)]) ∧ Below W.heap.size W w') := fun W => rsizes_any c k W
  have n1 : (szE c k != 0) = true := by simpa using hE
  generalize szE c k = E at *
  clear hE
  generalize szQ c k = Q at *
  generalize szP c k = P at *
  generalize szR c k = R at *
  go_enter Tryd.func18, Tryd.ntmps18
  go_wp2_with (first | ((with_reducible show wpList _ _ _ (({ dst := some 3, op := _, type := _, pos := _, after := _, guard := _ } : Oper) :: _) _ _); refine wpList_box_new rfl 23 _ rfl c.cs rfl ?_; intro w1 b1 s1 l1; have z1 : Hid (w1.heap.size = w.heap.size + 1) := s1; clear s1) | ((with_reducible show wpList _ _ _ (({ dst := some 13, op := _, type := _, pos := _, after := _, guard := _ } : Oper) :: _) _ _); refine wpList_load_blk rfl 23 (.tmp 3) rfl _ rfl c.cs _ (b1) Tryd.underlying23 rfl (cg_size c) ?_))
  refine (HC.out _).mono ?_
  rintro e w3 ⟨rfl, l3⟩
  have B : Blk w3 w.heap.size 23 c.cs := b1.later l3 (by have := z1.out; omega)
  have c0 : w3.cell? ⟨w.heap.size, 0, none⟩ = some (.int .i64 c.bt) := by rw [B.cell]; rfl
  have c3 : w3.cell? ⟨w.heap.size, 3, none⟩ = some (.int .i64 c.tx) := by rw [B.cell]; rfl
  have L3 : Hid (Below w.heap.size w w3) := below_chain l1 l3 (by have := z1.out; omega)
  clear b1 l1 l3 B
  go_wp2
  go_ret2
  exact ⟨rfl, L3.out⟩
set_option maxRecDepth 20000 in
set_option maxHeartbeats 1000000 in
theorem rpg_neg (c : Cg) (k n : Int) (hE : szE c k = 0) (hn : n < 0) (w : World) : Calls Tryd.prog 18 #[c.v, .int .i64 k, .int .i64 n] w fun e w' => e = .returned (.tuple #[.int .i64 0, .int .i64 2]) ∧ Below w.heap.size w w' := by
  have HC : Hid (∀ W, Calls Tryd.prog 54 #[.agg c.cs.toArray, .int .i64 k] W fun e w' => e = .returned (.tuple #[.int .i64 (szQ c k), .int .i64 (szP c k), .int .i64 (szR c k), .int .i64 0]) ∧ Below W.heap.size W w') := fun W => hE ▸ rsizes_any c k W
  clear hE
  generalize szQ c k = Q at *
  generalize szP c k = P at *
  generalize szR c k = R at *
  go_enter Tryd.func18, Tryd.ntmps18
  go_wp2_with (first | ((with_reducible show wpList _ _ _ (({ dst := some 3, op := _, type := _, pos := _, after := _, guard := _ } : Oper) :: _) _ _); refine wpList_box_new rfl 23 _ rfl c.cs rfl ?_; intro w1 b1 s1 l1; have z1 : Hid (w1.heap.size = w.heap.size + 1) := s1; clear s1) | ((with_reducible show wpList _ _ _ (({ dst := some 13, op := _, type := _, pos := _, after := _, guard := _ } : Oper) :: _) _ _); refine wpList_load_blk rfl 23 (.tmp 3) rfl _ rfl c.cs _ (b1) Tryd.underlying23 rfl (cg_size c) ?_))
  refine (HC.out _).mono ?_
  rintro e w3 ⟨rfl, l3⟩
  have B : Blk w3 w.heap.size 23 c.cs := b1.later l3 (by have := z1.out; omega)
  have c0 : w3.cell? ⟨w.heap.size, 0, none⟩ = some (.int .i64 c.bt) := by rw [B.cell]; rfl
  have c3 : w3.cell? ⟨w.heap.size, 3, none⟩ = some (.int .i64 c.tx) := by rw [B.cell]; rfl
  have L3 : Hid (Below w.heap.size w w3) := below_chain l1 l3 (by have := z1.out; omega)
  clear b1 l1 l3 B
  go_wp2
  go_ret2
  exact ⟨rfl, L3.out⟩
set_option maxRecDepth 20000 in
set_option maxHeartbeats 1000000 in
theorem rpg_batch (c : Cg) (k n : Int) (hE : szE c k = 0) (hn : ¬ n < 0) (hb : c.bt < n) (w : World) : Calls Tryd.prog 18 #[c.v, .int .i64 k, .int .i64 n] w fun e w' => e = .returned (.tuple #[.int .i64 0, .int .i64 252]) ∧ Below w.heap.size w w' := by
  have HC : Hid (∀ W, Calls Tryd.prog 54 #[.agg c.cs.toArray, .int .i64 k] W fun e w' => e = .returned (.tuple #[.int .i64 (szQ c k), .int .i64 (szP c k), .int .i64 (szR c k), .int .i64 0]) ∧ Below W.heap.size W w') := fun W => hE ▸ rsizes_any c k W
  clear hE
  generalize szQ c k = Q at *
  generalize szP c k = P at *
  generalize szR c k = R at *
  go_enter Tryd.func18, Tryd.ntmps18
  go_wp2_with (first | ((with_reducible show wpList _ _ _ (({ dst := some 3, op := _, type := _, pos := _, after := _, guard := _ } : Oper) :: _) _ _); refine wpList_box_new rfl 23 _ rfl c.cs rfl ?_; intro w1 b1 s1 l1; have z1 : Hid (w1.heap.size = w.heap.size + 1) := s1; clear s1) | ((with_reducible show wpList _ _ _ (({ dst := some 13, op := _, type := _, pos := _, after := _, guard := _ } : Oper) :: _) _ _); refine wpList_load_blk rfl 23 (.tmp 3) rfl _ rfl c.cs _ (b1) Tryd.underlying23 rfl (cg_size c) ?_))
  refine (HC.out _).mono ?_
  rintro e w3 ⟨rfl, l3⟩
  have B : Blk w3 w.heap.size 23 c.cs := b1.later l3 (by have := z1.out; omega)
  have c0 : w3.cell? ⟨w.heap.size, 0, none⟩ = some (.int .i64 c.bt) := by rw [B.cell]; rfl
  have c3 : w3.cell? ⟨w.heap.size, 3, none⟩ = some (.int .i64 c.tx) := by rw [B.cell]; rfl
  have L3 : Hid (Below w.heap.size w w3) := below_chain l1 l3 (by have := z1.out; omega)
  clear b1 l1 l3 B
  go_wp2
  go_ret2
  exact ⟨rfl, L3.out⟩
set_option maxRecDepth 20000 in
set_option maxHeartbeats 2000000 in
theorem rpg_yes (c : Cg) (k : Int) (m : Nat) (hE : szE c k = 0) (hb : (m : Int) ≤ c.bt) (w : World) : Calls Tryd.prog 18 #[c.v, .int .i64 k, .int .i64 m] w fun e w' => e = .returned (.tuple #[.int .i64 (pgC c k m : Int), .int .i64 0]) ∧ Below w.heap.size w w' := by
  have HC : Hid (∀ W, Calls Tryd.prog 54 #[.agg c.cs.toArray, .int .i64 k] W fun e w' => e = .returned (.tuple #[.int .i64 (szQ c k), .int .i64 (szP c k), .int .i64 (szR c k), .int .i64 0]) ∧ Below W.heap.size W w') := fun W => hE ▸ rsizes_any c k W
  have hd := rec_bd hE
  obtain ⟨R, hR⟩ : ∃ R : Nat, szR c k = (R : Int) := ⟨(szR c k).toNat, by omega⟩
  obtain ⟨T, hT⟩ : ∃ T : Nat, c.tx = (T : Int) := ⟨c.tx.toNat, by omega⟩
  have hm : m ≤ 256 := by omega
  have hp := pdN_le m (by omega)
  have CP : Hid (∀ W, Calls Tryd.prog 58 #[.int .i64 m] W fun e w' => e = .returned (.int .i64 (pdN m : Int)) ∧ w' = W) := fun W => by
    refine (rpad_any m W).mono ?_
    rintro e w' ⟨rfl, rfl⟩
    exact ⟨by rw [pdN_eq m (by omega)], rfl⟩
  have b1 := pgsN_le (pdN m) (T / R)
  have b2 := pgsN_le m (T / 32)
  have C1 : Hid (∀ W, Calls Tryd.prog 57 #[.int .i64 (pdN m : Int), .int .i64 (R : Int), .int .i64 (T : Int)] W fun e w' => e = .returned (.int .i64 (pgsN (pdN m) (T / R) : Int)) ∧ w' = W) := fun W => rpages_any (pdN m) R T (by omega) (by omega) (by omega) (by omega) W
  have C2 : Hid (∀ W, Calls Tryd.prog 57 #[.int .i64 (m : Int), .int .i64 32, .int .i64 (T : Int)] W fun e w' => e = .returned (.int .i64 (pgsN m (T / 32) : Int)) ∧ w' = W) := fun W => rpages_any m 32 T (by omega) (by omega) (by omega) (by omega) W
  have HV : Hid ((pgC c k m : Int) = (pgsN (pdN m) (T / R) : Int) + (pgsN m (T / 32) : Int)) := by
    show _ = _
    unfold pgC
    rw [hT, hR, Int.toNat_natCast, Int.toNat_natCast, Int.natCast_add]
  rw [HV.out]
  obtain ⟨PD, hPD⟩ : ∃ PD, pdN m = PD := ⟨_, rfl⟩
  rw [hPD] at hp CP C1 b1 ⊢
  obtain ⟨A, hA⟩ : ∃ A, pgsN PD (T / R) = A := ⟨_, rfl⟩
  obtain ⟨B, hB⟩ : ∃ B, pgsN m (T / 32) = B := ⟨_, rfl⟩
  rw [hA] at b1 C1 ⊢
  rw [hB] at b2 C2 ⊢
  have q1 : wrap64 ((A : Int) + (B : Int)) = (A : Int) + (B : Int) := by simp [wrap64]; omega
  have HQ1 : Hid (wrap64 ((A : Int) + (B : Int)) = (A : Int) + (B : Int)) := q1
  have i1 : ¬ (m : Int) < 0 := by omega
  have HT : Hid (c.tx = (T : Int)) := hT
  rw [hR] at HC
  generalize szQ c k = Q at *
  generalize szP c k = P at *
  clear hPD hA hB HV hd hE hR hT hp b1 b2 q1
  go_enter Tryd.func18, Tryd.ntmps18
  go_wp2_with (first | ((with_reducible show wpList _ _ _ (({ dst := some 3, op := _, type := _, pos := _, after := _, guard := _ } : Oper) :: _) _ _); refine wpList_box_new rfl 23 _ rfl c.cs rfl ?_; intro w1 b1 s1 l1; have z1 : Hid (w1.heap.size = w.heap.size + 1) := s1; clear s1) | ((with_reducible show wpList _ _ _ (({ dst := some 13, op := _, type := _, pos := _, after := _, guard := _ } : Oper) :: _) _ _); refine wpList_load_blk rfl 23 (.tmp 3) rfl _ rfl c.cs _ (b1) Tryd.underlying23 rfl (cg_size c) ?_))
  refine (HC.out _).mono ?_
  rintro e w3 ⟨rfl, l3⟩
  have B : Blk w3 w.heap.size 23 c.cs := b1.later l3 (by have := z1.out; omega)
  have c0 : w3.cell? ⟨w.heap.size, 0, none⟩ = some (.int .i64 c.bt) := by rw [B.cell]; rfl
  have c3 : w3.cell? ⟨w.heap.size, 3, none⟩ = some (.int .i64 c.tx) := by rw [B.cell]; rfl
  have L3 : Hid (Below w.heap.size w w3) := below_chain l1 l3 (by have := z1.out; omega)
  clear b1 l1 l3 B
  rw [HT.out] at c3
  go_wp2
  go_quiet (first | (go_at_call 58; exact Calls.quiet_of_same (CP.out _)) | (go_at_call 57; with_reducible (first | exact Calls.quiet_of_same (C1.out _) | exact Calls.quiet_of_same (C2.out _))))
  go_wp2
  go_ret2
  refine ⟨?_, below_dn L3.out _⟩
  show Ending.returned (.tuple #[.int .i64 (wrap64 ((A : Int) + (B : Int))), _]) = _
  rw [HQ1.out]
  rfl
end Go.Proofs.YtmgkjldjeomcmaaDoor
