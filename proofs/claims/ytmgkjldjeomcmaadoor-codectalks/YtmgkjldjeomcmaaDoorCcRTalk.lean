/- Layer codec: the document's TalkRequest, TalkReply, DialRequest, and the errors of what it parses. -/
import Derived.Test.YtmgkjldjeomcmaaDoorCcPTalk
import Derived.Test.YtmgkjldjeomcmaaDoorCcRCfg
import Derived.Test.YtmgkjldjeomcmaaDoorCcRSiz
import Derived.Test.YtmgkjldjeomcmaaDoorDCopy
namespace Go.Proofs.YtmgkjldjeomcmaaDoor
open Go.RowKit
set_option linter.unusedVariables false
set_option linter.unusedSimpArgs false

theorem own_some8L {w : World} {base : Nat} {v : Value} {n : Nat} {zs : List Int} (h : w.ownsRow base 5 1 v n (zs.map (Value.int .u8))) (hl : zs.length = n) (hb : Bytes zs) (ht : n ≤ 140737488355328) (h0 : 0 < n) : ∃ b c, v = .slice (some ⟨b, 0, none⟩) n c ∧ Seen w (some ⟨b, 0, none⟩) n zs ∧ n ≤ c ∧ base ≤ b := by
  rcases h.2 with ⟨rfl, h1⟩ | ⟨g, cap, cur, rfl, hg, hh, hc, _⟩
  · omega
  · refine ⟨g, cap, rfl, ⟨hl, ht, hb, fun _ => ⟨g, 0, rfl, lt_of_block hh, fun i hi => ?_⟩⟩, hc, hg⟩
    rw [Nat.zero_add, h.cellAt i (by omega)]
    simp [List.getD, hl ▸ hi]
/-- What the document's call answers that lays bytes: a row of its own, no error. -/
def LayR (w : World) (zs : List Int) (e : Ending) (w' : World) : Prop := ∃ v, e = .returned (.tuple #[v, .int .i64 0]) ∧ w'.ownsRow w.heap.size 5 1 v zs.length (zs.map (Value.int .u8)) ∧ Below w.heap.size w w'
set_option maxRecDepth 20000 in
set_option maxHeartbeats 2000000 in
theorem rtalkReq_bad (c : Cg) (d : List Int) (hd : d.length = 16) (ao : Option Addr) (n cap : Nat) (hok : c.ok = false) (w : World) : Calls Tryd.prog 21 #[c.v, .agg (u8s d).toArray, .slice ao n cap] w fun e w' => e = .returned (.tuple #[.slice none 0 0, .int .i64 200]) ∧ Below w.heap.size w w' := by
  have HC : Hid (∀ W, Calls Tryd.prog 11 #[.agg c.cs.toArray] W fun e w' => e = .returned (.int .i64 200) ∧ Below W.heap.size W w') := fun W => no_err hok ▸ rcheck_any c W
  clear hok
  go_enter Tryd.func21, Tryd.ntmps21
  go_wp2_with (first | ((with_reducible show wpList _ _ _ (({ dst := some 3, op := _, type := _, pos := _, after := _, guard := _ } : Oper) :: _) _ _); refine wpList_box_new rfl 23 _ rfl c.cs rfl ?_; intro w1 b1 s1 l1; have z1 : Hid (w1.heap.size = w.heap.size + 1) := s1; clear s1) | ((with_reducible show wpList _ _ _ (({ dst := some 4, op := _, type := _, pos := _, after := _, guard := _ } : Oper) :: _) _ _); refine wpList_box_new rfl 35 _ rfl (u8s d) rfl ?_; intro w2 b2 s2 l2; have z2 : Hid (w2.heap.size = w1.heap.size + 1) := s2; clear s2) | ((with_reducible show wpList _ _ _ (({ dst := some 10, op := _, type := _, pos := _, after := _, guard := _ } : Oper) :: _) _ _); refine wpList_load_blk rfl 23 (.tmp 3) rfl _ rfl c.cs _ (b1.later l2 (by have := z1.out; omega)) Tryd.underlying23 rfl (cg_size c) ?_))
  have D2 : Hid (Blk w2 w.heap.size 23 c.cs ∧ Blk w2 w1.heap.size 35 (u8s d) ∧ Below w.heap.size w w2) := ⟨b1.later l2 (by have := z1.out; omega), b2, below_chain l1 l2 (by have := z1.out; omega)⟩
  clear b1 b2 l1 l2
  refine (HC.out _).mono ?_
  rintro e w3 ⟨rfl, l3⟩
  have D3 : Hid (Blk w3 w.heap.size 23 c.cs ∧ Blk w3 w1.heap.size 35 (u8s d) ∧ Below w.heap.size w w3) := ⟨D2.out.1.later l3 D2.out.1.lt, D2.out.2.1.later l3 D2.out.2.1.lt, below_chain D2.out.2.2 l3 D2.out.2.2.size⟩
  have cm : w3.cell? ⟨w.heap.size, 1, none⟩ = some (.int .i64 c.ms) := by rw [D3.out.1.cell]; rfl
  have cb : w3.cell? ⟨w.heap.size, 2, none⟩ = some (.int .i64 c.bk) := by rw [D3.out.1.cell]; rfl
  clear l3 D2 HC
  go_wp2_with fail
  go_ret2
  exact ⟨rfl, D3.out.2.2⟩
set_option maxRecDepth 20000 in
set_option maxHeartbeats 2000000 in
theorem rtalkReq_len (c : Cg) (d : List Int) (hd : d.length = 16) (ao : Option Addr) (n cap : Nat) (hok : c.ok = true) (hne : ¬ (n : Int) = c.ms) (w : World) : Calls Tryd.prog 21 #[c.v, .agg (u8s d).toArray, .slice ao n cap] w fun e w' => e = .returned (.tuple #[.slice none 0 0, .int .i64 4]) ∧ Below w.heap.size w w' := by
  have HC : Hid (∀ W, Calls Tryd.prog 11 #[.agg c.cs.toArray] W fun e w' => e = .returned (.int .i64 0) ∧ Below W.heap.size W w') := fun W => ok_err hok ▸ rcheck_any c W
  have n1 : ((n : Int) != c.ms) = true := by simpa using hne
  clear hok hne
  go_enter Tryd.func21, Tryd.ntmps21
  go_wp2_with (first | ((with_reducible show wpList _ _ _ (({ dst := some 3, op := _, type := _, pos := _, after := _, guard := _ } : Oper) :: _) _ _); refine wpList_box_new rfl 23 _ rfl c.cs rfl ?_; intro w1 b1 s1 l1; have z1 : Hid (w1.heap.size = w.heap.size + 1) := s1; clear s1) | ((with_reducible show wpList _ _ _ (({ dst := some 4, op := _, type := _, pos := _, after := _, guard := _ } : Oper) :: _) _ _); refine wpList_box_new rfl 35 _ rfl (u8s d) rfl ?_; intro w2 b2 s2 l2; have z2 : Hid (w2.heap.size = w1.heap.size + 1) := s2; clear s2) | ((with_reducible show wpList _ _ _ (({ dst := some 10, op := _, type := _, pos := _, after := _, guard := _ } : Oper) :: _) _ _); refine wpList_load_blk rfl 23 (.tmp 3) rfl _ rfl c.cs _ (b1.later l2 (by have := z1.out; omega)) Tryd.underlying23 rfl (cg_size c) ?_))
  have D2 : Hid (Blk w2 w.heap.size 23 c.cs ∧ Blk w2 w1.heap.size 35 (u8s d) ∧ Below w.heap.size w w2) := ⟨b1.later l2 (by have := z1.out; omega), b2, below_chain l1 l2 (by have := z1.out; omega)⟩
  clear b1 b2 l1 l2
  refine (HC.out _).mono ?_
  rintro e w3 ⟨rfl, l3⟩
  have D3 : Hid (Blk w3 w.heap.size 23 c.cs ∧ Blk w3 w1.heap.size 35 (u8s d) ∧ Below w.heap.size w w3) := ⟨D2.out.1.later l3 D2.out.1.lt, D2.out.2.1.later l3 D2.out.2.1.lt, below_chain D2.out.2.2 l3 D2.out.2.2.size⟩
  have cm : w3.cell? ⟨w.heap.size, 1, none⟩ = some (.int .i64 c.ms) := by rw [D3.out.1.cell]; rfl
  have cb : w3.cell? ⟨w.heap.size, 2, none⟩ = some (.int .i64 c.bk) := by rw [D3.out.1.cell]; rfl
  clear l3 D2 HC
  go_wp2_with fail
  go_ret2
  exact ⟨rfl, D3.out.2.2⟩
set_option maxRecDepth 20000 in
set_option maxHeartbeats 2000000 in
theorem rtalkRep_bad (c : Cg) (b : Bool) (ao : Option Addr) (n cap : Nat) (hok : c.ok = false) (w : World) : Calls Tryd.prog 24 #[c.v, .bool b, .slice ao n cap] w fun e w' => e = .returned (.tuple #[.slice none 0 0, .int .i64 200]) ∧ Below w.heap.size w w' := by
  have HC : Hid (∀ W, Calls Tryd.prog 11 #[.agg c.cs.toArray] W fun e w' => e = .returned (.int .i64 200) ∧ Below W.heap.size W w') := fun W => no_err hok ▸ rcheck_any c W
  clear hok
  go_enter Tryd.func24, Tryd.ntmps24
  go_wp2_with (first | ((with_reducible show wpList _ _ _ (({ dst := some 3, op := _, type := _, pos := _, after := _, guard := _ } : Oper) :: _) _ _); refine wpList_box_new rfl 23 _ rfl c.cs rfl ?_; intro w1 b1 s1 l1; have z1 : Hid (w1.heap.size = w.heap.size + 1) := s1; clear s1) | ((with_reducible show wpList _ _ _ (({ dst := some 8, op := _, type := _, pos := _, after := _, guard := _ } : Oper) :: _) _ _); refine wpList_load_blk rfl 23 (.tmp 3) rfl _ rfl c.cs _ b1 Tryd.underlying23 rfl (cg_size c) ?_))
  have D2 : Hid (Blk w1 w.heap.size 23 c.cs ∧ True ∧ Below w.heap.size w w1) := ⟨b1, trivial, l1⟩
  clear b1 l1
  refine (HC.out _).mono ?_
  rintro e w3 ⟨rfl, l3⟩
  have D3 : Hid (Blk w3 w.heap.size 23 c.cs ∧ True ∧ Below w.heap.size w w3) := ⟨D2.out.1.later l3 D2.out.1.lt, trivial, below_chain D2.out.2.2 l3 D2.out.2.2.size⟩
  have cm : w3.cell? ⟨w.heap.size, 1, none⟩ = some (.int .i64 c.ms) := by rw [D3.out.1.cell]; rfl
  have cb : w3.cell? ⟨w.heap.size, 2, none⟩ = some (.int .i64 c.bk) := by rw [D3.out.1.cell]; rfl
  clear l3 D2 HC
  go_wp2_with fail
  go_ret2
  exact ⟨rfl, D3.out.2.2⟩
set_option maxRecDepth 20000 in
set_option maxHeartbeats 2000000 in
theorem rtalkRep_len (c : Cg) (b : Bool) (ao : Option Addr) (n cap : Nat) (hok : c.ok = true) (hne : ¬ (n : Int) = c.ms) (w : World) : Calls Tryd.prog 24 #[c.v, .bool b, .slice ao n cap] w fun e w' => e = .returned (.tuple #[.slice none 0 0, .int .i64 4]) ∧ Below w.heap.size w w' := by
  have HC : Hid (∀ W, Calls Tryd.prog 11 #[.agg c.cs.toArray] W fun e w' => e = .returned (.int .i64 0) ∧ Below W.heap.size W w') := fun W => ok_err hok ▸ rcheck_any c W
  have n1 : ((n : Int) != c.ms) = true := by simpa using hne
  clear hok hne
  go_enter Tryd.func24, Tryd.ntmps24
  go_wp2_with (first | ((with_reducible show wpList _ _ _ (({ dst := some 3, op := _, type := _, pos := _, after := _, guard := _ } : Oper) :: _) _ _); refine wpList_box_new rfl 23 _ rfl c.cs rfl ?_; intro w1 b1 s1 l1; have z1 : Hid (w1.heap.size = w.heap.size + 1) := s1; clear s1) | ((with_reducible show wpList _ _ _ (({ dst := some 8, op := _, type := _, pos := _, after := _, guard := _ } : Oper) :: _) _ _); refine wpList_load_blk rfl 23 (.tmp 3) rfl _ rfl c.cs _ b1 Tryd.underlying23 rfl (cg_size c) ?_))
  have D2 : Hid (Blk w1 w.heap.size 23 c.cs ∧ True ∧ Below w.heap.size w w1) := ⟨b1, trivial, l1⟩
  clear b1 l1
  refine (HC.out _).mono ?_
  rintro e w3 ⟨rfl, l3⟩
  have D3 : Hid (Blk w3 w.heap.size 23 c.cs ∧ True ∧ Below w.heap.size w w3) := ⟨D2.out.1.later l3 D2.out.1.lt, trivial, below_chain D2.out.2.2 l3 D2.out.2.2.size⟩
  have cm : w3.cell? ⟨w.heap.size, 1, none⟩ = some (.int .i64 c.ms) := by rw [D3.out.1.cell]; rfl
  have cb : w3.cell? ⟨w.heap.size, 2, none⟩ = some (.int .i64 c.bk) := by rw [D3.out.1.cell]; rfl
  clear l3 D2 HC
  go_wp2_with fail
  go_ret2
  exact ⟨rfl, D3.out.2.2⟩
set_option maxRecDepth 20000 in
set_option maxHeartbeats 2000000 in
theorem rdialReq_bad (c : Cg) (b : Int) (ao : Option Addr) (n cap : Nat) (hok : c.ok = false) (w : World) : Calls Tryd.prog 30 #[c.v, .int .i64 b, .slice ao n cap] w fun e w' => e = .returned (.tuple #[.slice none 0 0, .int .i64 200]) ∧ Below w.heap.size w w' := by
  have HC : Hid (∀ W, Calls Tryd.prog 11 #[.agg c.cs.toArray] W fun e w' => e = .returned (.int .i64 200) ∧ Below W.heap.size W w') := fun W => no_err hok ▸ rcheck_any c W
  clear hok
  go_enter Tryd.func30, Tryd.ntmps30
  go_wp2_with (first | ((with_reducible show wpList _ _ _ (({ dst := some 3, op := _, type := _, pos := _, after := _, guard := _ } : Oper) :: _) _ _); refine wpList_box_new rfl 23 _ rfl c.cs rfl ?_; intro w1 b1 s1 l1; have z1 : Hid (w1.heap.size = w.heap.size + 1) := s1; clear s1) | ((with_reducible show wpList _ _ _ (({ dst := some 8, op := _, type := _, pos := _, after := _, guard := _ } : Oper) :: _) _ _); refine wpList_load_blk rfl 23 (.tmp 3) rfl _ rfl c.cs _ b1 Tryd.underlying23 rfl (cg_size c) ?_))
  have D2 : Hid (Blk w1 w.heap.size 23 c.cs ∧ True ∧ Below w.heap.size w w1) := ⟨b1, trivial, l1⟩
  clear b1 l1
  refine (HC.out _).mono ?_
  rintro e w3 ⟨rfl, l3⟩
  have D3 : Hid (Blk w3 w.heap.size 23 c.cs ∧ True ∧ Below w.heap.size w w3) := ⟨D2.out.1.later l3 D2.out.1.lt, trivial, below_chain D2.out.2.2 l3 D2.out.2.2.size⟩
  have cm : w3.cell? ⟨w.heap.size, 1, none⟩ = some (.int .i64 c.ms) := by rw [D3.out.1.cell]; rfl
  have cb : w3.cell? ⟨w.heap.size, 2, none⟩ = some (.int .i64 c.bk) := by rw [D3.out.1.cell]; rfl
  clear l3 D2 HC
  go_wp2_with fail
  go_ret2
  exact ⟨rfl, D3.out.2.2⟩
set_option maxRecDepth 20000 in
set_option maxHeartbeats 2000000 in
theorem rparseDial_bad (c : Cg) (ao : Option Addr) (n cap : Nat) (hok : c.ok = false) (w : World) : Calls Tryd.prog 32 #[c.v, .slice ao n cap] w fun e w' => e = .returned (.tuple #[.int .i64 0, .slice none 0 0, .int .i64 200]) ∧ Below w.heap.size w w' := by
  have HC : Hid (∀ W, Calls Tryd.prog 11 #[.agg c.cs.toArray] W fun e w' => e = .returned (.int .i64 200) ∧ Below W.heap.size W w') := fun W => no_err hok ▸ rcheck_any c W
  clear hok
  go_enter Tryd.func32, Tryd.ntmps32
  go_wp2_with (first | ((with_reducible show wpList _ _ _ (({ dst := some 2, op := _, type := _, pos := _, after := _, guard := _ } : Oper) :: _) _ _); refine wpList_box_new rfl 23 _ rfl c.cs rfl ?_; intro w1 b1 s1 l1; have z1 : Hid (w1.heap.size = w.heap.size + 1) := s1; clear s1) | ((with_reducible show wpList _ _ _ (({ dst := some 7, op := _, type := _, pos := _, after := _, guard := _ } : Oper) :: _) _ _); refine wpList_load_blk rfl 23 (.tmp 2) rfl _ rfl c.cs _ b1 Tryd.underlying23 rfl (cg_size c) ?_))
  have D2 : Hid (Blk w1 w.heap.size 23 c.cs ∧ True ∧ Below w.heap.size w w1) := ⟨b1, trivial, l1⟩
  clear b1 l1
  refine (HC.out _).mono ?_
  rintro e w3 ⟨rfl, l3⟩
  have D3 : Hid (Blk w3 w.heap.size 23 c.cs ∧ True ∧ Below w.heap.size w w3) := ⟨D2.out.1.later l3 D2.out.1.lt, trivial, below_chain D2.out.2.2 l3 D2.out.2.2.size⟩
  have cm : w3.cell? ⟨w.heap.size, 1, none⟩ = some (.int .i64 c.ms) := by rw [D3.out.1.cell]; rfl
  have cb : w3.cell? ⟨w.heap.size, 2, none⟩ = some (.int .i64 c.bk) := by rw [D3.out.1.cell]; rfl
  clear l3 D2 HC
  go_wp2_with fail
  go_ret3
  exact ⟨rfl, D3.out.2.2⟩
set_option maxRecDepth 20000 in
set_option maxHeartbeats 2000000 in
theorem rparseDial_len (c : Cg) (ao : Option Addr) (n cap : Nat) (hok : c.ok = true) (hne : ¬ (n : Int) = 92) (w : World) : Calls Tryd.prog 32 #[c.v, .slice ao n cap] w fun e w' => e = .returned (.tuple #[.int .i64 0, .slice none 0 0, .int .i64 4]) ∧ Below w.heap.size w w' := by
  have HC : Hid (∀ W, Calls Tryd.prog 11 #[.agg c.cs.toArray] W fun e w' => e = .returned (.int .i64 0) ∧ Below W.heap.size W w') := fun W => ok_err hok ▸ rcheck_any c W
  have n1 : ((n : Int) != 92) = true := by simpa using hne
  clear hok hne
  go_enter Tryd.func32, Tryd.ntmps32
  go_wp2_with (first | ((with_reducible show wpList _ _ _ (({ dst := some 2, op := _, type := _, pos := _, after := _, guard := _ } : Oper) :: _) _ _); refine wpList_box_new rfl 23 _ rfl c.cs rfl ?_; intro w1 b1 s1 l1; have z1 : Hid (w1.heap.size = w.heap.size + 1) := s1; clear s1) | ((with_reducible show wpList _ _ _ (({ dst := some 7, op := _, type := _, pos := _, after := _, guard := _ } : Oper) :: _) _ _); refine wpList_load_blk rfl 23 (.tmp 2) rfl _ rfl c.cs _ b1 Tryd.underlying23 rfl (cg_size c) ?_))
  have D2 : Hid (Blk w1 w.heap.size 23 c.cs ∧ True ∧ Below w.heap.size w w1) := ⟨b1, trivial, l1⟩
  clear b1 l1
  refine (HC.out _).mono ?_
  rintro e w3 ⟨rfl, l3⟩
  have D3 : Hid (Blk w3 w.heap.size 23 c.cs ∧ True ∧ Below w.heap.size w w3) := ⟨D2.out.1.later l3 D2.out.1.lt, trivial, below_chain D2.out.2.2 l3 D2.out.2.2.size⟩
  have cm : w3.cell? ⟨w.heap.size, 1, none⟩ = some (.int .i64 c.ms) := by rw [D3.out.1.cell]; rfl
  have cb : w3.cell? ⟨w.heap.size, 2, none⟩ = some (.int .i64 c.bk) := by rw [D3.out.1.cell]; rfl
  clear l3 D2 HC
  go_wp2_with fail
  go_ret3
  exact ⟨rfl, D3.out.2.2⟩
set_option maxRecDepth 20000 in
set_option maxHeartbeats 2000000 in
theorem rparseReply_bad (c : Cg) (ao : Option Addr) (n cap : Nat) (hok : c.ok = false) (w : World) : Calls Tryd.prog 28 #[c.v, .slice ao n cap] w fun e w' => e = .returned (.tuple #[.bool false, .slice none 0 0, .int .i64 200]) ∧ Below w.heap.size w w' := by
  have HC : Hid (∀ W, Calls Tryd.prog 11 #[.agg c.cs.toArray] W fun e w' => e = .returned (.int .i64 200) ∧ Below W.heap.size W w') := fun W => no_err hok ▸ rcheck_any c W
  clear hok
  go_enter Tryd.func28, Tryd.ntmps28
  go_wp2_with (first | ((with_reducible show wpList _ _ _ (({ dst := some 2, op := _, type := _, pos := _, after := _, guard := _ } : Oper) :: _) _ _); refine wpList_box_new rfl 23 _ rfl c.cs rfl ?_; intro w1 b1 s1 l1; have z1 : Hid (w1.heap.size = w.heap.size + 1) := s1; clear s1) | ((with_reducible show wpList _ _ _ (({ dst := some 7, op := _, type := _, pos := _, after := _, guard := _ } : Oper) :: _) _ _); refine wpList_load_blk rfl 23 (.tmp 2) rfl _ rfl c.cs _ b1 Tryd.underlying23 rfl (cg_size c) ?_))
  have D2 : Hid (Blk w1 w.heap.size 23 c.cs ∧ True ∧ Below w.heap.size w w1) := ⟨b1, trivial, l1⟩
  clear b1 l1
  refine (HC.out _).mono ?_
  rintro e w3 ⟨rfl, l3⟩
  have D3 : Hid (Blk w3 w.heap.size 23 c.cs ∧ True ∧ Below w.heap.size w w3) := ⟨D2.out.1.later l3 D2.out.1.lt, trivial, below_chain D2.out.2.2 l3 D2.out.2.2.size⟩
  have cm : w3.cell? ⟨w.heap.size, 1, none⟩ = some (.int .i64 c.ms) := by rw [D3.out.1.cell]; rfl
  have cb : w3.cell? ⟨w.heap.size, 2, none⟩ = some (.int .i64 c.bk) := by rw [D3.out.1.cell]; rfl
  clear l3 D2 HC
  go_wp2_with fail
  go_ret3
  exact ⟨rfl, D3.out.2.2⟩
set_option maxRecDepth 20000 in
set_option maxHeartbeats 2000000 in
theorem rparseReply_len (c : Cg) (ao : Option Addr) (n cap : Nat) (hok : c.ok = true) (hne : ¬ (n : Int) = 1 + c.ms) (w : World) : Calls Tryd.prog 28 #[c.v, .slice ao n cap] w fun e w' => e = .returned (.tuple #[.bool false, .slice none 0 0, .int .i64 4]) ∧ Below w.heap.size w w' := by
  have HC : Hid (∀ W, Calls Tryd.prog 11 #[.agg c.cs.toArray] W fun e w' => e = .returned (.int .i64 0) ∧ Below W.heap.size W w') := fun W => ok_err hok ▸ rcheck_any c W
  have hf := ok_fields hok
  have n1 : ((n : Int) != 1 + c.ms) = true := by simpa using hne
  have n2 : wrap64 (1 + c.ms) = 1 + c.ms := by simp [wrap64]; omega
  clear hok hne hf
  go_enter Tryd.func28, Tryd.ntmps28
  go_wp2_with (first | ((with_reducible show wpList _ _ _ (({ dst := some 2, op := _, type := _, pos := _, after := _, guard := _ } : Oper) :: _) _ _); refine wpList_box_new rfl 23 _ rfl c.cs rfl ?_; intro w1 b1 s1 l1; have z1 : Hid (w1.heap.size = w.heap.size + 1) := s1; clear s1) | ((with_reducible show wpList _ _ _ (({ dst := some 7, op := _, type := _, pos := _, after := _, guard := _ } : Oper) :: _) _ _); refine wpList_load_blk rfl 23 (.tmp 2) rfl _ rfl c.cs _ b1 Tryd.underlying23 rfl (cg_size c) ?_))
  have D2 : Hid (Blk w1 w.heap.size 23 c.cs ∧ True ∧ Below w.heap.size w w1) := ⟨b1, trivial, l1⟩
  clear b1 l1
  refine (HC.out _).mono ?_
  rintro e w3 ⟨rfl, l3⟩
  have D3 : Hid (Blk w3 w.heap.size 23 c.cs ∧ True ∧ Below w.heap.size w w3) := ⟨D2.out.1.later l3 D2.out.1.lt, trivial, below_chain D2.out.2.2 l3 D2.out.2.2.size⟩
  have cm : w3.cell? ⟨w.heap.size, 1, none⟩ = some (.int .i64 c.ms) := by rw [D3.out.1.cell]; rfl
  have cb : w3.cell? ⟨w.heap.size, 2, none⟩ = some (.int .i64 c.bk) := by rw [D3.out.1.cell]; rfl
  clear l3 D2 HC
  go_wp2_with fail
  go_ret3
  exact ⟨rfl, D3.out.2.2⟩
set_option maxRecDepth 20000 in
set_option maxHeartbeats 2000000 in
theorem rdialReq_bucket (c : Cg) (b : Int) (ao : Option Addr) (n cap : Nat) (hok : c.ok = true) (hb : inB b 0 (c.bk - 1) = false) (w : World) : Calls Tryd.prog 30 #[c.v, .int .i64 b, .slice ao n cap] w fun e w' => e = .returned (.tuple #[.slice none 0 0, .int .i64 201]) ∧ Below w.heap.size w w' := by
  have HC : Hid (∀ W, Calls Tryd.prog 11 #[.agg c.cs.toArray] W fun e w' => e = .returned (.int .i64 0) ∧ Below W.heap.size W w') := fun W => ok_err hok ▸ rcheck_any c W
  have hf := ok_fields hok
  by_cases h0 : b < 0
  · clear hok hb hf
    go_enter Tryd.func30, Tryd.ntmps30
    go_wp2_with (first | ((with_reducible show wpList _ _ _ (({ dst := some 3, op := _, type := _, pos := _, after := _, guard := _ } : Oper) :: _) _ _); refine wpList_box_new rfl 23 _ rfl c.cs rfl ?_; intro w1 b1 s1 l1; have z1 : Hid (w1.heap.size = w.heap.size + 1) := s1; clear s1) | ((with_reducible show wpList _ _ _ (({ dst := some 8, op := _, type := _, pos := _, after := _, guard := _ } : Oper) :: _) _ _); refine wpList_load_blk rfl 23 (.tmp 3) rfl _ rfl c.cs _ b1 Tryd.underlying23 rfl (cg_size c) ?_))
    have D2 : Hid (Blk w1 w.heap.size 23 c.cs ∧ True ∧ Below w.heap.size w w1) := ⟨b1, trivial, l1⟩
    clear b1 l1
    refine (HC.out _).mono ?_
    rintro e w3 ⟨rfl, l3⟩
    have D3 : Hid (Blk w3 w.heap.size 23 c.cs ∧ True ∧ Below w.heap.size w w3) := ⟨D2.out.1.later l3 D2.out.1.lt, trivial, below_chain D2.out.2.2 l3 D2.out.2.2.size⟩
    have cm : w3.cell? ⟨w.heap.size, 1, none⟩ = some (.int .i64 c.ms) := by rw [D3.out.1.cell]; rfl
    have cb : w3.cell? ⟨w.heap.size, 2, none⟩ = some (.int .i64 c.bk) := by rw [D3.out.1.cell]; rfl
    clear l3 D2 HC
    go_wp2_with fail
    go_ret2
    exact ⟨rfl, D3.out.2.2⟩
  · have h1 : c.bk ≤ b := by simp [inB] at hb; omega
    clear hok hb hf
    go_enter Tryd.func30, Tryd.ntmps30
    go_wp2_with (first | ((with_reducible show wpList _ _ _ (({ dst := some 3, op := _, type := _, pos := _, after := _, guard := _ } : Oper) :: _) _ _); refine wpList_box_new rfl 23 _ rfl c.cs rfl ?_; intro w1 b1 s1 l1; have z1 : Hid (w1.heap.size = w.heap.size + 1) := s1; clear s1) | ((with_reducible show wpList _ _ _ (({ dst := some 8, op := _, type := _, pos := _, after := _, guard := _ } : Oper) :: _) _ _); refine wpList_load_blk rfl 23 (.tmp 3) rfl _ rfl c.cs _ b1 Tryd.underlying23 rfl (cg_size c) ?_))
    have D2 : Hid (Blk w1 w.heap.size 23 c.cs ∧ True ∧ Below w.heap.size w w1) := ⟨b1, trivial, l1⟩
    clear b1 l1
    refine (HC.out _).mono ?_
    rintro e w3 ⟨rfl, l3⟩
    have D3 : Hid (Blk w3 w.heap.size 23 c.cs ∧ True ∧ Below w.heap.size w w3) := ⟨D2.out.1.later l3 D2.out.1.lt, trivial, below_chain D2.out.2.2 l3 D2.out.2.2.size⟩
    have cm : w3.cell? ⟨w.heap.size, 1, none⟩ = some (.int .i64 c.ms) := by rw [D3.out.1.cell]; rfl
    have cb : w3.cell? ⟨w.heap.size, 2, none⟩ = some (.int .i64 c.bk) := by rw [D3.out.1.cell]; rfl
    clear l3 D2 HC
    go_wp2_with fail
    go_ret2
    exact ⟨rfl, D3.out.2.2⟩
set_option maxRecDepth 20000 in
set_option maxHeartbeats 2000000 in
theorem rdialReq_len (c : Cg) (b : Int) (ao : Option Addr) (n cap : Nat) (hok : c.ok = true) (hb : inB b 0 (c.bk - 1) = true) (hne : ¬ (n : Int) = 88) (w : World) : Calls Tryd.prog 30 #[c.v, .int .i64 b, .slice ao n cap] w fun e w' => e = .returned (.tuple #[.slice none 0 0, .int .i64 4]) ∧ Below w.heap.size w w' := by
  have HC : Hid (∀ W, Calls Tryd.prog 11 #[.agg c.cs.toArray] W fun e w' => e = .returned (.int .i64 0) ∧ Below W.heap.size W w') := fun W => ok_err hok ▸ rcheck_any c W
  have hf := ok_fields hok
  have h0 : ¬ b < 0 := by simp [inB] at hb; omega
  have h1 : ¬ c.bk ≤ b := by simp [inB] at hb; omega
  have n1 : ((n : Int) != 88) = true := by simpa using hne
  clear hok hb hf hne
  go_enter Tryd.func30, Tryd.ntmps30
  go_wp2_with (first | ((with_reducible show wpList _ _ _ (({ dst := some 3, op := _, type := _, pos := _, after := _, guard := _ } : Oper) :: _) _ _); refine wpList_box_new rfl 23 _ rfl c.cs rfl ?_; intro w1 b1 s1 l1; have z1 : Hid (w1.heap.size = w.heap.size + 1) := s1; clear s1) | ((with_reducible show wpList _ _ _ (({ dst := some 8, op := _, type := _, pos := _, after := _, guard := _ } : Oper) :: _) _ _); refine wpList_load_blk rfl 23 (.tmp 3) rfl _ rfl c.cs _ b1 Tryd.underlying23 rfl (cg_size c) ?_))
  have D2 : Hid (Blk w1 w.heap.size 23 c.cs ∧ True ∧ Below w.heap.size w w1) := ⟨b1, trivial, l1⟩
  clear b1 l1
  refine (HC.out _).mono ?_
  rintro e w3 ⟨rfl, l3⟩
  have D3 : Hid (Blk w3 w.heap.size 23 c.cs ∧ True ∧ Below w.heap.size w w3) := ⟨D2.out.1.later l3 D2.out.1.lt, trivial, below_chain D2.out.2.2 l3 D2.out.2.2.size⟩
  have cm : w3.cell? ⟨w.heap.size, 1, none⟩ = some (.int .i64 c.ms) := by rw [D3.out.1.cell]; rfl
  have cb : w3.cell? ⟨w.heap.size, 2, none⟩ = some (.int .i64 c.bk) := by rw [D3.out.1.cell]; rfl
  clear l3 D2 HC
  go_wp2_with fail
  go_ret2
  exact ⟨rfl, D3.out.2.2⟩
set_option maxRecDepth 20000 in
set_option maxHeartbeats 2000000 in
theorem rdialReq_ok (c : Cg) (b : Int) (ao : Option Addr) (cap : Nat) (zs : List Int) (hcap : 88 ≤ cap) (hok : c.ok = true) (hb : inB b 0 (c.bk - 1) = true) (w : World) (hx : Seen w ao 88 zs) : Calls Tryd.prog 30 #[c.v, .int .i64 b, .slice ao 88 cap] w (LayR w (leB 4 b ++ zs)) := by
  have HC : Hid (∀ W, Calls Tryd.prog 11 #[.agg c.cs.toArray] W fun e w' => e = .returned (.int .i64 0) ∧ Below W.heap.size W w') := fun W => ok_err hok ▸ rcheck_any c W
  have hf := ok_fields hok
  have h0 : ¬ b < 0 := by simp [inB] at hb; omega
  have h1 : ¬ c.bk ≤ b := by simp [inB] at hb; omega
  have hw : IntKind.u64.wrap b = b := by simp [IntKind.wrap, IntKind.bits, IntKind.signed]; simp [inB] at hb; omega
  have HL : Hid (∀ W, Calls Tryd.prog 50 #[.int .u64 b, .int .i64 4] W fun e w' => ∃ v, e = .returned v ∧ w'.ownsRow W.heap.size 5 1 v 4 ((leB 4 b).map (Value.int .u8)) ∧ Below W.heap.size W w') := fun W => rlit_any b (by simp [inB] at hb; omega) 4 (by decide) W
  have HX : Hid (Seen w ao 88 zs) := hx
  clear hok hb hf hx
  go_enter Tryd.func30, Tryd.ntmps30
  go_wp2_with (first | ((with_reducible show wpList _ _ _ (({ dst := some 3, op := _, type := _, pos := _, after := _, guard := _ } : Oper) :: _) _ _); refine wpList_box_new rfl 23 _ rfl c.cs rfl ?_; intro w1 b1 s1 l1; have z1 : Hid (w1.heap.size = w.heap.size + 1) := s1; clear s1) | ((with_reducible show wpList _ _ _ (({ dst := some 8, op := _, type := _, pos := _, after := _, guard := _ } : Oper) :: _) _ _); refine wpList_load_blk rfl 23 (.tmp 3) rfl _ rfl c.cs _ b1 Tryd.underlying23 rfl (cg_size c) ?_))
  have D2 : Hid (Blk w1 w.heap.size 23 c.cs ∧ True ∧ Below w.heap.size w w1) := ⟨b1, trivial, l1⟩
  clear b1 l1
  refine (HC.out _).mono ?_
  rintro e w3 ⟨rfl, l3⟩
  have D3 : Hid (Blk w3 w.heap.size 23 c.cs ∧ True ∧ Below w.heap.size w w3) := ⟨D2.out.1.later l3 D2.out.1.lt, trivial, below_chain D2.out.2.2 l3 D2.out.2.2.size⟩
  have cm : w3.cell? ⟨w.heap.size, 1, none⟩ = some (.int .i64 c.ms) := by rw [D3.out.1.cell]; rfl
  have cb : w3.cell? ⟨w.heap.size, 2, none⟩ = some (.int .i64 c.bk) := by rw [D3.out.1.cell]; rfl
  clear l3 D2 HC
  go_wp2_with fail
  refine (HL.out _).mono ?_
  rintro e w4 ⟨v, rfl, o4, l4⟩
  obtain ⟨g, c4, rfl, s4, hc4, _⟩ := own_some8L o4 (leB_length 4 b) (leB_bytes 4 b) (by decide) (by decide)
  have D4 : Hid (Seen w4 (some ⟨g, 0, none⟩) 4 (leB 4 b) ∧ 4 ≤ c4 ∧ Seen w4 ao 88 zs ∧ Below w.heap.size w w4) := (by have l := below_chain D3.out.2.2 l4 D3.out.2.2.size; exact ⟨s4, hc4, HX.out.later l (Nat.le_refl _), l⟩)
  clear o4 s4 l4 D3 HL cm cb
  go_wp2_with fail
  refine (two_any _ _ _ _ _ _ _ _ _ D4.out.1 D4.out.2.2.1 D4.out.2.1 hcap (by decide)).mono ?_
  rintro e w5 ⟨v, rfl, o5, l5⟩
  have HO : Hid (w5.ownsRow w.heap.size 5 1 v (leB 4 b ++ zs).length ((leB 4 b ++ zs).map (Value.int .u8)) ∧ Below w.heap.size w w5) := ⟨ownsRow_base o5 D4.out.2.2.2.size, below_chain D4.out.2.2.2 l5 D4.out.2.2.2.size⟩
  clear o5 l5 D4
  go_wp2
  go_ret2
  exact ⟨_, rfl, HO.out⟩
set_option maxRecDepth 20000 in
set_option maxHeartbeats 2000000 in
theorem rtalkRep_yes (c : Cg) (ao : Option Addr) (n cap : Nat) (zs : List Int) (hcap : n ≤ cap) (hok : c.ok = true) (hn : (n : Int) = c.ms) (w : World) (hx : Seen w ao n zs) : Calls Tryd.prog 24 #[c.v, .bool true, .slice ao n cap] w (LayR w ([1] ++ zs)) := by
  have HC : Hid (∀ W, Calls Tryd.prog 11 #[.agg c.cs.toArray] W fun e w' => e = .returned (.int .i64 0) ∧ Below W.heap.size W w') := fun W => ok_err hok ▸ rcheck_any c W
  have n1 : ((n : Int) != c.ms) = false := by simpa using hn
  have hn5 : n ≤ 512 := by have := ok_fields hok; omega
  have HX : Hid (Seen w ao n zs) := hx
  clear hok hn hx
  go_enter Tryd.func24, Tryd.ntmps24
  go_wp2_with (first | ((with_reducible show wpList _ _ _ (({ dst := some 3, op := _, type := _, pos := _, after := _, guard := _ } : Oper) :: _) _ _); refine wpList_box_new rfl 23 _ rfl c.cs rfl ?_; intro w1 b1 s1 l1; have z1 : Hid (w1.heap.size = w.heap.size + 1) := s1; clear s1) | ((with_reducible show wpList _ _ _ (({ dst := some 8, op := _, type := _, pos := _, after := _, guard := _ } : Oper) :: _) _ _); refine wpList_load_blk rfl 23 (.tmp 3) rfl _ rfl c.cs _ b1 Tryd.underlying23 rfl (cg_size c) ?_))
  have D2 : Hid (Blk w1 w.heap.size 23 c.cs ∧ True ∧ Below w.heap.size w w1) := ⟨b1, trivial, l1⟩
  clear b1 l1
  refine (HC.out _).mono ?_
  rintro e w3 ⟨rfl, l3⟩
  have D3 : Hid (Blk w3 w.heap.size 23 c.cs ∧ True ∧ Below w.heap.size w w3) := ⟨D2.out.1.later l3 D2.out.1.lt, trivial, below_chain D2.out.2.2 l3 D2.out.2.2.size⟩
  have cm : w3.cell? ⟨w.heap.size, 1, none⟩ = some (.int .i64 c.ms) := by rw [D3.out.1.cell]; rfl
  have cb : w3.cell? ⟨w.heap.size, 2, none⟩ = some (.int .i64 c.bk) := by rw [D3.out.1.cell]; rfl
  clear l3 D2 HC
  go_wp2_with fail
  have S4 : Hid (Seen (w3.alloc (.cells #[.int .u8 1] 5)) (some ⟨w3.heap.size, 0, none⟩) 1 [1] ∧ Seen (w3.alloc (.cells #[.int .u8 1] 5)) ao n zs ∧ Below w.heap.size w (w3.alloc (.cells #[.int .u8 1] 5))) := by
    have l := below_chain D3.out.2.2 ((Below.refl w3.heap.size w3).alloc (Nat.le_refl _) (.cells #[.int .u8 1] 5)) D3.out.2.2.size
    exact ⟨⟨rfl, by decide, (fun z hz => by simp at hz; omega), fun _ => ⟨w3.heap.size, 0, rfl, by simp, fun i hi => (by
      obtain rfl : i = 0 := by omega
      rw [cell_of_row _ _ _ _ _ _ (heap_alloc_new w3 _)]
      rfl)⟩⟩, HX.out.later l (Nat.le_refl _), l⟩
  refine (two_any _ _ _ _ _ _ _ _ _ S4.out.1 S4.out.2.1 (by decide) hcap (by omega)).mono ?_
  rintro e w5 ⟨v, rfl, o5, l5⟩
  have HO : Hid (w5.ownsRow w.heap.size 5 1 v ([1] ++ zs).length (([1] ++ zs).map (Value.int .u8)) ∧ Below w.heap.size w w5) := ⟨ownsRow_base o5 S4.out.2.2.size, below_chain S4.out.2.2 l5 S4.out.2.2.size⟩
  clear o5 l5 S4
  go_wp2
  go_ret2
  exact ⟨_, rfl, HO.out⟩
set_option maxRecDepth 20000 in
set_option maxHeartbeats 2000000 in
theorem rtalkRep_not (c : Cg) (ao : Option Addr) (n cap : Nat) (hok : c.ok = true) (hn : (n : Int) = c.ms) (w : World) : Calls Tryd.prog 24 #[c.v, .bool false, .slice ao n cap] w (LayR w (List.replicate (1 + n) 0)) := by
  have HC : Hid (∀ W, Calls Tryd.prog 11 #[.agg c.cs.toArray] W fun e w' => e = .returned (.int .i64 0) ∧ Below W.heap.size W w') := fun W => ok_err hok ▸ rcheck_any c W
  have n1 : ((n : Int) != c.ms) = false := by simpa using hn
  have hn5 : n ≤ 512 := by have := ok_fields hok; omega
  obtain ⟨q, hq⟩ : ∃ q, 1 + n = q := ⟨_, rfl⟩
  rw [hq]
  have wq : wrap64 (1 + c.ms) = (q : Int) := by simp [wrap64]; omega
  have hq5 : q ≤ 600 := by omega
  clear hok hn hq
  obtain ⟨i0, hi, hz0, hz1, hz2⟩ := info_parts info_byte
  have HMK : Hid (∀ W : World, (Instr.makeSlice 24 (.int .i64 (q : Int)) (.int .i64 (q : Int))).run Tryd.prog W = .ok (.slice (some ⟨W.heap.size, 0, none⟩) q q) (W.alloc (.cells (u8s (List.replicate q 0)).toArray 5))) := fun W => by
    have hmk := run_make (P := Tryd.prog) W 24 5 i0 (.int .u8 0) Tryd.underlying24 hi hz0 .i64 .i64 (q : Int) (q : Int) (by omega) (Int.le_refl _) (by rw [hz2]; omega) (by omega)
    rw [hz1, show ((q : Int).toNat) = q by omega, Nat.mul_one, show (Value.int .u8 0).cells = #[.int .u8 0] from rfl, made_zero8] at hmk
    exact hmk
  go_enter Tryd.func24, Tryd.ntmps24
  go_wp2_with (first | ((with_reducible show wpList _ _ _ (({ dst := some 3, op := _, type := _, pos := _, after := _, guard := _ } : Oper) :: _) _ _); refine wpList_box_new rfl 23 _ rfl c.cs rfl ?_; intro w1 b1 s1 l1; have z1 : Hid (w1.heap.size = w.heap.size + 1) := s1; clear s1) | ((with_reducible show wpList _ _ _ (({ dst := some 8, op := _, type := _, pos := _, after := _, guard := _ } : Oper) :: _) _ _); refine wpList_load_blk rfl 23 (.tmp 3) rfl _ rfl c.cs _ b1 Tryd.underlying23 rfl (cg_size c) ?_))
  have D2 : Hid (Blk w1 w.heap.size 23 c.cs ∧ True ∧ Below w.heap.size w w1) := ⟨b1, trivial, l1⟩
  clear b1 l1
  refine (HC.out _).mono ?_
  rintro e w3 ⟨rfl, l3⟩
  have D3 : Hid (Blk w3 w.heap.size 23 c.cs ∧ True ∧ Below w.heap.size w w3) := ⟨D2.out.1.later l3 D2.out.1.lt, trivial, below_chain D2.out.2.2 l3 D2.out.2.2.size⟩
  have cm : w3.cell? ⟨w.heap.size, 1, none⟩ = some (.int .i64 c.ms) := by rw [D3.out.1.cell]; rfl
  have cb : w3.cell? ⟨w.heap.size, 2, none⟩ = some (.int .i64 c.bk) := by rw [D3.out.1.cell]; rfl
  clear l3 D2 HC
  have hmk := HMK.out w3
  go_wp2_with fail
  go_ret2
  have l := (Below.refl w3.heap.size w3).alloc (Nat.le_refl _) (.cells (u8s (List.replicate q 0)).toArray 5)
  have o := World.ownsRow_lit (base := w.heap.size) (e := 5) (size := 1) w3 (u8s (List.replicate q 0)).toArray q D3.out.2.2.size (by unfold maxLen; omega) (by simp [u8s])
  exact ⟨_, rfl, by simpa [u8s] using o, below_chain D3.out.2.2 l D3.out.2.2.size⟩
end Go.Proofs.YtmgkjldjeomcmaaDoor
