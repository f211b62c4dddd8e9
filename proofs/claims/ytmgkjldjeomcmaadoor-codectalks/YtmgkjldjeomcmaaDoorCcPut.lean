/- Layer codec: what is laid: PutConfig, TalkRequest, TalkReply, DialRequest, Ack. -/
import Derived.Test.YtmgkjldjeomcmaaDoorCcWrit
import Derived.Test.YtmgkjldjeomcmaaDoorCcTold
import Derived.Test.YtmgkjldjeomcmaaDoorCcRead
import Derived.Lib.SliceRun
namespace Go.Proofs.YtmgkjldjeomcmaaDoor
open Go.RowKit
set_option linter.unusedVariables false
set_option linter.unusedSimpArgs false


theorem seenV_new (w : World) (vl : List Value) : SeenV (w.alloc (.cells vl.toArray 20)) (some ⟨w.heap.size, 0, none⟩) vl.length (fun i => vl.getD i undef) :=
  ⟨fun _ => ⟨w.heap.size, 0, rfl, by simp, fun i hi => by
    rw [Nat.zero_add, cell_of_row _ _ i _ 20 (0, 0) (heap_alloc_new w _)]
    simp [List.getD, hi]⟩⟩
theorem flatP_list (fl : List (List Int)) : flatP (fun i => fl.getD i []) fl.length = fl.flatten := by
  unfold flatP
  congr 1
  apply List.ext_getElem
  · simp
  · intro i h1 h2
    simp [List.getD, h2]
theorem wr_yes (vl : List Value) (fl : List (List Int)) (w W : World) (hb : Below w.heap.size w W) (hlen : vl.length = fl.length) (hn : vl.length ≤ 1000000) (hp : ∀ i, i < vl.length → Piece (vl.getD i undef) (fl.getD i []) w) (hl : fl.flatten.length ≤ 1000000000) :
    Calls Tryd.prog 49 #[.slice (some ⟨W.heap.size, 0, none⟩) vl.length vl.length] (W.alloc (.cells vl.toArray 20)) fun e w' => ∃ vo cv, e = .returned (.tuple #[.slice vo fl.flatten.length cv, .nilIface]) ∧ w'.ownsRow w.heap.size 5 1 (.slice vo fl.flatten.length cv) fl.flatten.length (fl.flatten.map (Value.int .u8)) ∧ Below w.heap.size w w' := by
  have B1 : Below w.heap.size w (W.alloc (.cells vl.toArray 20)) := hb.alloc hb.size _
  refine (written_yes _ vl.length vl.length (fun i => vl.getD i undef) (fun i => fl.getD i []) _ (seenV_new W vl) hn (fun i hi => (hp i hi).later B1) (by rw [hlen, flatP_list]; exact hl)).mono ?_
  rintro e w' ⟨v, rfl, ho, hb2⟩
  rw [hlen, flatP_list] at ho
  obtain ⟨vo, cv, rfl⟩ := own_form ho
  exact ⟨vo, cv, rfl, ownsRow_base ho (by have := hb.size; simp; omega), below_chain B1 hb2 (by have := hb.size; simp; omega)⟩
theorem wr_no (vl : List Value) (fl : List (List Int)) (J : Nat) (hJ : J < vl.length) (er : Value) (w W : World) (hb : Below w.heap.size w W) (hn : vl.length ≤ 1000000) (hp : ∀ i, i < J → Piece (vl.getD i undef) (fl.getD i []) w) (hno : NoP (vl.getD J undef) er w) (hl : (flatP (fun i => fl.getD i []) J).length ≤ 1000000000) :
    Calls Tryd.prog 49 #[.slice (some ⟨W.heap.size, 0, none⟩) vl.length vl.length] (W.alloc (.cells vl.toArray 20)) fun e w' => e = .returned (.tuple #[.slice none 0 0, .iface 110 (.agg #[.int .i64 J, er])]) ∧ Below w.heap.size w w' := by
  have B1 : Below w.heap.size w (W.alloc (.cells vl.toArray 20)) := hb.alloc hb.size _
  obtain ⟨et, ev, rfl, hno⟩ := hno
  refine (written_no _ vl.length vl.length (fun i => vl.getD i undef) (fun i => fl.getD i []) _ (seenV_new W vl) hn J hJ _ (fun i hi => (hp i hi).later B1) ⟨et, ev, rfl, fun W' hW' => hno W' (below_chain B1 hW' (by have := hb.size; simp; omega))⟩ hl).mono ?_
  rintro e w' ⟨rfl, hb2⟩
  exact ⟨rfl, below_chain B1 hb2 (by have := hb.size; simp; omega)⟩

/-- A call that lays these bytes; one that is refused. -/
def PutR (w : World) (zs : List Int) (e : Ending) (w' : World) : Prop := ∃ vo cv, e = .returned (.tuple #[.slice vo zs.length cv, .int .i64 0]) ∧ w'.ownsRow w.heap.size 5 1 (.slice vo zs.length cv) zs.length (zs.map (Value.int .u8)) ∧ Below w.heap.size w w'
def BadR (w : World) (x : Int) (e : Ending) (w' : World) : Prop := e = .returned (.tuple #[.slice none 0 0, .int .i64 x]) ∧ Below w.heap.size w w'
theorem ok_fields {c : Cg} (h : c.ok = true) : (1 ≤ c.bt ∧ c.bt ≤ 256) ∧ (32 ≤ c.ms ∧ c.ms ≤ 512) ∧ (2 ≤ c.bk ∧ c.bk ≤ 64) ∧ (c.least ≤ c.tx ∧ c.tx ≤ 4096) ∧ (2 ≤ c.wi ∧ c.wi ≤ 16) ∧ (1 ≤ c.wk ∧ c.wk ≤ 16) := by
  unfold Cg.ok at h
  simpa [inB, and_assoc] using h
theorem ok_err {c : Cg} (h : c.ok = true) : c.err = 0 := by simp [Cg.err, h]
theorem no_err {c : Cg} (h : c.ok = false) : c.err = 200 := by simp [Cg.err, h]
/-- The bytes of a config. -/
def cfgB (c : Cg) : List Int := leB 4 c.bt ++ (leB 4 c.ms ++ (leB 4 c.bk ++ (leB 4 c.tx ++ (leB 4 c.wi ++ leB 4 c.wk))))
theorem cfgB_length (c : Cg) : (cfgB c).length = 24 := by simp [cfgB, leB_length]
set_option maxRecDepth 20000 in
set_option maxHeartbeats 1000000 in
theorem putConfig_bad (c : Cg)  (hok : c.ok = false) (w : World) : Calls Tryd.prog 8 #[c.v] w (BadR w 200) := by
  have HC : Hid (∀ W, Calls Tryd.prog 10 #[c.v] W fun e w' => e = .returned (.int .i64 200) ∧ Below W.heap.size W w') := fun W => no_err hok ▸ check_any c W
  clear hok
  go_enter Tryd.func8, Tryd.ntmps8
  go_wp2_with (first | ((with_reducible show wpList _ _ _ (({ dst := some 1, op := _, type := _, pos := _, after := _, guard := _ } : Oper) :: _) _ _); refine wpList_box_new rfl 23 _ rfl c.cs rfl ?_; intro w1 b1 s1 l1; have z1 : Hid (w1.heap.size = w.heap.size + 1) := s1; clear s1) | ((with_reducible show wpList _ _ _ (({ dst := some 5, op := _, type := _, pos := _, after := _, guard := _ } : Oper) :: _) _ _); refine wpList_load_blk rfl 23 (.tmp 1) rfl _ rfl c.cs _ (b1) Tryd.underlying23 rfl (cg_size c) ?_))
  refine (HC.out _).mono ?_
  rintro e w3 ⟨rfl, l3⟩
  have HL : Hid (Below w.heap.size w w3) := below_chain l1 l3 (by have := z1.out; omega)
  clear l1 l3 b1
  go_wp2
  go_ret2
  exact ⟨rfl, HL.out⟩
set_option maxRecDepth 20000 in
set_option maxHeartbeats 2000000 in
theorem putConfig_ok (c : Cg)  (hok : c.ok = true) (w : World)  : Calls Tryd.prog 8 #[c.v] w (PutR w (leB 4 c.bt ++ (leB 4 c.ms ++ (leB 4 c.bk ++ (leB 4 c.tx ++ (leB 4 c.wi ++ leB 4 c.wk)))))) := by
  have hf := ok_fields hok
  have hle : 114 ≤ c.least := by unfold Cg.least; omega
  have HC : Hid (∀ W, Calls Tryd.prog 10 #[c.v] W fun e w' => e = .returned (.int .i64 0) ∧ Below W.heap.size W w') := fun W => ok_err hok ▸ check_any c W
  have HW : Hid (∀ W, Below w.heap.size w W → Calls Tryd.prog 49 #[.slice (some ⟨W.heap.size, 0, none⟩) 6 6] (W.alloc (.cells #[.iface 3 (.int .i64 c.bt), .iface 3 (.int .i64 c.ms), .iface 3 (.int .i64 c.bk), .iface 3 (.int .i64 c.tx), .iface 3 (.int .i64 c.wi), .iface 3 (.int .i64 c.wk)] 20)) fun e w' => ∃ vo cv, e = .returned (.tuple #[.slice vo ([leB 4 c.bt, leB 4 c.ms, leB 4 c.bk, leB 4 c.tx, leB 4 c.wi, leB 4 c.wk] : List (List Int)).flatten.length cv, .nilIface]) ∧ w'.ownsRow w.heap.size 5 1 (.slice vo ([leB 4 c.bt, leB 4 c.ms, leB 4 c.bk, leB 4 c.tx, leB 4 c.wi, leB 4 c.wk] : List (List Int)).flatten.length cv) ([leB 4 c.bt, leB 4 c.ms, leB 4 c.bk, leB 4 c.tx, leB 4 c.wi, leB 4 c.wk] : List (List Int)).flatten.length (([leB 4 c.bt, leB 4 c.ms, leB 4 c.bk, leB 4 c.tx, leB 4 c.wi, leB 4 c.wk] : List (List Int)).flatten.map (Value.int .u8)) ∧ Below w.heap.size w w') := fun W hW => wr_yes [.iface 3 (.int .i64 c.bt), .iface 3 (.int .i64 c.ms), .iface 3 (.int .i64 c.bk), .iface 3 (.int .i64 c.tx), .iface 3 (.int .i64 c.wi), .iface 3 (.int .i64 c.wk)] [leB 4 c.bt, leB 4 c.ms, leB 4 c.bk, leB 4 c.tx, leB 4 c.wi, leB 4 c.wk] w W hW rfl (by simp) (fun i hi => by rcases i with _ | _ | _ | _ | _ | _ | i <;> first | exact piece_int _ (by omega) w | (simp at hi; omega)) (by simp [leB_length])
  have HFL : Hid (([leB 4 c.bt, leB 4 c.ms, leB 4 c.bk, leB 4 c.tx, leB 4 c.wi, leB 4 c.wk] : List (List Int)).flatten.length = (leB 4 c.bt ++ (leB 4 c.ms ++ (leB 4 c.bk ++ (leB 4 c.tx ++ (leB 4 c.wi ++ leB 4 c.wk)))) : List Int).length ∧ ([leB 4 c.bt, leB 4 c.ms, leB 4 c.bk, leB 4 c.tx, leB 4 c.wi, leB 4 c.wk] : List (List Int)).flatten.map (Value.int .u8) = (leB 4 c.bt ++ (leB 4 c.ms ++ (leB 4 c.bk ++ (leB 4 c.tx ++ (leB 4 c.wi ++ leB 4 c.wk)))) : List Int).map (Value.int .u8)) := by
    have : ([leB 4 c.bt, leB 4 c.ms, leB 4 c.bk, leB 4 c.tx, leB 4 c.wi, leB 4 c.wk] : List (List Int)).flatten = leB 4 c.bt ++ (leB 4 c.ms ++ (leB 4 c.bk ++ (leB 4 c.tx ++ (leB 4 c.wi ++ leB 4 c.wk)))) := by simp
    exact ⟨by rw [this], by rw [this]⟩
  unfold PutR
  rw [HFL.out.1, HFL.out.2] at HW
  obtain ⟨L, hL⟩ : ∃ L, (leB 4 c.bt ++ (leB 4 c.ms ++ (leB 4 c.bk ++ (leB 4 c.tx ++ (leB 4 c.wi ++ leB 4 c.wk)))) : List Int).length = L := ⟨_, rfl⟩
  obtain ⟨M, hM⟩ : ∃ M, (leB 4 c.bt ++ (leB 4 c.ms ++ (leB 4 c.bk ++ (leB 4 c.tx ++ (leB 4 c.wi ++ leB 4 c.wk)))) : List Int).map (Value.int .u8) = M := ⟨_, rfl⟩
  rw [hL, hM] at HW ⊢
  clear hL hM HFL
  clear hok
  go_enter Tryd.func8, Tryd.ntmps8
  go_wp2_with (first | ((with_reducible show wpList _ _ _ (({ dst := some 1, op := _, type := _, pos := _, after := _, guard := _ } : Oper) :: _) _ _); refine wpList_box_new rfl 23 _ rfl c.cs rfl ?_; intro w1 b1 s1 l1; have z1 : Hid (w1.heap.size = w.heap.size + 1) := s1; clear s1) | ((with_reducible show wpList _ _ _ (({ dst := some 5, op := _, type := _, pos := _, after := _, guard := _ } : Oper) :: _) _ _); refine wpList_load_blk rfl 23 (.tmp 1) rfl _ rfl c.cs _ (b1) Tryd.underlying23 rfl (cg_size c) ?_))
  refine (HC.out _).mono ?_
  rintro e w3 ⟨rfl, l3⟩
  have bc : Blk w3 w.heap.size 23 c.cs := (b1.later l3 (by have := z1.out; omega))
  have c0 : w3.cell? ⟨w.heap.size, 0, none⟩ = some (.int .i64 c.bt) := by rw [bc.cell]; rfl
  have c1 : w3.cell? ⟨w.heap.size, 1, none⟩ = some (.int .i64 c.ms) := by rw [bc.cell]; rfl
  have c2 : w3.cell? ⟨w.heap.size, 2, none⟩ = some (.int .i64 c.bk) := by rw [bc.cell]; rfl
  have c3 : w3.cell? ⟨w.heap.size, 3, none⟩ = some (.int .i64 c.tx) := by rw [bc.cell]; rfl
  have c4 : w3.cell? ⟨w.heap.size, 4, none⟩ = some (.int .i64 c.wi) := by rw [bc.cell]; rfl
  have c5 : w3.cell? ⟨w.heap.size, 5, none⟩ = some (.int .i64 c.wk) := by rw [bc.cell]; rfl
  have HL : Hid (Below w.heap.size w w3) := below_chain l1 l3 (by have := z1.out; omega)
  clear l1 l3 b1 hf hle
  go_wp2_with (first | (go_at_call 49; refine (HW.out w3 HL.out).mono ?_; rintro e w4 ⟨vo, cv, rfl, ho, hb4⟩; have HO : Hid (w4.ownsRow w.heap.size 5 1 (.slice vo L cv) L M ∧ Below w.heap.size w w4) := ⟨ho, hb4⟩; clear ho hb4) | (go_at_call 48; refine (told_nil _ _ _ _).mono ?_; rintro e w5 ⟨rfl, l5⟩; have HF : Hid (w5.ownsRow w.heap.size 5 1 (.slice vo L cv) L M ∧ Below w.heap.size w w5) := ⟨own_block HO.out.1 (fun j hj => l5.block j (HO.out.1.lt j hj).2), below_chain HO.out.2 l5 HO.out.2.size⟩; clear l5))
  go_ret2
  exact ⟨vo, cv, rfl, HF.out⟩
set_option maxRecDepth 20000 in
set_option maxHeartbeats 1000000 in
theorem talkRequest_bad (c : Cg) (d : List Int) (ao : Option Addr) (n cap : Nat) (hok : c.ok = false) (w : World) : Calls Tryd.prog 20 #[c.v, .agg (u8s d).toArray, .slice ao n cap] w (BadR w 200) := by
  have HC : Hid (∀ W, Calls Tryd.prog 10 #[c.v] W fun e w' => e = .returned (.int .i64 200) ∧ Below W.heap.size W w') := fun W => no_err hok ▸ check_any c W
  clear hok
  go_enter Tryd.func20, Tryd.ntmps20
  go_wp2_with (first | ((with_reducible show wpList _ _ _ (({ dst := some 3, op := _, type := _, pos := _, after := _, guard := _ } : Oper) :: _) _ _); refine wpList_box_new rfl 23 _ rfl c.cs rfl ?_; intro w1 b1 s1 l1; have z1 : Hid (w1.heap.size = w.heap.size + 1) := s1; clear s1) | ((with_reducible show wpList _ _ _ (({ dst := some 4, op := _, type := _, pos := _, after := _, guard := _ } : Oper) :: _) _ _); refine wpList_box_new rfl 35 _ rfl (u8s d) rfl ?_; intro w2 b2 s2 l2; have z2 : Hid (w2.heap.size = w1.heap.size + 1) := s2; clear s2) | ((with_reducible show wpList _ _ _ (({ dst := some 9, op := _, type := _, pos := _, after := _, guard := _ } : Oper) :: _) _ _); refine wpList_load_blk rfl 23 (.tmp 3) rfl _ rfl c.cs _ (b1.later l2 (by have := z1.out; omega)) Tryd.underlying23 rfl (cg_size c) ?_))
  refine (HC.out _).mono ?_
  rintro e w3 ⟨rfl, l3⟩
  have HL : Hid (Below w.heap.size w w3) := below_chain (below_chain l1 l2 (by have := z1.out; omega)) l3 (by have := z1.out; have := z2.out; omega)
  clear l1 l3 b1 l2 b2
  go_wp2
  go_ret2
  exact ⟨rfl, HL.out⟩
set_option maxRecDepth 20000 in
set_option maxHeartbeats 2000000 in
theorem talkRequest_ok (c : Cg) (d : List Int) (hd : d.length = 16) (hdb : Bytes d) (ao : Option Addr) (n cap : Nat) (zs : List Int) (hn : (n : Int) = c.ms) (hok : c.ok = true) (w : World) (hx : Seen w ao n zs) (hcap : ao = none → cap = 0) : Calls Tryd.prog 20 #[c.v, .agg (u8s d).toArray, .slice ao n cap] w (PutR w (d ++ zs)) := by
  have hf := ok_fields hok
  have hle : 114 ≤ c.least := by unfold Cg.least; omega
  have HC : Hid (∀ W, Calls Tryd.prog 10 #[c.v] W fun e w' => e = .returned (.int .i64 0) ∧ Below W.heap.size W w') := fun W => ok_err hok ▸ check_any c W
  have HD : Hid (d.length = 16) := hd
  have HW : Hid (∀ W, Below w.heap.size w W → Calls Tryd.prog 49 #[.slice (some ⟨W.heap.size, 0, none⟩) 2 2] (W.alloc (.cells #[.iface 35 (.agg (u8s d).toArray), .iface 87 (.agg #[.slice ao n cap, .int .i64 c.ms])] 20)) fun e w' => ∃ vo cv, e = .returned (.tuple #[.slice vo ([d, zs] : List (List Int)).flatten.length cv, .nilIface]) ∧ w'.ownsRow w.heap.size 5 1 (.slice vo ([d, zs] : List (List Int)).flatten.length cv) ([d, zs] : List (List Int)).flatten.length (([d, zs] : List (List Int)).flatten.map (Value.int .u8)) ∧ Below w.heap.size w w') := fun W hW => wr_yes [.iface 35 (.agg (u8s d).toArray), .iface 87 (.agg #[.slice ao n cap, .int .i64 c.ms])] [d, zs] w W hW rfl (by simp) (fun i hi => by rcases i with _ | _ | i <;> first | exact piece_drop d hd hdb w | exact (hn ▸ piece_row ao n cap zs w hx hcap) | (simp at hi; omega)) (by have := hx.len; simp [hd, this]; omega)
  have HFL : Hid (([d, zs] : List (List Int)).flatten.length = (d ++ zs : List Int).length ∧ ([d, zs] : List (List Int)).flatten.map (Value.int .u8) = (d ++ zs : List Int).map (Value.int .u8)) := by
    have : ([d, zs] : List (List Int)).flatten = d ++ zs := by simp
    exact ⟨by rw [this], by rw [this]⟩
  unfold PutR
  rw [HFL.out.1, HFL.out.2] at HW
  obtain ⟨L, hL⟩ : ∃ L, (d ++ zs : List Int).length = L := ⟨_, rfl⟩
  obtain ⟨M, hM⟩ : ∃ M, (d ++ zs : List Int).map (Value.int .u8) = M := ⟨_, rfl⟩
  rw [hL, hM] at HW ⊢
  clear hL hM HFL
  clear hok
  go_enter Tryd.func20, Tryd.ntmps20
  go_wp2_with (first | ((with_reducible show wpList _ _ _ (({ dst := some 3, op := _, type := _, pos := _, after := _, guard := _ } : Oper) :: _) _ _); refine wpList_box_new rfl 23 _ rfl c.cs rfl ?_; intro w1 b1 s1 l1; have z1 : Hid (w1.heap.size = w.heap.size + 1) := s1; clear s1) | ((with_reducible show wpList _ _ _ (({ dst := some 4, op := _, type := _, pos := _, after := _, guard := _ } : Oper) :: _) _ _); refine wpList_box_new rfl 35 _ rfl (u8s d) rfl ?_; intro w2 b2 s2 l2; have z2 : Hid (w2.heap.size = w1.heap.size + 1) := s2; clear s2) | ((with_reducible show wpList _ _ _ (({ dst := some 9, op := _, type := _, pos := _, after := _, guard := _ } : Oper) :: _) _ _); refine wpList_load_blk rfl 23 (.tmp 3) rfl _ rfl c.cs _ (b1.later l2 (by have := z1.out; omega)) Tryd.underlying23 rfl (cg_size c) ?_))
  refine (HC.out _).mono ?_
  rintro e w3 ⟨rfl, l3⟩
  have bc : Blk w3 w.heap.size 23 c.cs := ((b1.later l2 (by have := z1.out; omega)).later l3 (by have := z1.out; have := z2.out; omega))
  have bd : Blk w3 w1.heap.size 35 (u8s d) := b2.later l3 (by have := z2.out; omega)
  have c1 : w3.cell? ⟨w.heap.size, 1, none⟩ = some (.int .i64 c.ms) := by rw [bc.cell]; rfl
  have HL : Hid (Below w.heap.size w w3) := below_chain (below_chain l1 l2 (by have := z1.out; omega)) l3 (by have := z1.out; have := z2.out; omega)
  clear l1 l3 b1 l2 b2 hf hle
  go_wp2_with (first | ((with_reducible show wpList _ _ _ (({ dst := some 14, op := _, type := _, pos := _, after := _, guard := _ } : Oper) :: _) _ _); refine wpList_load_blk rfl 35 (.tmp 4) rfl _ rfl (u8s d) _ (bd) Tryd.underlying35 rfl (by rw [u8s_length, HD.out]; exact size_Drop) ?_) | (go_at_call 49; refine (HW.out w3 HL.out).mono ?_; rintro e w4 ⟨vo, cv, rfl, ho, hb4⟩; have HO : Hid (w4.ownsRow w.heap.size 5 1 (.slice vo L cv) L M ∧ Below w.heap.size w w4) := ⟨ho, hb4⟩; clear ho hb4) | (go_at_call 48; refine (told_nil _ _ _ _).mono ?_; rintro e w5 ⟨rfl, l5⟩; have HF : Hid (w5.ownsRow w.heap.size 5 1 (.slice vo L cv) L M ∧ Below w.heap.size w w5) := ⟨own_block HO.out.1 (fun j hj => l5.block j (HO.out.1.lt j hj).2), below_chain HO.out.2 l5 HO.out.2.size⟩; clear l5))
  go_ret2
  exact ⟨vo, cv, rfl, HF.out⟩
set_option maxRecDepth 20000 in
set_option maxHeartbeats 2000000 in
theorem talkRequest_len (c : Cg) (d : List Int) (hd : d.length = 16) (hdb : Bytes d) (ao : Option Addr) (n cap : Nat) (hn : ¬ (n : Int) = c.ms) (hok : c.ok = true) (w : World)  (hg : HdlAt w) : Calls Tryd.prog 20 #[c.v, .agg (u8s d).toArray, .slice ao n cap] w (BadR w 4) := by
  have hf := ok_fields hok
  have hle : 114 ≤ c.least := by unfold Cg.least; omega
  have HC : Hid (∀ W, Calls Tryd.prog 10 #[c.v] W fun e w' => e = .returned (.int .i64 0) ∧ Below W.heap.size W w') := fun W => ok_err hok ▸ check_any c W
  have HD : Hid (d.length = 16) := hd
  have HW : Hid (∀ W, Below w.heap.size w W → Calls Tryd.prog 49 #[.slice (some ⟨W.heap.size, 0, none⟩) 2 2] (W.alloc (.cells #[.iface 35 (.agg (u8s d).toArray), .iface 87 (.agg #[.slice ao n cap, .int .i64 c.ms])] 20)) fun e w' => e = .returned (.tuple #[.slice none 0 0, .iface 110 (mis1 1 4)]) ∧ Below w.heap.size w w') := fun W hW => wr_no [.iface 35 (.agg (u8s d).toArray), .iface 87 (.agg #[.slice ao n cap, .int .i64 c.ms])] [d] 1 (by simp) _ w W hW (by simp) (fun i hi => by have h0 : i = 0 := (by omega); subst h0; exact piece_drop d hd hdb w) (nopiece_row ao n cap c.ms hn w).nop (by simp [flatP, hd])
  have HG : Hid (HdlAt w) := hg
  unfold BadR
  clear hok
  go_enter Tryd.func20, Tryd.ntmps20
  go_wp2_with (first | ((with_reducible show wpList _ _ _ (({ dst := some 3, op := _, type := _, pos := _, after := _, guard := _ } : Oper) :: _) _ _); refine wpList_box_new rfl 23 _ rfl c.cs rfl ?_; intro w1 b1 s1 l1; have z1 : Hid (w1.heap.size = w.heap.size + 1) := s1; clear s1) | ((with_reducible show wpList _ _ _ (({ dst := some 4, op := _, type := _, pos := _, after := _, guard := _ } : Oper) :: _) _ _); refine wpList_box_new rfl 35 _ rfl (u8s d) rfl ?_; intro w2 b2 s2 l2; have z2 : Hid (w2.heap.size = w1.heap.size + 1) := s2; clear s2) | ((with_reducible show wpList _ _ _ (({ dst := some 9, op := _, type := _, pos := _, after := _, guard := _ } : Oper) :: _) _ _); refine wpList_load_blk rfl 23 (.tmp 3) rfl _ rfl c.cs _ (b1.later l2 (by have := z1.out; omega)) Tryd.underlying23 rfl (cg_size c) ?_))
  refine (HC.out _).mono ?_
  rintro e w3 ⟨rfl, l3⟩
  have bc : Blk w3 w.heap.size 23 c.cs := ((b1.later l2 (by have := z1.out; omega)).later l3 (by have := z1.out; have := z2.out; omega))
  have bd : Blk w3 w1.heap.size 35 (u8s d) := b2.later l3 (by have := z2.out; omega)
  have c1 : w3.cell? ⟨w.heap.size, 1, none⟩ = some (.int .i64 c.ms) := by rw [bc.cell]; rfl
  have HL : Hid (Below w.heap.size w w3) := below_chain (below_chain l1 l2 (by have := z1.out; omega)) l3 (by have := z1.out; have := z2.out; omega)
  clear l1 l3 b1 l2 b2 hf hle
  go_wp2_with (first | ((with_reducible show wpList _ _ _ (({ dst := some 14, op := _, type := _, pos := _, after := _, guard := _ } : Oper) :: _) _ _); refine wpList_load_blk rfl 35 (.tmp 4) rfl _ rfl (u8s d) _ (bd) Tryd.underlying35 rfl (by rw [u8s_length, HD.out]; exact size_Drop) ?_) | (go_at_call 49; refine (HW.out w3 HL.out).mono ?_; rintro e w4 ⟨rfl, hb4⟩; have HO : Hid (Below w.heap.size w w4) := hb4; have HT := told_bad none 0 0 (mis1 1 4) 4 (found_one _ _) w4 (HG.out.later hb4 (Nat.le_refl _)); clear hb4) | (go_at_call 48; refine HT.mono ?_; rintro e w5 ⟨rfl, l5⟩; have HF : Hid (Below w.heap.size w w5) := below_chain HO.out l5 HO.out.size; clear l5))
  go_ret2
  exact ⟨rfl, HF.out⟩
theorem infoByte8 : (Tryd.prog.info? 5).map (fun i => (i.zero, i.size)) = some (some (.int .u8 0), 1) := by kernel_rfl
theorem own_clear {base n : Nat} {zs : List Int} {vo : Option Addr} {cv : Nat} {W : World} (h : W.ownsRow base 5 1 (.slice vo n cv) n (zs.map (Value.int .u8))) : ∃ W', (∀ ty, (Builtin.clear_ #[24] ty #[.slice vo n cv]).run Tryd.prog W = .ok (.tuple #[]) W') ∧ W'.ownsRow base 5 1 (.slice vo n cv) n ((List.replicate n 0).map (Value.int .u8)) ∧ Kept (fun k => base ≤ k) W W' := by
  have hl : zs.length = n := by have := h.1; simpa using this
  rcases Nat.eq_zero_or_pos n with rfl | h0
  · have hz : zs = [] := List.length_eq_zero_iff.1 hl
    subst hz
    refine ⟨W, fun ty => ?_, h, Kept.refl _ _⟩
    cases vo <;> simp [Builtin.clear_, run_underlying Tryd.underlying24]
  · rcases h.2 with ⟨h1, _⟩ | ⟨g, cap, cur, e, hb, hh, hc, hm, hs, ht⟩
    · cases h1; omega
    · cases e
      rw [Nat.mul_one] at ht
      have hsz : n ≤ cur.toList.length := by
        have : (cur.toList.take n).length = n := by rw [ht]; simp [hl]
        rw [List.length_take] at this
        omega
      have hB : Blk W g 5 ([] ++ (cur.toList.take n ++ cur.toList.drop n)) := by
        unfold Blk
        rw [hh, List.nil_append, List.take_append_drop]
      have hrun := fun ty => Lib.run_clear_slice (P := Tryd.prog) W 24 5 ty (.int .u8 0) Tryd.underlying24 (zero_of_info infoByte8).1 rfl rfl g 0 n cv h0 (fun j hj => by
        rw [Nat.zero_add, hB.cell]
        simp only [List.nil_append, List.take_append_drop, Option.isSome_iff_exists]
        exact ⟨_, List.getElem?_eq_getElem (by omega)⟩) (fun j hj => hB.frozen _)
      have hS := Blk.setCells (List.replicate n (Value.int .u8 0)) (cur.toList.take n) (by simp; omega) hB
      refine ⟨_, hrun, ⟨by simp, .inr ⟨g, cv, _, rfl, hb, hS, hc, hm, ?_, ?_⟩⟩, (Kept.refl _ _).setCells (S := fun k => base ≤ k) hb _ _⟩
      · rw [← Array.length_toList] at hs
        show ([] ++ (List.replicate n (Value.int .u8 0) ++ cur.toList.drop n)).toArray.size = _
        rw [List.size_toArray, List.nil_append, List.length_append, List.length_replicate, List.length_drop]
        omega
      · show List.take (n * 1) ([] ++ (List.replicate n (Value.int .u8 0) ++ cur.toList.drop n)) = _
        rw [Nat.mul_one, List.nil_append, List.take_append_of_le_length (by rw [List.length_replicate]; exact Nat.le_refl _), List.take_of_length_le (by rw [List.length_replicate]; exact Nat.le_refl _), List.map_replicate]
theorem clear_nil (ty : TypeId) (W : World) : (Builtin.clear_ #[24] ty #[.slice none 0 0]).run Tryd.prog W = .ok (.tuple #[]) W := by simp [Builtin.clear_, run_underlying Tryd.underlying24]
theorem wpList_clear_run {ops : Array Oper} {rest : List Oper} {o : Oper} {a : Act} {Q : Exit → Act → World → Prop} {w : World} (hgd : o.guard = none) (s : Operand) (t ty : TypeId) (ho : o.op = .call { callee := .builtin .clear, args := #[s], argTypes := #[t] }) (hty : o.type = ty)
    (va : Value) (hs : a.eval s = va) (v' : Value) (w' : World) (hr : (Builtin.clear_ #[t] ty #[va]).run Tryd.prog w = .ok v' w') (h : wpList Tryd.prog ops Q rest (a.put o.dst v') w') : wpList Tryd.prog ops Q (o :: rest) a w := by
  refine wpList_plain hgd fun K hK => ?_
  subst hty
  unfold Oper.wp execOp
  simp only [ho, resolve, invoke, builtin, Sem.run_bind, Sem.run_pure, Result.andThen_ok, List.map_toArray, List.map_cons, List.map_nil, hs, hr]
  exact hK _ _ h
set_option maxRecDepth 20000 in
set_option maxHeartbeats 1000000 in
theorem talkReply_bad (c : Cg) (b : Bool) (ao : Option Addr) (n cap : Nat) (hok : c.ok = false) (w : World) : Calls Tryd.prog 23 #[c.v, .bool b, .slice ao n cap] w (BadR w 200) := by
  have HC : Hid (∀ W, Calls Tryd.prog 10 #[c.v] W fun e w' => e = .returned (.int .i64 200) ∧ Below W.heap.size W w') := fun W => no_err hok ▸ check_any c W
  clear hok
  go_enter Tryd.func23, Tryd.ntmps23
  go_wp2_with (first | ((with_reducible show wpList _ _ _ (({ dst := some 3, op := _, type := _, pos := _, after := _, guard := _ } : Oper) :: _) _ _); refine wpList_box_new rfl 23 _ rfl c.cs rfl ?_; intro w1 b1 s1 l1; have z1 : Hid (w1.heap.size = w.heap.size + 1) := s1; clear s1) | ((with_reducible show wpList _ _ _ (({ dst := some 11, op := _, type := _, pos := _, after := _, guard := _ } : Oper) :: _) _ _); refine wpList_load_blk rfl 23 (.tmp 3) rfl _ rfl c.cs _ (b1) Tryd.underlying23 rfl (cg_size c) ?_))
  refine (HC.out _).mono ?_
  rintro e w3 ⟨rfl, l3⟩
  have HL : Hid (Below w.heap.size w w3) := below_chain l1 l3 (by have := z1.out; omega)
  clear l1 l3 b1
  go_wp2
  go_ret2
  exact ⟨rfl, HL.out⟩
set_option maxRecDepth 20000 in
set_option maxHeartbeats 2000000 in
theorem talkReply_yes (c : Cg) (ao : Option Addr) (n cap : Nat) (zs : List Int) (hn : (n : Int) = c.ms) (hok : c.ok = true) (w : World) (hx : Seen w ao n zs) (hcap : ao = none → cap = 0) : Calls Tryd.prog 23 #[c.v, .bool true, .slice ao n cap] w (PutR w ([1] ++ zs)) := by
  have hf := ok_fields hok
  have hle : 114 ≤ c.least := by unfold Cg.least; omega
  have HC : Hid (∀ W, Calls Tryd.prog 10 #[c.v] W fun e w' => e = .returned (.int .i64 0) ∧ Below W.heap.size W w') := fun W => ok_err hok ▸ check_any c W
  have HW : Hid (∀ W, Below w.heap.size w W → Calls Tryd.prog 49 #[.slice (some ⟨W.heap.size, 0, none⟩) 2 2] (W.alloc (.cells #[.iface 4 (.bool true), .iface 87 (.agg #[.slice ao n cap, .int .i64 c.ms])] 20)) fun e w' => ∃ vo cv, e = .returned (.tuple #[.slice vo ([[1], zs] : List (List Int)).flatten.length cv, .nilIface]) ∧ w'.ownsRow w.heap.size 5 1 (.slice vo ([[1], zs] : List (List Int)).flatten.length cv) ([[1], zs] : List (List Int)).flatten.length (([[1], zs] : List (List Int)).flatten.map (Value.int .u8)) ∧ Below w.heap.size w w') := fun W hW => wr_yes [.iface 4 (.bool true), .iface 87 (.agg #[.slice ao n cap, .int .i64 c.ms])] [[1], zs] w W hW rfl (by simp) (fun i hi => by rcases i with _ | _ | i <;> first | exact piece_bool true w | exact (hn ▸ piece_row ao n cap zs w hx hcap) | (simp at hi; omega)) (by have := hx.len; simp [this]; omega)
  have HFL : Hid (([[1], zs] : List (List Int)).flatten.length = ([1] ++ zs : List Int).length ∧ ([[1], zs] : List (List Int)).flatten.map (Value.int .u8) = ([1] ++ zs : List Int).map (Value.int .u8)) := by
    have : ([[1], zs] : List (List Int)).flatten = [1] ++ zs := by simp
    exact ⟨by rw [this], by rw [this]⟩
  unfold PutR
  rw [HFL.out.1, HFL.out.2] at HW
  obtain ⟨L, hL⟩ : ∃ L, ([1] ++ zs : List Int).length = L := ⟨_, rfl⟩
  obtain ⟨M, hM⟩ : ∃ M, ([1] ++ zs : List Int).map (Value.int .u8) = M := ⟨_, rfl⟩
  rw [hL, hM] at HW ⊢
  clear hL hM HFL
  clear hok
  go_enter Tryd.func23, Tryd.ntmps23
  go_wp2_with (first | ((with_reducible show wpList _ _ _ (({ dst := some 3, op := _, type := _, pos := _, after := _, guard := _ } : Oper) :: _) _ _); refine wpList_box_new rfl 23 _ rfl c.cs rfl ?_; intro w1 b1 s1 l1; have z1 : Hid (w1.heap.size = w.heap.size + 1) := s1; clear s1) | ((with_reducible show wpList _ _ _ (({ dst := some 11, op := _, type := _, pos := _, after := _, guard := _ } : Oper) :: _) _ _); refine wpList_load_blk rfl 23 (.tmp 3) rfl _ rfl c.cs _ (b1) Tryd.underlying23 rfl (cg_size c) ?_))
  refine (HC.out _).mono ?_
  rintro e w3 ⟨rfl, l3⟩
  have bc : Blk w3 w.heap.size 23 c.cs := (b1.later l3 (by have := z1.out; omega))
  have c1 : w3.cell? ⟨w.heap.size, 1, none⟩ = some (.int .i64 c.ms) := by rw [bc.cell]; rfl
  have HL : Hid (Below w.heap.size w w3) := below_chain l1 l3 (by have := z1.out; omega)
  clear l1 l3 b1 hf hle
  go_wp2_with (first | (go_at_call 49; refine (HW.out w3 HL.out).mono ?_; rintro e w4 ⟨vo, cv, rfl, ho, hb4⟩; have HO : Hid (w4.ownsRow w.heap.size 5 1 (.slice vo L cv) L M ∧ Below w.heap.size w w4) := ⟨ho, hb4⟩; clear ho hb4) | (go_at_call 48; refine (told_nil _ _ _ _).mono ?_; rintro e w5 ⟨rfl, l5⟩; have HF : Hid (w5.ownsRow w.heap.size 5 1 (.slice vo L cv) L M ∧ Below w.heap.size w w5) := ⟨own_block HO.out.1 (fun j hj => l5.block j (HO.out.1.lt j hj).2), below_chain HO.out.2 l5 HO.out.2.size⟩; clear l5))
  go_ret2
  exact ⟨vo, cv, rfl, HF.out⟩
set_option maxRecDepth 20000 in
set_option maxHeartbeats 2000000 in
theorem talkReply_not (c : Cg) (ao : Option Addr) (n cap : Nat) (zs : List Int) (hn : (n : Int) = c.ms) (hok : c.ok = true) (w : World) (hx : Seen w ao n zs) (hcap : ao = none → cap = 0) : Calls Tryd.prog 23 #[c.v, .bool false, .slice ao n cap] w (PutR w (List.replicate (1 + n) 0)) := by
  have hf := ok_fields hok
  have hle : 114 ≤ c.least := by unfold Cg.least; omega
  have HC : Hid (∀ W, Calls Tryd.prog 10 #[c.v] W fun e w' => e = .returned (.int .i64 0) ∧ Below W.heap.size W w') := fun W => ok_err hok ▸ check_any c W
  have HW : Hid (∀ W, Below w.heap.size w W → Calls Tryd.prog 49 #[.slice (some ⟨W.heap.size, 0, none⟩) 2 2] (W.alloc (.cells #[.iface 4 (.bool false), .iface 87 (.agg #[.slice ao n cap, .int .i64 c.ms])] 20)) fun e w' => ∃ vo cv, e = .returned (.tuple #[.slice vo ([[0], zs] : List (List Int)).flatten.length cv, .nilIface]) ∧ w'.ownsRow w.heap.size 5 1 (.slice vo ([[0], zs] : List (List Int)).flatten.length cv) ([[0], zs] : List (List Int)).flatten.length (([[0], zs] : List (List Int)).flatten.map (Value.int .u8)) ∧ Below w.heap.size w w') := fun W hW => wr_yes [.iface 4 (.bool false), .iface 87 (.agg #[.slice ao n cap, .int .i64 c.ms])] [[0], zs] w W hW rfl (by simp) (fun i hi => by rcases i with _ | _ | i <;> first | exact piece_bool false w | exact (hn ▸ piece_row ao n cap zs w hx hcap) | (simp at hi; omega)) (by have := hx.len; simp [this]; omega)
  have HFL : Hid (([[0], zs] : List (List Int)).flatten.length = 1 + n ∧ (List.replicate (1 + n) (0 : Int)).length = 1 + n) := by
    have := hx.len
    exact ⟨by simp [this]; omega, by simp⟩
  unfold PutR
  rw [HFL.out.2]
  rw [HFL.out.1] at HW
  obtain ⟨L, hL⟩ : ∃ L, 1 + n = L := ⟨_, rfl⟩
  obtain ⟨M, hM⟩ : ∃ M, ([[0], zs] : List (List Int)).flatten = M := ⟨_, rfl⟩
  rw [hL] at HW ⊢
  rw [hM] at HW
  clear hL hM HFL
  clear hok
  go_enter Tryd.func23, Tryd.ntmps23
  go_wp2_with (first | ((with_reducible show wpList _ _ _ (({ dst := some 3, op := _, type := _, pos := _, after := _, guard := _ } : Oper) :: _) _ _); refine wpList_box_new rfl 23 _ rfl c.cs rfl ?_; intro w1 b1 s1 l1; have z1 : Hid (w1.heap.size = w.heap.size + 1) := s1; clear s1) | ((with_reducible show wpList _ _ _ (({ dst := some 11, op := _, type := _, pos := _, after := _, guard := _ } : Oper) :: _) _ _); refine wpList_load_blk rfl 23 (.tmp 3) rfl _ rfl c.cs _ (b1) Tryd.underlying23 rfl (cg_size c) ?_))
  refine (HC.out _).mono ?_
  rintro e w3 ⟨rfl, l3⟩
  have bc : Blk w3 w.heap.size 23 c.cs := (b1.later l3 (by have := z1.out; omega))
  have c1 : w3.cell? ⟨w.heap.size, 1, none⟩ = some (.int .i64 c.ms) := by rw [bc.cell]; rfl
  have HL : Hid (Below w.heap.size w w3) := below_chain l1 l3 (by have := z1.out; omega)
  clear l1 l3 b1 hf hle
  go_wp2_with (first | (go_at_call 49; refine (HW.out w3 HL.out).mono ?_; rintro e w4 ⟨vo, cv, rfl, ho, hb4⟩; have HO : Hid (w4.ownsRow w.heap.size 5 1 (.slice vo L cv) L (M.map (Value.int .u8)) ∧ Below w.heap.size w w4) := ⟨ho, hb4⟩; clear ho hb4) | (go_at_call 48; refine (told_nil _ _ _ _).mono ?_; rintro e w5 ⟨rfl, l5⟩; have HF : Hid (w5.ownsRow w.heap.size 5 1 (.slice vo L cv) L (M.map (Value.int .u8)) ∧ Below w.heap.size w w5) := ⟨own_block HO.out.1 (fun j hj => l5.block j (HO.out.1.lt j hj).2), below_chain HO.out.2 l5 HO.out.2.size⟩; clear l5; obtain ⟨W6, hclr, ho6, hk6⟩ := own_clear HF.out.1; have HZ : Hid (W6.ownsRow w.heap.size 5 1 (.slice vo L cv) L ((List.replicate L 0).map (Value.int .u8)) ∧ Below w.heap.size w W6) := ⟨ho6, below_kept HF.out.2 hk6 HF.out.2.size (fun j hj => by omega)⟩; clear ho6 hk6) | (at_builtin; refine wpList_clear_run rfl _ 24 0 rfl rfl _ rfl _ _ (hclr 0) ?_))
  go_ret2
  exact ⟨vo, cv, rfl, HZ.out⟩
set_option maxRecDepth 20000 in
set_option maxHeartbeats 2000000 in
theorem talkReply_len_true (c : Cg) (ao : Option Addr) (n cap : Nat) (hn : ¬ (n : Int) = c.ms) (hok : c.ok = true) (w : World)  (hg : HdlAt w) : Calls Tryd.prog 23 #[c.v, .bool true, .slice ao n cap] w (BadR w 4) := by
  have hf := ok_fields hok
  have hle : 114 ≤ c.least := by unfold Cg.least; omega
  have HC : Hid (∀ W, Calls Tryd.prog 10 #[c.v] W fun e w' => e = .returned (.int .i64 0) ∧ Below W.heap.size W w') := fun W => ok_err hok ▸ check_any c W
  have HW : Hid (∀ W, Below w.heap.size w W → Calls Tryd.prog 49 #[.slice (some ⟨W.heap.size, 0, none⟩) 2 2] (W.alloc (.cells #[.iface 4 (.bool true), .iface 87 (.agg #[.slice ao n cap, .int .i64 c.ms])] 20)) fun e w' => e = .returned (.tuple #[.slice none 0 0, .iface 110 (mis1 1 4)]) ∧ Below w.heap.size w w') := fun W hW => wr_no [.iface 4 (.bool true), .iface 87 (.agg #[.slice ao n cap, .int .i64 c.ms])] [[1]] 1 (by simp) _ w W hW (by simp) (fun i hi => by have h0 : i = 0 := (by omega); subst h0; exact piece_bool true w) (nopiece_row ao n cap c.ms hn w).nop (by simp [flatP])
  have HG : Hid (HdlAt w) := hg
  unfold BadR
  clear hok
  go_enter Tryd.func23, Tryd.ntmps23
  go_wp2_with (first | ((with_reducible show wpList _ _ _ (({ dst := some 3, op := _, type := _, pos := _, after := _, guard := _ } : Oper) :: _) _ _); refine wpList_box_new rfl 23 _ rfl c.cs rfl ?_; intro w1 b1 s1 l1; have z1 : Hid (w1.heap.size = w.heap.size + 1) := s1; clear s1) | ((with_reducible show wpList _ _ _ (({ dst := some 11, op := _, type := _, pos := _, after := _, guard := _ } : Oper) :: _) _ _); refine wpList_load_blk rfl 23 (.tmp 3) rfl _ rfl c.cs _ (b1) Tryd.underlying23 rfl (cg_size c) ?_))
  refine (HC.out _).mono ?_
  rintro e w3 ⟨rfl, l3⟩
  have bc : Blk w3 w.heap.size 23 c.cs := (b1.later l3 (by have := z1.out; omega))
  have c1 : w3.cell? ⟨w.heap.size, 1, none⟩ = some (.int .i64 c.ms) := by rw [bc.cell]; rfl
  have HL : Hid (Below w.heap.size w w3) := below_chain l1 l3 (by have := z1.out; omega)
  clear l1 l3 b1 hf hle
  go_wp2_with (first | (go_at_call 49; refine (HW.out w3 HL.out).mono ?_; rintro e w4 ⟨rfl, hb4⟩; have HO : Hid (Below w.heap.size w w4) := hb4; have HT := told_bad none 0 0 (mis1 1 4) 4 (found_one _ _) w4 (HG.out.later hb4 (Nat.le_refl _)); clear hb4) | (go_at_call 48; refine HT.mono ?_; rintro e w5 ⟨rfl, l5⟩; have HF : Hid (Below w.heap.size w w5) := below_chain HO.out l5 HO.out.size; clear l5))
  go_ret2
  exact ⟨rfl, HF.out⟩
set_option maxRecDepth 20000 in
set_option maxHeartbeats 2000000 in
theorem talkReply_len_false (c : Cg) (ao : Option Addr) (n cap : Nat) (hn : ¬ (n : Int) = c.ms) (hok : c.ok = true) (w : World)  (hg : HdlAt w) : Calls Tryd.prog 23 #[c.v, .bool false, .slice ao n cap] w (BadR w 4) := by
  have hf := ok_fields hok
  have hle : 114 ≤ c.least := by unfold Cg.least; omega
  have HC : Hid (∀ W, Calls Tryd.prog 10 #[c.v] W fun e w' => e = .returned (.int .i64 0) ∧ Below W.heap.size W w') := fun W => ok_err hok ▸ check_any c W
  have HW : Hid (∀ W, Below w.heap.size w W → Calls Tryd.prog 49 #[.slice (some ⟨W.heap.size, 0, none⟩) 2 2] (W.alloc (.cells #[.iface 4 (.bool false), .iface 87 (.agg #[.slice ao n cap, .int .i64 c.ms])] 20)) fun e w' => e = .returned (.tuple #[.slice none 0 0, .iface 110 (mis1 1 4)]) ∧ Below w.heap.size w w') := fun W hW => wr_no [.iface 4 (.bool false), .iface 87 (.agg #[.slice ao n cap, .int .i64 c.ms])] [[0]] 1 (by simp) _ w W hW (by simp) (fun i hi => by have h0 : i = 0 := (by omega); subst h0; exact piece_bool false w) (nopiece_row ao n cap c.ms hn w).nop (by simp [flatP])
  have HG : Hid (HdlAt w) := hg
  unfold BadR
  clear hok
  go_enter Tryd.func23, Tryd.ntmps23
  go_wp2_with (first | ((with_reducible show wpList _ _ _ (({ dst := some 3, op := _, type := _, pos := _, after := _, guard := _ } : Oper) :: _) _ _); refine wpList_box_new rfl 23 _ rfl c.cs rfl ?_; intro w1 b1 s1 l1; have z1 : Hid (w1.heap.size = w.heap.size + 1) := s1; clear s1) | ((with_reducible show wpList _ _ _ (({ dst := some 11, op := _, type := _, pos := _, after := _, guard := _ } : Oper) :: _) _ _); refine wpList_load_blk rfl 23 (.tmp 3) rfl _ rfl c.cs _ (b1) Tryd.underlying23 rfl (cg_size c) ?_))
  refine (HC.out _).mono ?_
  rintro e w3 ⟨rfl, l3⟩
  have bc : Blk w3 w.heap.size 23 c.cs := (b1.later l3 (by have := z1.out; omega))
  have c1 : w3.cell? ⟨w.heap.size, 1, none⟩ = some (.int .i64 c.ms) := by rw [bc.cell]; rfl
  have HL : Hid (Below w.heap.size w w3) := below_chain l1 l3 (by have := z1.out; omega)
  clear l1 l3 b1 hf hle
  have hclr := clear_nil
  go_wp2_with (first | (at_builtin; refine wpList_clear_run rfl _ 24 0 rfl rfl _ rfl _ _ (hclr 0 _) ?_) | (go_at_call 49; refine (HW.out w3 HL.out).mono ?_; rintro e w4 ⟨rfl, hb4⟩; have HO : Hid (Below w.heap.size w w4) := hb4; have HT := told_bad none 0 0 (mis1 1 4) 4 (found_one _ _) w4 (HG.out.later hb4 (Nat.le_refl _)); clear hb4) | (go_at_call 48; refine HT.mono ?_; rintro e w5 ⟨rfl, l5⟩; have HF : Hid (Below w.heap.size w w5) := below_chain HO.out l5 HO.out.size; clear l5))
  go_ret2
  exact ⟨rfl, HF.out⟩
set_option maxRecDepth 20000 in
set_option maxHeartbeats 1000000 in
theorem dialRequest_bad (c : Cg) (b : Int) (ao : Option Addr) (n cap : Nat) (hok : c.ok = false) (w : World) : Calls Tryd.prog 29 #[c.v, .int .i64 b, .slice ao n cap] w (BadR w 200) := by
  have HC : Hid (∀ W, Calls Tryd.prog 10 #[c.v] W fun e w' => e = .returned (.int .i64 200) ∧ Below W.heap.size W w') := fun W => no_err hok ▸ check_any c W
  clear hok
  go_enter Tryd.func29, Tryd.ntmps29
  go_wp2_with (first | ((with_reducible show wpList _ _ _ (({ dst := some 3, op := _, type := _, pos := _, after := _, guard := _ } : Oper) :: _) _ _); refine wpList_box_new rfl 23 _ rfl c.cs rfl ?_; intro w1 b1 s1 l1; have z1 : Hid (w1.heap.size = w.heap.size + 1) := s1; clear s1) | ((with_reducible show wpList _ _ _ (({ dst := some 9, op := _, type := _, pos := _, after := _, guard := _ } : Oper) :: _) _ _); refine wpList_load_blk rfl 23 (.tmp 3) rfl _ rfl c.cs _ (b1) Tryd.underlying23 rfl (cg_size c) ?_))
  refine (HC.out _).mono ?_
  rintro e w3 ⟨rfl, l3⟩
  have HL : Hid (Below w.heap.size w w3) := below_chain l1 l3 (by have := z1.out; omega)
  clear l1 l3 b1
  go_wp2
  go_ret2
  exact ⟨rfl, HL.out⟩
set_option maxRecDepth 20000 in
set_option maxHeartbeats 2000000 in
theorem dialRequest_ok (c : Cg) (b : Int) (ao : Option Addr) (cap : Nat) (zs : List Int) (hb : inB b 0 (c.bk - 1) = true) (hok : c.ok = true) (w : World) (hx : Seen w ao 88 zs) (hcap : ao = none → cap = 0) : Calls Tryd.prog 29 #[c.v, .int .i64 b, .slice ao 88 cap] w (PutR w (leB 4 b ++ zs)) := by
  have hf := ok_fields hok
  have hle : 114 ≤ c.least := by unfold Cg.least; omega
  have HC : Hid (∀ W, Calls Tryd.prog 10 #[c.v] W fun e w' => e = .returned (.int .i64 0) ∧ Below W.heap.size W w') := fun W => ok_err hok ▸ check_any c W
  have w1 : wrap64 (c.bk - 1) = c.bk - 1 := by simp [wrap64]; omega
  have HW : Hid (∀ W, Below w.heap.size w W → Calls Tryd.prog 49 #[.slice (some ⟨W.heap.size, 0, none⟩) 2 2] (W.alloc (.cells #[.iface 96 (.agg #[.int .i64 b, .int .i64 0, .int .i64 (c.bk - 1)]), .iface 87 (.agg #[.slice ao 88 cap, .int .i64 88])] 20)) fun e w' => ∃ vo cv, e = .returned (.tuple #[.slice vo ([leB 4 b, zs] : List (List Int)).flatten.length cv, .nilIface]) ∧ w'.ownsRow w.heap.size 5 1 (.slice vo ([leB 4 b, zs] : List (List Int)).flatten.length cv) ([leB 4 b, zs] : List (List Int)).flatten.length (([leB 4 b, zs] : List (List Int)).flatten.map (Value.int .u8)) ∧ Below w.heap.size w w') := fun W hW => wr_yes [.iface 96 (.agg #[.int .i64 b, .int .i64 0, .int .i64 (c.bk - 1)]), .iface 87 (.agg #[.slice ao 88 cap, .int .i64 88])] [leB 4 b, zs] w W hW rfl (by simp) (fun i hi => by rcases i with _ | _ | i <;> first | exact piece_choice b 0 (c.bk - 1) (by simp [inB] at hb; omega) hb w | exact piece_row ao 88 cap zs w hx hcap | (simp at hi; omega)) (by have := hx.len; simp [this, leB_length])
  have HFL : Hid (([leB 4 b, zs] : List (List Int)).flatten.length = (leB 4 b ++ zs : List Int).length ∧ ([leB 4 b, zs] : List (List Int)).flatten.map (Value.int .u8) = (leB 4 b ++ zs : List Int).map (Value.int .u8)) := by
    have : ([leB 4 b, zs] : List (List Int)).flatten = leB 4 b ++ zs := by simp
    exact ⟨by rw [this], by rw [this]⟩
  unfold PutR
  rw [HFL.out.1, HFL.out.2] at HW
  obtain ⟨L, hL⟩ : ∃ L, (leB 4 b ++ zs : List Int).length = L := ⟨_, rfl⟩
  obtain ⟨M, hM⟩ : ∃ M, (leB 4 b ++ zs : List Int).map (Value.int .u8) = M := ⟨_, rfl⟩
  rw [hL, hM] at HW ⊢
  clear hL hM HFL
  clear hok
  go_enter Tryd.func29, Tryd.ntmps29
  go_wp2_with (first | ((with_reducible show wpList _ _ _ (({ dst := some 3, op := _, type := _, pos := _, after := _, guard := _ } : Oper) :: _) _ _); refine wpList_box_new rfl 23 _ rfl c.cs rfl ?_; intro w1 b1 s1 l1; have z1 : Hid (w1.heap.size = w.heap.size + 1) := s1; clear s1) | ((with_reducible show wpList _ _ _ (({ dst := some 9, op := _, type := _, pos := _, after := _, guard := _ } : Oper) :: _) _ _); refine wpList_load_blk rfl 23 (.tmp 3) rfl _ rfl c.cs _ (b1) Tryd.underlying23 rfl (cg_size c) ?_))
  refine (HC.out _).mono ?_
  rintro e w3 ⟨rfl, l3⟩
  have bc : Blk w3 w.heap.size 23 c.cs := (b1.later l3 (by have := z1.out; omega))
  have c2 : w3.cell? ⟨w.heap.size, 2, none⟩ = some (.int .i64 c.bk) := by rw [bc.cell]; rfl
  have HL : Hid (Below w.heap.size w w3) := below_chain l1 l3 (by have := z1.out; omega)
  clear l1 l3 b1 hf hle
  go_wp2_with (first | (go_at_call 49; refine (HW.out w3 HL.out).mono ?_; rintro e w4 ⟨vo, cv, rfl, ho, hb4⟩; have HO : Hid (w4.ownsRow w.heap.size 5 1 (.slice vo L cv) L M ∧ Below w.heap.size w w4) := ⟨ho, hb4⟩; clear ho hb4) | (go_at_call 48; refine (told_nil _ _ _ _).mono ?_; rintro e w5 ⟨rfl, l5⟩; have HF : Hid (w5.ownsRow w.heap.size 5 1 (.slice vo L cv) L M ∧ Below w.heap.size w w5) := ⟨own_block HO.out.1 (fun j hj => l5.block j (HO.out.1.lt j hj).2), below_chain HO.out.2 l5 HO.out.2.size⟩; clear l5))
  go_ret2
  exact ⟨vo, cv, rfl, HF.out⟩
set_option maxRecDepth 20000 in
set_option maxHeartbeats 2000000 in
theorem dialRequest_bucket (c : Cg) (b : Int) (ao : Option Addr) (n cap : Nat) (hb : inB b 0 (c.bk - 1) = false) (hok : c.ok = true) (w : World)  (hg : HdlAt w) : Calls Tryd.prog 29 #[c.v, .int .i64 b, .slice ao n cap] w (BadR w 201) := by
  have hf := ok_fields hok
  have hle : 114 ≤ c.least := by unfold Cg.least; omega
  have HC : Hid (∀ W, Calls Tryd.prog 10 #[c.v] W fun e w' => e = .returned (.int .i64 0) ∧ Below W.heap.size W w') := fun W => ok_err hok ▸ check_any c W
  have w1 : wrap64 (c.bk - 1) = c.bk - 1 := by simp [wrap64]; omega
  have HW : Hid (∀ W, Below w.heap.size w W → Calls Tryd.prog 49 #[.slice (some ⟨W.heap.size, 0, none⟩) 2 2] (W.alloc (.cells #[.iface 96 (.agg #[.int .i64 b, .int .i64 0, .int .i64 (c.bk - 1)]), .iface 87 (.agg #[.slice ao n cap, .int .i64 88])] 20)) fun e w' => e = .returned (.tuple #[.slice none 0 0, .iface 110 (mis1 0 201)]) ∧ Below w.heap.size w w') := fun W hW => wr_no [.iface 96 (.agg #[.int .i64 b, .int .i64 0, .int .i64 (c.bk - 1)]), .iface 87 (.agg #[.slice ao n cap, .int .i64 88])] [[]] 0 (by simp) _ w W hW (by simp) (fun i hi => by omega) (nopiece_choice b 0 (c.bk - 1) hb w).nop (by simp [flatP])
  have HG : Hid (HdlAt w) := hg
  unfold BadR
  clear hok
  go_enter Tryd.func29, Tryd.ntmps29
  go_wp2_with (first | ((with_reducible show wpList _ _ _ (({ dst := some 3, op := _, type := _, pos := _, after := _, guard := _ } : Oper) :: _) _ _); refine wpList_box_new rfl 23 _ rfl c.cs rfl ?_; intro w1 b1 s1 l1; have z1 : Hid (w1.heap.size = w.heap.size + 1) := s1; clear s1) | ((with_reducible show wpList _ _ _ (({ dst := some 9, op := _, type := _, pos := _, after := _, guard := _ } : Oper) :: _) _ _); refine wpList_load_blk rfl 23 (.tmp 3) rfl _ rfl c.cs _ (b1) Tryd.underlying23 rfl (cg_size c) ?_))
  refine (HC.out _).mono ?_
  rintro e w3 ⟨rfl, l3⟩
  have bc : Blk w3 w.heap.size 23 c.cs := (b1.later l3 (by have := z1.out; omega))
  have c2 : w3.cell? ⟨w.heap.size, 2, none⟩ = some (.int .i64 c.bk) := by rw [bc.cell]; rfl
  have HL : Hid (Below w.heap.size w w3) := below_chain l1 l3 (by have := z1.out; omega)
  clear l1 l3 b1 hf hle
  go_wp2_with (first | (go_at_call 49; refine (HW.out w3 HL.out).mono ?_; rintro e w4 ⟨rfl, hb4⟩; have HO : Hid (Below w.heap.size w w4) := hb4; have HT := told_bad none 0 0 (mis1 0 201) 201 (found_one _ _) w4 (HG.out.later hb4 (Nat.le_refl _)); clear hb4) | (go_at_call 48; refine HT.mono ?_; rintro e w5 ⟨rfl, l5⟩; have HF : Hid (Below w.heap.size w w5) := below_chain HO.out l5 HO.out.size; clear l5))
  go_ret2
  exact ⟨rfl, HF.out⟩
set_option maxRecDepth 20000 in
set_option maxHeartbeats 2000000 in
theorem dialRequest_len (c : Cg) (b : Int) (ao : Option Addr) (n cap : Nat) (hb : inB b 0 (c.bk - 1) = true) (hn : ¬ (n : Int) = 88) (hok : c.ok = true) (w : World)  (hg : HdlAt w) : Calls Tryd.prog 29 #[c.v, .int .i64 b, .slice ao n cap] w (BadR w 4) := by
  have hf := ok_fields hok
  have hle : 114 ≤ c.least := by unfold Cg.least; omega
  have HC : Hid (∀ W, Calls Tryd.prog 10 #[c.v] W fun e w' => e = .returned (.int .i64 0) ∧ Below W.heap.size W w') := fun W => ok_err hok ▸ check_any c W
  have w1 : wrap64 (c.bk - 1) = c.bk - 1 := by simp [wrap64]; omega
  have HW : Hid (∀ W, Below w.heap.size w W → Calls Tryd.prog 49 #[.slice (some ⟨W.heap.size, 0, none⟩) 2 2] (W.alloc (.cells #[.iface 96 (.agg #[.int .i64 b, .int .i64 0, .int .i64 (c.bk - 1)]), .iface 87 (.agg #[.slice ao n cap, .int .i64 88])] 20)) fun e w' => e = .returned (.tuple #[.slice none 0 0, .iface 110 (mis1 1 4)]) ∧ Below w.heap.size w w') := fun W hW => wr_no [.iface 96 (.agg #[.int .i64 b, .int .i64 0, .int .i64 (c.bk - 1)]), .iface 87 (.agg #[.slice ao n cap, .int .i64 88])] [leB 4 b] 1 (by simp) _ w W hW (by simp) (fun i hi => by have h0 : i = 0 := (by omega); subst h0; exact piece_choice b 0 (c.bk - 1) (by simp [inB] at hb; omega) hb w) (nopiece_row ao n cap 88 hn w).nop (by simp [flatP, leB_length])
  have HG : Hid (HdlAt w) := hg
  unfold BadR
  clear hok
  go_enter Tryd.func29, Tryd.ntmps29
  go_wp2_with (first | ((with_reducible show wpList _ _ _ (({ dst := some 3, op := _, type := _, pos := _, after := _, guard := _ } : Oper) :: _) _ _); refine wpList_box_new rfl 23 _ rfl c.cs rfl ?_; intro w1 b1 s1 l1; have z1 : Hid (w1.heap.size = w.heap.size + 1) := s1; clear s1) | ((with_reducible show wpList _ _ _ (({ dst := some 9, op := _, type := _, pos := _, after := _, guard := _ } : Oper) :: _) _ _); refine wpList_load_blk rfl 23 (.tmp 3) rfl _ rfl c.cs _ (b1) Tryd.underlying23 rfl (cg_size c) ?_))
  refine (HC.out _).mono ?_
  rintro e w3 ⟨rfl, l3⟩
  have bc : Blk w3 w.heap.size 23 c.cs := (b1.later l3 (by have := z1.out; omega))
  have c2 : w3.cell? ⟨w.heap.size, 2, none⟩ = some (.int .i64 c.bk) := by rw [bc.cell]; rfl
  have HL : Hid (Below w.heap.size w w3) := below_chain l1 l3 (by have := z1.out; omega)
  clear l1 l3 b1 hf hle
  go_wp2_with (first | (go_at_call 49; refine (HW.out w3 HL.out).mono ?_; rintro e w4 ⟨rfl, hb4⟩; have HO : Hid (Below w.heap.size w w4) := hb4; have HT := told_bad none 0 0 (mis1 1 4) 4 (found_one _ _) w4 (HG.out.later hb4 (Nat.le_refl _)); clear hb4) | (go_at_call 48; refine HT.mono ?_; rintro e w5 ⟨rfl, l5⟩; have HF : Hid (Below w.heap.size w w5) := below_chain HO.out l5 HO.out.size; clear l5))
  go_ret2
  exact ⟨rfl, HF.out⟩
end Go.Proofs.YtmgkjldjeomcmaaDoor
