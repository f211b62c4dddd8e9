/- CodecBack: the walk. -/
import Derived.Test.YtmgkjldjeomcmaaDoorCcBackM
import Derived.Test.YtmgkjldjeomcmaaDoorCcAwake
import Derived.Test.YtmgkjldjeomcmaaDoorREqb
import Derived.Test.YtmgkjldjeomcmaaDoorRInvGT
namespace Go.Proofs.YtmgkjldjeomcmaaDoor.codecBack
open Go.RowKit
set_option linter.unusedVariables false
set_option linter.unusedSimpArgs false

theorem whole8b {w : World} {g : Nat} {t : TypeId} {vs : List Value} (h : Blk w g t vs) : w.rangeAt g 0 vs := fun j v hv => by rw [Nat.zero_add, h.cell]; exact hv
theorem seen_past {w wf wg : World} {ao : Option Addr} {n : Nat} {zs : List Int} (h : Seen w ao n zs) (l : Below w.heap.size w wf) (k : Kept (fun b => b = w.heap.size) wf wg) : Seen wg ao n zs :=
  (h.later l (Nat.le_refl _)).kept k (fun b o hn e he => by
    obtain ⟨b', o', e', hlt, _⟩ := h.cells hn
    have he' : b = w.heap.size := he
    rw [e'] at e
    cases e
    omega)
theorem zero_Cfg : (Tryd.prog.info? 23).map (fun i => (i.zero, i.size)) = some (some (.agg (cg0.cs).toArray), 6) := by kernel_rfl
set_option maxRecDepth 20000 in
set_option maxHeartbeats 4000000 in
theorem walk_bad (t : Tk) (bu : Int) (hok : t.cf.ok = false) (w : World) : Calls Tryd.prog 7 #[.agg t.cs.toArray, .int .i64 bu] w fun e w' => e = .returned (.bool true) ∧ Below w.heap.size w w' := by
  have HP : Hid (∀ W, Calls Tryd.prog 8 #[.agg t.cf.cs.toArray] W (BadR W 200)) := fun W => putConfig_bad t.cf hok W
  have HC : Hid (∀ W, Calls Tryd.prog 10 #[.agg t.cf.cs.toArray] W fun e w' => e = .returned (.int .i64 200) ∧ Below W.heap.size W w') := fun W => no_err hok ▸ check_any t.cf W
  go_enter Tryd.func7, Tryd.ntmps7
  go_wp2_with (first | ((with_reducible show wpList _ _ _ (({ dst := some 2, op := _, type := _, pos := _, after := _, guard := _ } : Oper) :: _) _ _); refine wpList_box_new rfl 37 _ rfl t.cs rfl ?_; intro w1 b1 s1 l1; have z1 : Hid (w1.heap.size = w.heap.size + 1) := s1; clear s1))
  refine (awake_any _).mono ?_
  rintro e w2 ⟨rfl, l2⟩
  have X2 : Hid (Blk w2 w.heap.size 37 t.cs ∧ Below w.heap.size w w2 ∧ w.heap.size < w2.heap.size) := ⟨b1.later l2 (by have := z1.out; omega), below_chain l1 l2 (by have := z1.out; omega), by have := z1.out; have := l2.size; omega⟩
  clear b1 l1 l2
  go_wp2_with (first | ((with_reducible show wpList _ _ _ (({ dst := some 23, op := _, type := _, pos := _, after := _, guard := _ } : Oper) :: _) _ _); refine wpList_load_mid rfl 23 _ rfl w.heap.size 0 rfl t.cf.cs _ (Blk.range (xs := []) (ys := t.cf.cs) (zs := u8s t.d ++ [.bool t.b, .slice t.ao t.n t.c, .slice t.bo t.m t.e]) X2.out.1) Tryd.underlying23 rfl (cg_size t.cf) ?_) | ((with_reducible show wpList _ _ _ (({ dst := some 5, op := _, type := _, pos := _, after := _, guard := _ } : Oper) :: _) _ _); refine wpList_alloc_new rfl 23 rfl 6 _ zero_Cfg ?_; intro w3 b3 s3 l3; have z3 : Hid (w3.heap.size = w2.heap.size + 1) := s3; clear s3) | (refine wpList_store_blk rfl 23 23 (.tmp 5) (.tmp 23) rfl _ rfl _ t.cf.cs rfl b3 (by rfl) (cg_size t.cf) (cg_one t.cf) ?_; intro w4 b4 s4 k4; have z4 : Hid (w4.heap.size = w3.heap.size) := s4; clear s4) | ((with_reducible show wpList _ _ _ (({ dst := some 25, op := _, type := _, pos := _, after := _, guard := _ } : Oper) :: _) _ _); refine wpList_load_blk rfl 23 (.tmp 5) rfl _ rfl t.cf.cs _ b4 Tryd.underlying23 rfl (cg_size t.cf) ?_))
  have X4 : Hid (Bk w w4 w2.heap.size t) := ⟨(X2.out.1.later l3 X2.out.2.2).kept k4 (by have := X2.out.2.2; omega), b4, below_kept (below_chain X2.out.2.1 l3 X2.out.2.1.size) k4 (by have := X2.out.2.1.size; have := z3.out; omega) (fun j hj => by have := X2.out.2.2; omega), X2.out.2.2⟩
  clear X2 l3 k4 b3 b4
  refine (HP.out _).mono ?_
  rintro e w5 ⟨rfl, l5⟩
  have X5 : Hid (Bk w w5 w2.heap.size t) := X4.out.later l5
  clear X4 l5 HP
  go_wp2_with (first | ((with_reducible show wpList _ _ _ (({ dst := some 29, op := _, type := _, pos := _, after := _, guard := _ } : Oper) :: _) _ _); refine wpList_load_blk rfl 23 (.tmp 5) rfl _ rfl t.cf.cs _ X5.out.c Tryd.underlying23 rfl (cg_size t.cf) ?_))
  refine (HC.out _).mono ?_
  rintro e w6 ⟨rfl, l6⟩
  have X6 : Hid (Bk w w6 w2.heap.size t) := X5.out.later l6
  clear X5 l6 HC
  go_wp2_with fail
  go_ret
  exact ⟨rfl, X6.out.bel⟩
set_option maxRecDepth 20000 in
set_option maxHeartbeats 8000000 in
theorem walk_true (t : Tk) (bu : Int) (w : World) (hin : TkIn w t) (hg : HdlAt w) (hok : t.cf.ok = true) (hb : t.b = true) : Calls Tryd.prog 7 #[.agg t.cs.toArray, .int .i64 bu] w fun e w' => e = .returned (.bool true) ∧ Below w.heap.size w w' := by
  have hcq : ∀ W, (binOp .neq 23 (.agg t.cf.cs.toArray) (.agg t.cf.cs.toArray)).run Tryd.prog W = .ok (.bool false) W := fun W => neq_cfg t.cf W
  obtain ⟨m, hm⟩ : ∃ m : Nat, (m : Int) = t.cf.ms := ⟨t.cf.ms.toNat, by have := ok_fields hok; omega⟩
  have hm5 : m ≤ 1000 := by have := ok_fields hok; omega
  obtain ⟨q, hq⟩ : ∃ q, 16 + m = q := ⟨_, rfl⟩
  obtain ⟨p, hp⟩ : ∃ p, 1 + m = p := ⟨_, rfl⟩
  have HP : Hid (∀ W, Calls Tryd.prog 8 #[.agg t.cf.cs.toArray] W (Ans W 24 (cfgB t.cf))) := fun W => back_put t.cf hok W
  have HC : Hid (∀ W, Calls Tryd.prog 10 #[.agg t.cf.cs.toArray] W fun e w' => e = .returned (.int .i64 0) ∧ Below W.heap.size W w') := fun W => ok_err hok ▸ check_any t.cf W
  have HA : Hid (∀ W vo cv, Seen W vo 24 (cfgB t.cf) → Calls Tryd.prog 46 #[.slice vo 24 cv] W fun e w' => e = .returned (.tuple #[.agg t.cf.cs.toArray, .int .i64 0]) ∧ Below W.heap.size W w') := fun W vo cv hs => back_parse t.cf hok W vo cv hs
  have HQ : Hid (∀ W, Calls Tryd.prog 13 #[.agg t.cf.cs.toArray, .int .i64 1] W fun e w' => e = .returned (.tuple #[.int .i64 (q : Int), .int .i64 0]) ∧ Below W.heap.size W w') := fun W => by
    have := requestSize_any t.cf 1 W
    rwa [show szQ t.cf 1 = (q : Int) by simp [szQ, hok]; omega, show szE t.cf 1 = 0 by simp [szE, hok]] at this
  have HR : Hid (∀ W, Calls Tryd.prog 15 #[.agg t.cf.cs.toArray, .int .i64 1] W fun e w' => e = .returned (.tuple #[.int .i64 (p : Int), .int .i64 0]) ∧ Below W.heap.size W w') := fun W => by
    have := replySize_any t.cf 1 W
    rwa [show szP t.cf 1 = (p : Int) by simp [szP, hok]; omega, show szE t.cf 1 = 0 by simp [szE, hok]] at this
  have HQ2 : Hid (∀ W, Calls Tryd.prog 13 #[.agg t.cf.cs.toArray, .int .i64 2] W fun e w' => e = .returned (.tuple #[.int .i64 92, .int .i64 0]) ∧ Below W.heap.size W w') := fun W => by
    have := requestSize_any t.cf 2 W
    rwa [show szQ t.cf 2 = 92 by simp [szQ, hok], show szE t.cf 2 = 0 by simp [szE, hok]] at this
  have HR2 : Hid (∀ W, Calls Tryd.prog 15 #[.agg t.cf.cs.toArray, .int .i64 2] W fun e w' => e = .returned (.tuple #[.int .i64 16, .int .i64 0]) ∧ Below W.heap.size W w') := fun W => by
    have := replySize_any t.cf 2 W
    rwa [show szP t.cf 2 = 16 by simp [szP, hok], show szE t.cf 2 = 0 by simp [szE, hok]] at this
  have HT : Hid (∀ W g us, Seen W (some ⟨g, 0, none⟩) m us → Calls Tryd.prog 20 #[.agg t.cf.cs.toArray, .agg (u8s t.d).toArray, .slice (some ⟨g, 0, none⟩) m m] W (Ans W q (t.d ++ us))) := fun W g us hs => hq ▸ back_req t.cf hok m hm t.d us hin.dl hin.db W g hs
  have HU : Hid (∀ W vo cv us, Seen W vo q (t.d ++ us) → Calls Tryd.prog 25 #[.agg t.cf.cs.toArray, .slice vo q cv] W fun e w' => ∃ uo, e = .returned (.tuple #[.agg (u8s t.d).toArray, .slice uo m m, .int .i64 0]) ∧ Seen w' uo m us ∧ Below W.heap.size W w') := fun W vo cv us => by subst hq; exact back_ptalk t.cf hok m hm t.d us hin.dl W vo cv
  have HV : Hid (∀ W g us, Seen W (some ⟨g, 0, none⟩) m us → Calls Tryd.prog 23 #[.agg t.cf.cs.toArray, .bool true, .slice (some ⟨g, 0, none⟩) m m] W (Ans W p (repB true m us))) := fun W g us hs => hp ▸ back_rep t.cf hok m hm true us W g hs
  have HW : Hid (∀ W vo cv us, Seen W vo p (repB true m us) → Calls Tryd.prog 27 #[.agg t.cf.cs.toArray, .slice vo p cv] W fun e w' => ∃ uo, e = .returned (.tuple #[.bool true, .slice uo m m, .int .i64 0]) ∧ Seen w' uo m ((repB true m us).drop 1) ∧ Below W.heap.size W w') := fun W vo cv us => by subst hp; exact back_prep t.cf hok m hm true us W vo cv
  have hdq : ∀ W, (binOp .neq 35 (.agg (u8s t.d).toArray) (.agg (u8s t.d).toArray)).run Tryd.prog W = .ok (.bool false) W := fun W => neq_drop t.d hin.dl W
  have rq : ((q : Int) != (q : Int)) = false := by simp
  have rp : ((p : Int) != (p : Int)) = false := by simp
  have HE : Hid (∀ W vo uo xs (n c1 c2 : Nat), Seen W vo n xs → Seen W uo n xs → Calls Tryd.prog 12 #[.slice vo n c1, .slice uo n c2] W fun e w' => e = .returned (.bool true) ∧ Below W.heap.size W w') := fun W vo uo xs n c1 c2 h1 h2 => (reqb_any vo uo n n c1 c2 xs xs W h1 h2).mono fun e w' h => by
    obtain ⟨rfl, k, rfl⟩ := h
    exact ⟨by rw [decide_eq_true rfl], below_dn (Below.refl _ _) k⟩
  have HS : Hid (∀ W, Seen W t.bo t.m t.zs → Calls Tryd.prog 47 #[.slice t.bo t.m t.e, .int .i64 88] W fun e w' => ∃ g, e = .returned (.slice (some ⟨g, 0, none⟩) 88 88) ∧ (∃ us, Seen w' (some ⟨g, 0, none⟩) 88 us) ∧ Below W.heap.size W w') := fun W h => sized_any t.bo t.m t.e t.zs 88 (by decide) W h
  have HM : Hid ((m : Int) = t.cf.ms) := hm
  clear hm hq hp
  go_enter Tryd.func7, Tryd.ntmps7
  go_wp2_with (first | ((with_reducible show wpList _ _ _ (({ dst := some 2, op := _, type := _, pos := _, after := _, guard := _ } : Oper) :: _) _ _); refine wpList_box_new rfl 37 _ rfl t.cs rfl ?_; intro w1 b1 s1 l1; have z1 : Hid (w1.heap.size = w.heap.size + 1) := s1; clear s1))
  refine (awake_any _).mono ?_
  rintro e w2 ⟨rfl, l2⟩
  have X2 : Hid (Blk w2 w.heap.size 37 t.cs ∧ Below w.heap.size w w2 ∧ w.heap.size < w2.heap.size) := ⟨b1.later l2 (by have := z1.out; omega), below_chain l1 l2 (by have := z1.out; omega), by have := z1.out; have := l2.size; omega⟩
  clear b1 l1 l2
  go_wp2_with (first | ((with_reducible show wpList _ _ _ (({ dst := some 23, op := _, type := _, pos := _, after := _, guard := _ } : Oper) :: _) _ _); refine wpList_load_mid rfl 23 _ rfl w.heap.size 0 rfl t.cf.cs _ (Blk.range (xs := []) (ys := t.cf.cs) (zs := u8s t.d ++ [.bool t.b, .slice t.ao t.n t.c, .slice t.bo t.m t.e]) X2.out.1) Tryd.underlying23 rfl (cg_size t.cf) ?_) | ((with_reducible show wpList _ _ _ (({ dst := some 5, op := _, type := _, pos := _, after := _, guard := _ } : Oper) :: _) _ _); refine wpList_alloc_new rfl 23 rfl 6 _ zero_Cfg ?_; intro w3 b3 s3 l3; have z3 : Hid (w3.heap.size = w2.heap.size + 1) := s3; clear s3) | (refine wpList_store_blk rfl 23 23 (.tmp 5) (.tmp 23) rfl _ rfl _ t.cf.cs rfl b3 (by rfl) (cg_size t.cf) (cg_one t.cf) ?_; intro w4 b4 s4 k4; have z4 : Hid (w4.heap.size = w3.heap.size) := s4; clear s4) | ((with_reducible show wpList _ _ _ (({ dst := some 25, op := _, type := _, pos := _, after := _, guard := _ } : Oper) :: _) _ _); refine wpList_load_blk rfl 23 (.tmp 5) rfl _ rfl t.cf.cs _ b4 Tryd.underlying23 rfl (cg_size t.cf) ?_))
  have X4 : Hid (Bk w w4 w2.heap.size t) := ⟨(X2.out.1.later l3 X2.out.2.2).kept k4 (by have := X2.out.2.2; omega), b4, below_kept (below_chain X2.out.2.1 l3 X2.out.2.1.size) k4 (by have := X2.out.2.1.size; have := z3.out; omega) (fun j hj => by have := X2.out.2.2; omega), X2.out.2.2⟩
  clear X2 l3 k4 b3 b4
  refine (HP.out _).mono ?_
  rintro e w5 ⟨vo, cv, rfl, s5, l5⟩
  have X5 : Hid (Bk w w5 w2.heap.size t ∧ Seen w5 vo 24 (cfgB t.cf)) := ⟨X4.out.later l5, s5⟩
  clear X4 l5 s5 HP
  go_wp2_with (first | ((with_reducible show wpList _ _ _ (({ dst := some 29, op := _, type := _, pos := _, after := _, guard := _ } : Oper) :: _) _ _); refine wpList_load_blk rfl 23 (.tmp 5) rfl _ rfl t.cf.cs _ X5.out.1.c Tryd.underlying23 rfl (cg_size t.cf) ?_))
  refine (HC.out _).mono ?_
  rintro e w6 ⟨rfl, l6⟩
  have X6 : Hid (Bk w w6 w2.heap.size t ∧ Seen w6 vo 24 (cfgB t.cf)) := ⟨X5.out.1.later l6, X5.out.2.later l6 (Nat.le_refl _)⟩
  clear X5 l6 HC
  go_wp2_with fail
  refine (HA.out _ _ _ X6.out.2).mono ?_
  rintro e w7 ⟨rfl, l7⟩
  have X7 : Hid (Bk w w7 w2.heap.size t) := X6.out.1.later l7
  clear X6 l7 HA
  go_wp2_with (first | ((with_reducible show wpList _ _ _ (({ dst := some 8, op := _, type := _, pos := _, after := _, guard := _ } : Oper) :: _) _ _); refine wpList_alloc_new rfl 23 rfl 6 _ zero_Cfg ?_; intro w8 b8 s8 l8; have z8 : Hid (w8.heap.size = w7.heap.size + 1) := s8; clear s8) | (refine wpList_store_blk rfl 23 23 (.tmp 8) (.tmp 42) rfl _ rfl _ t.cf.cs rfl b8 (by rfl) (cg_size t.cf) (cg_one t.cf) ?_; intro w9 b9 s9 k9; have z9 : Hid (w9.heap.size = w8.heap.size) := s9; clear s9; have X9 : Hid (Bk w w9 w2.heap.size t ∧ Blk w9 w7.heap.size 23 t.cf.cs) := ⟨(X7.out.later l8).kept k9 X7.out.c.lt, b9⟩; have cm9 : w9.cell? ⟨w2.heap.size, 1, none⟩ = some (.int .i64 (m : Int)) := (by rw [HM.out]; exact X9.out.1.msg); have ct9 := X9.out.1.text hin.dl; clear X7 l8 k9 b8 b9) | ((with_reducible show wpList _ _ _ (({ dst := some 51, op := _, type := _, pos := _, after := _, guard := _ } : Oper) :: _) _ _); refine wpList_load_g (by rfl) 23 (.tmp 8) rfl _ 0 rfl t.cf.cs _ (whole8b X9.out.2) Tryd.underlying23 rfl (cg_size t.cf) ?_) | ((with_reducible show wpList _ _ _ (({ dst := some 52, op := _, type := _, pos := _, after := _, guard := _ } : Oper) :: _) _ _); refine wpList_load_g (by rfl) 23 (.tmp 5) rfl _ 0 rfl t.cf.cs _ (whole8b X9.out.1.c) Tryd.underlying23 rfl (cg_size t.cf) ?_))
  refine (sized_any t.ao t.n t.c t.ms m hm5 _ (hin.sm.later X9.out.1.bel (Nat.le_refl _))).mono ?_
  rintro e wa ⟨ga, rfl, ⟨us, sa⟩, la⟩
  have XA : Hid (Bk w wa w2.heap.size t ∧ Seen wa (some ⟨ga, 0, none⟩) m us) := ⟨X9.out.1.later la, sa⟩
  clear X9 la sa cm9 ct9
  go_wp2_with (first | ((with_reducible show wpList _ _ _ (({ dst := some 66, op := _, type := _, pos := _, after := _, guard := _ } : Oper) :: _) _ _); refine wpList_load_blk rfl 23 (.tmp 5) rfl _ rfl t.cf.cs _ XA.out.1.c Tryd.underlying23 rfl (cg_size t.cf) ?_))
  refine (HQ.out _).mono ?_
  rintro e wb ⟨rfl, lb⟩
  have XB : Hid (Bk w wb w2.heap.size t ∧ Seen wb (some ⟨ga, 0, none⟩) m us) := ⟨XA.out.1.later lb, XA.out.2.later lb (Nat.le_refl _)⟩
  clear XA lb HQ
  go_wp2_with (first | ((with_reducible show wpList _ _ _ (({ dst := some 71, op := _, type := _, pos := _, after := _, guard := _ } : Oper) :: _) _ _); refine wpList_load_blk rfl 23 (.tmp 5) rfl _ rfl t.cf.cs _ XB.out.1.c Tryd.underlying23 rfl (cg_size t.cf) ?_))
  refine (HR.out _).mono ?_
  rintro e wc ⟨rfl, lc⟩
  have XC : Hid (Bk w wc w2.heap.size t ∧ Seen wc (some ⟨ga, 0, none⟩) m us) := ⟨XB.out.1.later lc, XB.out.2.later lc (Nat.le_refl _)⟩
  clear XB lc HR
  go_wp2_with (first | ((with_reducible show wpList _ _ _ (({ dst := some 76, op := _, type := _, pos := _, after := _, guard := _ } : Oper) :: _) _ _); refine wpList_load_blk rfl 23 (.tmp 5) rfl _ rfl t.cf.cs _ XC.out.1.c Tryd.underlying23 rfl (cg_size t.cf) ?_) | ((with_reducible show wpList _ _ _ (({ dst := some 78, op := _, type := _, pos := _, after := _, guard := _ } : Oper) :: _) _ _); refine wpList_load_mid rfl 35 _ rfl w.heap.size 6 rfl (u8s t.d) _ XC.out.1.drop Tryd.underlying35 rfl (by rw [u8s_length, hin.dl]; exact size_Drop) ?_))
  refine (HT.out _ _ _ XC.out.2).mono ?_
  rintro e wd ⟨vo2, cv2, rfl, sd, ld⟩
  have XD : Hid (Bk w wd w2.heap.size t ∧ Seen wd (some ⟨ga, 0, none⟩) m us ∧ Seen wd vo2 q (t.d ++ us)) := ⟨XC.out.1.later ld, XC.out.2.later ld (Nat.le_refl _), sd⟩
  clear XC ld sd HT
  go_wp2_with (first | ((with_reducible show wpList _ _ _ (({ dst := some 84, op := _, type := _, pos := _, after := _, guard := _ } : Oper) :: _) _ _); refine wpList_load_blk rfl 23 (.tmp 5) rfl _ rfl t.cf.cs _ XD.out.1.c Tryd.underlying23 rfl (cg_size t.cf) ?_))
  refine (HU.out _ _ _ _ XD.out.2.2).mono ?_
  rintro e we ⟨uo, rfl, se, le⟩
  have XE : Hid (Bk w we w2.heap.size t ∧ Seen we (some ⟨ga, 0, none⟩) m us ∧ Seen we uo m us) := ⟨XD.out.1.later le, XD.out.2.1.later le (Nat.le_refl _), se⟩
  clear XD le se HU
  go_wp2_with (first | ((with_reducible show wpList _ _ _ (({ dst := some 15, op := _, type := _, pos := _, after := _, guard := _ } : Oper) :: _) _ _); refine wpList_alloc_new rfl 35 rfl 16 _ zero_Drop ?_; intro wf bf sf lf; have zf : Hid (wf.heap.size = we.heap.size + 1) := sf; clear sf) | (refine wpList_store_blk rfl 35 35 (.tmp 15) (.tmp 87) rfl _ rfl _ (u8s t.d) rfl bf (by rw [u8s_length, hin.dl]; rfl) (by rw [u8s_length, hin.dl]; exact size_Drop) (u8s_one _) ?_; intro wg bg sg kg; have zg : Hid (wg.heap.size = wf.heap.size) := sg; clear sg; have XG : Hid (Bk w wg w2.heap.size t ∧ Seen wg (some ⟨ga, 0, none⟩) m us ∧ Seen wg uo m us ∧ Blk wg we.heap.size 35 (u8s t.d)) := ⟨(XE.out.1.later lf).kept kg XE.out.1.c.lt, seen_past XE.out.2.1 lf kg, seen_past XE.out.2.2 lf kg, bg⟩; clear XE lf kg bf bg) | ((with_reducible show wpList _ _ _ (({ dst := some 103, op := _, type := _, pos := _, after := _, guard := _ } : Oper) :: _) _ _); refine wpList_load_g (by rfl) 35 (.tmp 15) rfl _ 0 rfl (u8s t.d) _ (whole8b XG.out.2.2.2) Tryd.underlying35 rfl (by rw [u8s_length, hin.dl]; exact size_Drop) ?_) | ((with_reducible show wpList _ _ _ (({ dst := some 105, op := _, type := _, pos := _, after := _, guard := _ } : Oper) :: _) _ _); refine wpList_load_g (by rfl) 35 _ rfl w.heap.size 6 rfl (u8s t.d) _ XG.out.1.drop Tryd.underlying35 rfl (by rw [u8s_length, hin.dl]; exact size_Drop) ?_))
  refine (HE.out _ _ _ _ _ _ _ XG.out.2.2.1 XG.out.2.1).mono ?_
  rintro e wh ⟨rfl, lh⟩
  have XH : Hid (Bk w wh w2.heap.size t ∧ Seen wh (some ⟨ga, 0, none⟩) m us) := ⟨XG.out.1.later lh, XG.out.2.1.later lh (Nat.le_refl _)⟩
  have cb : wh.cell? ⟨w.heap.size, 22, none⟩ = some (.bool true) := by rw [← hb]; exact XH.out.1.there hin.dl
  clear XG lh
  go_wp2_with (first | ((with_reducible show wpList _ _ _ (({ dst := some 115, op := _, type := _, pos := _, after := _, guard := _ } : Oper) :: _) _ _); refine wpList_load_blk rfl 23 (.tmp 5) rfl _ rfl t.cf.cs _ XH.out.1.c Tryd.underlying23 rfl (cg_size t.cf) ?_))
  refine (HV.out _ _ _ XH.out.2).mono ?_
  rintro e wi ⟨vo3, cv3, rfl, si, li⟩
  have XI : Hid (Bk w wi w2.heap.size t ∧ Seen wi (some ⟨ga, 0, none⟩) m us ∧ Seen wi vo3 p (repB true m us)) := ⟨XH.out.1.later li, XH.out.2.later li (Nat.le_refl _), si⟩
  clear XH cb li si HV
  go_wp2_with (first | ((with_reducible show wpList _ _ _ (({ dst := some 123, op := _, type := _, pos := _, after := _, guard := _ } : Oper) :: _) _ _); refine wpList_load_blk rfl 23 (.tmp 5) rfl _ rfl t.cf.cs _ XI.out.1.c Tryd.underlying23 rfl (cg_size t.cf) ?_))
  refine (HW.out _ _ _ _ XI.out.2.2).mono ?_
  rintro e wj ⟨uo2, rfl, sj, lj⟩
  have XJ : Hid (Bk w wj w2.heap.size t ∧ Seen wj (some ⟨ga, 0, none⟩) m us ∧ Seen wj uo2 m ((repB true m us).drop 1)) := ⟨XI.out.1.later lj, XI.out.2.1.later lj (Nat.le_refl _), sj⟩
  have cb : wj.cell? ⟨w.heap.size, 22, none⟩ = some (.bool true) := by rw [← hb]; exact XJ.out.1.there hin.dl
  have cm : wj.cell? ⟨w2.heap.size, 1, none⟩ = some (.int .i64 (m : Int)) := by rw [HM.out]; exact XJ.out.1.msg
  clear XI lj sj HW
  go_wp2_with fail
  refine (HE.out _ _ _ _ _ _ _ (show Seen wj uo2 m us by have := XJ.out.2.2; simpa [repB] using this) XJ.out.2.1).mono ?_
  rintro e wk ⟨rfl, lk⟩
  have XK : Hid (Bk w wk w2.heap.size t) := XJ.out.1.later lk
  have cz := XK.out.more hin.dl
  clear XJ cb cm lk
  go_wp2_with fail
  refine (HS.out _ (hin.sz.later XK.out.bel (Nat.le_refl _))).mono ?_
  rintro e wl ⟨gl, rfl, ⟨vs, sl⟩, ll⟩
  have XL : Hid (Bk w wl w2.heap.size t ∧ Seen wl (some ⟨gl, 0, none⟩) 88 vs) := ⟨XK.out.later ll, sl⟩
  clear XK cz ll sl HS
  go_wp2_with (first | ((with_reducible show wpList _ _ _ (({ dst := some 172, op := _, type := _, pos := _, after := _, guard := _ } : Oper) :: _) _ _); refine wpList_load_blk rfl 23 (.tmp 5) rfl _ rfl t.cf.cs _ XL.out.1.c Tryd.underlying23 rfl (cg_size t.cf) ?_))
  refine (HQ2.out _).mono ?_
  rintro e wm ⟨rfl, lm⟩
  have XM : Hid (Bk w wm w2.heap.size t ∧ Seen wm (some ⟨gl, 0, none⟩) 88 vs) := ⟨XL.out.1.later lm, XL.out.2.later lm (Nat.le_refl _)⟩
  clear XL lm HQ2
  go_wp2_with (first | ((with_reducible show wpList _ _ _ (({ dst := some 177, op := _, type := _, pos := _, after := _, guard := _ } : Oper) :: _) _ _); refine wpList_load_blk rfl 23 (.tmp 5) rfl _ rfl t.cf.cs _ XM.out.1.c Tryd.underlying23 rfl (cg_size t.cf) ?_))
  refine (HR2.out _).mono ?_
  rintro e wn ⟨rfl, ln⟩
  have XN : Hid (Bk w wn w2.heap.size t ∧ Seen wn (some ⟨gl, 0, none⟩) 88 vs) := ⟨XM.out.1.later ln, XM.out.2.later ln (Nat.le_refl _)⟩
  clear XM ln HR2
  go_wp2_with (first | ((with_reducible show wpList _ _ _ (({ dst := some 182, op := _, type := _, pos := _, after := _, guard := _ } : Oper) :: _) _ _); refine wpList_load_blk rfl 23 (.tmp 5) rfl _ rfl t.cf.cs _ XN.out.1.c Tryd.underlying23 rfl (cg_size t.cf) ?_))
  cases hr : inB bu 0 (t.cf.bk - 1) with
  | false =>
    have hbk : 2 ≤ t.cf.bk := (ok_fields hok).2.2.1.1
    refine (dialRequest_bucket t.cf bu _ 88 88 hr hok _ (hg.later XN.out.1.bel (Nat.le_refl _))).mono ?_
    rintro e wo ⟨rfl, lo⟩
    have XO : Hid (Bk w wo w2.heap.size t) := XN.out.1.later lo
    have cx := XO.out.bks
    clear XN lo
    by_cases h0 : bu < 0
    · clear hr
      go_wp2_with fail
      go_ret
      exact ⟨rfl, XO.out.bel⟩
    · have h1 : t.cf.bk ≤ bu := by simp [inB] at hr; omega
      clear hr
      go_wp2_with fail
      go_ret
      exact ⟨rfl, XO.out.bel⟩
  | true =>
    have h0 : ¬ bu < 0 := by simp [inB] at hr; omega
    have h1 : ¬ t.cf.bk ≤ bu := by simp [inB] at hr; omega
    refine (back_dial t.cf hok bu hr vs _ _ XN.out.2).mono ?_
    rintro e wo ⟨vo4, cv4, rfl, so, lo⟩
    have HD : Hid (∀ W vo cv, Seen W vo 92 (leB 4 bu ++ vs) → Calls Tryd.prog 31 #[.agg t.cf.cs.toArray, .slice vo 92 cv] W fun e w' => ∃ uo, e = .returned (.tuple #[.int .i64 bu, .slice uo 88 88, .int .i64 0]) ∧ Seen w' uo 88 vs ∧ Below W.heap.size W w') := fun W vo cv => back_pdial t.cf hok bu hr vs W vo cv
    have XO : Hid (Bk w wo w2.heap.size t ∧ Seen wo (some ⟨gl, 0, none⟩) 88 vs ∧ Seen wo vo4 92 (leB 4 bu ++ vs)) := ⟨XN.out.1.later lo, XN.out.2.later lo (Nat.le_refl _), so⟩
    have cx := XO.out.1.bks
    clear XN lo so hr
    go_wp2_with (first | ((with_reducible show wpList _ _ _ (({ dst := some 204, op := _, type := _, pos := _, after := _, guard := _ } : Oper) :: _) _ _); refine wpList_load_blk rfl 23 (.tmp 5) rfl _ rfl t.cf.cs _ XO.out.1.c Tryd.underlying23 rfl (cg_size t.cf) ?_))
    refine (HD.out _ _ _ XO.out.2.2).mono ?_
    rintro e wp ⟨uo4, rfl, sp, lp⟩
    have XP : Hid (Bk w wp w2.heap.size t ∧ Seen wp (some ⟨gl, 0, none⟩) 88 vs ∧ Seen wp uo4 88 vs) := ⟨XO.out.1.later lp, XO.out.2.1.later lp (Nat.le_refl _), sp⟩
    clear XO cx lp sp HD
    go_wp2_with fail
    refine (HE.out _ _ _ _ _ _ _ XP.out.2.2 XP.out.2.1).mono ?_
    rintro e wq ⟨rfl, lq⟩
    have XQ : Hid (Bk w wq w2.heap.size t) := XP.out.1.later lq
    clear XP lq HE
    go_wp2_with fail
    refine (ack_any _).mono ?_
    rintro e wr ⟨rfl, sr, lr⟩
    have XR : Hid (Below w.heap.size w wr) := (XQ.out.later lr).bel
    clear XQ lr sr
    go_wp2_with fail
    go_ret
    exact ⟨rfl, XR.out⟩
set_option maxRecDepth 20000 in
set_option maxHeartbeats 8000000 in
theorem walk_false (t : Tk) (bu : Int) (w : World) (hin : TkIn w t) (hg : HdlAt w) (hok : t.cf.ok = true) (hb : t.b = false) : Calls Tryd.prog 7 #[.agg t.cs.toArray, .int .i64 bu] w fun e w' => e = .returned (.bool true) ∧ Below w.heap.size w w' := by
  have hcq : ∀ W, (binOp .neq 23 (.agg t.cf.cs.toArray) (.agg t.cf.cs.toArray)).run Tryd.prog W = .ok (.bool false) W := fun W => neq_cfg t.cf W
  obtain ⟨m, hm⟩ : ∃ m : Nat, (m : Int) = t.cf.ms := ⟨t.cf.ms.toNat, by have := ok_fields hok; omega⟩
  have hm5 : m ≤ 1000 := by have := ok_fields hok; omega
  obtain ⟨q, hq⟩ : ∃ q, 16 + m = q := ⟨_, rfl⟩
  obtain ⟨p, hp⟩ : ∃ p, 1 + m = p := ⟨_, rfl⟩
  have HP : Hid (∀ W, Calls Tryd.prog 8 #[.agg t.cf.cs.toArray] W (Ans W 24 (cfgB t.cf))) := fun W => back_put t.cf hok W
  have HC : Hid (∀ W, Calls Tryd.prog 10 #[.agg t.cf.cs.toArray] W fun e w' => e = .returned (.int .i64 0) ∧ Below W.heap.size W w') := fun W => ok_err hok ▸ check_any t.cf W
  have HA : Hid (∀ W vo cv, Seen W vo 24 (cfgB t.cf) → Calls Tryd.prog 46 #[.slice vo 24 cv] W fun e w' => e = .returned (.tuple #[.agg t.cf.cs.toArray, .int .i64 0]) ∧ Below W.heap.size W w') := fun W vo cv hs => back_parse t.cf hok W vo cv hs
  have HQ : Hid (∀ W, Calls Tryd.prog 13 #[.agg t.cf.cs.toArray, .int .i64 1] W fun e w' => e = .returned (.tuple #[.int .i64 (q : Int), .int .i64 0]) ∧ Below W.heap.size W w') := fun W => by
    have := requestSize_any t.cf 1 W
    rwa [show szQ t.cf 1 = (q : Int) by simp [szQ, hok]; omega, show szE t.cf 1 = 0 by simp [szE, hok]] at this
  have HR : Hid (∀ W, Calls Tryd.prog 15 #[.agg t.cf.cs.toArray, .int .i64 1] W fun e w' => e = .returned (.tuple #[.int .i64 (p : Int), .int .i64 0]) ∧ Below W.heap.size W w') := fun W => by
    have := replySize_any t.cf 1 W
    rwa [show szP t.cf 1 = (p : Int) by simp [szP, hok]; omega, show szE t.cf 1 = 0 by simp [szE, hok]] at this
  have HQ2 : Hid (∀ W, Calls Tryd.prog 13 #[.agg t.cf.cs.toArray, .int .i64 2] W fun e w' => e = .returned (.tuple #[.int .i64 92, .int .i64 0]) ∧ Below W.heap.size W w') := fun W => by
    have := requestSize_any t.cf 2 W
    rwa [show szQ t.cf 2 = 92 by simp [szQ, hok], show szE t.cf 2 = 0 by simp [szE, hok]] at this
  have HR2 : Hid (∀ W, Calls Tryd.prog 15 #[.agg t.cf.cs.toArray, .int .i64 2] W fun e w' => e = .returned (.tuple #[.int .i64 16, .int .i64 0]) ∧ Below W.heap.size W w') := fun W => by
    have := replySize_any t.cf 2 W
    rwa [show szP t.cf 2 = 16 by simp [szP, hok], show szE t.cf 2 = 0 by simp [szE, hok]] at this
  have HT : Hid (∀ W g us, Seen W (some ⟨g, 0, none⟩) m us → Calls Tryd.prog 20 #[.agg t.cf.cs.toArray, .agg (u8s t.d).toArray, .slice (some ⟨g, 0, none⟩) m m] W (Ans W q (t.d ++ us))) := fun W g us hs => hq ▸ back_req t.cf hok m hm t.d us hin.dl hin.db W g hs
  have HU : Hid (∀ W vo cv us, Seen W vo q (t.d ++ us) → Calls Tryd.prog 25 #[.agg t.cf.cs.toArray, .slice vo q cv] W fun e w' => ∃ uo, e = .returned (.tuple #[.agg (u8s t.d).toArray, .slice uo m m, .int .i64 0]) ∧ Seen w' uo m us ∧ Below W.heap.size W w') := fun W vo cv us => by subst hq; exact back_ptalk t.cf hok m hm t.d us hin.dl W vo cv
  have HV : Hid (∀ W g us, Seen W (some ⟨g, 0, none⟩) m us → Calls Tryd.prog 23 #[.agg t.cf.cs.toArray, .bool false, .slice (some ⟨g, 0, none⟩) m m] W (Ans W p (repB false m us))) := fun W g us hs => hp ▸ back_rep t.cf hok m hm false us W g hs
  have HW : Hid (∀ W vo cv us, Seen W vo p (repB false m us) → Calls Tryd.prog 27 #[.agg t.cf.cs.toArray, .slice vo p cv] W fun e w' => ∃ uo, e = .returned (.tuple #[.bool false, .slice uo m m, .int .i64 0]) ∧ Seen w' uo m ((repB false m us).drop 1) ∧ Below W.heap.size W w') := fun W vo cv us => by subst hp; exact back_prep t.cf hok m hm false us W vo cv
  have hdq : ∀ W, (binOp .neq 35 (.agg (u8s t.d).toArray) (.agg (u8s t.d).toArray)).run Tryd.prog W = .ok (.bool false) W := fun W => neq_drop t.d hin.dl W
  have rq : ((q : Int) != (q : Int)) = false := by simp
  have rp : ((p : Int) != (p : Int)) = false := by simp
  have HE : Hid (∀ W vo uo xs (n c1 c2 : Nat), Seen W vo n xs → Seen W uo n xs → Calls Tryd.prog 12 #[.slice vo n c1, .slice uo n c2] W fun e w' => e = .returned (.bool true) ∧ Below W.heap.size W w') := fun W vo uo xs n c1 c2 h1 h2 => (reqb_any vo uo n n c1 c2 xs xs W h1 h2).mono fun e w' h => by
    obtain ⟨rfl, k, rfl⟩ := h
    exact ⟨by rw [decide_eq_true rfl], below_dn (Below.refl _ _) k⟩
  have HS : Hid (∀ W, Seen W t.bo t.m t.zs → Calls Tryd.prog 47 #[.slice t.bo t.m t.e, .int .i64 88] W fun e w' => ∃ g, e = .returned (.slice (some ⟨g, 0, none⟩) 88 88) ∧ (∃ us, Seen w' (some ⟨g, 0, none⟩) 88 us) ∧ Below W.heap.size W w') := fun W h => sized_any t.bo t.m t.e t.zs 88 (by decide) W h
  have HM : Hid ((m : Int) = t.cf.ms) := hm
  clear hm hq hp
  go_enter Tryd.func7, Tryd.ntmps7
  go_wp2_with (first | ((with_reducible show wpList _ _ _ (({ dst := some 2, op := _, type := _, pos := _, after := _, guard := _ } : Oper) :: _) _ _); refine wpList_box_new rfl 37 _ rfl t.cs rfl ?_; intro w1 b1 s1 l1; have z1 : Hid (w1.heap.size = w.heap.size + 1) := s1; clear s1))
  refine (awake_any _).mono ?_
  rintro e w2 ⟨rfl, l2⟩
  have X2 : Hid (Blk w2 w.heap.size 37 t.cs ∧ Below w.heap.size w w2 ∧ w.heap.size < w2.heap.size) := ⟨b1.later l2 (by have := z1.out; omega), below_chain l1 l2 (by have := z1.out; omega), by have := z1.out; have := l2.size; omega⟩
  clear b1 l1 l2
  go_wp2_with (first | ((with_reducible show wpList _ _ _ (({ dst := some 23, op := _, type := _, pos := _, after := _, guard := _ } : Oper) :: _) _ _); refine wpList_load_mid rfl 23 _ rfl w.heap.size 0 rfl t.cf.cs _ (Blk.range (xs := []) (ys := t.cf.cs) (zs := u8s t.d ++ [.bool t.b, .slice t.ao t.n t.c, .slice t.bo t.m t.e]) X2.out.1) Tryd.underlying23 rfl (cg_size t.cf) ?_) | ((with_reducible show wpList _ _ _ (({ dst := some 5, op := _, type := _, pos := _, after := _, guard := _ } : Oper) :: _) _ _); refine wpList_alloc_new rfl 23 rfl 6 _ zero_Cfg ?_; intro w3 b3 s3 l3; have z3 : Hid (w3.heap.size = w2.heap.size + 1) := s3; clear s3) | (refine wpList_store_blk rfl 23 23 (.tmp 5) (.tmp 23) rfl _ rfl _ t.cf.cs rfl b3 (by rfl) (cg_size t.cf) (cg_one t.cf) ?_; intro w4 b4 s4 k4; have z4 : Hid (w4.heap.size = w3.heap.size) := s4; clear s4) | ((with_reducible show wpList _ _ _ (({ dst := some 25, op := _, type := _, pos := _, after := _, guard := _ } : Oper) :: _) _ _); refine wpList_load_blk rfl 23 (.tmp 5) rfl _ rfl t.cf.cs _ b4 Tryd.underlying23 rfl (cg_size t.cf) ?_))
  have X4 : Hid (Bk w w4 w2.heap.size t) := ⟨(X2.out.1.later l3 X2.out.2.2).kept k4 (by have := X2.out.2.2; omega), b4, below_kept (below_chain X2.out.2.1 l3 X2.out.2.1.size) k4 (by have := X2.out.2.1.size; have := z3.out; omega) (fun j hj => by have := X2.out.2.2; omega), X2.out.2.2⟩
  clear X2 l3 k4 b3 b4
  refine (HP.out _).mono ?_
  rintro e w5 ⟨vo, cv, rfl, s5, l5⟩
  have X5 : Hid (Bk w w5 w2.heap.size t ∧ Seen w5 vo 24 (cfgB t.cf)) := ⟨X4.out.later l5, s5⟩
  clear X4 l5 s5 HP
  go_wp2_with (first | ((with_reducible show wpList _ _ _ (({ dst := some 29, op := _, type := _, pos := _, after := _, guard := _ } : Oper) :: _) _ _); refine wpList_load_blk rfl 23 (.tmp 5) rfl _ rfl t.cf.cs _ X5.out.1.c Tryd.underlying23 rfl (cg_size t.cf) ?_))
  refine (HC.out _).mono ?_
  rintro e w6 ⟨rfl, l6⟩
  have X6 : Hid (Bk w w6 w2.heap.size t ∧ Seen w6 vo 24 (cfgB t.cf)) := ⟨X5.out.1.later l6, X5.out.2.later l6 (Nat.le_refl _)⟩
  clear X5 l6 HC
  go_wp2_with fail
  refine (HA.out _ _ _ X6.out.2).mono ?_
  rintro e w7 ⟨rfl, l7⟩
  have X7 : Hid (Bk w w7 w2.heap.size t) := X6.out.1.later l7
  clear X6 l7 HA
  go_wp2_with (first | ((with_reducible show wpList _ _ _ (({ dst := some 8, op := _, type := _, pos := _, after := _, guard := _ } : Oper) :: _) _ _); refine wpList_alloc_new rfl 23 rfl 6 _ zero_Cfg ?_; intro w8 b8 s8 l8; have z8 : Hid (w8.heap.size = w7.heap.size + 1) := s8; clear s8) | (refine wpList_store_blk rfl 23 23 (.tmp 8) (.tmp 42) rfl _ rfl _ t.cf.cs rfl b8 (by rfl) (cg_size t.cf) (cg_one t.cf) ?_; intro w9 b9 s9 k9; have z9 : Hid (w9.heap.size = w8.heap.size) := s9; clear s9; have X9 : Hid (Bk w w9 w2.heap.size t ∧ Blk w9 w7.heap.size 23 t.cf.cs) := ⟨(X7.out.later l8).kept k9 X7.out.c.lt, b9⟩; have cm9 : w9.cell? ⟨w2.heap.size, 1, none⟩ = some (.int .i64 (m : Int)) := (by rw [HM.out]; exact X9.out.1.msg); have ct9 := X9.out.1.text hin.dl; clear X7 l8 k9 b8 b9) | ((with_reducible show wpList _ _ _ (({ dst := some 51, op := _, type := _, pos := _, after := _, guard := _ } : Oper) :: _) _ _); refine wpList_load_g (by rfl) 23 (.tmp 8) rfl _ 0 rfl t.cf.cs _ (whole8b X9.out.2) Tryd.underlying23 rfl (cg_size t.cf) ?_) | ((with_reducible show wpList _ _ _ (({ dst := some 52, op := _, type := _, pos := _, after := _, guard := _ } : Oper) :: _) _ _); refine wpList_load_g (by rfl) 23 (.tmp 5) rfl _ 0 rfl t.cf.cs _ (whole8b X9.out.1.c) Tryd.underlying23 rfl (cg_size t.cf) ?_))
  refine (sized_any t.ao t.n t.c t.ms m hm5 _ (hin.sm.later X9.out.1.bel (Nat.le_refl _))).mono ?_
  rintro e wa ⟨ga, rfl, ⟨us, sa⟩, la⟩
  have XA : Hid (Bk w wa w2.heap.size t ∧ Seen wa (some ⟨ga, 0, none⟩) m us) := ⟨X9.out.1.later la, sa⟩
  clear X9 la sa cm9 ct9
  go_wp2_with (first | ((with_reducible show wpList _ _ _ (({ dst := some 66, op := _, type := _, pos := _, after := _, guard := _ } : Oper) :: _) _ _); refine wpList_load_blk rfl 23 (.tmp 5) rfl _ rfl t.cf.cs _ XA.out.1.c Tryd.underlying23 rfl (cg_size t.cf) ?_))
  refine (HQ.out _).mono ?_
  rintro e wb ⟨rfl, lb⟩
  have XB : Hid (Bk w wb w2.heap.size t ∧ Seen wb (some ⟨ga, 0, none⟩) m us) := ⟨XA.out.1.later lb, XA.out.2.later lb (Nat.le_refl _)⟩
  clear XA lb HQ
  go_wp2_with (first | ((with_reducible show wpList _ _ _ (({ dst := some 71, op := _, type := _, pos := _, after := _, guard := _ } : Oper) :: _) _ _); refine wpList_load_blk rfl 23 (.tmp 5) rfl _ rfl t.cf.cs _ XB.out.1.c Tryd.underlying23 rfl (cg_size t.cf) ?_))
  refine (HR.out _).mono ?_
  rintro e wc ⟨rfl, lc⟩
  have XC : Hid (Bk w wc w2.heap.size t ∧ Seen wc (some ⟨ga, 0, none⟩) m us) := ⟨XB.out.1.later lc, XB.out.2.later lc (Nat.le_refl _)⟩
  clear XB lc HR
  go_wp2_with (first | ((with_reducible show wpList _ _ _ (({ dst := some 76, op := _, type := _, pos := _, after := _, guard := _ } : Oper) :: _) _ _); refine wpList_load_blk rfl 23 (.tmp 5) rfl _ rfl t.cf.cs _ XC.out.1.c Tryd.underlying23 rfl (cg_size t.cf) ?_) | ((with_reducible show wpList _ _ _ (({ dst := some 78, op := _, type := _, pos := _, after := _, guard := _ } : Oper) :: _) _ _); refine wpList_load_mid rfl 35 _ rfl w.heap.size 6 rfl (u8s t.d) _ XC.out.1.drop Tryd.underlying35 rfl (by rw [u8s_length, hin.dl]; exact size_Drop) ?_))
  refine (HT.out _ _ _ XC.out.2).mono ?_
  rintro e wd ⟨vo2, cv2, rfl, sd, ld⟩
  have XD : Hid (Bk w wd w2.heap.size t ∧ Seen wd (some ⟨ga, 0, none⟩) m us ∧ Seen wd vo2 q (t.d ++ us)) := ⟨XC.out.1.later ld, XC.out.2.later ld (Nat.le_refl _), sd⟩
  clear XC ld sd HT
  go_wp2_with (first | ((with_reducible show wpList _ _ _ (({ dst := some 84, op := _, type := _, pos := _, after := _, guard := _ } : Oper) :: _) _ _); refine wpList_load_blk rfl 23 (.tmp 5) rfl _ rfl t.cf.cs _ XD.out.1.c Tryd.underlying23 rfl (cg_size t.cf) ?_))
  refine (HU.out _ _ _ _ XD.out.2.2).mono ?_
  rintro e we ⟨uo, rfl, se, le⟩
  have XE : Hid (Bk w we w2.heap.size t ∧ Seen we (some ⟨ga, 0, none⟩) m us ∧ Seen we uo m us) := ⟨XD.out.1.later le, XD.out.2.1.later le (Nat.le_refl _), se⟩
  clear XD le se HU
  go_wp2_with (first | ((with_reducible show wpList _ _ _ (({ dst := some 15, op := _, type := _, pos := _, after := _, guard := _ } : Oper) :: _) _ _); refine wpList_alloc_new rfl 35 rfl 16 _ zero_Drop ?_; intro wf bf sf lf; have zf : Hid (wf.heap.size = we.heap.size + 1) := sf; clear sf) | (refine wpList_store_blk rfl 35 35 (.tmp 15) (.tmp 87) rfl _ rfl _ (u8s t.d) rfl bf (by rw [u8s_length, hin.dl]; rfl) (by rw [u8s_length, hin.dl]; exact size_Drop) (u8s_one _) ?_; intro wg bg sg kg; have zg : Hid (wg.heap.size = wf.heap.size) := sg; clear sg; have XG : Hid (Bk w wg w2.heap.size t ∧ Seen wg (some ⟨ga, 0, none⟩) m us ∧ Seen wg uo m us ∧ Blk wg we.heap.size 35 (u8s t.d)) := ⟨(XE.out.1.later lf).kept kg XE.out.1.c.lt, seen_past XE.out.2.1 lf kg, seen_past XE.out.2.2 lf kg, bg⟩; clear XE lf kg bf bg) | ((with_reducible show wpList _ _ _ (({ dst := some 103, op := _, type := _, pos := _, after := _, guard := _ } : Oper) :: _) _ _); refine wpList_load_g (by rfl) 35 (.tmp 15) rfl _ 0 rfl (u8s t.d) _ (whole8b XG.out.2.2.2) Tryd.underlying35 rfl (by rw [u8s_length, hin.dl]; exact size_Drop) ?_) | ((with_reducible show wpList _ _ _ (({ dst := some 105, op := _, type := _, pos := _, after := _, guard := _ } : Oper) :: _) _ _); refine wpList_load_g (by rfl) 35 _ rfl w.heap.size 6 rfl (u8s t.d) _ XG.out.1.drop Tryd.underlying35 rfl (by rw [u8s_length, hin.dl]; exact size_Drop) ?_))
  refine (HE.out _ _ _ _ _ _ _ XG.out.2.2.1 XG.out.2.1).mono ?_
  rintro e wh ⟨rfl, lh⟩
  have XH : Hid (Bk w wh w2.heap.size t ∧ Seen wh (some ⟨ga, 0, none⟩) m us) := ⟨XG.out.1.later lh, XG.out.2.1.later lh (Nat.le_refl _)⟩
  have cb : wh.cell? ⟨w.heap.size, 22, none⟩ = some (.bool false) := by rw [← hb]; exact XH.out.1.there hin.dl
  clear XG lh
  go_wp2_with (first | ((with_reducible show wpList _ _ _ (({ dst := some 115, op := _, type := _, pos := _, after := _, guard := _ } : Oper) :: _) _ _); refine wpList_load_blk rfl 23 (.tmp 5) rfl _ rfl t.cf.cs _ XH.out.1.c Tryd.underlying23 rfl (cg_size t.cf) ?_))
  refine (HV.out _ _ _ XH.out.2).mono ?_
  rintro e wi ⟨vo3, cv3, rfl, si, li⟩
  have XI : Hid (Bk w wi w2.heap.size t ∧ Seen wi (some ⟨ga, 0, none⟩) m us ∧ Seen wi vo3 p (repB false m us)) := ⟨XH.out.1.later li, XH.out.2.later li (Nat.le_refl _), si⟩
  clear XH cb li si HV
  go_wp2_with (first | ((with_reducible show wpList _ _ _ (({ dst := some 123, op := _, type := _, pos := _, after := _, guard := _ } : Oper) :: _) _ _); refine wpList_load_blk rfl 23 (.tmp 5) rfl _ rfl t.cf.cs _ XI.out.1.c Tryd.underlying23 rfl (cg_size t.cf) ?_))
  refine (HW.out _ _ _ _ XI.out.2.2).mono ?_
  rintro e wj ⟨uo2, rfl, sj, lj⟩
  have XJ : Hid (Bk w wj w2.heap.size t ∧ Seen wj (some ⟨ga, 0, none⟩) m us ∧ Seen wj uo2 m ((repB false m us).drop 1)) := ⟨XI.out.1.later lj, XI.out.2.1.later lj (Nat.le_refl _), sj⟩
  have cb : wj.cell? ⟨w.heap.size, 22, none⟩ = some (.bool false) := by rw [← hb]; exact XJ.out.1.there hin.dl
  have cm : wj.cell? ⟨w2.heap.size, 1, none⟩ = some (.int .i64 (m : Int)) := by rw [HM.out]; exact XJ.out.1.msg
  clear XI lj sj HW
  obtain ⟨i0, hi, hz0, hz1, hz2⟩ := info_parts info_byte
  have hmk := run_make (P := Tryd.prog) wj 24 5 i0 (.int .u8 0) Tryd.underlying24 hi hz0 .i64 .i64 (m : Int) (m : Int) (by omega) (Int.le_refl _) (by rw [hz2]; omega) (by omega)
  rw [hz1, show ((m : Int).toNat) = m by omega, Nat.mul_one, show (Value.int .u8 0).cells = #[.int .u8 0] from rfl, made_zero8] at hmk
  obtain ⟨wz, hwz, HB⟩ : ∃ wz, wj.alloc (.cells (u8s (List.replicate m 0)).toArray 5) = wz ∧ Hid (Blk wz wj.heap.size 5 (u8s (List.replicate m 0)) ∧ Below wj.heap.size wj wz ∧ wz.heap.size = wj.heap.size + 1) := ⟨_, rfl, ⟨heap_alloc_new wj _, (Below.refl _ _).alloc (Nat.le_refl _) _, by simp⟩⟩
  rw [hwz] at hmk
  clear hwz hi hz0 hz1 hz2
  have F : Hid (Seen wz (some ⟨wj.heap.size, 0, none⟩) m (List.replicate m 0)) := ⟨by simp, by omega, fun z hz => by rw [List.eq_of_mem_replicate hz]; omega, fun _ => ⟨wj.heap.size, 0, rfl, HB.out.1.lt, fun i hi => by rw [Nat.zero_add, u8s_cell HB.out.1 i (by simpa using hi)]⟩⟩
  go_wp2_with fail
  refine (HE.out _ _ _ _ _ _ _ ((show Seen wj uo2 m (List.replicate m 0) by have := XJ.out.2.2; simpa [repB, Nat.add_comm 1 m, List.replicate_succ] using this).later HB.out.2.1 (Nat.le_refl _)) F.out).mono ?_
  rintro e wk ⟨rfl, lk0⟩
  have lk : Below wj.heap.size wj wk := below_chain HB.out.2.1 lk0 HB.out.2.1.size
  clear lk0 F HB hmk
  have XK : Hid (Bk w wk w2.heap.size t) := XJ.out.1.later lk
  have cz := XK.out.more hin.dl
  clear XJ cb cm lk
  go_wp2_with fail
  refine (HS.out _ (hin.sz.later XK.out.bel (Nat.le_refl _))).mono ?_
  rintro e wl ⟨gl, rfl, ⟨vs, sl⟩, ll⟩
  have XL : Hid (Bk w wl w2.heap.size t ∧ Seen wl (some ⟨gl, 0, none⟩) 88 vs) := ⟨XK.out.later ll, sl⟩
  clear XK cz ll sl HS
  go_wp2_with (first | ((with_reducible show wpList _ _ _ (({ dst := some 172, op := _, type := _, pos := _, after := _, guard := _ } : Oper) :: _) _ _); refine wpList_load_blk rfl 23 (.tmp 5) rfl _ rfl t.cf.cs _ XL.out.1.c Tryd.underlying23 rfl (cg_size t.cf) ?_))
  refine (HQ2.out _).mono ?_
  rintro e wm ⟨rfl, lm⟩
  have XM : Hid (Bk w wm w2.heap.size t ∧ Seen wm (some ⟨gl, 0, none⟩) 88 vs) := ⟨XL.out.1.later lm, XL.out.2.later lm (Nat.le_refl _)⟩
  clear XL lm HQ2
  go_wp2_with (first | ((with_reducible show wpList _ _ _ (({ dst := some 177, op := _, type := _, pos := _, after := _, guard := _ } : Oper) :: _) _ _); refine wpList_load_blk rfl 23 (.tmp 5) rfl _ rfl t.cf.cs _ XM.out.1.c Tryd.underlying23 rfl (cg_size t.cf) ?_))
  refine (HR2.out _).mono ?_
  rintro e wn ⟨rfl, ln⟩
  have XN : Hid (Bk w wn w2.heap.size t ∧ Seen wn (some ⟨gl, 0, none⟩) 88 vs) := ⟨XM.out.1.later ln, XM.out.2.later ln (Nat.le_refl _)⟩
  clear XM ln HR2
  go_wp2_with (first | ((with_reducible show wpList _ _ _ (({ dst := some 182, op := _, type := _, pos := _, after := _, guard := _ } : Oper) :: _) _ _); refine wpList_load_blk rfl 23 (.tmp 5) rfl _ rfl t.cf.cs _ XN.out.1.c Tryd.underlying23 rfl (cg_size t.cf) ?_))
  cases hr : inB bu 0 (t.cf.bk - 1) with
  | false =>
    have hbk : 2 ≤ t.cf.bk := (ok_fields hok).2.2.1.1
    refine (dialRequest_bucket t.cf bu _ 88 88 hr hok _ (hg.later XN.out.1.bel (Nat.le_refl _))).mono ?_
    rintro e wo ⟨rfl, lo⟩
    have XO : Hid (Bk w wo w2.heap.size t) := XN.out.1.later lo
    have cx := XO.out.bks
    clear XN lo
    by_cases h0 : bu < 0
    · clear hr
      go_wp2_with fail
      go_ret
      exact ⟨rfl, XO.out.bel⟩
    · have h1 : t.cf.bk ≤ bu := by simp [inB] at hr; omega
      clear hr
      go_wp2_with fail
      go_ret
      exact ⟨rfl, XO.out.bel⟩
  | true =>
    have h0 : ¬ bu < 0 := by simp [inB] at hr; omega
    have h1 : ¬ t.cf.bk ≤ bu := by simp [inB] at hr; omega
    refine (back_dial t.cf hok bu hr vs _ _ XN.out.2).mono ?_
    rintro e wo ⟨vo4, cv4, rfl, so, lo⟩
    have HD : Hid (∀ W vo cv, Seen W vo 92 (leB 4 bu ++ vs) → Calls Tryd.prog 31 #[.agg t.cf.cs.toArray, .slice vo 92 cv] W fun e w' => ∃ uo, e = .returned (.tuple #[.int .i64 bu, .slice uo 88 88, .int .i64 0]) ∧ Seen w' uo 88 vs ∧ Below W.heap.size W w') := fun W vo cv => back_pdial t.cf hok bu hr vs W vo cv
    have XO : Hid (Bk w wo w2.heap.size t ∧ Seen wo (some ⟨gl, 0, none⟩) 88 vs ∧ Seen wo vo4 92 (leB 4 bu ++ vs)) := ⟨XN.out.1.later lo, XN.out.2.later lo (Nat.le_refl _), so⟩
    have cx := XO.out.1.bks
    clear XN lo so hr
    go_wp2_with (first | ((with_reducible show wpList _ _ _ (({ dst := some 204, op := _, type := _, pos := _, after := _, guard := _ } : Oper) :: _) _ _); refine wpList_load_blk rfl 23 (.tmp 5) rfl _ rfl t.cf.cs _ XO.out.1.c Tryd.underlying23 rfl (cg_size t.cf) ?_))
    refine (HD.out _ _ _ XO.out.2.2).mono ?_
    rintro e wp ⟨uo4, rfl, sp, lp⟩
    have XP : Hid (Bk w wp w2.heap.size t ∧ Seen wp (some ⟨gl, 0, none⟩) 88 vs ∧ Seen wp uo4 88 vs) := ⟨XO.out.1.later lp, XO.out.2.1.later lp (Nat.le_refl _), sp⟩
    clear XO cx lp sp HD
    go_wp2_with fail
    refine (HE.out _ _ _ _ _ _ _ XP.out.2.2 XP.out.2.1).mono ?_
    rintro e wq ⟨rfl, lq⟩
    have XQ : Hid (Bk w wq w2.heap.size t) := XP.out.1.later lq
    clear XP lq HE
    go_wp2_with fail
    refine (ack_any _).mono ?_
    rintro e wr ⟨rfl, sr, lr⟩
    have XR : Hid (Below w.heap.size w wr) := (XQ.out.later lr).bel
    clear XQ lr sr
    go_wp2_with fail
    go_ret
    exact ⟨rfl, XR.out⟩
theorem walk (t : Tk) (bu : Int) (w : World) (hin : TkIn w t) (hg : HdlAt w) : Calls Tryd.prog 7 #[.agg t.cs.toArray, .int .i64 bu] w fun e w' => e = .returned (.bool true) ∧ Below w.heap.size w w' := by
  cases hok : t.cf.ok with
  | false => exact walk_bad t bu hok w
  | true =>
    cases hb : t.b with
    | false => exact walk_false t bu w hin hg hok hb
    | true => exact walk_true t bu w hin hg hok hb
end Go.Proofs.YtmgkjldjeomcmaaDoor.codecBack
