/- Layer host: HostHonest's walk (by tools/genhon11.py). -/
import Derived.Test.YtobcolpdkcppoaaHHm
import Derived.Test.YtobcolpdkcppoaaHAwake
import Derived.Deep.CutRange
import Derived.Deep.CutBlock
namespace Go.Proofs.Ytobcolpdkcppoaa
open Go.RowKit
set_option linter.unusedVariables false
set_option linter.unusedSimpArgs false

theorem sizeLife (p s : Int) (fv sv : Value) : (Try.prog.info? 25).map (·.size) = some (lifeC p s fv sv).length := by show _ = some 4; kernel_rfl

set_option maxRecDepth 20000 in
set_option maxHeartbeats 2000000 in
theorem hon_bad (pages size : Int) (fv sv : Value) (w : World) (hf : ¬ fitsP pages size) :
    Calls Try.prog 4 #[.agg (lifeC pages size fv sv).toArray] w fun e w' => e = .returned (.bool true) ∧ Below w.heap.size w w' := by
  have HF : Hid (¬ fitsP pages size) := hf
  have hd : decide (fitsP pages size) = false := decide_eq_false hf
  clear hf
  go_enter Try.func4, Try.ntmps4
  go_wp2_with (first | ((with_reducible show wpList _ _ _ (({ dst := some 1, op := _, type := _, pos := _, after := _, guard := _ } : Oper) :: _) _ _); refine wpList_box_new rfl 25 _ rfl (lifeC pages size fv sv) rfl ?_; intro w1 b1 s1 l1; clear s1) | (go_at_call 10; go_loud (refine (awake_any w1).mono ?_); rintro e w2 ⟨rfl, l2⟩; have c0 : w2.cell? ⟨w.heap.size, 0, none⟩ = some (.int .i64 pages) := (b1.later l2 b1.lt).cell 0; have c1 : w2.cell? ⟨w.heap.size, 1, none⟩ = some (.int .i64 size) := (b1.later l2 b1.lt).cell 1) | (go_at_call 11; go_loud (refine (new_bad pages size (.slice none 0 0) [] (fun _ => False) w2 (FlS.nil _ _) (fun h => HF.out h.1)).mono ?_); rintro e w3 ⟨rfl, l3⟩; have V3 : Hid (Below w.heap.size w w3 ∧ Blk w3 w.heap.size 25 (lifeC pages size fv sv)) := ⟨below_chain (below_chain l1 l2 l1.size) l3 (Nat.le_trans l1.size l2.size), (b1.later l2 b1.lt).later l3 (b1.later l2 b1.lt).lt⟩; clear l1 l2 l3 b1) | ((with_reducible show wpList _ _ _ (({ dst := some 25, op := _, type := _, pos := _, after := _, guard := _ } : Oper) :: _) _ _); refine wpList_load_blk rfl 25 (.tmp 1) rfl w.heap.size rfl (lifeC pages size fv sv) _ V3.out.2 Try.underlying25 rfl (sizeLife _ _ _ _) ?_) | (go_at_call 12; refine (fits_any pages size fv sv w3).mono ?_; rintro e w4 ⟨rfl, l4⟩))

  go_ret
  exact ⟨rfl, below_chain V3.out.1 l4 V3.out.1.size⟩

set_option maxRecDepth 20000 in
set_option maxHeartbeats 4000000 in
theorem hon_good (P Z : Nat) (fv : Value) (so : Option Addr) (n sc : Nat) (ss : List RS) (w : World) (hf : fitsP P Z) (x : RsS w (.slice so n sc) ss) (hs : ∀ r ∈ ss, Seen w r.a r.s.z.length r.s.z ∧ Word r.s.v) (hn : n < 2932031007402) :
    Calls Try.prog 4 #[.agg (lifeC P Z fv (.slice so n sc)).toArray] w fun e w' => e = .returned (.bool true) ∧ Below w.heap.size w w' := by
  have HF : Hid (fitsP P Z) := hf
  have hd : decide (fitsP P Z) = true := decide_eq_true hf
  have X : Hid (ss.length = n ∧ (∀ i, i < n → ∃ g o, so = some ⟨g, o, none⟩ ∧ g < w.heap.size ∧ w.rangeAt g (o + i * 4) (rsC (ss.getD i default))) ∧ ∀ r ∈ ss, Seen w r.a r.s.z.length r.s.z ∧ Word r.s.v) := by
    obtain ⟨a, c, e, hx⟩ := x
    cases e
    exact ⟨rfl, hx, hs⟩
  obtain ⟨lf, hlf⟩ : ∃ l, lifeC P Z fv (.slice so n sc) = l := ⟨_, rfl⟩
  clear x hs hf
  have LF : Hid (lifeC P Z fv (.slice so n sc) = lf) := hlf
  clear hlf
  go_enter Try.func4, Try.ntmps4
  go_wp2_with (first | ((with_reducible show wpList _ _ _ (({ dst := some 1, op := _, type := _, pos := _, after := _, guard := _ } : Oper) :: _) _ _); refine wpList_box_new rfl 25 _ rfl (lifeC P Z fv (.slice so n sc)) rfl ?_; intro w1 b1 s1 l1; have z1 : Hid (w1.heap.size = w.heap.size + 1) := s1; clear s1) | (go_at_call 10; go_loud (refine (awake_any w1).mono ?_); rintro e w2 ⟨rfl, l2⟩; have c0 : w2.cell? ⟨w.heap.size, 0, none⟩ = some (.int .i64 P) := (b1.later l2 b1.lt).cell 0; have c1 : w2.cell? ⟨w.heap.size, 1, none⟩ = some (.int .i64 Z) := (b1.later l2 b1.lt).cell 1) | (go_at_call 11; refine (new_good P Z (.slice none 0 0) [] (fun _ => False) w2 (FlS.nil _ _) (fun _ h => h.elim) (by simp) (by have := HF.out.2.1; omega) (by have := HF.out.2.2; omega) rfl).mono ?_; rintro e w3 ⟨h, rfl, y3, l3⟩; have V3 : Hid (Below w.heap.size w w3 ∧ Blk w3 w.heap.size 25 (lifeC P Z fv (.slice so n sc)) ∧ HostAt w3 (fun k => w2.heap.size ≤ k ∧ k < w3.heap.size) h (newS P Z []) ∧ w.heap.size < w2.heap.size) := ⟨below_chain (below_chain l1 l2 l1.size) l3 (Nat.le_trans l1.size l2.size), (b1.later l2 b1.lt).later l3 (b1.later l2 b1.lt).lt, y3, by have := l2.size; have := z1.out; omega⟩; clear l1 l2 l3 b1 y3) | ((with_reducible show wpList _ _ _ (({ dst := some 25, op := _, type := _, pos := _, after := _, guard := _ } : Oper) :: _) _ _); refine wpList_load_blk rfl 25 (.tmp 1) rfl w.heap.size rfl (lifeC P Z fv (.slice so n sc)) _ V3.out.2.1 Try.underlying25 rfl (sizeLife _ _ _ _) ?_) | (go_at_call 12; refine (fits_any P Z fv (.slice so n sc) w3).mono ?_; rintro e w4 ⟨rfl, l4⟩))
  have L0 : Hid (∃ s M, HostAt w4 M h s ∧ Hon s P Z [] ∧ s.ops ≤ 0 ∧ s.ops = s.log.length ∧ s.reg = 0 ∧ Lst w w4 M (.slice none 0 0) (.slice none 0 0) [] s.log lf) := by
    refine ⟨_, _, V3.out.2.2.1.later l4, hon_new P Z, Nat.le_refl _, rfl, rfl, ?_⟩
    refine ⟨fun j hj => Nat.lt_of_lt_of_le V3.out.2.2.2 hj.1, World.ownsRow_nil _ _ _ _, World.ownsRow_nil _ _ _ _, fun t ht => (by cases ht), fun g hg => (by cases hg), fun g hg => (by cases hg), fun r hr => (by cases hr), below_chain V3.out.1 l4 V3.out.1.size, ?_⟩
    rw [← LF.out]; exact V3.out.2.1.later l4 V3.out.2.1.lt
  clear V3 l4 c0 c1 hd
  go_loopw [5, 6, 7, 8] (fun rv lv rg i wr => ∃ (k : Nat) (s : HSt) (M : Nat → Prop) (rs : List RS) (rv' lv' : Value), k ≤ n ∧ i = .int .i64 k ∧ rg = .int .u64 s.reg ∧ rv' = rv ∧ lv' = lv ∧ HostAt wr M h s ∧ Hon s P Z rs ∧ s.ops ≤ k ∧ s.ops = s.log.length ∧ rs.length ≤ k ∧ Lst w wr M rv lv rs s.log lf) (fun _ _ _ i _ => n - (intOf i).toNat)
  case atStart =>
    obtain ⟨s, M, a1, a2, a3, a6, a4, a5⟩ := L0.out
    exact ⟨0, s, M, [], _, _, Nat.zero_le _, rfl, by rw [a4], rfl, rfl, a1, a2, a3, a6, Nat.le_refl _, a5⟩
  case round =>
    rename World => wq
    obtain ⟨k, s, M, rs, rv, lv, hk, rfl, rfl, rfl, rfl, y0, on0, ho0, hoe, hl0, L⟩ := hrel
    have c0 : wq.cell? ⟨w.heap.size, 0, none⟩ = some (.int .i64 P) := by have := L.life.cell 0; rw [← LF.out] at this; exact this
    have c1 : wq.cell? ⟨w.heap.size, 1, none⟩ = some (.int .i64 Z) := by have := L.life.cell 1; rw [← LF.out] at this; exact this
    have c3 : wq.cell? ⟨w.heap.size, 3, none⟩ = some (.slice so n sc) := by have := L.life.cell 3; rw [← LF.out] at this; exact this
    have A : Hid (HostAt wq M h s ∧ Hon s P Z rs ∧ s.ops ≤ k ∧ rs.length ≤ k ∧ Lst w wq M rv lv rs s.log lf ∧ k ≤ n ∧ n < 2932031007402 ∧ s.ops = s.log.length) := ⟨y0, on0, ho0, hl0, L, hk, hn, hoe⟩
    clear y0 on0 ho0 hl0 L hoe
    by_cases hlt : k < n
    · obtain ⟨g, o, rfl, hg, hr⟩ := X.out.2.1 k hlt
      obtain ⟨r, hre⟩ : ∃ r, ss.getD k default = r := ⟨_, rfl⟩
      have hmem : r ∈ ss := by
        have hj : k < ss.length := by rw [X.out.1]; exact hlt
        have e : ss.getD k default = ss[k] := by simp [List.getD, hj]
        rw [← hre, e]; exact List.getElem_mem hj
      rw [hre] at hr
      obtain ⟨t, ao, c⟩ := r
      have HR : Hid (wq.rangeAt g (o + k * 4) (stC t ao c) ∧ Seen w ao t.z.length t.z ∧ Word t.v ∧ k < n) := ⟨rangeAt_same hr (A.out.2.2.2.2.1.bel.block g hg), (X.out.2.2 _ hmem).1, (X.out.2.2 _ hmem).2, hlt⟩
      have i1 : (0 : Int) ≤ (k : Int) := by omega
      have i2 : (k : Int) < (n : Int) := by omega
      clear hre hr hmem hg hlt hk hn
      go_upto_region 15 with (first | ((with_reducible show wpList _ _ _ (({ dst := some 51, op := _, type := _, pos := _, after := _, guard := _ } : Oper) :: _) _ _); refine wpList_load_mid rfl 34 (.tmp 50) rfl g (o + k * 4) rfl (stC t ao c) _ HR.out.1 Try.underlying34 rfl (sizeSt _ _ _) ?_) | ((with_reducible show wpList _ _ _ (({ dst := some 9, op := _, type := _, pos := _, after := _, guard := _ } : Oper) :: _) _ _); refine wpList_alloc_new rfl 34 rfl 4 _ zeroSt ?_; intro w4 b4 s4 l4; have z4 : Hid (w4.heap.size = wq.heap.size + 1) := s4; clear s4) | (refine wpList_store_blk rfl 34 34 (.tmp 9) (.tmp 51) rfl _ rfl _ (stC t ao c) rfl b4 rfl (sizeSt _ _ _) (stC_one _ _ _) ?_; intro w5 b5 s5 k5; have z5 : Hid (w5.heap.size = w4.heap.size) := s5; clear s5))
      have V5 : Hid (Below wq.heap.size wq w5 ∧ Blk w5 wq.heap.size 34 (stC t ao c) ∧ w5.heap.size = wq.heap.size + 1) := ⟨below_kept l4 k5 (by have := z4.out; omega) (fun j hj => by omega), b5, by rw [z5.out, z4.out]⟩
      have lw : Hid (w.heap.size < wq.heap.size) := A.out.2.2.2.2.1.life.lt
      have e0 : w5.cell? ⟨w.heap.size, 0, none⟩ = some (.int .i64 P) := (V5.out.1.cell (p := ⟨w.heap.size, 0, none⟩) lw.out).trans c0
      have e1 : w5.cell? ⟨w.heap.size, 1, none⟩ = some (.int .i64 Z) := (V5.out.1.cell (p := ⟨w.heap.size, 1, none⟩) lw.out).trans c1
      have p0 : w5.cell? ⟨wq.heap.size, 0, none⟩ = some (.int .i64 t.d) := b5.cell 0
      have p1 : w5.cell? ⟨wq.heap.size, 1, none⟩ = some (.int .i64 t.p) := b5.cell 1
      clear b4 l4 b5 k5 z4 z5 c0 c1 c3
      simp only [Act.put, List.setIfInBounds_toArray, List.set_cons_zero, List.set_cons_succ]
      go_cut [10] from 40 to 167 (fun th wc => th = .bool (decide (0 ≤ t.p ∧ t.p < (P : Int))) ∧ w5 = wc)
      case first =>
        rcases (show t.p < 0 ∨ (0 ≤ t.p ∧ (P : Int) ≤ t.p) ∨ (0 ≤ t.p ∧ t.p < (P : Int)) by omega) with q | ⟨q, q'⟩ | ⟨q, q'⟩
        · go_wp2_with fail
          go_meet
          exact ⟨congrArg Value.bool (decide_eq_false (by omega)).symm, rfl⟩
        · go_wp2_with fail
          go_meet
          exact ⟨congrArg Value.bool (decide_eq_decide.2 (by omega)), rfl⟩
        · go_wp2_with fail
          go_meet
          exact ⟨congrArg Value.bool (decide_eq_true (by omega)).symm, rfl⟩
      case rest =>
      obtain ⟨rfl, rfl⟩ := hcut
      obtain ⟨th, hth⟩ : ∃ q, decide (0 ≤ t.p ∧ t.p < (P : Int)) = q := ⟨_, rfl⟩
      rw [hth]
      have HT : Hid (decide (0 ≤ t.p ∧ t.p < (P : Int)) = th) := hth
      clear hth
      go_upto_block 2 with (first | ((with_reducible show wpList _ _ _ (({ dst := some 63, op := _, type := _, pos := _, after := _, guard := _ } : Oper) :: _) _ _); refine wpList_load_blk rfl 34 (.tmp 9) rfl wq.heap.size rfl (stC t ao c) _ V5.out.2.1 Try.underlying34 rfl (sizeSt _ _ _) ?_) | (go_at_call 13; refine (told_any h s t ao c M w5 (A.out.1.later V5.out.1) (by have := A.out.2.2.1; have := A.out.2.2.2.2.2.1; have := A.out.2.2.2.2.2.2.1; omega) (HR.out.2.1.later (below_chain A.out.2.2.2.2.1.bel V5.out.1 A.out.2.2.2.2.1.bel.size) (Nat.le_refl _)) HR.out.2.2.1).mono ?_; rintro e w6 ⟨v6, M2, rfl, a6, y6, go6⟩; obtain ⟨va, vn, vc, rfl⟩ := a6.shape) | ((with_reducible show wpList _ _ _ (({ dst := some 11, op := _, type := _, pos := _, after := _, guard := _ } : Oper) :: _) _ _); refine wpList_alloc_new rfl 43 rfl 3 _ zeroTd ?_; intro w7 b7 s7 l7; have z7 : Hid (w7.heap.size = w6.heap.size + 1) := s7; clear s7) | (refine wpList_store_blk rfl 43 43 (.tmp 11) (.tmp 64) rfl _ rfl _ (tdC (.slice va vn vc) (tdV s t) (tdE s t)) rfl b7 rfl (sizeTd _ _ _) (tdC_one _ _ _ _ _) ?_; intro w8 b8 s8 k8; have z8 : Hid (w8.heap.size = w7.heap.size) := s8; clear s8) | ((with_reducible show wpList _ _ _ (({ dst := some 65, op := _, type := _, pos := _, after := _, guard := _ } : Oper) :: _) _ _); refine wpList_build rfl 43 _ rfl #[] (by simp) _ (build_td4 _) ?_) | ((with_reducible show wpList _ _ _ (({ dst := some 12, op := _, type := _, pos := _, after := _, guard := _ } : Oper) :: _) _ _); refine wpList_alloc_new rfl 43 rfl 3 _ zeroTd ?_; intro w9 b9 s9 l9; have z9 : Hid (w9.heap.size = w8.heap.size + 1) := s9; clear s9) | (refine wpList_store_blk rfl 43 43 (.tmp 12) (.tmp 65) rfl _ rfl _ (tdC (.slice none 0 0) 0 0) rfl b9 rfl (sizeTd _ _ _) (tdC_one _ _ _ _ _) ?_; intro w10 b10 s10 k10; have z10 : Hid (w10.heap.size = w9.heap.size) := s10; clear s10; have MD : Hid (Mid w w10 M2 h (tdS s t) rv lv rs s.log lf wq.heap.size w6.heap.size w8.heap.size (stC t ao c) (tdC (.slice va vn vc) (tdV s t) (tdE s t)) (tdC (.slice none 0 0) 0 0) (.slice va vn vc) (tdB s t) (.slice none 0 0) []) := mid_mk A.out.2.2.2.2.1 A.out.1 V5.out.1 V5.out.2.1 a6 y6 go6 (below_kept l7 k8 (by have := z7.out; omega) (fun j hj => by omega)) b8 (below_kept l9 k10 (by have := z9.out; omega) (fun j hj => by omega)) b10; have d0 : w10.cell? ⟨wq.heap.size, 0, none⟩ = some (.int .i64 t.d) := MD.out.b9.cell 0))
      clear a6 y6 go6 b7 l7 k8 b8 l9 b9 k10 b10 z7 z8 z9 z10 e0 e1 p0 p1 V5
      have d1 : w10.cell? ⟨wq.heap.size, 1, none⟩ = some (.int .i64 t.p) := MD.out.b9.cell 1
      have d2 : w10.cell? ⟨wq.heap.size, 2, none⟩ = some (.int .u64 t.v) := MD.out.b9.cell 2
      have d3 : w10.cell? ⟨wq.heap.size, 3, none⟩ = some (.slice ao t.z.length c) := MD.out.b9.cell 3
      have f1 : w10.cell? ⟨w.heap.size, 1, none⟩ = some (.int .i64 Z) := by have := MD.out.lst.life.cell 1; rw [← LF.out] at this; exact this
      have n0 : w10.cell? ⟨w8.heap.size, 0, none⟩ = some (.slice none 0 0) := MD.out.b12.cell 0
      have n1 : w10.cell? ⟨w8.heap.size, 1, none⟩ = some (.int .u64 0) := MD.out.b12.cell 1
      have n2 : w10.cell? ⟨w8.heap.size, 2, none⟩ = some (.int .i64 0) := MD.out.b12.cell 2
      have z0 : w10.frozen? ⟨w8.heap.size, 0, none⟩ = false := MD.out.b12.frozen 0
      have z1 : w10.frozen? ⟨w8.heap.size, 1, none⟩ = false := MD.out.b12.frozen 1
      have z2 : w10.frozen? ⟨w8.heap.size, 2, none⟩ = false := MD.out.b12.frozen 2
      have B : Hid (s.ops = s.log.length ∧ s.ops ≤ k ∧ rs.length ≤ k ∧ s.log.length < 2932031007402 ∧ rs.length < 2932031007402) := ⟨A.out.2.2.2.2.2.2.2, A.out.2.2.1, A.out.2.2.2.1, by have := A.out; omega, by have := A.out; omega⟩
      go_cut [5, 6, 7] from 40 to 167 (fun rv' lv' rg' wc => CutR w M2 h s t P Z k lf wq.heap.size w6.heap.size w8.heap.size (stC t ao c) (tdC (.slice va vn vc) (tdV s t) (tdE s t)) (.slice va vn vc) rv' lv' rg' wc)
      case first =>
        rcases (show t.d = 1 ∨ t.d = 7 ∨ t.d = 2 ∨ t.d = 3 ∨ t.d = 4 ∨ (t.d ≠ 1 ∧ t.d ≠ 2 ∧ t.d ≠ 3 ∧ t.d ≠ 4 ∧ t.d ≠ 7) by omega) with hd | hd | hd | hd | hd | hd
        · have q1 : (t.d == 1) = true := by simp [hd]
          have q7 : (t.d == 7) = false := by simp [hd]
          have q2 : (t.d == 2) = false := by simp [hd]
          have q3 : (t.d == 3) = false := by simp [hd]
          have q4 : (t.d == 4) = false := by simp [hd]
          have HD : Hid (t.d = 1) := hd
          clear hd
          cases th
          · have HP : Hid (¬ (0 ≤ t.p ∧ t.p < (P : Int))) := of_decide_eq_false HT.out
            go_upto_region 22 with (go_at_call 14; refine (last_any rv rs t.p Z (by have := HF.out.2.2.2; omega) w10 (rss_own MD.out.lst.rows) (by have := B.out; omega) (fun r hr => (MD.out.lst.sub r hr).later MD.out.lst.bel (Nat.le_refl _))).mono ?_; rintro e w11 ⟨a1, c1, rfl, s1, l11, o1⟩; have M1 : Hid (Mid w w11 M2 h (tdS s t) rv lv rs s.log lf wq.heap.size w6.heap.size w8.heap.size (stC t ao c) (tdC (.slice va vn vc) (tdV s t) (tdE s t)) (tdC (.slice none 0 0) 0 0) (.slice va vn vc) (tdB s t) (.slice a1 (lastZ rs t.p Z).length c1) (lastZ rs t.p Z)) := MD.out.ans l11 (want_of MD.out.lst.bel MD.out.lst.sub o1); clear s1 l11 o1; have n0' : w11.cell? ⟨w8.heap.size, 0, none⟩ = some (.slice none 0 0) := M1.out.b12.cell 0; have z0' : w11.frozen? ⟨w8.heap.size, 0, none⟩ = false := M1.out.b12.frozen 0)
            obtain ⟨w12, hw12⟩ : ∃ q, w11.setCell ⟨w8.heap.size, 0, none⟩ (.slice a1 (lastZ rs t.p Z).length c1) = q := ⟨_, rfl⟩
            have M12 : Hid (Mid w w12 M2 h (tdS s t) rv lv rs s.log lf wq.heap.size w6.heap.size w8.heap.size (stC t ao c) (tdC (.slice va vn vc) (tdV s t) (tdE s t)) (tdC (.slice a1 (lastZ rs t.p Z).length c1) 0 0) (.slice va vn vc) (tdB s t) (.slice a1 (lastZ rs t.p Z).length c1) (lastZ rs t.p Z)) := by rw [← hw12]; exact M1.out.set 0 _
            rw [hw12]
            clear hw12 n0' z0' n0 n1 n2 z0 z1 z2 d0 d1 d2 d3 f1
            have d0 : w12.cell? ⟨wq.heap.size, 0, none⟩ = some (.int .i64 t.d) := M12.out.b9.cell 0
            have d1 : w12.cell? ⟨wq.heap.size, 1, none⟩ = some (.int .i64 t.p) := M12.out.b9.cell 1
            have f1 : w12.cell? ⟨w.heap.size, 1, none⟩ = some (.int .i64 Z) := by have := M12.out.lst.life.cell 1; rw [← LF.out] at this; exact this
            have n0 : w12.cell? ⟨w8.heap.size, 0, none⟩ = some (.slice a1 (lastZ rs t.p Z).length c1) := M12.out.b12.cell 0
            have z0 : w12.frozen? ⟨w8.heap.size, 0, none⟩ = false := M12.out.b12.frozen 0
            go_upto_region 26 with fail
            obtain ⟨w13, hw13⟩ : ∃ q, w12.setCell ⟨w8.heap.size, 0, none⟩ (.slice none 0 0) = q := ⟨_, rfl⟩
            have M13 : Hid (Mid w w13 M2 h (tdS s t) rv lv rs s.log lf wq.heap.size w6.heap.size w8.heap.size (stC t ao c) (tdC (.slice va vn vc) (tdV s t) (tdE s t)) (tdC (.slice none 0 0) 0 0) (.slice va vn vc) (tdB s t) (.slice none 0 0) []) := by rw [← hw13]; exact (M12.out.set 0 (.slice none 0 0)).nil
            rw [hw13]
            clear hw13 n0 z0 d0 d1 f1
            have d0 : w13.cell? ⟨wq.heap.size, 0, none⟩ = some (.int .i64 t.d) := M13.out.b9.cell 0
            have n2 : w13.cell? ⟨w8.heap.size, 2, none⟩ = some (.int .i64 0) := M13.out.b12.cell 2
            have z2 : w13.frozen? ⟨w8.heap.size, 2, none⟩ = false := M13.out.b12.frozen 2
            go_wp2_with fail
            go_meet
            exact cut_mk (st1F A.out.2.1 HD.out HP.out) B.out.1 B.out.2.1 (by simp) (by have := B.out; omega) rfl (by rw [List.append_nil]; exact M13.out.set 2 (.int .i64 2))
          · have HP : Hid (0 ≤ t.p ∧ t.p < (P : Int)) := (of_decide_eq_true HT.out : 0 ≤ t.p ∧ t.p < (P : Int))
            go_upto_region 22 with (go_at_call 14; refine (last_any rv rs t.p Z (by have := HF.out.2.2.2; omega) w10 (rss_own MD.out.lst.rows) (by have := B.out; omega) (fun r hr => (MD.out.lst.sub r hr).later MD.out.lst.bel (Nat.le_refl _))).mono ?_; rintro e w11 ⟨a1, c1, rfl, s1, l11, o1⟩; have M1 : Hid (Mid w w11 M2 h (tdS s t) rv lv rs s.log lf wq.heap.size w6.heap.size w8.heap.size (stC t ao c) (tdC (.slice va vn vc) (tdV s t) (tdE s t)) (tdC (.slice none 0 0) 0 0) (.slice va vn vc) (tdB s t) (.slice a1 (lastZ rs t.p Z).length c1) (lastZ rs t.p Z)) := MD.out.ans l11 (want_of MD.out.lst.bel MD.out.lst.sub o1); clear s1 l11 o1; have n0' : w11.cell? ⟨w8.heap.size, 0, none⟩ = some (.slice none 0 0) := M1.out.b12.cell 0; have z0' : w11.frozen? ⟨w8.heap.size, 0, none⟩ = false := M1.out.b12.frozen 0)
            obtain ⟨w12, hw12⟩ : ∃ q, w11.setCell ⟨w8.heap.size, 0, none⟩ (.slice a1 (lastZ rs t.p Z).length c1) = q := ⟨_, rfl⟩
            have M12 : Hid (Mid w w12 M2 h (tdS s t) rv lv rs s.log lf wq.heap.size w6.heap.size w8.heap.size (stC t ao c) (tdC (.slice va vn vc) (tdV s t) (tdE s t)) (tdC (.slice a1 (lastZ rs t.p Z).length c1) 0 0) (.slice va vn vc) (tdB s t) (.slice a1 (lastZ rs t.p Z).length c1) (lastZ rs t.p Z)) := by rw [← hw12]; exact M1.out.set 0 _
            rw [hw12]
            clear hw12 n0' z0' n0 n1 n2 z0 z1 z2 d0 d1 d2 d3 f1
            have d0 : w12.cell? ⟨wq.heap.size, 0, none⟩ = some (.int .i64 t.d) := M12.out.b9.cell 0
            have d1 : w12.cell? ⟨wq.heap.size, 1, none⟩ = some (.int .i64 t.p) := M12.out.b9.cell 1
            have f1 : w12.cell? ⟨w.heap.size, 1, none⟩ = some (.int .i64 Z) := by have := M12.out.lst.life.cell 1; rw [← LF.out] at this; exact this
            have n0 : w12.cell? ⟨w8.heap.size, 0, none⟩ = some (.slice a1 (lastZ rs t.p Z).length c1) := M12.out.b12.cell 0
            have z0 : w12.frozen? ⟨w8.heap.size, 0, none⟩ = false := M12.out.b12.frozen 0
            go_upto_region 23 with fail
            obtain ⟨lv', w14, hr14, m14, _⟩ := M12.out.logged (⟨0, t.p, Z, List.replicate 12 0⟩) rfl (by have := B.out; omega)
            have MF : Hid _ := m14
            clear m14
            go_wp2_with (first | ((with_reducible show wpList _ _ _ (({ dst := some 89, op := _, type := _, pos := _, after := _, guard := _ } : Oper) :: _) _ _); refine wpList_build rfl 49 _ rfl #[(0, .int .i64 0), (1, .int .i64 t.p), (2, .int .i64 Z)] (by simp [Act.eval, Act.put]) _ (build_t3 0 t.p Z _) ?_) | ((with_reducible show wpList _ _ _ (({ dst := some 90, op := _, type := _, pos := _, after := _, guard := _ } : Oper) :: _) _ _); refine wpList_bs rfl 41 1 _ rfl #[(0, .agg (tcC (⟨0, t.p, Z, List.replicate 12 0⟩)).toArray)] (by simp [Act.eval, Act.put]) _ _ (build1_tc (⟨0, t.p, Z, List.replicate 12 0⟩) rfl _) ?_) | (at_builtin; refine wpList_append_run rfl _ _ 41 41 rfl rfl lv _ rfl rfl _ w14 hr14 ?_))
            go_meet
            exact cut_mk (st1T A.out.2.1 HD.out HP.out) B.out.1 B.out.2.1 (by simp) (by have := B.out; omega) rfl MF.out
        · have q1 : (t.d == 1) = false := by simp [hd]
          have q7 : (t.d == 7) = true := by simp [hd]
          have q2 : (t.d == 2) = false := by simp [hd]
          have q3 : (t.d == 3) = false := by simp [hd]
          have q4 : (t.d == 4) = false := by simp [hd]
          have HD : Hid (t.d = 7) := hd
          clear hd
          cases th
          · have HP : Hid (¬ (0 ≤ t.p ∧ t.p < (P : Int))) := of_decide_eq_false HT.out
            go_upto_region 22 with (go_at_call 14; refine (last_any rv rs t.p Z (by have := HF.out.2.2.2; omega) w10 (rss_own MD.out.lst.rows) (by have := B.out; omega) (fun r hr => (MD.out.lst.sub r hr).later MD.out.lst.bel (Nat.le_refl _))).mono ?_; rintro e w11 ⟨a1, c1, rfl, s1, l11, o1⟩; have M1 : Hid (Mid w w11 M2 h (tdS s t) rv lv rs s.log lf wq.heap.size w6.heap.size w8.heap.size (stC t ao c) (tdC (.slice va vn vc) (tdV s t) (tdE s t)) (tdC (.slice none 0 0) 0 0) (.slice va vn vc) (tdB s t) (.slice a1 (lastZ rs t.p Z).length c1) (lastZ rs t.p Z)) := MD.out.ans l11 (want_of MD.out.lst.bel MD.out.lst.sub o1); clear s1 l11 o1; have n0' : w11.cell? ⟨w8.heap.size, 0, none⟩ = some (.slice none 0 0) := M1.out.b12.cell 0; have z0' : w11.frozen? ⟨w8.heap.size, 0, none⟩ = false := M1.out.b12.frozen 0)
            obtain ⟨w12, hw12⟩ : ∃ q, w11.setCell ⟨w8.heap.size, 0, none⟩ (.slice a1 (lastZ rs t.p Z).length c1) = q := ⟨_, rfl⟩
            have M12 : Hid (Mid w w12 M2 h (tdS s t) rv lv rs s.log lf wq.heap.size w6.heap.size w8.heap.size (stC t ao c) (tdC (.slice va vn vc) (tdV s t) (tdE s t)) (tdC (.slice a1 (lastZ rs t.p Z).length c1) 0 0) (.slice va vn vc) (tdB s t) (.slice a1 (lastZ rs t.p Z).length c1) (lastZ rs t.p Z)) := by rw [← hw12]; exact M1.out.set 0 _
            rw [hw12]
            clear hw12 n0' z0' n0 n1 n2 z0 z1 z2 d0 d1 d2 d3 f1
            have d0 : w12.cell? ⟨wq.heap.size, 0, none⟩ = some (.int .i64 t.d) := M12.out.b9.cell 0
            have d1 : w12.cell? ⟨wq.heap.size, 1, none⟩ = some (.int .i64 t.p) := M12.out.b9.cell 1
            have f1 : w12.cell? ⟨w.heap.size, 1, none⟩ = some (.int .i64 Z) := by have := M12.out.lst.life.cell 1; rw [← LF.out] at this; exact this
            have n0 : w12.cell? ⟨w8.heap.size, 0, none⟩ = some (.slice a1 (lastZ rs t.p Z).length c1) := M12.out.b12.cell 0
            have z0 : w12.frozen? ⟨w8.heap.size, 0, none⟩ = false := M12.out.b12.frozen 0
            go_upto_region 26 with fail
            obtain ⟨w13, hw13⟩ : ∃ q, w12.setCell ⟨w8.heap.size, 0, none⟩ (.slice none 0 0) = q := ⟨_, rfl⟩
            have M13 : Hid (Mid w w13 M2 h (tdS s t) rv lv rs s.log lf wq.heap.size w6.heap.size w8.heap.size (stC t ao c) (tdC (.slice va vn vc) (tdV s t) (tdE s t)) (tdC (.slice none 0 0) 0 0) (.slice va vn vc) (tdB s t) (.slice none 0 0) []) := by rw [← hw13]; exact (M12.out.set 0 (.slice none 0 0)).nil
            rw [hw13]
            clear hw13 n0 z0 d0 d1 f1
            have d0 : w13.cell? ⟨wq.heap.size, 0, none⟩ = some (.int .i64 t.d) := M13.out.b9.cell 0
            have n2 : w13.cell? ⟨w8.heap.size, 2, none⟩ = some (.int .i64 0) := M13.out.b12.cell 2
            have z2 : w13.frozen? ⟨w8.heap.size, 2, none⟩ = false := M13.out.b12.frozen 2
            go_wp2_with fail
            go_meet
            exact cut_mk (st7F A.out.2.1 HD.out HP.out) B.out.1 B.out.2.1 (by simp) (by have := B.out; omega) rfl (by rw [List.append_nil]; exact M13.out)
          · have HP : Hid (0 ≤ t.p ∧ t.p < (P : Int)) := (of_decide_eq_true HT.out : 0 ≤ t.p ∧ t.p < (P : Int))
            go_upto_region 22 with (go_at_call 14; refine (last_any rv rs t.p Z (by have := HF.out.2.2.2; omega) w10 (rss_own MD.out.lst.rows) (by have := B.out; omega) (fun r hr => (MD.out.lst.sub r hr).later MD.out.lst.bel (Nat.le_refl _))).mono ?_; rintro e w11 ⟨a1, c1, rfl, s1, l11, o1⟩; have M1 : Hid (Mid w w11 M2 h (tdS s t) rv lv rs s.log lf wq.heap.size w6.heap.size w8.heap.size (stC t ao c) (tdC (.slice va vn vc) (tdV s t) (tdE s t)) (tdC (.slice none 0 0) 0 0) (.slice va vn vc) (tdB s t) (.slice a1 (lastZ rs t.p Z).length c1) (lastZ rs t.p Z)) := MD.out.ans l11 (want_of MD.out.lst.bel MD.out.lst.sub o1); clear s1 l11 o1; have n0' : w11.cell? ⟨w8.heap.size, 0, none⟩ = some (.slice none 0 0) := M1.out.b12.cell 0; have z0' : w11.frozen? ⟨w8.heap.size, 0, none⟩ = false := M1.out.b12.frozen 0)
            obtain ⟨w12, hw12⟩ : ∃ q, w11.setCell ⟨w8.heap.size, 0, none⟩ (.slice a1 (lastZ rs t.p Z).length c1) = q := ⟨_, rfl⟩
            have M12 : Hid (Mid w w12 M2 h (tdS s t) rv lv rs s.log lf wq.heap.size w6.heap.size w8.heap.size (stC t ao c) (tdC (.slice va vn vc) (tdV s t) (tdE s t)) (tdC (.slice a1 (lastZ rs t.p Z).length c1) 0 0) (.slice va vn vc) (tdB s t) (.slice a1 (lastZ rs t.p Z).length c1) (lastZ rs t.p Z)) := by rw [← hw12]; exact M1.out.set 0 _
            rw [hw12]
            clear hw12 n0' z0' n0 n1 n2 z0 z1 z2 d0 d1 d2 d3 f1
            have d0 : w12.cell? ⟨wq.heap.size, 0, none⟩ = some (.int .i64 t.d) := M12.out.b9.cell 0
            have d1 : w12.cell? ⟨wq.heap.size, 1, none⟩ = some (.int .i64 t.p) := M12.out.b9.cell 1
            have f1 : w12.cell? ⟨w.heap.size, 1, none⟩ = some (.int .i64 Z) := by have := M12.out.lst.life.cell 1; rw [← LF.out] at this; exact this
            have n0 : w12.cell? ⟨w8.heap.size, 0, none⟩ = some (.slice a1 (lastZ rs t.p Z).length c1) := M12.out.b12.cell 0
            have z0 : w12.frozen? ⟨w8.heap.size, 0, none⟩ = false := M12.out.b12.frozen 0
            go_wp2_with fail
            go_meet
            exact cut_mk (st7T A.out.2.1 HD.out HP.out) B.out.1 B.out.2.1 (by simp) (by have := B.out; omega) rfl (by rw [List.append_nil]; exact M12.out)
        · have q1 : (t.d == 1) = false := by simp [hd]
          have q7 : (t.d == 7) = false := by simp [hd]
          have q2 : (t.d == 2) = true := by simp [hd]
          have q3 : (t.d == 3) = false := by simp [hd]
          have q4 : (t.d == 4) = false := by simp [hd]
          have HD : Hid (t.d = 2) := hd
          clear hd
          cases th
          · have HP : Hid (¬ (0 ≤ t.p ∧ t.p < (P : Int))) := of_decide_eq_false HT.out
            go_wp2_with fail
            go_meet
            exact cut_mk (st2a A.out.2.1 HD.out HP.out) B.out.1 B.out.2.1 (by simp) (by have := B.out; omega) rfl (by rw [List.append_nil]; exact MD.out.set 2 (.int .i64 2))
          · have HP : Hid (0 ≤ t.p ∧ t.p < (P : Int)) := (of_decide_eq_true HT.out : 0 ≤ t.p ∧ t.p < (P : Int))
            by_cases hz : t.z.length = Z
            · have HZ : Hid (t.z.length = Z) := hz
              have qz : ((t.z.length : Int) != (Z : Int)) = false := by simp; omega
              clear hz
              obtain ⟨rv', w11, hr11, m11, _⟩ := MD.out.wrote ⟨t, ao, c⟩ HR.out.2.1 (by have := B.out; omega)
              have M11 : Hid (Mid w w11 M2 h (tdS s t) rv' lv (rs ++ [⟨t, ao, c⟩]) s.log lf wq.heap.size w6.heap.size w8.heap.size (stC t ao c) (tdC (.slice va vn vc) (tdV s t) (tdE s t)) (tdC (.slice none 0 0) 0 0) (.slice va vn vc) (tdB s t) (.slice none 0 0) []) := m11
              clear m11
              have BB : Hid (Blk w10 wq.heap.size 34 (rsC ⟨t, ao, c⟩)) := MD.out.b9
              go_upto_region 34 with (first | ((with_reducible show wpList _ _ _ (({ dst := some 112, op := _, type := _, pos := _, after := _, guard := _ } : Oper) :: _) _ _); refine wpList_load_blk rfl 34 (.tmp 9) rfl wq.heap.size rfl (rsC ⟨t, ao, c⟩) _ BB.out Try.underlying34 rfl (sizeSt _ _ _) ?_) | ((with_reducible show wpList _ _ _ (({ dst := some 113, op := _, type := _, pos := _, after := _, guard := _ } : Oper) :: _) _ _); refine wpList_bs rfl 23 1 _ rfl #[(0, .agg (rsC ⟨t, ao, c⟩).toArray)] (by simp [Act.eval, Act.put]) _ _ (build1_rs ⟨t, ao, c⟩ _) ?_) | (at_builtin; refine wpList_append_run rfl _ _ 23 23 rfl rfl rv _ rfl rfl _ w11 hr11 ?_))
              clear n0 n1 n2 z0 z1 z2 d0 d1 d2 d3 f1 hr11
              have d1 : w11.cell? ⟨wq.heap.size, 1, none⟩ = some (.int .i64 t.p) := M11.out.b9.cell 1
              have f1 : w11.cell? ⟨w.heap.size, 1, none⟩ = some (.int .i64 Z) := by have := M11.out.lst.life.cell 1; rw [← LF.out] at this; exact this
              go_wp2_with (first | ((with_reducible show wpList _ _ _ (({ dst := some 119, op := _, type := _, pos := _, after := _, guard := _ } : Oper) :: _) _ _); refine wpList_build rfl 49 _ rfl #[(0, .int .i64 1), (1, .int .i64 t.p), (2, .int .i64 Z)] (by simp [Act.eval, Act.put]) _ (build_t3 1 t.p Z _) ?_) | ((with_reducible show wpList _ _ _ (({ dst := some 13, op := _, type := _, pos := _, after := _, guard := _ } : Oper) :: _) _ _); refine wpList_alloc_new rfl 49 rfl 15 _ zeroTc ?_; intro w12 b12 s12 l12; have z12 : Hid (w12.heap.size = w11.heap.size + 1) := s12; clear s12) | (refine wpList_store_blk rfl 49 49 (.tmp 13) (.tmp 119) rfl _ rfl _ (tcC ⟨1, t.p, Z, List.replicate 12 0⟩) rfl b12 rfl (sizeTc rfl) (tcC_one _) ?_; intro w13 b13 s13 k13; clear s13))
              have L13 : Hid (Below w11.heap.size w11 w13 ∧ Blk w13 w11.heap.size 49 (tcC ⟨1, t.p, Z, List.replicate 12 0⟩)) := ⟨below_kept l12 k13 (by have := z12.out; omega) (fun j hj => by omega), b13⟩
              have NN : Hid (¬ M2 w11.heap.size ∧ lv.ownBlock ≠ some w11.heap.size ∧ w.heap.size < w11.heap.size) := ⟨fun e => (by have := M11.out.low _ e; omega), fun e => (by have := (M11.out.lst.log.lt _ e).2; omega), M11.out.lst.life.lt⟩
              clear b12 l12 b13 k13 z12 d1 f1
              go_loopw [14] (fun i wx => ∃ j : Nat, j ≤ 12 ∧ j ≤ Z ∧ i = .int .i64 j ∧ Mid w wx M2 h (tdS s t) rv' lv (rs ++ [⟨t, ao, c⟩]) s.log lf wq.heap.size w6.heap.size w8.heap.size (stC t ao c) (tdC (.slice va vn vc) (tdV s t) (tdE s t)) (tdC (.slice none 0 0) 0 0) (.slice va vn vc) (tdB s t) (.slice none 0 0) [] ∧ Blk wx w11.heap.size 49 (tcC ⟨1, t.p, Z, hdL t.z j⟩)) (fun i _ => 12 - (intOf i).toNat)
              case atStart => exact ⟨0, by omega, by omega, rfl, M11.out.later L13.out.1, L13.out.2⟩
              case round =>
                rename World => wx
                obtain ⟨j, hj1, hj2, rfl, mj, bj⟩ := hrel
                have J : Hid (_ ∧ _) := ⟨mj, bj⟩
                have d3 : wx.cell? ⟨wq.heap.size, 3, none⟩ = some (.slice ao t.z.length c) := J.out.1.b9.cell 3
                have SX : Hid (Seen wx ao t.z.length t.z) := HR.out.2.1.later J.out.1.lst.bel (Nat.le_refl _)
                clear mj bj
                rcases (show (j < 12 ∧ j < Z) ∨ (12 ≤ j ∧ j = 12) ∨ (j < 12 ∧ Z ≤ j) by omega) with ⟨h1, h2⟩ | ⟨h1, h2⟩ | ⟨h1, h2⟩
                · obtain ⟨b, o', rfl, _, hc⟩ := SX.out.cells (by have := HZ.out; omega)
                  have cj := hc j (by have := HZ.out; omega)
                  have i1 : (0 : Int) ≤ (j : Int) := by omega
                  have i2' : (j : Int) < 12 := by omega
                  have i3 : (j : Int) < (t.z.length : Int) := by have := HZ.out; omega
                  have fj : wx.frozen? ⟨w11.heap.size, 3 + j, none⟩ = false := J.out.2.frozen _
                  obtain ⟨vj, hvj⟩ := tcC_at t.p Z t.z j h1 (by have := HZ.out; omega)
                  have tj : wx.cell? ⟨w11.heap.size, 3 + j, none⟩ = some vj := by rw [J.out.2.cell]; exact hvj
                  clear hvj
                  clear hc
                  go_wp2_with fail
                  go_roundw
                  case rel => exact ⟨j + 1, by omega, by omega, by go_num, J.out.1.side ((Kept.refl (fun k => k = w11.heap.size) wx).setCell (p := ⟨w11.heap.size, 3 + j, none⟩) rfl _) J.out.2 NN.out.1 NN.out.2.1 NN.out.2.2, by rw [← tcC_set t.p Z t.z j h1 (by have := HZ.out; omega)]; exact J.out.2.set (3 + j) _⟩
                  case measure => simp [intOf] <;> omega
                · have i2' : ¬ (j : Int) < 12 := by omega
                  have HH : Hid (Blk wx w11.heap.size 49 (tcC ⟨1, t.p, Z, headL t.z⟩)) := by rw [← hdL_done t.z j (by have := HZ.out; omega)]; exact J.out.2
                  obtain ⟨lv', w14, hr14, m14, _⟩ := J.out.1.logged ⟨1, t.p, Z, headL t.z⟩ (headL_length _) (by have := B.out; omega)
                  have MF : Hid _ := m14
                  clear m14
                  go_wp2_with (first | ((with_reducible show wpList _ _ _ (({ dst := some 140, op := _, type := _, pos := _, after := _, guard := _ } : Oper) :: _) _ _); refine wpList_load_blk rfl 49 (.tmp 13) rfl w11.heap.size rfl (tcC ⟨1, t.p, Z, headL t.z⟩) _ HH.out Try.underlying49 rfl (sizeTc (headL_length _)) ?_) | ((with_reducible show wpList _ _ _ (({ dst := some 141, op := _, type := _, pos := _, after := _, guard := _ } : Oper) :: _) _ _); refine wpList_bs rfl 41 1 _ rfl #[(0, .agg (tcC ⟨1, t.p, Z, headL t.z⟩).toArray)] (by simp [Act.eval, Act.put]) _ _ (build1_tc ⟨1, t.p, Z, headL t.z⟩ (headL_length _) _) ?_) | (at_builtin; refine wpList_append_run rfl _ _ 41 41 rfl rfl lv _ rfl rfl _ w14 hr14 ?_))
                  go_meet
                  exact cut_mk (st2c A.out.2.1 HD.out HP.out HZ.out ao c) B.out.1 B.out.2.1 (by simp) (by have := B.out; simp; omega) rfl MF.out
                · have i2' : (j : Int) < 12 := by omega
                  have i3 : ¬ (j : Int) < (t.z.length : Int) := by have := HZ.out; omega
                  have HH : Hid (Blk wx w11.heap.size 49 (tcC ⟨1, t.p, Z, headL t.z⟩)) := by rw [← hdL_done t.z j (by have := HZ.out; omega)]; exact J.out.2
                  obtain ⟨lv', w14, hr14, m14, _⟩ := J.out.1.logged ⟨1, t.p, Z, headL t.z⟩ (headL_length _) (by have := B.out; omega)
                  have MF : Hid _ := m14
                  clear m14
                  go_wp2_with (first | ((with_reducible show wpList _ _ _ (({ dst := some 140, op := _, type := _, pos := _, after := _, guard := _ } : Oper) :: _) _ _); refine wpList_load_blk rfl 49 (.tmp 13) rfl w11.heap.size rfl (tcC ⟨1, t.p, Z, headL t.z⟩) _ HH.out Try.underlying49 rfl (sizeTc (headL_length _)) ?_) | ((with_reducible show wpList _ _ _ (({ dst := some 141, op := _, type := _, pos := _, after := _, guard := _ } : Oper) :: _) _ _); refine wpList_bs rfl 41 1 _ rfl #[(0, .agg (tcC ⟨1, t.p, Z, headL t.z⟩).toArray)] (by simp [Act.eval, Act.put]) _ _ (build1_tc ⟨1, t.p, Z, headL t.z⟩ (headL_length _) _) ?_) | (at_builtin; refine wpList_append_run rfl _ _ 41 41 rfl rfl lv _ rfl rfl _ w14 hr14 ?_))
                  go_meet
                  exact cut_mk (st2c A.out.2.1 HD.out HP.out HZ.out ao c) B.out.1 B.out.2.1 (by simp) (by have := B.out; simp; omega) rfl MF.out
            · have HZ : Hid (t.z.length ≠ Z) := hz
              have qz : ((t.z.length : Int) != (Z : Int)) = true := by simp; omega
              clear hz
              go_wp2_with fail
              go_meet
              exact cut_mk (st2b A.out.2.1 HD.out HP.out HZ.out) B.out.1 B.out.2.1 (by simp) (by have := B.out; omega) rfl (by rw [List.append_nil]; exact MD.out.set 2 (.int .i64 4))
        · have q1 : (t.d == 1) = false := by simp [hd]
          have q7 : (t.d == 7) = false := by simp [hd]
          have q2 : (t.d == 2) = false := by simp [hd]
          have q3 : (t.d == 3) = true := by simp [hd]
          have q4 : (t.d == 4) = false := by simp [hd]
          have HD : Hid (t.d = 3) := hd
          clear hd
          go_upto_region 42 with fail
          obtain ⟨w11, hw11⟩ : ∃ q, w10.setCell ⟨w8.heap.size, 1, none⟩ (.int .u64 s.reg) = q := ⟨_, rfl⟩
          have M1 : Hid (Mid w w11 M2 h (tdS s t) rv lv rs s.log lf wq.heap.size w6.heap.size w8.heap.size (stC t ao c) (tdC (.slice va vn vc) (tdV s t) (tdE s t)) (tdC (.slice none 0 0) s.reg 0) (.slice va vn vc) (tdB s t) (.slice none 0 0) []) := by rw [← hw11]; exact MD.out.set 1 (.int .u64 s.reg)
          rw [hw11]
          clear hw11
          obtain ⟨lv', w12, hr12, m12, _⟩ := M1.out.logged (tcA 2) rfl (by have := B.out; omega)
          have MF : Hid _ := m12
          clear m12
          go_wp2_with (first | ((with_reducible show wpList _ _ _ (({ dst := some 148, op := _, type := _, pos := _, after := _, guard := _ } : Oper) :: _) _ _); refine wpList_build rfl 49 _ rfl #[(0, .int .i64 2), (2, .int .i64 8)] (by simp [Act.eval, Act.put]) _ (build_t2 2 _) ?_) | ((with_reducible show wpList _ _ _ (({ dst := some 149, op := _, type := _, pos := _, after := _, guard := _ } : Oper) :: _) _ _); refine wpList_bs rfl 41 1 _ rfl #[(0, .agg (tcC (tcA 2)).toArray)] (by simp [Act.eval, Act.put]) _ _ (build1_tc (tcA 2) rfl _) ?_) | (at_builtin; refine wpList_append_run rfl _ _ 41 41 rfl rfl lv _ rfl rfl _ w12 hr12 ?_))
          go_meet
          exact cut_mk (st3 A.out.2.1 HD.out) B.out.1 B.out.2.1 (by simp) (by have := B.out; omega) rfl MF.out
        · have q1 : (t.d == 1) = false := by simp [hd]
          have q7 : (t.d == 7) = false := by simp [hd]
          have q2 : (t.d == 2) = false := by simp [hd]
          have q3 : (t.d == 3) = false := by simp [hd]
          have q4 : (t.d == 4) = true := by simp [hd]
          have HD : Hid (t.d = 4) := hd
          clear hd
          by_cases hv : t.v ≤ s.reg
          · go_upto_region 47 with fail
            obtain ⟨w11, hw11⟩ : ∃ q, w10.setCell ⟨w8.heap.size, 2, none⟩ (.int .i64 111) = q := ⟨_, rfl⟩
            have M1 : Hid (Mid w w11 M2 h (tdS s t) rv lv rs s.log lf wq.heap.size w6.heap.size w8.heap.size (stC t ao c) (tdC (.slice va vn vc) (tdV s t) (tdE s t)) (tdC (.slice none 0 0) 0 111) (.slice va vn vc) (tdB s t) (.slice none 0 0) []) := by rw [← hw11]; exact MD.out.set 2 (.int .i64 111)
            rw [hw11]
            clear hw11
            obtain ⟨lv', w12, hr12, m12, _⟩ := M1.out.logged (tcA 3) rfl (by have := B.out; omega)
            have MF : Hid _ := m12
            clear m12
            go_wp2_with (first | ((with_reducible show wpList _ _ _ (({ dst := some 161, op := _, type := _, pos := _, after := _, guard := _ } : Oper) :: _) _ _); refine wpList_build rfl 49 _ rfl #[(0, .int .i64 3), (2, .int .i64 8)] (by simp [Act.eval, Act.put]) _ (build_t2 3 _) ?_) | ((with_reducible show wpList _ _ _ (({ dst := some 162, op := _, type := _, pos := _, after := _, guard := _ } : Oper) :: _) _ _); refine wpList_bs rfl 41 1 _ rfl #[(0, .agg (tcC (tcA 3)).toArray)] (by simp [Act.eval, Act.put]) _ _ (build1_tc (tcA 3) rfl _) ?_) | (at_builtin; refine wpList_append_run rfl _ _ 41 41 rfl rfl lv _ rfl rfl _ w12 hr12 ?_))
            go_meet
            have ST := st4 A.out.2.1 HD.out
            rw [if_neg (show ¬ s.reg < t.v by omega), if_pos (show t.v ≤ s.reg by omega)] at ST
            exact cut_mk ST B.out.1 B.out.2.1 (by simp) (by have := B.out; omega) rfl MF.out
          · go_upto_region 47 with fail
            obtain ⟨lv', w12, hr12, m12, _⟩ := MD.out.logged (tcA 3) rfl (by have := B.out; omega)
            have MF : Hid _ := m12
            clear m12
            go_wp2_with (first | ((with_reducible show wpList _ _ _ (({ dst := some 161, op := _, type := _, pos := _, after := _, guard := _ } : Oper) :: _) _ _); refine wpList_build rfl 49 _ rfl #[(0, .int .i64 3), (2, .int .i64 8)] (by simp [Act.eval, Act.put]) _ (build_t2 3 _) ?_) | ((with_reducible show wpList _ _ _ (({ dst := some 162, op := _, type := _, pos := _, after := _, guard := _ } : Oper) :: _) _ _); refine wpList_bs rfl 41 1 _ rfl #[(0, .agg (tcC (tcA 3)).toArray)] (by simp [Act.eval, Act.put]) _ _ (build1_tc (tcA 3) rfl _) ?_) | (at_builtin; refine wpList_append_run rfl _ _ 41 41 rfl rfl lv _ rfl rfl _ w12 hr12 ?_))
            go_meet
            have ST := st4 A.out.2.1 HD.out
            rw [if_pos (show s.reg < t.v by omega), if_neg (show ¬ t.v ≤ s.reg by omega)] at ST
            exact cut_mk ST B.out.1 B.out.2.1 (by simp) (by have := B.out; omega) rfl MF.out
        · obtain ⟨h1, h2, h3, h4, h7⟩ := hd
          have q1 : (t.d == 1) = false := by simp [h1]
          have q7 : (t.d == 7) = false := by simp [h7]
          have q2 : (t.d == 2) = false := by simp [h2]
          have q3 : (t.d == 3) = false := by simp [h3]
          have q4 : (t.d == 4) = false := by simp [h4]
          have HD : Hid (t.d ≠ 1 ∧ t.d ≠ 2 ∧ t.d ≠ 3 ∧ t.d ≠ 4 ∧ t.d ≠ 7) := ⟨h1, h2, h3, h4, h7⟩
          clear h1 h2 h3 h4 h7
          go_wp2_with fail
          go_meet
          exact cut_mk (stE A.out.2.1 HD.out) B.out.1 B.out.2.1 (by simp) (by have := B.out; omega) rfl (by rw [List.append_nil]; exact MD.out)
      case rest =>
        obtain ⟨rv2, lv2, rs', wv, rfl, rfl, rfl, on2, hl2, ho2, hk2, m2⟩ := hcut
        obtain ⟨a1, c1, e1, s1⟩ := m2.got.seen
        obtain ⟨a2, c2, rfl, s2⟩ := m2.wnt.seen m2.lst.bel
        have N : Hid (Hon (tdS s t) P Z rs' ∧ rs'.length ≤ k + 1 ∧ (tdS s t).ops = (tdS s t).log.length ∧ (tdS s t).ops ≤ k + 1) := ⟨on2, hl2, ho2, hk2⟩
        have m2' : Hid _ := m2
        cases e1
        have M3 : Hid (Mid w wc M2 h (tdS s t) rv2 lv2 rs' (tdS s t).log lf wq.heap.size w6.heap.size w8.heap.size (stC t ao c) (tdC (.slice va (tdB s t).length vc) (tdV s t) (tdE s t)) (tdC (.slice a2 (tdB s t).length c2) (tdV s t) (tdE s t)) (.slice va (tdB s t).length vc) (tdB s t) (.slice a2 (tdB s t).length c2) (tdB s t) ∧ Seen wc va (tdB s t).length (tdB s t) ∧ Seen wc a2 (tdB s t).length (tdB s t)) := ⟨m2, s1, s2⟩
        clear on2 hl2 ho2 hk2 m2 s1 s2 m2' d0 d1 d2 d3 f1 n0 n1 n2 z0 z1 z2 MD
        have hn2 : n < 2932031007402 := A.out.2.2.2.2.2.2.1
        go_wp2_with (first | ((with_reducible show wpList _ _ _ (({ dst := some 164, op := _, type := _, pos := _, after := _, guard := _ } : Oper) :: _) _ _); refine wpList_load_blk rfl 43 (.tmp 11) rfl w6.heap.size rfl (tdC (.slice va (tdB s t).length vc) (tdV s t) (tdE s t)) _ M3.out.1.b11 Try.underlying43 rfl (sizeTd _ _ _) ?_) | ((with_reducible show wpList _ _ _ (({ dst := some 165, op := _, type := _, pos := _, after := _, guard := _ } : Oper) :: _) _ _); refine wpList_load_blk rfl 43 (.tmp 12) rfl w8.heap.size rfl (tdC (.slice a2 (tdB s t).length c2) (tdV s t) (tdE s t)) _ M3.out.1.b12 Try.underlying43 rfl (sizeTd _ _ _) ?_) | (go_at_call 15; refine (sameTold_yes va a2 vc c2 (tdB s t) (tdV s t) (tdE s t) wc M3.out.2.1 M3.out.2.2).mono ?_; rintro e w11 ⟨rfl, l11⟩))
        go_roundw
        case rel => exact ⟨k + 1, tdS s t, M2, rs', rv2, lv2, HR.out.2.2.2, by go_num, rfl, rfl, rfl, M3.out.1.host.later l11, N.out.1, N.out.2.2.2, N.out.2.2.1, N.out.2.1, M3.out.1.lst.later l11⟩
        case measure => simp [intOf] <;> omega
    · have hkn : k = n := by omega
      subst hkn
      obtain ⟨la, lm, lc, rfl⟩ := own_slice A.out.2.2.2.2.1.log
      have hlm : lm = s.log.length := by have := TcS.len (tcs_own A.out.2.2.2.2.1.log A.out.2.2.2.2.1.good); exact this
      subst hlm
      have TL : Hid (TcS wq (.slice la s.log.length lc) s.log) := tcs_own A.out.2.2.2.2.1.log A.out.2.2.2.2.1.good
      obtain ⟨N, hN⟩ : ∃ q, s.log.length = q := ⟨_, rfl⟩
      have HO : Hid (s.log.length = N ∧ s.ops = N ∧ N < 2932031007402) := ⟨hN, by rw [A.out.2.2.2.2.2.2.2, hN], by have := A.out; omega⟩
      rw [hN]
      clear hN
      have C0 : Hid (Blk wq w.heap.size 25 lf ∧ Below w.heap.size w wq ∧ HostAt wq M h s) := ⟨A.out.2.2.2.2.1.life, A.out.2.2.2.2.1.bel, A.out.1⟩
      have i2 : ¬ (k : Int) < (k : Int) := by omega
      go_wp2_with fail
      refine wp_region_noPanic (till_region 30 (fun W => W.cell? ⟨w.heap.size, 0, none⟩ = some (.int .i64 P) ∧ W.cell? ⟨w.heap.size, 1, none⟩ = some (.int .i64 Z)) (by kernel_rfl) ?_)
      obtain ⟨w3, hw3⟩ : ∃ q, ({ heap := wq.heap, tape := wq.tape, drawn := wq.drawn + 1, os := wq.os, output := wq.output } : World) = q := ⟨_, rfl⟩
      have V3 : Hid (Blk w3 w.heap.size 25 lf ∧ Below w.heap.size w w3 ∧ HostAt w3 M h s ∧ TcS w3 (.slice la N lc) s.log) := by
        rw [← hw3]
        refine ⟨C0.out.1, ⟨C0.out.2.1.os, C0.out.2.1.tape, C0.out.2.1.output, C0.out.2.1.size, C0.out.2.1.block⟩, C0.out.2.2.frame ⟨Nat.le_refl _, fun _ _ => rfl⟩, ?_⟩
        rw [← HO.out.1]; exact TL.out.same (Nat.le_refl _) (fun _ _ => rfl)
      rw [hw3]
      clear hw3 c0 c1 c3
      have hS : (fun W : World => W.cell? ⟨w.heap.size, 0, none⟩ = some (.int .i64 P) ∧ W.cell? ⟨w.heap.size, 1, none⟩ = some (.int .i64 Z)) w3 := by
        have q0 := V3.out.1.cell 0
        have q1 := V3.out.1.cell 1
        rw [← LF.out] at q0 q1
        exact ⟨q0, q1⟩
      refine tTake 0 (some 168) (.pointer (some ⟨h, 0, none⟩)) rfl rfl (by kernel_rfl) (by kernel_rfl) (by kernel_rfl) (by decide) (fun _ _ _ h => h) (by rfl) (fun W' => by go_simp) hS ?_
      simp only [Act.put, List.setIfInBounds_toArray, List.set_cons_zero, List.set_cons_succ]
      refine tTake 2 (some 170) (.slice la N lc) rfl rfl (by kernel_rfl) (by kernel_rfl) (by kernel_rfl) (by decide) (fun _ _ _ h => h) (by rfl) (fun W' => by go_simp) hS ?_
      simp only [Act.put, List.setIfInBounds_toArray, List.set_cons_zero, List.set_cons_succ]
      refine till_ready 1 (by kernel_rfl) rfl (fun K hK => ?_)
      go_simp
      go_wp2_with (go_at_call 17; refine (log_any h s M w3 V3.out.2.2.1).mono ?_; rintro e w4 ⟨v4, rfl, o4, l4⟩)
      have hS4 : (fun W : World => W.cell? ⟨w.heap.size, 0, none⟩ = some (.int .i64 P) ∧ W.cell? ⟨w.heap.size, 1, none⟩ = some (.int .i64 Z)) w4 := ⟨(l4.cell (p := ⟨w.heap.size, 0, none⟩) V3.out.1.lt).trans hS.1, (l4.cell (p := ⟨w.heap.size, 1, none⟩) V3.out.1.lt).trans hS.2⟩
      have V4 : Hid (Below w.heap.size w w4 ∧ HostAt w4 M h s ∧ TcS w4 (.slice la N lc) s.log ∧ TcS w4 v4 s.log) := ⟨below_chain V3.out.2.1 l4 V3.out.2.1.size, V3.out.2.2.1.later l4, V3.out.2.2.2.later l4, tcs_own o4 V3.out.2.2.2.good⟩
      refine ⟨hS4, ?_⟩
      clear hS o4 l4
      have hS := hS4
      clear hS4
      refine till_ready 3 (by kernel_rfl) rfl (fun K hK => ?_)
      go_simp
      go_wp2_with (go_at_call 16; refine (sameLog_yes v4 (.slice la N lc) s.log w4 V4.out.2.2.2 V4.out.2.2.1 (by have := HO.out; omega)).mono ?_; rintro e w5 ⟨rfl, q5, hw5⟩; have HW5 : Hid (w5 = w4.drewN q5) := hw5; clear hw5)
      have hS5 : (fun W : World => W.cell? ⟨w.heap.size, 0, none⟩ = some (.int .i64 P) ∧ W.cell? ⟨w.heap.size, 1, none⟩ = some (.int .i64 Z)) w5 := by rw [HW5.out]; exact hS
      have V5 : Hid (Below w.heap.size w w5 ∧ HostAt w5 M h s) := by rw [HW5.out]; exact ⟨below_dn V4.out.1 _, V4.out.2.1.frame ⟨Nat.le_refl _, fun _ _ => rfl⟩⟩
      refine ⟨hS5, ?_⟩
      clear hS
      have hS := hS5
      clear hS5
      refine tTake 4 (some 172) (.bool true) rfl rfl (by kernel_rfl) (by kernel_rfl) (by kernel_rfl) (by decide) (fun _ _ _ h => h) (by rfl) (fun W' => by go_simp) hS ?_
      simp only [Act.put, List.setIfInBounds_toArray, List.set_cons_zero, List.set_cons_succ]
      refine tTake 5 (some 173) (.pointer (some ⟨h, 0, none⟩)) rfl rfl (by kernel_rfl) (by kernel_rfl) (by kernel_rfl) (by decide) (fun _ _ _ h => h) (by rfl) (fun W' => by go_simp) hS ?_
      simp only [Act.put, List.setIfInBounds_toArray, List.set_cons_zero, List.set_cons_succ]
      refine tTake 7 (some 175) (.slice la N lc) rfl rfl (by kernel_rfl) (by kernel_rfl) (by kernel_rfl) (by decide) (fun _ _ _ h => h) (by rfl) (fun W' => by go_simp) hS ?_
      simp only [Act.put, List.setIfInBounds_toArray, List.set_cons_zero, List.set_cons_succ]
      refine tTake 8 (some 176) (.int .i64 N) rfl rfl (by kernel_rfl) (by kernel_rfl) (by kernel_rfl) (by decide) (fun _ _ _ h => h) (by rfl) (fun W' => by go_simp) hS ?_
      simp only [Act.put, List.setIfInBounds_toArray, List.set_cons_zero, List.set_cons_succ]
      have CC := ops_any h s M w5 V5.out.2
      rw [HO.out.2.1] at CC
      refine till_ready 6 (by kernel_rfl) rfl (fun K hK => ?_)
      go_simp
      go_wp2_with (go_at_call 18; refine CC.mono ?_; rintro e _ ⟨rfl, rfl⟩)
      clear CC
      refine ⟨hS, ?_⟩
      have eN : ((N : Int) == (N : Int)) = true := by simp
      refine tTake 9 (some 177) (.bool true) rfl rfl (by kernel_rfl) (by kernel_rfl) (by kernel_rfl) (by decide) (fun _ _ _ h => h) (by rfl) (fun W' => by go_simp) hS ?_
      simp only [Act.put, List.setIfInBounds_toArray, List.set_cons_zero, List.set_cons_succ]
      refine tTake 10 (some 178) (.bool true) rfl rfl (by kernel_rfl) (by kernel_rfl) (by kernel_rfl) (by decide) (fun _ _ _ h => h) (by rfl) (fun W' => by go_simp) hS ?_
      simp only [Act.put, List.setIfInBounds_toArray, List.set_cons_zero, List.set_cons_succ]
      refine tTake 11 (some 179) (.bool true) rfl rfl (by kernel_rfl) (by kernel_rfl) (by kernel_rfl) (by decide) (fun _ _ _ h => h) (by rfl) (fun W' => by go_simp) hS ?_
      simp only [Act.put, List.setIfInBounds_toArray, List.set_cons_zero, List.set_cons_succ]
      refine tTake 12 (some 180) (.pointer (some ⟨h, 0, none⟩)) rfl rfl (by kernel_rfl) (by kernel_rfl) (by kernel_rfl) (by decide) (fun _ _ _ h => h) (by rfl) (fun W' => by go_simp) hS ?_
      simp only [Act.put, List.setIfInBounds_toArray, List.set_cons_zero, List.set_cons_succ]
      have CC := down_any h s M w5 V5.out.2
      rw [A.out.2.1.dn] at CC
      refine till_ready 13 (by kernel_rfl) rfl (fun K hK => ?_)
      go_simp
      go_wp2_with (go_at_call 19; refine CC.mono ?_; rintro e _ ⟨rfl, rfl⟩)
      clear CC
      refine ⟨hS, ?_⟩
      refine tTake 14 (some 182) (.bool true) rfl rfl (by kernel_rfl) (by kernel_rfl) (by kernel_rfl) (by decide) (fun _ _ _ h => h) (by rfl) (fun W' => by go_simp) hS ?_
      simp only [Act.put, List.setIfInBounds_toArray, List.set_cons_zero, List.set_cons_succ]
      refine tTake 15 (some 183) (.bool true) rfl rfl (by kernel_rfl) (by kernel_rfl) (by kernel_rfl) (by decide) (fun _ _ _ h => h) (by rfl) (fun W' => by go_simp) hS ?_
      simp only [Act.put, List.setIfInBounds_toArray, List.set_cons_zero, List.set_cons_succ]
      refine tTake 16 (some 184) (.bool true) rfl rfl (by kernel_rfl) (by kernel_rfl) (by kernel_rfl) (by decide) (fun _ _ _ h => h) (by rfl) (fun W' => by go_simp) hS ?_
      simp only [Act.put, List.setIfInBounds_toArray, List.set_cons_zero, List.set_cons_succ]
      refine tTake 17 (some 185) (.pointer (some ⟨h, 0, none⟩)) rfl rfl (by kernel_rfl) (by kernel_rfl) (by kernel_rfl) (by decide) (fun _ _ _ h => h) (by rfl) (fun W' => by go_simp) hS ?_
      simp only [Act.put, List.setIfInBounds_toArray, List.set_cons_zero, List.set_cons_succ]
      refine tTake 19 (some 187) (.pointer (some ⟨w.heap.size, 0, none⟩)) rfl rfl (by kernel_rfl) (by kernel_rfl) (by kernel_rfl) (by decide) (fun _ _ _ h => h) (by rfl) (fun W' => by go_simp) hS ?_
      simp only [Act.put, List.setIfInBounds_toArray, List.set_cons_zero, List.set_cons_succ]
      refine tLoad 20 (some 188) (.int .i64 P) rfl rfl (by kernel_rfl) (by kernel_rfl) (by kernel_rfl) (by decide) (by kernel_rfl) (by kernel_rfl) (fun _ _ _ h => h) (by rfl) (fun W' hS' => by obtain ⟨s1, s2⟩ := hS'; go_simp) hS ?_
      simp only [Act.put, List.setIfInBounds_toArray, List.set_cons_zero, List.set_cons_succ]
      have CC := pages_any h s M w5 V5.out.2
      rw [A.out.2.1.pg] at CC
      refine till_ready 18 (by kernel_rfl) rfl (fun K hK => ?_)
      go_simp
      go_wp2_with (go_at_call 20; refine CC.mono ?_; rintro e _ ⟨rfl, rfl⟩)
      clear CC
      refine ⟨hS, ?_⟩
      have eP : ((P : Int) == (P : Int)) = true := by simp
      refine tTake 21 (some 189) (.bool true) rfl rfl (by kernel_rfl) (by kernel_rfl) (by kernel_rfl) (by decide) (fun _ _ _ h => h) (by rfl) (fun W' => by go_simp) hS ?_
      simp only [Act.put, List.setIfInBounds_toArray, List.set_cons_zero, List.set_cons_succ]
      refine tTake 22 (some 190) (.bool true) rfl rfl (by kernel_rfl) (by kernel_rfl) (by kernel_rfl) (by decide) (fun _ _ _ h => h) (by rfl) (fun W' => by go_simp) hS ?_
      simp only [Act.put, List.setIfInBounds_toArray, List.set_cons_zero, List.set_cons_succ]
      refine tTake 23 (some 191) (.bool true) rfl rfl (by kernel_rfl) (by kernel_rfl) (by kernel_rfl) (by decide) (fun _ _ _ h => h) (by rfl) (fun W' => by go_simp) hS ?_
      simp only [Act.put, List.setIfInBounds_toArray, List.set_cons_zero, List.set_cons_succ]
      refine tTake 24 (some 192) (.pointer (some ⟨h, 0, none⟩)) rfl rfl (by kernel_rfl) (by kernel_rfl) (by kernel_rfl) (by decide) (fun _ _ _ h => h) (by rfl) (fun W' => by go_simp) hS ?_
      simp only [Act.put, List.setIfInBounds_toArray, List.set_cons_zero, List.set_cons_succ]
      refine tTake 26 (some 194) (.pointer (some ⟨w.heap.size, 1, none⟩)) rfl rfl (by kernel_rfl) (by kernel_rfl) (by kernel_rfl) (by decide) (fun _ _ _ h => h) (by rfl) (fun W' => by go_simp) hS ?_
      simp only [Act.put, List.setIfInBounds_toArray, List.set_cons_zero, List.set_cons_succ]
      refine tLoad 27 (some 195) (.int .i64 Z) rfl rfl (by kernel_rfl) (by kernel_rfl) (by kernel_rfl) (by decide) (by kernel_rfl) (by kernel_rfl) (fun _ _ _ h => h) (by rfl) (fun W' hS' => by obtain ⟨s1, s2⟩ := hS'; go_simp) hS ?_
      simp only [Act.put, List.setIfInBounds_toArray, List.set_cons_zero, List.set_cons_succ]
      have CC := size_any h s M w5 V5.out.2
      rw [A.out.2.1.sz] at CC
      refine till_ready 25 (by kernel_rfl) rfl (fun K hK => ?_)
      go_simp
      go_wp2_with (go_at_call 21; refine CC.mono ?_; rintro e _ ⟨rfl, rfl⟩)
      clear CC
      refine ⟨hS, ?_⟩
      have eZ : ((Z : Int) == (Z : Int)) = true := by simp
      refine tTake 28 (some 196) (.bool true) rfl rfl (by kernel_rfl) (by kernel_rfl) (by kernel_rfl) (by decide) (fun _ _ _ h => h) (by rfl) (fun W' => by go_simp) hS ?_
      simp only [Act.put, List.setIfInBounds_toArray, List.set_cons_zero, List.set_cons_succ]
      refine tTake 29 (some 197) (.bool true) rfl rfl (by kernel_rfl) (by kernel_rfl) (by kernel_rfl) (by decide) (fun _ _ _ h => h) (by rfl) (fun W' => by go_simp) hS ?_
      simp only [Act.put, List.setIfInBounds_toArray, List.set_cons_zero, List.set_cons_succ]
      refine till_at (by kernel_rfl) ?_
      refine wpAny_ready (rs := [30]) (by kernel_rfl) (by simp) (AllReady.cons rfl (fun K hK => ?_) AllReady.nil)
      go_simp
      refine hK _ _ ?_
      clear hK K
      refine wpAny_done (by kernel_rfl) (NoPanic.normal ?_) _
      go_wp2_with fail
      go_ret
      exact ⟨rfl, V5.out.1⟩

end Go.Proofs.Ytobcolpdkcppoaa
