/- The walk of RecordBack. -/
import Derived.Test.YtabdjoljdefjdaaRcLaw
namespace Go.Proofs.Ytabdjoljdefjdaa.recordBack
open Go.RowKit
set_option linter.unusedVariables false
set_option linter.unusedSimpArgs false

set_option maxRecDepth 20000 in
set_option maxHeartbeats 8000000 in
theorem walk (h : Hd) (ao : Option Addr) (m c : Nat) (bs : List Int) (bo : Option Addr) (n d : Nat) (zs : List Int) (w : World) (kh : HdOk h) (hx : Seen w ao m bs) (hm : m ≤ 140737488351232) (fa : ao = none → c = 0) (hc : m ≤ c) (hy : Seen w bo n zs) (hn : n ≤ 140737488351232) (fb : bo = none → d = 0) (hd' : n ≤ d) :
    Calls Try.prog 7 #[.agg (hdC h).toArray, .slice ao m c, .slice bo n d] w fun e w' => e = .returned (.bool true) ∧ Below w.heap.size w w' := by
  have HK : Hid (HdOk h) := kh
  have HX : Hid (Seen w ao m bs ∧ m ≤ 140737488351232) := ⟨hx, hm⟩
  have HY : Hid (Seen w bo n zs ∧ n ≤ 140737488351232 ∧ zs.length = n ∧ Bytes zs) := ⟨hy, hn, hy.len, hy.bytes⟩
  have NH := neq_self h kh.len
  have NZ := neq_self hdZ rfl
  have NZ' := neq_zero
  obtain ⟨Z, eZ⟩ : ∃ Z, hdB h ++ bs = Z := ⟨_, rfl⟩
  have HZ : Hid (hdB h ++ bs = Z ∧ Z.length = 26 + m ∧ Bytes Z ∧ isR Z = (decide (h.live < 2) && decide (h.flag < 2)) ∧ hdOf Z = h ∧ Z.drop 26 = bs) := by
    refine ⟨eZ, by rw [← eZ, List.length_append, hdB_length kh.len, hx.len], by rw [← eZ]; exact bytes_two (hdB_bytes kh) hx.bytes, by rw [← eZ]; exact isR_hdB kh bs, by rw [← eZ]; exact hdOf_hdB kh bs, ?_⟩
    rw [← eZ, List.drop_append_of_le_length (by rw [hdB_length kh.len]; exact Nat.le_refl _), List.drop_of_length_le (by rw [hdB_length kh.len]; exact Nat.le_refl _), List.nil_append]
  have v1 : IntKind.i64.wrap (26 + (m : Int)) = 26 + (m : Int) := by simp only [IntKind.wrap, IntKind.bits, IntKind.signed]; simp; omega
  have hlive := kh.live
  have hflag := kh.flag
  clear kh hx hm fa hc hy hn fb hd' eZ
  go_enter Try.func7, Try.ntmps7
  go_wp2_with (first | (refine wpList_box_new rfl 26 _ rfl (hdC h) rfl ?_; intro w1 b1 s1 l1))
  refine (awake_any w1).mono ?_
  rintro e w2 ⟨rfl, l2⟩
  have K2 : Hid (Bk w w2 h) := ⟨b1.later l2 (by omega), below_chain l1 l2 (by omega)⟩
  clear b1 s1 l1 l2
  go_wp2_with (fail)
  refine region_inv [.val (.agg (hdC h).toArray), .val (.slice ao m c), .any (isO w.heap.size m bs) (isO_later _ _ _), .any (isO w.heap.size (26 + m) Z) (isO_later _ _ _)] (by kernel_rfl) (by kernel_rfl) (by kernel_rfl) ?_ ?_
  · refine Steps'.cons ?_ (Steps'.cons ?_ (Steps'.cons ?_ (Steps'.cons ?_ (Steps'.one _ _ _ _ _ _ _))))
    · intro ax wx hb hs hd
      have h3 : ax.tmps.getD 3 undef = (.pointer (some ⟨w.heap.size, 0, none⟩)) := hs 3 (by kernel_rfl)
      exact Does.load 26 (.tmp 3) rfl w.heap.size 0 h3 (hdC h) _ (K2.out.b.later hb K2.out.b.lt).allR Try.underlying26 rfl (hsizeC HK.out.len)
    · intro ax wx hb hs hd
      have h1 : ax.tmps.getD 1 undef = (.slice ao m c) := hs 1 (by kernel_rfl)
      refine Does.value (.slice ao m c) ?_ rfl
      clear hs hd
      go_simp
    · intro ax wx hb hs hd
      have h14 : ax.tmps.getD 14 undef = (.slice ao m c) := hd 1 14 rfl (by kernel_rfl) (by decide)
      refine Does.call 17 #[.slice ao m c] (by clear hs hd; go_simp) ?_
      refine (copyB_any ao m c bs wx (HX.out.1.later (below_chain K2.out.bel hb K2.out.bel.size) (Nat.le_refl _))).mono ?_
      rintro e w' ⟨v, rfl, o, l⟩
      exact ⟨_, rfl, ownsRow_base o (by have := hb.size; have := K2.out.bel.size; omega), l⟩
    · intro ax wx hb hs hd
      have h13 : ax.tmps.getD 13 undef = (.agg (hdC h).toArray) := hd 0 13 rfl (by kernel_rfl) (by decide)
      have p15 : (isO w.heap.size m bs) (ax.tmps.getD 15 undef) wx := hd 2 15 rfl (by kernel_rfl) (by decide)
      obtain ⟨q, cq, h15, sq, _, fq, _⟩ := isO_sl HX.out.1.len HX.out.1.bytes (by have := HX.out.2; omega) p15
      clear p15
      refine Does.call 12 #[.agg (hdC h).toArray, .slice q m cq] (by clear hs hd; go_simp) ?_
      refine (make_any h HK.out q m cq bs fq (by have := HX.out.2; omega) wx sq).mono ?_
      rintro e w' ⟨v, rfl, o, l⟩
      rw [HZ.out.1] at o
      exact ⟨_, rfl, isO_base o (by have := hb.size; have := K2.out.bel.size; omega), l⟩
  · intro wx hb
    refine @Ends.val _ _ _ _ _ _ _ _ _ (.agg (hdC h).toArray) rfl ?_
    refine @Ends.val _ _ _ _ _ _ _ _ _ (.slice ao m c) rfl ?_
    refine @Ends.any _ _ _ _ _ _ _ _ _ (isO w.heap.size m bs) (isO_later _ _ _) rfl ?_
    intro v15 p15
    refine @Ends.any _ _ _ _ _ _ _ _ _ (isO w.heap.size (26 + m) Z) (isO_later _ _ _) rfl ?_
    intro v16 p16
    refine @Ends.one _ _ _ _ _ _ _ ?_
    simp only [Act.put, List.setIfInBounds_toArray, List.set_cons_zero, List.set_cons_succ]
    have K3 : Hid (Bk w wx h) := K2.out.later hb
    obtain ⟨q3, c3, rfl, S3, f3, -, -⟩ := isO_sl HZ.out.2.1 HZ.out.2.2.1 (by have := HX.out.2; omega) p16
    have V3 : Hid (Seen wx q3 (26 + m) Z ∧ 26 + m ≤ c3) := ⟨S3, f3⟩
    clear p15 p16 S3 f3 K2 hb
    refine last_assign (.tmp 16) rfl (some 7) rfl (.slice q3 (26 + m) c3) rfl ?_
    simp only [Act.put, List.setIfInBounds_toArray, List.set_cons_zero, List.set_cons_succ]
    have e26 : ((26 + m : Nat) : Int) = 26 + (m : Int) := by omega
    go_wp2_with (fail)
    rcases (by omega : (h.live ≤ 1 ∧ h.flag ≤ 1) ∨ (h.live ≤ 1 ∧ ¬ h.flag ≤ 1) ∨ ¬ h.live ≤ 1) with ⟨i1, i2⟩ | ⟨i1, i2⟩ | i1
    · have hR : isR Z = true := by rw [HZ.out.2.2.2.1]; rw [decide_eq_true (by omega : h.live < 2), decide_eq_true (by omega : h.flag < 2)]; rfl
      refine (parse_good q3 (26 + m) c3 Z V3.out.2 wx V3.out.1 hR).mono ?_
      rintro e w5 ⟨v5, rfl, o5, l5⟩
      rw [HZ.out.2.2.2.2.1]
      rw [HZ.out.2.2.2.2.2, show 26 + m - 26 = m by omega] at o5
      obtain ⟨q5, c5, rfl, S5, -, -, -⟩ := isO_sl HX.out.1.len HX.out.1.bytes (by have := HX.out.2; omega) o5
      have K5 : Hid (Bk w w5 h ∧ Seen w5 q5 m bs) := ⟨K3.out.later l5, S5⟩
      clear S5 l5 o5 V3 K3
      go_wp2_with (first | (refine wpList_alloc_new rfl 26 rfl 20 _ hzero ?_; intro w6 b6 s6 l6) | (refine wpList_store_blk rfl 26 26 _ _ rfl _ rfl _ (hdC h) rfl b6 (by rw [hdC_length HK.out.len]; rfl) (hsizeC HK.out.len) (hdC_one _) ?_; intro w9 b9 s9 k9; have L9 : Below w5.heap.size w5 w9 := below_kept l6 k9 (by omega) (fun j hj => by omega); have K9 : Hid (Bk w w9 h ∧ Blk w9 w5.heap.size 26 (hdC h) ∧ w.heap.size < w5.heap.size ∧ Seen w9 q5 m bs) := ⟨K5.out.1.later L9, b9, K5.out.1.b.lt, K5.out.2.later L9 (Nat.le_refl _)⟩; have d0 : w9.cell? ⟨w.heap.size, 0, none⟩ = some (.int .u8 h.live) := K9.out.1.b.cell 0; have d1 : w9.cell? ⟨w.heap.size, 1, none⟩ = some (.int .u8 h.flag) := K9.out.1.b.cell 1; clear b6 s6 l6 b9 s9 k9 L9 K5) | ((with_reducible show wpList _ _ _ (({ dst := some 40, op := _, type := _, pos := _, after := _, guard := _ } : Oper) :: _) _ _); refine wpList_load_g (by rfl) 26 (.tmp 8) rfl _ rfl (hdC h) _ K9.out.2.1 Try.underlying26 rfl (hsizeC HK.out.len) ?_) | ((with_reducible show wpList _ _ _ (({ dst := some 41, op := _, type := _, pos := _, after := _, guard := _ } : Oper) :: _) _ _); refine wpList_load_g (by rfl) 26 (.tmp 3) rfl _ rfl (hdC h) _ K9.out.1.b Try.underlying26 rfl (hsizeC HK.out.len) ?_))
      refine (reqb_any q5 ao m m c5 c bs bs w9 K9.out.2.2.2 (HX.out.1.later K9.out.1.bel (Nat.le_refl _))).mono ?_
      rintro e w9' ⟨rfl, qq, rfl⟩
      rw [decide_eq_true (rfl : bs = bs)]
      obtain ⟨X5, eX5⟩ : ∃ X, h = X := ⟨_, rfl⟩
      have HX5 : Hid (X5.group.length = 16) := by show _ = _; rw [← eX5]; exact HK.out.len
      have K9 : Hid (Bk w (w9.drewN qq) h ∧ Blk (w9.drewN qq) w5.heap.size 26 (hdC X5) ∧ w.heap.size < w5.heap.size) := ⟨K9.out.1.drewN qq, eX5 ▸ K9.out.2.1, K9.out.2.2.1⟩
      clear d0 d1 eX5
      go_wp2_with (fail)
      refine (copyB_any bo n d zs _ (HY.out.1.later K9.out.1.bel (Nat.le_refl _))).mono ?_
      rintro e w10 ⟨v10, rfl, o10, l10⟩
      obtain ⟨q10, c10, rfl, S10, f10, -, -⟩ := isO_sl HY.out.2.2.1 HY.out.2.2.2 (by have := HY.out.2.1; omega) o10
      have K10 : Hid (Bk w w10 h ∧ Blk w10 w5.heap.size 26 (hdC X5) ∧ w.heap.size < w5.heap.size ∧ Seen w10 q10 n zs ∧ n ≤ c10) := ⟨K9.out.1.later l10, K9.out.2.1.later l10 K9.out.2.1.lt, K9.out.2.2, S10, f10⟩
      clear S10 f10 l10 o10 K9
      go_wp2_with (fail)
      cases hZ : isR zs with
      | true =>
        have n26 : 26 ≤ n := by rw [← HY.out.2.2.1]; exact isR_long hZ
        refine (parse_good q10 n c10 zs K10.out.2.2.2.2 w10 K10.out.2.2.2.1 hZ).mono ?_
        rintro e w11 ⟨v11, rfl, o11, l11⟩
        have HO : Hid (HdOk (hdOf zs) ∧ (zs.drop 26).length = n - 26 ∧ Bytes (zs.drop 26)) := ⟨hdOf_ok HY.out.2.2.2 (by have := HY.out.2.2.1; omega), by rw [List.length_drop, HY.out.2.2.1], fun z hz => HY.out.2.2.2 z (List.mem_of_mem_drop hz)⟩
        obtain ⟨q11, c11, rfl, S11, -, f11, B11⟩ := isO_sl HO.out.2.1 HO.out.2.2 (by have := HY.out.2.1; omega) o11
        obtain ⟨y, ey⟩ : ∃ y, hdOf zs = y := ⟨_, rfl⟩
        have Hy : Hid (hdB y ++ zs.drop 26 = zs) := by show _ = _; rw [← ey]; exact hdB_hdOf HY.out.2.2.2 (by have := HY.out.2.2.1; omega)
        rw [ey] at HO ⊢
        have K11 : Hid (Bk w w11 h ∧ Blk w11 w5.heap.size 26 (hdC X5) ∧ w.heap.size < w5.heap.size ∧ Seen w11 q11 (n - 26) (zs.drop 26) ∧ (q11 = none → c11 = 0) ∧ (∀ b o, q11 = some ⟨b, o, none⟩ → w5.heap.size < b)) := ⟨K10.out.1.later l11, K10.out.2.1.later l11 K10.out.2.1.lt, K10.out.2.2.1, S11, f11, fun b o e => Nat.lt_of_lt_of_le K10.out.2.1.lt (B11 b o e)⟩
        clear S11 f11 l11 o11 K10 ey B11
        have i26 : (26 : Int) ≤ (n : Int) := by omega
        go_wp2_with (first | (refine wpList_store_blk rfl 26 26 _ _ rfl _ rfl _ (hdC y) rfl K11.out.2.1 (by rw [hdC_length HO.out.1.len, hdC_length HX5.out]) (hsizeC HO.out.1.len) (hdC_one _) ?_; intro w12 b12 s12 k12; have K12 : Hid (Below w.heap.size w w12 ∧ Blk w12 w5.heap.size 26 (hdC y) ∧ Seen w12 q11 (n - 26) (zs.drop 26) ∧ (q11 = none → c11 = 0)) := ⟨(K11.out.1.kept k12 (fun j e => e ▸ K11.out.2.2.1)).bel, b12, K11.out.2.2.2.1.kept k12 (fun b o _ e hj => by have := K11.out.2.2.2.2.2 b o e; omega), K11.out.2.2.2.2.1⟩; clear b12 s12 k12 K11) | ((with_reducible show wpList _ _ _ (({ dst := some 94, op := _, type := _, pos := _, after := _, guard := _ } : Oper) :: _) _ _); refine wpList_load_g (by rfl) 26 (.tmp 8) rfl _ rfl (hdC y) _ K12.out.2.1 Try.underlying26 rfl (hsizeC HO.out.1.len) ?_))
        refine (make_any y HO.out.1 q11 (n - 26) c11 (zs.drop 26) K12.out.2.2.2 (by have := HY.out.2.1; omega) w12 K12.out.2.2.1).mono ?_
        rintro e w13 ⟨v13, rfl, o13, l13⟩
        rw [Hy.out, show 26 + (n - 26) = n by omega] at o13
        obtain ⟨q13, c13, rfl, S13, -, -, -⟩ := isO_sl HY.out.2.2.1 HY.out.2.2.2 (by have := HY.out.2.1; omega) o13
        have K13 : Hid (Below w.heap.size w w13 ∧ Seen w13 q13 n zs) := ⟨below_chain K12.out.1 l13 K12.out.1.size, S13⟩
        clear S13 l13 o13 K12
        go_wp2_with (fail)
        refine (reqb_any q13 bo n n c13 d zs zs w13 K13.out.2 (HY.out.1.later K13.out.1 (Nat.le_refl _))).mono ?_
        rintro e _ ⟨rfl, qq, rfl⟩
        rw [decide_eq_true (rfl : zs = zs)]
        go_wp2
        go_ret
        exact ⟨rfl, below_dn K13.out.1 qq⟩
      | false =>
        refine (parse_bad q10 n c10 zs K10.out.2.2.2.2 w10 K10.out.2.2.2.1 hZ).mono ?_
        rintro e w11 ⟨rfl, l11⟩
        have K11 : Hid (Bk w w11 h ∧ Blk w11 w5.heap.size 26 (hdC X5) ∧ w.heap.size < w5.heap.size) := ⟨K10.out.1.later l11, K10.out.2.1.later l11 K10.out.2.1.lt, K10.out.2.2.1⟩
        clear l11 K10
        rcases Nat.lt_or_ge n 26 with hn | hn
        · have i26 : (n : Int) < 26 := by omega
          go_wp2_with (first | (refine wpList_store_blk rfl 26 26 _ _ rfl _ rfl _ (hdC hdZ) rfl K11.out.2.1 (by rw [hdC_length (h := hdZ) rfl, hdC_length HX5.out]) hsize (hdC_one _) ?_; intro w12 b12 s12 k12; have K12 : Hid (Below w.heap.size w w12) := (K11.out.1.kept k12 (fun j e => e ▸ K11.out.2.2)).bel; clear b12 s12 k12 K11))
          go_ret
          exact ⟨rfl, K12.out⟩
        · have i26 : ¬ ((n : Int) < 26) := by omega
          obtain ⟨bb, oo, rfl, hbb, hcc⟩ := HY.out.1.cells (by omega)
          have CL : Hid ((∀ W, Below w.heap.size w W → W.cell? ⟨bb, oo, none⟩ = some (.int .u8 (zs.getD 0 0))) ∧ (∀ W, Below w.heap.size w W → W.cell? ⟨bb, oo + 1, none⟩ = some (.int .u8 (zs.getD 1 0)))) := ⟨fun W l => (l.cell (p := ⟨bb, oo, none⟩) hbb).trans (hcc 0 (by omega)), fun W l => (l.cell (p := ⟨bb, oo + 1, none⟩) hbb).trans (hcc 1 (by omega))⟩
          have hb2 := HY.out.2.2.2.at 0 (by have := HY.out.2.2.1; omega)
          have hb3 := HY.out.2.2.2.at 1 (by have := HY.out.2.2.1; omega)
          have hor : zs.getD 0 0 < 2 → ¬ zs.getD 1 0 < 2 := fun x y => by rw [isR, decide_eq_true (by have := HY.out.2.2.1; omega : 26 ≤ zs.length), decide_eq_true x, decide_eq_true y] at hZ; cases hZ
          obtain ⟨A, eA⟩ : ∃ A, zs.getD 0 0 = A := ⟨_, rfl⟩
          obtain ⟨B, eB⟩ : ∃ B, zs.getD 1 0 = B := ⟨_, rfl⟩
          rw [eA, eB] at hor CL
          rw [eA] at hb2
          rw [eB] at hb3
          have n0 : (0 : Int) < (n : Int) := by omega
          have n1 : (1 : Int) < (n : Int) := by omega
          clear hbb hcc eA eB
          rcases (by omega : 1 < A ∨ (¬ 1 < A ∧ 1 < B)) with j1 | ⟨j1, j2⟩
          · clear hor
            go_wp2_with (first | (refine wpList_store_blk rfl 26 26 _ _ rfl _ rfl _ (hdC hdZ) rfl K11.out.2.1 (by rw [hdC_length (h := hdZ) rfl, hdC_length HX5.out]) hsize (hdC_one _) ?_; intro w12 b12 s12 k12; have K12 : Hid (Below w.heap.size w w12) := (K11.out.1.kept k12 (fun j e => e ▸ K11.out.2.2)).bel; have d0 : w12.cell? ⟨bb, oo, none⟩ = some (.int .u8 A) := (CL.out.1 w12 K12.out); have d1 : w12.cell? ⟨bb, oo + 1, none⟩ = some (.int .u8 B) := (CL.out.2 w12 K12.out); clear b12 s12 k12 K11))
            go_ret
            exact ⟨rfl, K12.out⟩
          · clear hor
            go_wp2_with (first | (refine wpList_store_blk rfl 26 26 _ _ rfl _ rfl _ (hdC hdZ) rfl K11.out.2.1 (by rw [hdC_length (h := hdZ) rfl, hdC_length HX5.out]) hsize (hdC_one _) ?_; intro w12 b12 s12 k12; have K12 : Hid (Below w.heap.size w w12) := (K11.out.1.kept k12 (fun j e => e ▸ K11.out.2.2)).bel; have d0 : w12.cell? ⟨bb, oo, none⟩ = some (.int .u8 A) := (CL.out.1 w12 K12.out); have d1 : w12.cell? ⟨bb, oo + 1, none⟩ = some (.int .u8 B) := (CL.out.2 w12 K12.out); clear b12 s12 k12 K11))
            go_ret
            exact ⟨rfl, K12.out⟩
    · have hR : isR Z = false := by rw [HZ.out.2.2.2.1]; rw [decide_eq_false (by omega : ¬ h.flag < 2), Bool.and_false]
      refine (parse_bad q3 (26 + m) c3 Z V3.out.2 wx V3.out.1 hR).mono ?_
      rintro e w5 ⟨rfl, l5⟩
      have K5 : Hid (Bk w w5 h) := K3.out.later l5
      clear l5 V3 K3
      go_wp2_with (first | (refine wpList_alloc_new rfl 26 rfl 20 _ hzero ?_; intro w6 b6 s6 l6) | (refine wpList_store_blk rfl 26 26 _ _ rfl _ rfl _ (hdC hdZ) rfl b6 rfl hsize (hdC_one _) ?_; intro w9 b9 s9 k9; have L9 : Below w5.heap.size w5 w9 := below_kept l6 k9 (by omega) (fun j hj => by omega); have K9 : Hid (Bk w w9 h ∧ Blk w9 w5.heap.size 26 (hdC hdZ) ∧ w.heap.size < w5.heap.size) := ⟨K5.out.later L9, b9, K5.out.b.lt⟩; have d0 : w9.cell? ⟨w.heap.size, 0, none⟩ = some (.int .u8 h.live) := K9.out.1.b.cell 0; have d1 : w9.cell? ⟨w.heap.size, 1, none⟩ = some (.int .u8 h.flag) := K9.out.1.b.cell 1; clear b6 s6 l6 b9 s9 k9 L9 K5) | ((with_reducible show wpList _ _ _ (({ dst := some 58, op := _, type := _, pos := _, after := _, guard := _ } : Oper) :: _) _ _); refine wpList_load_g (by rfl) 26 (.tmp 8) rfl _ rfl (hdC hdZ) _ K9.out.2.1 Try.underlying26 rfl hsize ?_) | ((with_reducible show wpList _ _ _ (({ dst := some 59, op := _, type := _, pos := _, after := _, guard := _ } : Oper) :: _) _ _); refine wpList_build_g (by rfl) 26 _ rfl #[] rfl _ (hbuild0 _) ?_))
      obtain ⟨X5, eX5⟩ : ∃ X, hdZ = X := ⟨_, rfl⟩
      have HX5 : Hid (X5.group.length = 16) := by show _ = _; rw [← eX5]; rfl
      have K9 : Hid (Bk w w9 h ∧ Blk w9 w5.heap.size 26 (hdC X5) ∧ w.heap.size < w5.heap.size) := ⟨K9.out.1, eX5 ▸ K9.out.2.1, K9.out.2.2⟩
      clear d0 d1 eX5
      refine (copyB_any bo n d zs _ (HY.out.1.later K9.out.1.bel (Nat.le_refl _))).mono ?_
      rintro e w10 ⟨v10, rfl, o10, l10⟩
      obtain ⟨q10, c10, rfl, S10, f10, -, -⟩ := isO_sl HY.out.2.2.1 HY.out.2.2.2 (by have := HY.out.2.1; omega) o10
      have K10 : Hid (Bk w w10 h ∧ Blk w10 w5.heap.size 26 (hdC X5) ∧ w.heap.size < w5.heap.size ∧ Seen w10 q10 n zs ∧ n ≤ c10) := ⟨K9.out.1.later l10, K9.out.2.1.later l10 K9.out.2.1.lt, K9.out.2.2, S10, f10⟩
      clear S10 f10 l10 o10 K9
      go_wp2_with (fail)
      cases hZ : isR zs with
      | true =>
        have n26 : 26 ≤ n := by rw [← HY.out.2.2.1]; exact isR_long hZ
        refine (parse_good q10 n c10 zs K10.out.2.2.2.2 w10 K10.out.2.2.2.1 hZ).mono ?_
        rintro e w11 ⟨v11, rfl, o11, l11⟩
        have HO : Hid (HdOk (hdOf zs) ∧ (zs.drop 26).length = n - 26 ∧ Bytes (zs.drop 26)) := ⟨hdOf_ok HY.out.2.2.2 (by have := HY.out.2.2.1; omega), by rw [List.length_drop, HY.out.2.2.1], fun z hz => HY.out.2.2.2 z (List.mem_of_mem_drop hz)⟩
        obtain ⟨q11, c11, rfl, S11, -, f11, B11⟩ := isO_sl HO.out.2.1 HO.out.2.2 (by have := HY.out.2.1; omega) o11
        obtain ⟨y, ey⟩ : ∃ y, hdOf zs = y := ⟨_, rfl⟩
        have Hy : Hid (hdB y ++ zs.drop 26 = zs) := by show _ = _; rw [← ey]; exact hdB_hdOf HY.out.2.2.2 (by have := HY.out.2.2.1; omega)
        rw [ey] at HO ⊢
        have K11 : Hid (Bk w w11 h ∧ Blk w11 w5.heap.size 26 (hdC X5) ∧ w.heap.size < w5.heap.size ∧ Seen w11 q11 (n - 26) (zs.drop 26) ∧ (q11 = none → c11 = 0) ∧ (∀ b o, q11 = some ⟨b, o, none⟩ → w5.heap.size < b)) := ⟨K10.out.1.later l11, K10.out.2.1.later l11 K10.out.2.1.lt, K10.out.2.2.1, S11, f11, fun b o e => Nat.lt_of_lt_of_le K10.out.2.1.lt (B11 b o e)⟩
        clear S11 f11 l11 o11 K10 ey B11
        have i26 : (26 : Int) ≤ (n : Int) := by omega
        go_wp2_with (first | (refine wpList_store_blk rfl 26 26 _ _ rfl _ rfl _ (hdC y) rfl K11.out.2.1 (by rw [hdC_length HO.out.1.len, hdC_length HX5.out]) (hsizeC HO.out.1.len) (hdC_one _) ?_; intro w12 b12 s12 k12; have K12 : Hid (Below w.heap.size w w12 ∧ Blk w12 w5.heap.size 26 (hdC y) ∧ Seen w12 q11 (n - 26) (zs.drop 26) ∧ (q11 = none → c11 = 0)) := ⟨(K11.out.1.kept k12 (fun j e => e ▸ K11.out.2.2.1)).bel, b12, K11.out.2.2.2.1.kept k12 (fun b o _ e hj => by have := K11.out.2.2.2.2.2 b o e; omega), K11.out.2.2.2.2.1⟩; clear b12 s12 k12 K11) | ((with_reducible show wpList _ _ _ (({ dst := some 94, op := _, type := _, pos := _, after := _, guard := _ } : Oper) :: _) _ _); refine wpList_load_g (by rfl) 26 (.tmp 8) rfl _ rfl (hdC y) _ K12.out.2.1 Try.underlying26 rfl (hsizeC HO.out.1.len) ?_))
        refine (make_any y HO.out.1 q11 (n - 26) c11 (zs.drop 26) K12.out.2.2.2 (by have := HY.out.2.1; omega) w12 K12.out.2.2.1).mono ?_
        rintro e w13 ⟨v13, rfl, o13, l13⟩
        rw [Hy.out, show 26 + (n - 26) = n by omega] at o13
        obtain ⟨q13, c13, rfl, S13, -, -, -⟩ := isO_sl HY.out.2.2.1 HY.out.2.2.2 (by have := HY.out.2.1; omega) o13
        have K13 : Hid (Below w.heap.size w w13 ∧ Seen w13 q13 n zs) := ⟨below_chain K12.out.1 l13 K12.out.1.size, S13⟩
        clear S13 l13 o13 K12
        go_wp2_with (fail)
        refine (reqb_any q13 bo n n c13 d zs zs w13 K13.out.2 (HY.out.1.later K13.out.1 (Nat.le_refl _))).mono ?_
        rintro e _ ⟨rfl, qq, rfl⟩
        rw [decide_eq_true (rfl : zs = zs)]
        go_wp2
        go_ret
        exact ⟨rfl, below_dn K13.out.1 qq⟩
      | false =>
        refine (parse_bad q10 n c10 zs K10.out.2.2.2.2 w10 K10.out.2.2.2.1 hZ).mono ?_
        rintro e w11 ⟨rfl, l11⟩
        have K11 : Hid (Bk w w11 h ∧ Blk w11 w5.heap.size 26 (hdC X5) ∧ w.heap.size < w5.heap.size) := ⟨K10.out.1.later l11, K10.out.2.1.later l11 K10.out.2.1.lt, K10.out.2.2.1⟩
        clear l11 K10
        rcases Nat.lt_or_ge n 26 with hn | hn
        · have i26 : (n : Int) < 26 := by omega
          go_wp2_with (first | (refine wpList_store_blk rfl 26 26 _ _ rfl _ rfl _ (hdC hdZ) rfl K11.out.2.1 (by rw [hdC_length (h := hdZ) rfl, hdC_length HX5.out]) hsize (hdC_one _) ?_; intro w12 b12 s12 k12; have K12 : Hid (Below w.heap.size w w12) := (K11.out.1.kept k12 (fun j e => e ▸ K11.out.2.2)).bel; clear b12 s12 k12 K11))
          go_ret
          exact ⟨rfl, K12.out⟩
        · have i26 : ¬ ((n : Int) < 26) := by omega
          obtain ⟨bb, oo, rfl, hbb, hcc⟩ := HY.out.1.cells (by omega)
          have CL : Hid ((∀ W, Below w.heap.size w W → W.cell? ⟨bb, oo, none⟩ = some (.int .u8 (zs.getD 0 0))) ∧ (∀ W, Below w.heap.size w W → W.cell? ⟨bb, oo + 1, none⟩ = some (.int .u8 (zs.getD 1 0)))) := ⟨fun W l => (l.cell (p := ⟨bb, oo, none⟩) hbb).trans (hcc 0 (by omega)), fun W l => (l.cell (p := ⟨bb, oo + 1, none⟩) hbb).trans (hcc 1 (by omega))⟩
          have hb2 := HY.out.2.2.2.at 0 (by have := HY.out.2.2.1; omega)
          have hb3 := HY.out.2.2.2.at 1 (by have := HY.out.2.2.1; omega)
          have hor : zs.getD 0 0 < 2 → ¬ zs.getD 1 0 < 2 := fun x y => by rw [isR, decide_eq_true (by have := HY.out.2.2.1; omega : 26 ≤ zs.length), decide_eq_true x, decide_eq_true y] at hZ; cases hZ
          obtain ⟨A, eA⟩ : ∃ A, zs.getD 0 0 = A := ⟨_, rfl⟩
          obtain ⟨B, eB⟩ : ∃ B, zs.getD 1 0 = B := ⟨_, rfl⟩
          rw [eA, eB] at hor CL
          rw [eA] at hb2
          rw [eB] at hb3
          have n0 : (0 : Int) < (n : Int) := by omega
          have n1 : (1 : Int) < (n : Int) := by omega
          clear hbb hcc eA eB
          rcases (by omega : 1 < A ∨ (¬ 1 < A ∧ 1 < B)) with j1 | ⟨j1, j2⟩
          · clear hor
            go_wp2_with (first | (refine wpList_store_blk rfl 26 26 _ _ rfl _ rfl _ (hdC hdZ) rfl K11.out.2.1 (by rw [hdC_length (h := hdZ) rfl, hdC_length HX5.out]) hsize (hdC_one _) ?_; intro w12 b12 s12 k12; have K12 : Hid (Below w.heap.size w w12) := (K11.out.1.kept k12 (fun j e => e ▸ K11.out.2.2)).bel; have d0 : w12.cell? ⟨bb, oo, none⟩ = some (.int .u8 A) := (CL.out.1 w12 K12.out); have d1 : w12.cell? ⟨bb, oo + 1, none⟩ = some (.int .u8 B) := (CL.out.2 w12 K12.out); clear b12 s12 k12 K11))
            go_ret
            exact ⟨rfl, K12.out⟩
          · clear hor
            go_wp2_with (first | (refine wpList_store_blk rfl 26 26 _ _ rfl _ rfl _ (hdC hdZ) rfl K11.out.2.1 (by rw [hdC_length (h := hdZ) rfl, hdC_length HX5.out]) hsize (hdC_one _) ?_; intro w12 b12 s12 k12; have K12 : Hid (Below w.heap.size w w12) := (K11.out.1.kept k12 (fun j e => e ▸ K11.out.2.2)).bel; have d0 : w12.cell? ⟨bb, oo, none⟩ = some (.int .u8 A) := (CL.out.1 w12 K12.out); have d1 : w12.cell? ⟨bb, oo + 1, none⟩ = some (.int .u8 B) := (CL.out.2 w12 K12.out); clear b12 s12 k12 K11))
            go_ret
            exact ⟨rfl, K12.out⟩
    · have hR : isR Z = false := by rw [HZ.out.2.2.2.1]; rw [decide_eq_false (by omega : ¬ h.live < 2), Bool.false_and]
      refine (parse_bad q3 (26 + m) c3 Z V3.out.2 wx V3.out.1 hR).mono ?_
      rintro e w5 ⟨rfl, l5⟩
      have K5 : Hid (Bk w w5 h) := K3.out.later l5
      clear l5 V3 K3
      go_wp2_with (first | (refine wpList_alloc_new rfl 26 rfl 20 _ hzero ?_; intro w6 b6 s6 l6) | (refine wpList_store_blk rfl 26 26 _ _ rfl _ rfl _ (hdC hdZ) rfl b6 rfl hsize (hdC_one _) ?_; intro w9 b9 s9 k9; have L9 : Below w5.heap.size w5 w9 := below_kept l6 k9 (by omega) (fun j hj => by omega); have K9 : Hid (Bk w w9 h ∧ Blk w9 w5.heap.size 26 (hdC hdZ) ∧ w.heap.size < w5.heap.size) := ⟨K5.out.later L9, b9, K5.out.b.lt⟩; have d0 : w9.cell? ⟨w.heap.size, 0, none⟩ = some (.int .u8 h.live) := K9.out.1.b.cell 0; have d1 : w9.cell? ⟨w.heap.size, 1, none⟩ = some (.int .u8 h.flag) := K9.out.1.b.cell 1; clear b6 s6 l6 b9 s9 k9 L9 K5) | ((with_reducible show wpList _ _ _ (({ dst := some 58, op := _, type := _, pos := _, after := _, guard := _ } : Oper) :: _) _ _); refine wpList_load_g (by rfl) 26 (.tmp 8) rfl _ rfl (hdC hdZ) _ K9.out.2.1 Try.underlying26 rfl hsize ?_) | ((with_reducible show wpList _ _ _ (({ dst := some 59, op := _, type := _, pos := _, after := _, guard := _ } : Oper) :: _) _ _); refine wpList_build_g (by rfl) 26 _ rfl #[] rfl _ (hbuild0 _) ?_))
      obtain ⟨X5, eX5⟩ : ∃ X, hdZ = X := ⟨_, rfl⟩
      have HX5 : Hid (X5.group.length = 16) := by show _ = _; rw [← eX5]; rfl
      have K9 : Hid (Bk w w9 h ∧ Blk w9 w5.heap.size 26 (hdC X5) ∧ w.heap.size < w5.heap.size) := ⟨K9.out.1, eX5 ▸ K9.out.2.1, K9.out.2.2⟩
      clear d0 d1 eX5
      refine (copyB_any bo n d zs _ (HY.out.1.later K9.out.1.bel (Nat.le_refl _))).mono ?_
      rintro e w10 ⟨v10, rfl, o10, l10⟩
      obtain ⟨q10, c10, rfl, S10, f10, -, -⟩ := isO_sl HY.out.2.2.1 HY.out.2.2.2 (by have := HY.out.2.1; omega) o10
      have K10 : Hid (Bk w w10 h ∧ Blk w10 w5.heap.size 26 (hdC X5) ∧ w.heap.size < w5.heap.size ∧ Seen w10 q10 n zs ∧ n ≤ c10) := ⟨K9.out.1.later l10, K9.out.2.1.later l10 K9.out.2.1.lt, K9.out.2.2, S10, f10⟩
      clear S10 f10 l10 o10 K9
      go_wp2_with (fail)
      cases hZ : isR zs with
      | true =>
        have n26 : 26 ≤ n := by rw [← HY.out.2.2.1]; exact isR_long hZ
        refine (parse_good q10 n c10 zs K10.out.2.2.2.2 w10 K10.out.2.2.2.1 hZ).mono ?_
        rintro e w11 ⟨v11, rfl, o11, l11⟩
        have HO : Hid (HdOk (hdOf zs) ∧ (zs.drop 26).length = n - 26 ∧ Bytes (zs.drop 26)) := ⟨hdOf_ok HY.out.2.2.2 (by have := HY.out.2.2.1; omega), by rw [List.length_drop, HY.out.2.2.1], fun z hz => HY.out.2.2.2 z (List.mem_of_mem_drop hz)⟩
        obtain ⟨q11, c11, rfl, S11, -, f11, B11⟩ := isO_sl HO.out.2.1 HO.out.2.2 (by have := HY.out.2.1; omega) o11
        obtain ⟨y, ey⟩ : ∃ y, hdOf zs = y := ⟨_, rfl⟩
        have Hy : Hid (hdB y ++ zs.drop 26 = zs) := by show _ = _; rw [← ey]; exact hdB_hdOf HY.out.2.2.2 (by have := HY.out.2.2.1; omega)
        rw [ey] at HO ⊢
        have K11 : Hid (Bk w w11 h ∧ Blk w11 w5.heap.size 26 (hdC X5) ∧ w.heap.size < w5.heap.size ∧ Seen w11 q11 (n - 26) (zs.drop 26) ∧ (q11 = none → c11 = 0) ∧ (∀ b o, q11 = some ⟨b, o, none⟩ → w5.heap.size < b)) := ⟨K10.out.1.later l11, K10.out.2.1.later l11 K10.out.2.1.lt, K10.out.2.2.1, S11, f11, fun b o e => Nat.lt_of_lt_of_le K10.out.2.1.lt (B11 b o e)⟩
        clear S11 f11 l11 o11 K10 ey B11
        have i26 : (26 : Int) ≤ (n : Int) := by omega
        go_wp2_with (first | (refine wpList_store_blk rfl 26 26 _ _ rfl _ rfl _ (hdC y) rfl K11.out.2.1 (by rw [hdC_length HO.out.1.len, hdC_length HX5.out]) (hsizeC HO.out.1.len) (hdC_one _) ?_; intro w12 b12 s12 k12; have K12 : Hid (Below w.heap.size w w12 ∧ Blk w12 w5.heap.size 26 (hdC y) ∧ Seen w12 q11 (n - 26) (zs.drop 26) ∧ (q11 = none → c11 = 0)) := ⟨(K11.out.1.kept k12 (fun j e => e ▸ K11.out.2.2.1)).bel, b12, K11.out.2.2.2.1.kept k12 (fun b o _ e hj => by have := K11.out.2.2.2.2.2 b o e; omega), K11.out.2.2.2.2.1⟩; clear b12 s12 k12 K11) | ((with_reducible show wpList _ _ _ (({ dst := some 94, op := _, type := _, pos := _, after := _, guard := _ } : Oper) :: _) _ _); refine wpList_load_g (by rfl) 26 (.tmp 8) rfl _ rfl (hdC y) _ K12.out.2.1 Try.underlying26 rfl (hsizeC HO.out.1.len) ?_))
        refine (make_any y HO.out.1 q11 (n - 26) c11 (zs.drop 26) K12.out.2.2.2 (by have := HY.out.2.1; omega) w12 K12.out.2.2.1).mono ?_
        rintro e w13 ⟨v13, rfl, o13, l13⟩
        rw [Hy.out, show 26 + (n - 26) = n by omega] at o13
        obtain ⟨q13, c13, rfl, S13, -, -, -⟩ := isO_sl HY.out.2.2.1 HY.out.2.2.2 (by have := HY.out.2.1; omega) o13
        have K13 : Hid (Below w.heap.size w w13 ∧ Seen w13 q13 n zs) := ⟨below_chain K12.out.1 l13 K12.out.1.size, S13⟩
        clear S13 l13 o13 K12
        go_wp2_with (fail)
        refine (reqb_any q13 bo n n c13 d zs zs w13 K13.out.2 (HY.out.1.later K13.out.1 (Nat.le_refl _))).mono ?_
        rintro e _ ⟨rfl, qq, rfl⟩
        rw [decide_eq_true (rfl : zs = zs)]
        go_wp2
        go_ret
        exact ⟨rfl, below_dn K13.out.1 qq⟩
      | false =>
        refine (parse_bad q10 n c10 zs K10.out.2.2.2.2 w10 K10.out.2.2.2.1 hZ).mono ?_
        rintro e w11 ⟨rfl, l11⟩
        have K11 : Hid (Bk w w11 h ∧ Blk w11 w5.heap.size 26 (hdC X5) ∧ w.heap.size < w5.heap.size) := ⟨K10.out.1.later l11, K10.out.2.1.later l11 K10.out.2.1.lt, K10.out.2.2.1⟩
        clear l11 K10
        rcases Nat.lt_or_ge n 26 with hn | hn
        · have i26 : (n : Int) < 26 := by omega
          go_wp2_with (first | (refine wpList_store_blk rfl 26 26 _ _ rfl _ rfl _ (hdC hdZ) rfl K11.out.2.1 (by rw [hdC_length (h := hdZ) rfl, hdC_length HX5.out]) hsize (hdC_one _) ?_; intro w12 b12 s12 k12; have K12 : Hid (Below w.heap.size w w12) := (K11.out.1.kept k12 (fun j e => e ▸ K11.out.2.2)).bel; clear b12 s12 k12 K11))
          go_ret
          exact ⟨rfl, K12.out⟩
        · have i26 : ¬ ((n : Int) < 26) := by omega
          obtain ⟨bb, oo, rfl, hbb, hcc⟩ := HY.out.1.cells (by omega)
          have CL : Hid ((∀ W, Below w.heap.size w W → W.cell? ⟨bb, oo, none⟩ = some (.int .u8 (zs.getD 0 0))) ∧ (∀ W, Below w.heap.size w W → W.cell? ⟨bb, oo + 1, none⟩ = some (.int .u8 (zs.getD 1 0)))) := ⟨fun W l => (l.cell (p := ⟨bb, oo, none⟩) hbb).trans (hcc 0 (by omega)), fun W l => (l.cell (p := ⟨bb, oo + 1, none⟩) hbb).trans (hcc 1 (by omega))⟩
          have hb2 := HY.out.2.2.2.at 0 (by have := HY.out.2.2.1; omega)
          have hb3 := HY.out.2.2.2.at 1 (by have := HY.out.2.2.1; omega)
          have hor : zs.getD 0 0 < 2 → ¬ zs.getD 1 0 < 2 := fun x y => by rw [isR, decide_eq_true (by have := HY.out.2.2.1; omega : 26 ≤ zs.length), decide_eq_true x, decide_eq_true y] at hZ; cases hZ
          obtain ⟨A, eA⟩ : ∃ A, zs.getD 0 0 = A := ⟨_, rfl⟩
          obtain ⟨B, eB⟩ : ∃ B, zs.getD 1 0 = B := ⟨_, rfl⟩
          rw [eA, eB] at hor CL
          rw [eA] at hb2
          rw [eB] at hb3
          have n0 : (0 : Int) < (n : Int) := by omega
          have n1 : (1 : Int) < (n : Int) := by omega
          clear hbb hcc eA eB
          rcases (by omega : 1 < A ∨ (¬ 1 < A ∧ 1 < B)) with j1 | ⟨j1, j2⟩
          · clear hor
            go_wp2_with (first | (refine wpList_store_blk rfl 26 26 _ _ rfl _ rfl _ (hdC hdZ) rfl K11.out.2.1 (by rw [hdC_length (h := hdZ) rfl, hdC_length HX5.out]) hsize (hdC_one _) ?_; intro w12 b12 s12 k12; have K12 : Hid (Below w.heap.size w w12) := (K11.out.1.kept k12 (fun j e => e ▸ K11.out.2.2)).bel; have d0 : w12.cell? ⟨bb, oo, none⟩ = some (.int .u8 A) := (CL.out.1 w12 K12.out); have d1 : w12.cell? ⟨bb, oo + 1, none⟩ = some (.int .u8 B) := (CL.out.2 w12 K12.out); clear b12 s12 k12 K11))
            go_ret
            exact ⟨rfl, K12.out⟩
          · clear hor
            go_wp2_with (first | (refine wpList_store_blk rfl 26 26 _ _ rfl _ rfl _ (hdC hdZ) rfl K11.out.2.1 (by rw [hdC_length (h := hdZ) rfl, hdC_length HX5.out]) hsize (hdC_one _) ?_; intro w12 b12 s12 k12; have K12 : Hid (Below w.heap.size w w12) := (K11.out.1.kept k12 (fun j e => e ▸ K11.out.2.2)).bel; have d0 : w12.cell? ⟨bb, oo, none⟩ = some (.int .u8 A) := (CL.out.1 w12 K12.out); have d1 : w12.cell? ⟨bb, oo + 1, none⟩ = some (.int .u8 B) := (CL.out.2 w12 K12.out); clear b12 s12 k12 K11))
            go_ret
            exact ⟨rfl, K12.out⟩
end Go.Proofs.Ytabdjoljdefjdaa.recordBack
