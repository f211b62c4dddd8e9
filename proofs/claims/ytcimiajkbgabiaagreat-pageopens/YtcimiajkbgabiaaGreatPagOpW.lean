/- The walk of PageOpens. -/
import Derived.Test.YtcimiajkbgabiaaGreatZK
namespace Go.Proofs.YtcimiajkbgabiaaGreat
open Go.RowKit
set_option linter.unusedVariables false
set_option linter.unusedSimpArgs false

set_option maxRecDepth 20000 in
set_option maxHeartbeats 4000000 in
theorem pageOpens.walk (s : Sh) (w : World) (h : ShIn w s) (hm : s.m ≤ 140737488351232) : Calls Tryz.prog 4 #[.agg (sheetC s).toArray] w fun e w' => e = .returned (.bool true) ∧ Below w.heap.size w w' := by
  have HI : Hid (ShIn w s) := h
  clear h
  obtain ⟨K, E, R1, hK, hq1⟩ := qh_ex s.key s.r s.c s.p s.q s.m s.zs HI.out.text.len
  obtain ⟨A, C, D, hqt⟩ := qt_ex s.m s.zs
  have HQ1 : Hid (Qh s.key s.r s.c s.p s.q s.m s.zs K E R1 ∧ Qt s.m s.zs A C D) := ⟨hq1, hqt⟩
  have eE : (E != E) = false := by simp
  have eD : (D != D) = false := by simp
  have eA : (A != A) = false := by simp
  have eC : (C != C) = false := by simp
  clear hq1 hqt
  go_enter Tryz.func4, Tryz.ntmps4
  go_wp2_with (first | (refine wpList_box_new rfl 30 _ rfl (sheetC s) rfl ?_; intro w1 b1 s1 l1; have H1 : Hid (ShAt w1 w.heap.size s ∧ Below w.heap.size w w1) := ⟨⟨b1, HI.out.later l1 (Nat.le_refl _)⟩, l1⟩; have cT := H1.out.1.cT; clear b1 s1 l1) | (refine wpList_load_mid rfl 23 _ rfl w.heap.size 0 rfl (u8s s.key) _ H1.out.1.key Tryz.underlying23 rfl (by rw [u8s_length, HI.out.k32]; exact sizeKey) ?_) | (refine wpList_load_mid rfl 27 _ rfl w.heap.size 32 rfl (placeC s.r s.c s.p s.q) _ H1.out.1.place Tryz.underlying27 rfl pzKey ?_))
  have CS : Hid (∀ W, Below w1.heap.size w1 W → ShAt W w.heap.size s) := fun W hW => H1.out.1.later hW
  clear cT
  refine (rpo_out s.key s.r s.c s.p s.q s.bo s.m s.d s.zs K E R1 HQ1.out.1 HI.out.k32 HI.out.kb HI.out.hr HI.out.hc HI.out.hp HI.out.hq w1 H1.out.1.is.text HI.out.hd).mono ?_
  rintro e w2 ⟨o1, c1, rfl, u1, l2⟩
  have A2 : Hid (Seen w2 o1 K R1 ∧ Below w1.heap.size w1 w2) := ⟨u1, l2⟩
  clear u1 l2
  have cT := (CS.out _ A2.out.2).cT
  go_wp2_with fail
  clear cT
  refine (rph_out s.bo s.m s.d s.zs A C D HQ1.out.2 w2 (CS.out _ A2.out.2).is.text HI.out.hd).mono ?_
  rintro e w3 ⟨rfl, l3⟩
  have A3 : Hid (Seen w3 o1 K R1 ∧ Below w1.heap.size w1 w3) := ⟨A2.out.1.later l3 (Nat.le_refl _), below_chain A2.out.2 l3 A2.out.2.size⟩
  clear l3 A2
  have cT := (CS.out _ A3.out.2).cT
  go_wp2_with fail
  clear cT
  refine (spare_big s.bo s.m s.d s.zs w3 (CS.out _ A3.out.2).is.text hm).mono ?_
  rintro e w4 ⟨rfl, b4, s4, l4⟩
  obtain ⟨gT, hgT⟩ : ∃ g, w3.heap.size = g := ⟨_, rfl⟩
  have A4 : Hid (Sp w1 w4 gT s.zs ∧ Seen w4 o1 K R1 ∧ w1.heap.size ≤ gT ∧ w4.heap.size = gT + 1) := by
    refine ⟨⟨by rw [← hgT]; exact b4, below_chain A3.out.2 l4 A3.out.2.size⟩, A3.out.1.later l4 (Nat.le_refl _), by have := A3.out.2.size; omega, by omega⟩
  rw [hgT]
  clear b4 l4 s4 A3 hgT
  have cT := (CS.out _ A4.out.1.bel).cT
  go_wp2_with (first | (refine wpList_load_mid rfl 23 _ rfl w.heap.size 0 rfl (u8s s.key) _ (CS.out _ A4.out.1.bel).key Tryz.underlying23 rfl (by rw [u8s_length, HI.out.k32]; exact sizeKey) ?_) | (refine wpList_load_mid rfl 27 _ rfl w.heap.size 32 rfl (placeC s.r s.c s.p s.q) _ (CS.out _ A4.out.1.bel).place Tryz.underlying27 rfl pzKey ?_))
  clear cT
  refine (po_out s.key s.r s.c s.p s.q (some ⟨gT, 0, none⟩) s.m (s.m + 80) s.zs K E R1 HQ1.out.1 HI.out.k32 HI.out.kb HI.out.hr HI.out.hc HI.out.hp HI.out.hq w4 (A4.out.1.seen HI.out.text.len HI.out.text.bytes hm) (by omega)).mono ?_
  rintro e w5 ⟨o2, c2, rfl, u2, l5⟩
  have z5 := l5.size
  have A5 : Hid (Sp w1 w5 gT s.zs ∧ Seen w5 o1 K R1 ∧ Out w5 w4.heap.size w5.heap.size o2 K c2 R1) := ⟨A4.out.1.later l5, A4.out.2.1.later l5 (Nat.le_refl _), u2⟩
  clear u2 l5
  have cT := (CS.out _ A5.out.1.bel).cT
  go_wp2_with (first | (refine wpList_load_mid rfl 23 _ rfl w.heap.size 0 rfl (u8s s.key) _ (CS.out _ A5.out.1.bel).key Tryz.underlying23 rfl (by rw [u8s_length, HI.out.k32]; exact sizeKey) ?_) | (refine wpList_load_mid rfl 27 _ rfl w.heap.size 32 rfl (placeC s.r s.c s.p s.q) _ (CS.out _ A5.out.1.bel).place Tryz.underlying27 rfl pzKey ?_))
  clear cT
  refine (po_out s.key s.r s.c s.p s.q (some ⟨gT, 0, none⟩) s.m (s.m + 80) s.zs K E R1 HQ1.out.1 HI.out.k32 HI.out.kb HI.out.hr HI.out.hc HI.out.hp HI.out.hq w5 (A5.out.1.seen HI.out.text.len HI.out.text.bytes hm) (by omega)).mono ?_
  rintro e w6 ⟨o3, c3, rfl, u3, l6⟩
  have z6 := l6.size
  have A6 : Hid (Sp w1 w6 gT s.zs ∧ Seen w6 o1 K R1 ∧ Out w6 w4.heap.size w5.heap.size o2 K c2 R1 ∧ Out w6 w5.heap.size w6.heap.size o3 K c3 R1) := ⟨A5.out.1.later l6, A5.out.2.1.later l6 (Nat.le_refl _), A5.out.2.2.later l6, u3⟩
  clear u3 l6 A5
  have cT := (CS.out _ A6.out.1.bel).cT
  go_wp2_with fail
  clear cT
  refine (ph_out (some ⟨gT, 0, none⟩) s.m (s.m + 80) s.zs A C D HQ1.out.2 w6 (A6.out.1.seen HI.out.text.len HI.out.text.bytes hm) (by omega)).mono ?_
  rintro e w7 ⟨rfl, l7⟩
  have z7 := l7.size
  have A7 : Hid (Sp w1 w7 gT s.zs ∧ Seen w7 o1 K R1 ∧ Out w7 w4.heap.size w5.heap.size o2 K c2 R1 ∧ Out w7 w5.heap.size w6.heap.size o3 K c3 R1) := ⟨A6.out.1.later l7, A6.out.2.1.later l7 (Nat.le_refl _), A6.out.2.2.1.later l7, A6.out.2.2.2.later l7⟩
  clear l7 A6
  have cT := (CS.out _ A7.out.1.bel).cT
  go_wp2_with fail
  clear cT
  refine (eqb_yes o2 o1 K c2 c1 R1 w7 A7.out.2.2.1.seen A7.out.2.1).mono ?_
  rintro e w8 ⟨rfl, q, hq⟩
  have z8 : w7.heap.size ≤ w8.heap.size := by rw [hq]; exact size_dn _ q
  have A8 : Hid (Sp w1 w8 gT s.zs ∧ Seen w8 o1 K R1 ∧ Out w8 w4.heap.size w5.heap.size o2 K c2 R1 ∧ Out w8 w5.heap.size w6.heap.size o3 K c3 R1) := by rw [hq]; exact ⟨A7.out.1.dn q, A7.out.2.1.drewN q, A7.out.2.2.1.dn q, A7.out.2.2.2.dn q⟩
  clear hq A7
  have cT := (CS.out _ A8.out.1.bel).cT
  go_wp2_with fail
  clear cT
  refine (eqb_yes o3 o1 K c3 c1 R1 w8 A8.out.2.2.2.seen A8.out.2.1).mono ?_
  rintro e w9 ⟨rfl, q, hq⟩
  have z9 : w8.heap.size ≤ w9.heap.size := by rw [hq]; exact size_dn _ q
  have A9 : Hid (Sp w1 w9 gT s.zs ∧ Seen w9 o1 K R1 ∧ Out w9 w4.heap.size w5.heap.size o2 K c2 R1 ∧ Out w9 w5.heap.size w6.heap.size o3 K c3 R1) := by rw [hq]; exact ⟨A8.out.1.dn q, A8.out.2.1.drewN q, A8.out.2.2.1.dn q, A8.out.2.2.2.dn q⟩
  clear hq A8
  have cT := (CS.out _ A9.out.1.bel).cT
  go_wp2_with fail
  clear cT
  refine (kept_big gT s.bo s.m s.d s.zs w9 A9.out.1.tx (CS.out _ A9.out.1.bel).is.text hm).mono ?_
  rintro e w10 ⟨rfl, q, hq⟩
  have z10 : w9.heap.size ≤ w10.heap.size := by rw [hq]; exact size_dn _ q
  have A10 : Hid (Sp w1 w10 gT s.zs ∧ Seen w10 o1 K R1 ∧ Out w10 w4.heap.size w5.heap.size o2 K c2 R1 ∧ Out w10 w5.heap.size w6.heap.size o3 K c3 R1) := by rw [hq]; exact ⟨A9.out.1.dn q, A9.out.2.1.drewN q, A9.out.2.2.1.dn q, A9.out.2.2.2.dn q⟩
  clear hq A9
  have cT := (CS.out _ A10.out.1.bel).cT
  go_wp2_with fail
  clear cT
  refine (copyB_any (some ⟨gT, 0, none⟩) s.m (s.m + 80) s.zs w10 (A10.out.1.seen HI.out.text.len HI.out.text.bytes hm)).mono ?_
  rintro e w11 ⟨v, rfl, o, l11⟩
  have z11 := l11.size
  have HG4 : Hid (∃ (o4 : Option Addr) (c4 : Nat), v = .slice o4 s.m c4 ∧ s.m ≤ c4 ∧ (0 < s.m → ∃ g4, o4 = some ⟨g4, 0, none⟩ ∧ w10.heap.size ≤ g4 ∧ g4 < w11.heap.size)) := by
    rcases own_len HI.out.text.len o with ⟨e1, e2⟩ | ⟨g4, cap, e1, r1, g1, c1, _⟩
    · exact ⟨none, 0, by rw [e1, e2], by omega, fun h => by omega⟩
    · exact ⟨_, cap, e1, c1, fun _ => ⟨g4, rfl, g1, r1.lt⟩⟩
  obtain ⟨o4, c4, rfl, hc4, hg4⟩ := HG4.out
  have HG : Hid ((0 < s.m → ∃ g4, o4 = some ⟨g4, 0, none⟩ ∧ w10.heap.size ≤ g4 ∧ g4 < w11.heap.size) ∧ s.m ≤ c4) := ⟨hg4, hc4⟩
  have A11 : Hid (Sp w1 w11 gT s.zs ∧ Out w11 w4.heap.size w5.heap.size o2 K c2 R1 ∧ Out w11 w5.heap.size w6.heap.size o3 K c3 R1 ∧ w11.ownsRow 0 5 1 (.slice o4 s.m c4) s.m (s.zs.map (Value.int .u8))) := ⟨A10.out.1.later l11, A10.out.2.2.1.later l11, A10.out.2.2.2.later l11, ownsRow_base o (Nat.zero_le _)⟩
  clear o l11 hg4 HG4 A10 hc4
  go_wp2_with fail
  go_loopw [17] (fun i wr => ∃ (k : Nat) (us : List Int), k ≤ s.m ∧ i = .int .i64 k ∧ us.length = s.m ∧ Bytes us ∧ Sp w1 wr gT us ∧ wr.ownsRow 0 5 1 (.slice o4 s.m c4) s.m (us.map (Value.int .u8)) ∧ Kept (fun y => y = gT ∨ (w10.heap.size ≤ y ∧ y < w11.heap.size)) w11 wr) (fun i _ => s.m - (intOf i).toNat)
  case atStart => exact ⟨0, s.zs, Nat.zero_le _, rfl, HI.out.text.len, HI.out.text.bytes, A11.out.1, A11.out.2.2.2, Kept.refl _ _⟩
  case round =>
    obtain ⟨k, us, hk, rfl, hul, hub, hsp, hown, hkp⟩ := hrel
    by_cases hlt : k < s.m
    · obtain ⟨g4, e4, p1, p2⟩ := HG.out.1 (by omega)
      have HO4 : Hid (o4 = some ⟨g4, 0, none⟩) := e4
      rw [e4] at hown ⊢
      have hne : g4 ≠ gT := by have := A4.out.2.2.2; omega
      have bz := hub.at k (by omega)
      obtain ⟨c4', f4'⟩ := own_at hown k hlt
      obtain ⟨Z, hZ⟩ : ∃ Z, us.getD k 0 = Z := ⟨_, rfl⟩
      rw [hZ] at c4' bz
      obtain ⟨X, hX⟩ : ∃ X, bits .xor .u8 Z 255 = X := ⟨_, rfl⟩
      have bX : 0 ≤ X ∧ X < 256 := by rw [← hX]; exact xor8_bd _ _ bz (by decide)
      have K1 := (Kept.refl (fun y => y = g4) wr).setCell (p := ⟨g4, k, none⟩) rfl (.int .u8 X)
      have ho1 := own_set hown k hlt X
      obtain ⟨c5', f5'⟩ := own_at ho1 k hlt
      have hset : (us.set k X).getD k 0 = X := by simp [List.getD, show k < us.length by omega]
      rw [hset] at c5'
      have t1 := hsp.tx.kept K1 (fun e => hne e.symm)
      have f6 := t1.frozen k
      have c6 := u8s_cell t1 k (by rw [spared_length]; omega)
      have K2 := (Kept.refl (fun y => y = gT) (wr.setCell ⟨g4, k, none⟩ (.int .u8 X))).setCell (p := ⟨gT, k, none⟩) rfl (.int .u8 X)
      have T1 : Hid (Sp w1 ((wr.setCell ⟨g4, k, none⟩ (.int .u8 X)).setCell ⟨gT, k, none⟩ (.int .u8 X)) gT (us.set k X)) := by
        have t := t1.set k (.int .u8 X)
        rw [u8s_set, spared_set us k X (by omega)] at t
        have e := A4.out.2.2
        have b1 := below_kept hsp.bel K1 hsp.bel.size (fun j hj e' => by have := hsp.bel.size; omega)
        exact ⟨t, below_kept b1 K2 b1.size (fun j hj e' => by omega)⟩
      have T2 : Hid (((wr.setCell ⟨g4, k, none⟩ (.int .u8 X)).setCell ⟨gT, k, none⟩ (.int .u8 X)).ownsRow 0 5 1 (.slice o4 s.m c4) s.m ((us.set k X).map (Value.int .u8))) := by
        rw [HO4.out]
        exact own_kept ho1 K2 (fun j hj e => by have := own_addr ho1 hj; cases this; exact hne e)
      have T3 : Hid (Bytes (us.set k X) ∧ (us.set k X).length = s.m ∧ Kept (fun y => y = gT ∨ (w10.heap.size ≤ y ∧ y < w11.heap.size)) w11 ((wr.setCell ⟨g4, k, none⟩ (.int .u8 X)).setCell ⟨gT, k, none⟩ (.int .u8 X))) := ⟨bytes_set hub k _ bX, by rw [List.length_set]; exact hul, (hkp.setCell (p := ⟨g4, k, none⟩) (.inr ⟨p1, p2⟩) _).setCell (p := ⟨gT, k, none⟩) (.inl rfl) _⟩
      have j1 : (0 : Int) ≤ (k : Int) := by omega
      have j2 : (k : Int) < (s.m : Int) := by omega
      have j3 : (k : Int) < (s.m : Int) + 80 := by omega
      clear hZ hsp hub hul hown hkp K1 K2 ho1 t1 hset f5'
      go_wp2_with fail
      rw [← HO4.out]
      go_roundw
      case rel => exact ⟨k + 1, _, by omega, by go_num, T3.out.2.1, T3.out.1, T1.out, T2.out, T3.out.2.2⟩
      case measure => simp [intOf]; omega
    · have j2 : ¬ (k : Int) < (s.m : Int) := by omega
      obtain ⟨KK, E2, R2, hKK, hq2⟩ := qh_ex s.key s.r s.c s.p s.q s.m us hul
      have HQ2 : Hid (Qh s.key s.r s.c s.p s.q s.m us KK E2 R2) := hq2
      have eE2 : (E2 == E2) = true := by simp
      have g3 := A4.out.2.2
      obtain ⟨vs, vc, ve, hvs, _⟩ := own_seen hul hub (by omega) hown
      obtain ⟨e1, e2⟩ : o4 = vs ∧ c4 = vc := by simpa using ve
      subst e1 e2
      have AW : Hid (Sp w1 wr gT us ∧ Out wr w4.heap.size w5.heap.size o2 K c2 R1 ∧ Out wr w5.heap.size w6.heap.size o3 K c3 R1 ∧ Seen wr o4 s.m us ∧ us.length = s.m ∧ Bytes us) := ⟨hsp, A11.out.2.1.kept hkp (fun y h1 h2 e => by omega), A11.out.2.2.1.kept hkp (fun y h1 h2 e => by omega), hvs, hul, hub⟩
      have zr := hkp.size
      clear hsp hown hkp hul hub hq2 hvs ve A11 hlt hk
      have cT := (CS.out _ AW.out.1.bel).cT
      go_wp2_with (first | (refine wpList_load_mid rfl 23 _ rfl w.heap.size 0 rfl (u8s s.key) _ (CS.out _ AW.out.1.bel).key Tryz.underlying23 rfl (by rw [u8s_length, HI.out.k32]; exact sizeKey) ?_) | (refine wpList_load_mid rfl 27 _ rfl w.heap.size 32 rfl (placeC s.r s.c s.p s.q) _ (CS.out _ AW.out.1.bel).place Tryz.underlying27 rfl pzKey ?_))
      clear cT
      refine (rpo_out s.key s.r s.c s.p s.q o4 s.m c4 us KK E2 R2 HQ2.out HI.out.k32 HI.out.kb HI.out.hr HI.out.hc HI.out.hp HI.out.hq wr AW.out.2.2.2.1 HG.out.2).mono ?_
      rintro e w12 ⟨o5, c5, rfl, u5, l12⟩
      have z12 := l12.size
      have A12 : Hid (Sp w1 w12 gT us ∧ Out w12 w4.heap.size w5.heap.size o2 K c2 R1 ∧ Out w12 w5.heap.size w6.heap.size o3 K c3 R1 ∧ Seen w12 o5 KK R2) := ⟨AW.out.1.later l12, AW.out.2.1.later l12, AW.out.2.2.1.later l12, u5⟩
      clear u5 l12
      have cT := (CS.out _ A12.out.1.bel).cT
      go_wp2_with (first | (refine wpList_load_mid rfl 23 _ rfl w.heap.size 0 rfl (u8s s.key) _ (CS.out _ A12.out.1.bel).key Tryz.underlying23 rfl (by rw [u8s_length, HI.out.k32]; exact sizeKey) ?_) | (refine wpList_load_mid rfl 27 _ rfl w.heap.size 32 rfl (placeC s.r s.c s.p s.q) _ (CS.out _ A12.out.1.bel).place Tryz.underlying27 rfl pzKey ?_))
      clear cT
      refine (po_out s.key s.r s.c s.p s.q (some ⟨gT, 0, none⟩) s.m (s.m + 80) us KK E2 R2 HQ2.out HI.out.k32 HI.out.kb HI.out.hr HI.out.hc HI.out.hp HI.out.hq w12 (A12.out.1.seen AW.out.2.2.2.2.1 AW.out.2.2.2.2.2 hm) (by omega)).mono ?_
      rintro e w13 ⟨o6, c6, rfl, u6, l13⟩
      have z13 := l13.size
      have A13 : Hid (Sp w1 w13 gT us ∧ Out w13 w4.heap.size w5.heap.size o2 K c2 R1 ∧ Out w13 w5.heap.size w6.heap.size o3 K c3 R1 ∧ Seen w13 o5 KK R2 ∧ Out w13 w12.heap.size w13.heap.size o6 KK c6 R2) := ⟨A12.out.1.later l13, A12.out.2.1.later l13, A12.out.2.2.1.later l13, A12.out.2.2.2.later l13 (Nat.le_refl _), u6⟩
      clear u6 l13 A12
      go_wp2_with fail
      refine (eqb_yes o6 o5 KK c6 c5 R2 w13 A13.out.2.2.2.2.seen A13.out.2.2.2.1).mono ?_
      rintro e w14 ⟨rfl, q, hq⟩
      have z14 : w13.heap.size ≤ w14.heap.size := by rw [hq]; exact size_dn _ q
      have A14 : Hid (Sp w1 w14 gT us ∧ Out w14 w4.heap.size w5.heap.size o2 K c2 R1 ∧ Out w14 w5.heap.size w6.heap.size o3 K c3 R1 ∧ Out w14 w12.heap.size w13.heap.size o6 KK c6 R2) := by rw [hq]; exact ⟨A13.out.1.dn q, A13.out.2.1.dn q, A13.out.2.2.1.dn q, A13.out.2.2.2.2.dn q⟩
      clear hq A13
      go_wp2_with (refine wpList_bs rfl 37 4 _ rfl _ rfl _ _ (bsq4 o2 o3 o6 (some ⟨gT, 0, none⟩) K K KK s.m c2 c3 c6 (s.m + 80) _) ?_)
      have LT := lot4 A14.out.2.1 A14.out.2.2.1 A14.out.2.2.2 (A14.out.1.out AW.out.2.2.2.2.1 AW.out.2.2.2.2.2 hm) (Nat.le_refl _) (by omega) (by omega) z5 z6 z13 (Nat.le_succ _) (by omega)
      refine (rapart_any w14.heap.size 4 4 _ _ _ _ _ _ LT.1 (by decide) (fun j hj => by rcases (by omega : j = 0 ∨ j = 1 ∨ j = 2 ∨ j = 3) with rfl | rfl | rfl | rfl <;> simp <;> omega)).mono ?_
      rintro e w15 ⟨rfl, kh⟩
      have A15 : Hid (Below w1.heap.size w1 w15) := by
        have l := (Below.refl w14.heap.size w14).alloc (Nat.le_refl _) (.cells #[.slice o2 K c2, .slice o3 K c3, .slice o6 KK c6, .slice (some ⟨gT, 0, none⟩) s.m (s.m + 80)] 28)
        have b := A14.out.1.bel
        have bl := below_chain b l b.size
        exact below_kept bl kh bl.size (fun j hj hS => by have := LT.2 j hS; omega)
      clear LT kh A14
      go_wp2_with (go_at_call 12; refine (pworks_any _).mono ?_; rintro e w16 ⟨rfl, l16⟩)
      go_ret
      exact ⟨rfl, below_chain (below_chain H1.out.2 A15.out H1.out.2.size) l16 (by have := H1.out.2.size; have := A15.out.size; omega)⟩
end Go.Proofs.YtcimiajkbgabiaaGreat
