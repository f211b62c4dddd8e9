/- The walk of PageSeals. -/
import Derived.Test.YtcimiajkbgabiaaGreatZK
namespace Go.Proofs.YtcimiajkbgabiaaGreat
open Go.RowKit
set_option linter.unusedVariables false
set_option linter.unusedSimpArgs false

/-- A tuple of bytes that are seen and a number. -/
def isQT (K : Nat) (R : List Int) (E : Int) (v : Value) (w : World) : Prop := ∃ vo cap, v = .tuple #[.slice vo K cap, .int .i64 E] ∧ Seen w vo K R
theorem isQT_later (K : Nat) (R : List Int) (E : Int) : ∀ v w w', Below w.heap.size w w' → isQT K R E v w → isQT K R E v w' := fun _ _ _ hb ⟨a, c, h1, h2⟩ => ⟨a, c, h1, h2.later hb (Nat.le_refl _)⟩
def isQS (K : Nat) (R : List Int) (v : Value) (w : World) : Prop := ∃ vo cap, v = .slice vo K cap ∧ Seen w vo K R
theorem isQS_later (K : Nat) (R : List Int) : ∀ v w w', Below w.heap.size w w' → isQS K R v w → isQS K R v w' := fun _ _ _ hb ⟨a, c, h1, h2⟩ => ⟨a, c, h1, h2.later hb (Nat.le_refl _)⟩
def isQC (K : Nat) (R : List Int) (v : Value) (w : World) : Prop := ∃ vo cap, v = .slice vo K cap ∧ Seen w vo K R ∧ K ≤ cap
theorem isQC_later (K : Nat) (R : List Int) : ∀ v w w', Below w.heap.size w w' → isQC K R v w → isQC K R v w' := fun _ _ _ hb ⟨a, c, h1, h2, h3⟩ => ⟨a, c, h1, h2.later hb (Nat.le_refl _), h3⟩
set_option maxRecDepth 20000 in
set_option maxHeartbeats 4000000 in
theorem pageSeals.walk (s : Sh) (w : World) (h : ShIn w s) (hm : s.m ≤ 140737488351232) : Calls Tryz.prog 3 #[.agg (sheetC s).toArray] w fun e w' => e = .returned (.bool true) ∧ Below w.heap.size w w' := by
  have HI : Hid (ShIn w s) := h
  clear h
  obtain ⟨K, E, hK, hQ⟩ := qg_ex s.key s.r s.c s.p s.q s.m
  have HQ : Hid (∀ zs, ∃ R, Qg s.key s.r s.c s.p s.q s.m zs K E R) := hQ
  obtain ⟨R1, hq1⟩ := hQ s.zs
  have HQ1 : Hid (Qg s.key s.r s.c s.p s.q s.m s.zs K E R1) := hq1
  have eE : (E != E) = false := by simp
  have eE2 : (E == E) = true := by simp
  clear hQ hq1
  go_enter Tryz.func3, Tryz.ntmps3
  go_wp2_with (first | (refine wpList_box_new rfl 30 _ rfl (sheetC s) rfl ?_; intro w1 b1 s1 l1; have H1 : Hid (ShAt w1 w.heap.size s ∧ Below w.heap.size w w1) := ⟨⟨b1, HI.out.later l1 (Nat.le_refl _)⟩, l1⟩; have cT := H1.out.1.cT; clear b1 s1 l1) | (refine wpList_load_mid rfl 23 _ rfl w.heap.size 0 rfl (u8s s.key) _ H1.out.1.key Tryz.underlying23 rfl (by rw [u8s_length, HI.out.k32]; exact sizeKey) ?_) | (refine wpList_load_mid rfl 27 _ rfl w.heap.size 32 rfl (placeC s.r s.c s.p s.q) _ H1.out.1.place Tryz.underlying27 rfl pzKey ?_))
  have CS : Hid (∀ W, Below w1.heap.size w1 W → ShAt W w.heap.size s) := fun W hW => H1.out.1.later hW
  clear cT
  refine (rps_out s.key s.r s.c s.p s.q s.bo s.m s.d s.zs K E R1 HQ1.out HI.out.k32 HI.out.kb HI.out.hr HI.out.hc HI.out.hp HI.out.hq w1 H1.out.1.is.text HI.out.hd).mono ?_
  rintro e w2 ⟨o1, c1, rfl, u1, l2⟩
  have A2 : Hid (Seen w2 o1 K R1 ∧ Below w1.heap.size w1 w2) := ⟨u1, l2⟩
  clear u1 l2
  have cT := (CS.out _ A2.out.2).cT
  go_wp2_with (first | (refine wpList_load_mid rfl 23 _ rfl w.heap.size 0 rfl (u8s s.key) _ (CS.out _ A2.out.2).key Tryz.underlying23 rfl (by rw [u8s_length, HI.out.k32]; exact sizeKey) ?_) | (refine wpList_load_mid rfl 27 _ rfl w.heap.size 32 rfl (placeC s.r s.c s.p s.q) _ (CS.out _ A2.out.2).place Tryz.underlying27 rfl pzKey ?_))
  clear cT
  refine (spare_big s.bo s.m s.d s.zs w2 (CS.out _ A2.out.2).is.text hm).mono ?_
  rintro e w3 ⟨rfl, b3, s3, l3⟩
  obtain ⟨gT, hgT⟩ : ∃ g, w2.heap.size = g := ⟨_, rfl⟩
  have A3 : Hid (Sp w1 w3 gT s.zs ∧ Seen w3 o1 K R1 ∧ w1.heap.size ≤ gT ∧ w3.heap.size = gT + 1) := by
    refine ⟨⟨by rw [← hgT]; exact b3, below_chain A2.out.2 l3 A2.out.2.size⟩, A2.out.1.later l3 (Nat.le_refl _), by have := A2.out.2.size; omega, by omega⟩
  rw [hgT]
  clear b3 l3 s3 A2 hgT
  have cT := (CS.out _ A3.out.1.bel).cT
  go_wp2_with (first | (refine wpList_load_mid rfl 23 _ rfl w.heap.size 0 rfl (u8s s.key) _ (CS.out _ A3.out.1.bel).key Tryz.underlying23 rfl (by rw [u8s_length, HI.out.k32]; exact sizeKey) ?_) | (refine wpList_load_mid rfl 27 _ rfl w.heap.size 32 rfl (placeC s.r s.c s.p s.q) _ (CS.out _ A3.out.1.bel).place Tryz.underlying27 rfl pzKey ?_))
  clear cT
  refine (ps_out s.key s.r s.c s.p s.q (some ⟨gT, 0, none⟩) s.m (s.m + 80) s.zs K E R1 HQ1.out HI.out.k32 HI.out.kb HI.out.hr HI.out.hc HI.out.hp HI.out.hq w3 (A3.out.1.seen HI.out.text.len HI.out.text.bytes hm) (by omega)).mono ?_
  rintro e w4 ⟨o2, c2, rfl, u2, l4⟩
  have z4 := l4.size
  have A4 : Hid (Sp w1 w4 gT s.zs ∧ Seen w4 o1 K R1 ∧ Out w4 w3.heap.size w4.heap.size o2 K c2 R1) := ⟨A3.out.1.later l4, A3.out.2.1.later l4 (Nat.le_refl _), u2⟩
  clear u2 l4
  have cT := (CS.out _ A4.out.1.bel).cT
  go_wp2_with (first | (refine wpList_load_mid rfl 23 _ rfl w.heap.size 0 rfl (u8s s.key) _ (CS.out _ A4.out.1.bel).key Tryz.underlying23 rfl (by rw [u8s_length, HI.out.k32]; exact sizeKey) ?_) | (refine wpList_load_mid rfl 27 _ rfl w.heap.size 32 rfl (placeC s.r s.c s.p s.q) _ (CS.out _ A4.out.1.bel).place Tryz.underlying27 rfl pzKey ?_))
  clear cT
  refine (ps_out s.key s.r s.c s.p s.q (some ⟨gT, 0, none⟩) s.m (s.m + 80) s.zs K E R1 HQ1.out HI.out.k32 HI.out.kb HI.out.hr HI.out.hc HI.out.hp HI.out.hq w4 (A4.out.1.seen HI.out.text.len HI.out.text.bytes hm) (by omega)).mono ?_
  rintro e w5 ⟨o3, c3, rfl, u3, l5⟩
  have z5 := l5.size
  have A5 : Hid (Sp w1 w5 gT s.zs ∧ Seen w5 o1 K R1 ∧ Out w5 w3.heap.size w4.heap.size o2 K c2 R1 ∧ Out w5 w4.heap.size w5.heap.size o3 K c3 R1) := ⟨A4.out.1.later l5, A4.out.2.1.later l5 (Nat.le_refl _), A4.out.2.2.later l5, u3⟩
  clear u3 l5 A4
  have cT := (CS.out _ A5.out.1.bel).cT
  go_wp2_with fail
  clear cT
  refine (eqb_yes o2 o1 K c2 c1 R1 w5 A5.out.2.2.1.seen A5.out.2.1).mono ?_
  rintro e w6 ⟨rfl, q, hq⟩
  have z6 : w5.heap.size ≤ w6.heap.size := by rw [hq]; exact size_dn _ q
  have A6 : Hid (Sp w1 w6 gT s.zs ∧ Seen w6 o1 K R1 ∧ Out w6 w3.heap.size w4.heap.size o2 K c2 R1 ∧ Out w6 w4.heap.size w5.heap.size o3 K c3 R1) := by rw [hq]; exact ⟨A5.out.1.dn q, A5.out.2.1.drewN q, A5.out.2.2.1.dn q, A5.out.2.2.2.dn q⟩
  clear hq A5
  have cT := (CS.out _ A6.out.1.bel).cT
  go_wp2_with fail
  clear cT
  refine (eqb_yes o3 o1 K c3 c1 R1 w6 A6.out.2.2.2.seen A6.out.2.1).mono ?_
  rintro e w7 ⟨rfl, q, hq⟩
  have z7 : w6.heap.size ≤ w7.heap.size := by rw [hq]; exact size_dn _ q
  have A7 : Hid (Sp w1 w7 gT s.zs ∧ Seen w7 o1 K R1 ∧ Out w7 w3.heap.size w4.heap.size o2 K c2 R1 ∧ Out w7 w4.heap.size w5.heap.size o3 K c3 R1) := by rw [hq]; exact ⟨A6.out.1.dn q, A6.out.2.1.drewN q, A6.out.2.2.1.dn q, A6.out.2.2.2.dn q⟩
  clear hq A6
  have cT := (CS.out _ A7.out.1.bel).cT
  go_wp2_with fail
  clear cT
  refine (kept_big gT s.bo s.m s.d s.zs w7 A7.out.1.tx (CS.out _ A7.out.1.bel).is.text hm).mono ?_
  rintro e w8 ⟨rfl, q, hq⟩
  have z8 : w7.heap.size ≤ w8.heap.size := by rw [hq]; exact size_dn _ q
  have A8 : Hid (Sp w1 w8 gT s.zs ∧ Seen w8 o1 K R1 ∧ Out w8 w3.heap.size w4.heap.size o2 K c2 R1 ∧ Out w8 w4.heap.size w5.heap.size o3 K c3 R1) := by rw [hq]; exact ⟨A7.out.1.dn q, A7.out.2.1.drewN q, A7.out.2.2.1.dn q, A7.out.2.2.2.dn q⟩
  clear hq A7
  go_wp2_with fail
  go_loopw [10] (fun i wr => ∃ (k : Nat) (us : List Int), k ≤ s.m ∧ i = .int .i64 k ∧ us.length = s.m ∧ Bytes us ∧ Sp w1 wr gT us ∧ Kept (fun y => y = gT) w8 wr) (fun i _ => s.m - (intOf i).toNat)
  case atStart => exact ⟨0, s.zs, Nat.zero_le _, rfl, HI.out.text.len, HI.out.text.bytes, A8.out.1, Kept.refl _ _⟩
  case round =>
    obtain ⟨k, us, hk, rfl, hul, hub, hsp, hkp⟩ := hrel
    by_cases hlt : k < s.m
    · have c1 := u8s_cell hsp.tx k (by rw [spared_length]; omega)
      rw [spared_front us k (by omega)] at c1
      have f1 := hsp.tx.frozen k
      have bz := hub.at k (by omega)
      obtain ⟨Z, hZ⟩ : ∃ Z, us.getD k 0 = Z := ⟨_, rfl⟩
      rw [hZ] at c1 bz
      obtain ⟨Y, hY⟩ : ∃ Y, ((k : Int) + 1) % 256 = Y := ⟨_, rfl⟩
      have bY : 0 ≤ Y ∧ Y < 256 := by rw [← hY]; omega
      obtain ⟨X, hX⟩ : ∃ X, bits .xor .u8 Z Y = X := ⟨_, rfl⟩
      have bX : 0 ≤ X ∧ X < 256 := by rw [← hX]; exact xor8_bd _ _ bz bY
      have K1 := (Kept.refl (fun y => y = gT) wr).setCell (p := ⟨gT, k, none⟩) rfl (.int .u8 X)
      have T1 : Hid (Sp w1 (wr.setCell ⟨gT, k, none⟩ (.int .u8 X)) gT (us.set k X) ∧ (us.set k X).length = s.m ∧ Bytes (us.set k X) ∧ Kept (fun y => y = gT) w8 (wr.setCell ⟨gT, k, none⟩ (.int .u8 X))) := by
        have t := hsp.tx.set k (.int .u8 X)
        rw [u8s_set, spared_set us k X (by omega)] at t
        exact ⟨⟨t, below_kept hsp.bel K1 hsp.bel.size (fun j hj e => by have := A3.out.2.2.1; omega)⟩, by rw [List.length_set]; exact hul, bytes_set hub k _ bX, hkp.setCell (p := ⟨gT, k, none⟩) rfl _⟩
      have j1 : (0 : Int) ≤ (k : Int) := by omega
      have j2 : (k : Int) < (s.m : Int) := by omega
      have j3 : (k : Int) < (s.m : Int) + 80 := by omega
      clear hZ hsp hub hul hkp K1
      go_wp2_with fail
      go_roundw
      case rel => exact ⟨k + 1, _, by omega, by go_num, T1.out.2.1, T1.out.2.2.1, T1.out.1, T1.out.2.2.2⟩
      case measure => simp [intOf]; omega
    · have e9 : s.m = k := by omega
      have j2 : ¬ (k : Int) < (s.m : Int) := by omega
      obtain ⟨R2, hq2⟩ := HQ.out us
      have HQ2 : Hid (Qg s.key s.r s.c s.p s.q s.m us K E R2) := hq2
      have g3 := A3.out.2.2
      have AW : Hid (Sp w1 wr gT us ∧ Out wr w3.heap.size w4.heap.size o2 K c2 R1 ∧ Out wr w4.heap.size w5.heap.size o3 K c3 R1 ∧ us.length = s.m ∧ Bytes us) := ⟨hsp, A8.out.2.2.1.kept hkp (fun y h1 h2 e => by omega), A8.out.2.2.2.kept hkp (fun y h1 h2 e => by omega), hul, hub⟩
      have zr := hkp.size
      clear hsp hkp hul hub hq2 A8 e9 hlt hk
      go_wp2_with fail
      refine region_inv [.val (.pointer (some ⟨w.heap.size, 0, none⟩)), .val (.agg (u8s s.key).toArray), .val (.pointer (some ⟨w.heap.size, 32, none⟩)), .val (.agg (placeC s.r s.c s.p s.q).toArray), .val (.slice (some ⟨gT, 0, none⟩) s.m (s.m + 80)), .any (isQC s.m us) (isQC_later _ _), .any (isQT K R2 E) (isQT_later _ _ _), .any (isQT K R2 E) (isQT_later _ _ _), .any (isQS K R2) (isQS_later _ _), .val (.int .i64 E), .any (isQS K R2) (isQS_later _ _)] (by kernel_rfl) (by kernel_rfl) (by kernel_rfl) ?_ ?_
      · refine Steps'.cons ?_ (Steps'.cons ?_ (Steps'.cons ?_ (Steps'.cons ?_ (Steps'.cons ?_ (Steps'.cons ?_ (Steps'.cons ?_ (Steps'.cons ?_ (Steps'.cons ?_ (Steps'.cons ?_ (Steps'.cons ?_ (Steps'.one _ _ _ _ _ _ _)))))))))))
        · intro ax wx hb hs hd
          have h1 : ax.tmps.getD 1 undef = (.pointer (some ⟨w.heap.size, 0, none⟩)) := hs 1 (by kernel_rfl)
          refine Does.value (.pointer (some ⟨w.heap.size, 0, none⟩)) ?_ rfl
          clear hs hd
          go_simp
        · intro ax wx hb hs hd
          have h89 : ax.tmps.getD 89 undef = (.pointer (some ⟨w.heap.size, 0, none⟩)) := hd 0 89 rfl (by kernel_rfl) (by decide)
          exact Does.load 23 (.tmp 89) rfl w.heap.size 0 h89 (u8s s.key) _ (CS.out _ (below_chain AW.out.1.bel hb AW.out.1.bel.size)).key Tryz.underlying23 rfl (by rw [u8s_length, HI.out.k32]; exact sizeKey)
        · intro ax wx hb hs hd
          have h1 : ax.tmps.getD 1 undef = (.pointer (some ⟨w.heap.size, 0, none⟩)) := hs 1 (by kernel_rfl)
          refine Does.value (.pointer (some ⟨w.heap.size, 32, none⟩)) ?_ rfl
          clear hs hd
          go_simp
        · intro ax wx hb hs hd
          have h91 : ax.tmps.getD 91 undef = (.pointer (some ⟨w.heap.size, 32, none⟩)) := hd 2 91 rfl (by kernel_rfl) (by decide)
          exact Does.load 27 (.tmp 91) rfl w.heap.size 32 h91 (placeC s.r s.c s.p s.q) _ (CS.out _ (below_chain AW.out.1.bel hb AW.out.1.bel.size)).place Tryz.underlying27 rfl pzKey
        · intro ax wx hb hs hd
          have h5 : ax.tmps.getD 5 undef = (.slice (some ⟨gT, 0, none⟩) s.m (s.m + 80)) := hs 5 (by kernel_rfl)
          refine Does.value (.slice (some ⟨gT, 0, none⟩) s.m (s.m + 80)) ?_ rfl
          clear hs hd
          go_simp
        · intro ax wx hb hs hd
          have h93 : ax.tmps.getD 93 undef = (.slice (some ⟨gT, 0, none⟩) s.m (s.m + 80)) := hd 4 93 rfl (by kernel_rfl) (by decide)
          refine Does.call 10 #[(.slice (some ⟨gT, 0, none⟩) s.m (s.m + 80))] (by clear hs hd; go_simp) ?_
          refine (copyB_any (some ⟨gT, 0, none⟩) s.m (s.m + 80) us wx ((AW.out.1.seen AW.out.2.2.2.1 AW.out.2.2.2.2 hm).later hb (Nat.le_refl _))).mono ?_
          rintro e w' ⟨v, rfl, o, l⟩
          obtain ⟨vo, vc, rfl, sv, cv, _⟩ := pown_sl AW.out.2.2.2.1 AW.out.2.2.2.2 (by omega) o
          exact ⟨_, rfl, ⟨vo, vc, rfl, sv, cv⟩, l⟩
        · intro ax wx hb hs hd
          have h90 : ax.tmps.getD 90 undef = (.agg (u8s s.key).toArray) := hd 1 90 rfl (by kernel_rfl) (by decide)
          have h92 : ax.tmps.getD 92 undef = (.agg (placeC s.r s.c s.p s.q).toArray) := hd 3 92 rfl (by kernel_rfl) (by decide)
          have p94 : (isQC s.m us) (ax.tmps.getD 94 undef) wx := hd 5 94 rfl (by kernel_rfl) (by decide)
          obtain ⟨vo, vc, h94, sv, cv⟩ := p94
          refine Does.call 5 #[(.agg (u8s s.key).toArray), (.agg (placeC s.r s.c s.p s.q).toArray), .slice vo s.m vc] (by clear hs hd; go_simp) ?_
          refine (rps_out s.key s.r s.c s.p s.q vo s.m vc us K E R2 HQ2.out HI.out.k32 HI.out.kb HI.out.hr HI.out.hc HI.out.hp HI.out.hq wx sv cv).mono ?_
          rintro e w' ⟨xo, xc, rfl, sx, l⟩
          exact ⟨_, rfl, ⟨xo, xc, rfl, sx⟩, l⟩
        · intro ax wx hb hs hd
          have p95 : (isQT K R2 E) (ax.tmps.getD 95 undef) wx := hd 6 95 rfl (by kernel_rfl) (by decide)
          obtain ⟨xo, xc, h95, sx⟩ := p95
          refine Does.value (.tuple #[.slice xo K xc, .int .i64 E]) ?_ ⟨xo, xc, rfl, sx⟩
          clear hs hd
          go_simp
        · intro ax wx hb hs hd
          have p88 : (isQT K R2 E) (ax.tmps.getD 88 undef) wx := hd 7 88 rfl (by kernel_rfl) (by decide)
          obtain ⟨xo, xc, h88, sx⟩ := p88
          refine Does.value (.slice xo K xc) ?_ ⟨xo, xc, rfl, sx⟩
          clear hs hd
          go_simp
        · intro ax wx hb hs hd
          have p88 : (isQT K R2 E) (ax.tmps.getD 88 undef) wx := hd 7 88 rfl (by kernel_rfl) (by decide)
          obtain ⟨xo, xc, h88, sx⟩ := p88
          refine Does.value (.int .i64 E) ?_ rfl
          clear hs hd
          go_simp
        · intro ax wx hb hs hd
          have p96 : (isQS K R2) (ax.tmps.getD 96 undef) wx := hd 8 96 rfl (by kernel_rfl) (by decide)
          obtain ⟨xo, xc, h96, sx⟩ := p96
          refine Does.value (.slice xo K xc) ?_ ⟨xo, xc, rfl, sx⟩
          clear hs hd
          go_simp
      · intro wx hb
        refine @Ends.val _ _ _ _ _ _ _ _ _ (.pointer (some ⟨w.heap.size, 0, none⟩)) rfl ?_
        refine @Ends.val _ _ _ _ _ _ _ _ _ (.agg (u8s s.key).toArray) rfl ?_
        refine @Ends.val _ _ _ _ _ _ _ _ _ (.pointer (some ⟨w.heap.size, 32, none⟩)) rfl ?_
        refine @Ends.val _ _ _ _ _ _ _ _ _ (.agg (placeC s.r s.c s.p s.q).toArray) rfl ?_
        refine @Ends.val _ _ _ _ _ _ _ _ _ (.slice (some ⟨gT, 0, none⟩) s.m (s.m + 80)) rfl ?_
        refine @Ends.any _ _ _ _ _ _ _ _ _ (isQC s.m us) (isQC_later _ _) rfl ?_
        intro v94 p94
        refine @Ends.any _ _ _ _ _ _ _ _ _ (isQT K R2 E) (isQT_later _ _ _) rfl ?_
        intro v95 p95
        refine @Ends.any _ _ _ _ _ _ _ _ _ (isQT K R2 E) (isQT_later _ _ _) rfl ?_
        intro v88 p88
        refine @Ends.any _ _ _ _ _ _ _ _ _ (isQS K R2) (isQS_later _ _) rfl ?_
        intro v96 p96
        refine @Ends.val _ _ _ _ _ _ _ _ _ (.int .i64 E) rfl ?_
        refine @Ends.any _ _ _ _ _ _ _ _ _ (isQS K R2) (isQS_later _ _) rfl ?_
        intro v3 p3
        refine @Ends.one _ _ _ _ _ _ _ ?_
        simp only [Act.put, List.setIfInBounds_toArray, List.set_cons_zero, List.set_cons_succ]
        obtain ⟨o5, c5, rfl, s5⟩ := p3
        have AX : Hid (Sp w1 wx gT us ∧ Out wx w3.heap.size w4.heap.size o2 K c2 R1 ∧ Out wx w4.heap.size w5.heap.size o3 K c3 R1 ∧ Seen wx o5 K R2) := ⟨AW.out.1.later hb, AW.out.2.1.later hb, AW.out.2.2.1.later hb, s5⟩
        have zx := hb.size
        clear p94 p95 p88 p96 s5 hb
        refine last_assign (.tmp 97) rfl (some 4) rfl (.int .i64 E) rfl ?_
        simp only [Act.put, List.setIfInBounds_toArray, List.set_cons_zero, List.set_cons_succ]
        have cT := (CS.out _ AX.out.1.bel).cT
        go_wp2_with (first | (refine wpList_load_mid rfl 23 _ rfl w.heap.size 0 rfl (u8s s.key) _ (CS.out _ AX.out.1.bel).key Tryz.underlying23 rfl (by rw [u8s_length, HI.out.k32]; exact sizeKey) ?_) | (refine wpList_load_mid rfl 27 _ rfl w.heap.size 32 rfl (placeC s.r s.c s.p s.q) _ (CS.out _ AX.out.1.bel).place Tryz.underlying27 rfl pzKey ?_))
        clear cT
        refine (ps_out s.key s.r s.c s.p s.q (some ⟨gT, 0, none⟩) s.m (s.m + 80) us K E R2 HQ2.out HI.out.k32 HI.out.kb HI.out.hr HI.out.hc HI.out.hp HI.out.hq wx (AX.out.1.seen AW.out.2.2.2.1 AW.out.2.2.2.2 hm) (by omega)).mono ?_
        rintro e w12 ⟨o6, c6, rfl, u6, l12⟩
        have z12 := l12.size
        have A12 : Hid (Sp w1 w12 gT us ∧ Out w12 w3.heap.size w4.heap.size o2 K c2 R1 ∧ Out w12 w4.heap.size w5.heap.size o3 K c3 R1 ∧ Seen w12 o5 K R2 ∧ Out w12 wx.heap.size w12.heap.size o6 K c6 R2) := ⟨AX.out.1.later l12, AX.out.2.1.later l12, AX.out.2.2.1.later l12, AX.out.2.2.2.later l12 (Nat.le_refl _), u6⟩
        clear u6 l12
        go_wp2_with fail
        refine (eqb_yes o6 o5 K c6 c5 R2 w12 A12.out.2.2.2.2.seen A12.out.2.2.2.1).mono ?_
        rintro e w13 ⟨rfl, q, hq⟩
        have z13 : w12.heap.size ≤ w13.heap.size := by rw [hq]; exact size_dn _ q
        have A13 : Hid (Sp w1 w13 gT us ∧ Out w13 w3.heap.size w4.heap.size o2 K c2 R1 ∧ Out w13 w4.heap.size w5.heap.size o3 K c3 R1 ∧ Out w13 wx.heap.size w12.heap.size o6 K c6 R2) := by rw [hq]; exact ⟨A12.out.1.dn q, A12.out.2.1.dn q, A12.out.2.2.1.dn q, A12.out.2.2.2.2.dn q⟩
        clear hq A12
        go_wp2_with (refine wpList_bs rfl 37 4 _ rfl _ rfl _ _ (bsq4 o2 o3 o6 (some ⟨gT, 0, none⟩) K K K s.m c2 c3 c6 (s.m + 80) _) ?_)
        have LT := lot4 A13.out.2.1 A13.out.2.2.1 A13.out.2.2.2 (A13.out.1.out AW.out.2.2.2.1 AW.out.2.2.2.2 hm) (Nat.le_refl _) (by omega) (by omega) z4 z5 z12 (Nat.le_succ _) (by omega)
        refine (rapart_any w13.heap.size 4 4 _ _ _ _ _ _ LT.1 (by decide) (fun j hj => by rcases (by omega : j = 0 ∨ j = 1 ∨ j = 2 ∨ j = 3) with rfl | rfl | rfl | rfl <;> simp <;> omega)).mono ?_
        rintro e w14 ⟨rfl, kh⟩
        have A14 : Hid (Below w1.heap.size w1 w14) := by
          have l := (Below.refl w13.heap.size w13).alloc (Nat.le_refl _) (.cells #[.slice o2 K c2, .slice o3 K c3, .slice o6 K c6, .slice (some ⟨gT, 0, none⟩) s.m (s.m + 80)] 28)
          have b := A13.out.1.bel
          have bl := below_chain b l b.size
          exact below_kept bl kh bl.size (fun j hj hS => by have := LT.2 j hS; omega)
        clear LT kh A13
        go_wp2_with (go_at_call 12; refine (pworks_any _).mono ?_; rintro e w15 ⟨rfl, l15⟩)
        go_ret
        exact ⟨rfl, below_chain (below_chain H1.out.2 A14.out H1.out.2.size) l15 (by have := H1.out.2.size; have := A14.out.size; omega)⟩
end Go.Proofs.YtcimiajkbgabiaaGreat
