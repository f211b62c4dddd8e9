/- The walk of RecordOrder. -/
import Derived.Test.YtabdjoljdefjdaaRecOrdA
namespace Go.Proofs.Ytabdjoljdefjdaa.recordOrder
open Go.RowKit
set_option linter.unusedVariables false
set_option linter.unusedSimpArgs false

set_option maxRecDepth 40000 in
set_option maxHeartbeats 32000000 in
theorem walk_eq10 (ao : Option Addr) (n c : Nat) (xs : List Int) (bo : Option Addr) (m d : Nat) (ys : List Int) (co : Option Addr) (l e : Nat) (zs : List Int) (w : World) (hx : Seen w ao n xs) (hn : n ≤ 140737488351232) (fa : ao = none → c = 0) (hc : n ≤ c) (hy : Seen w bo m ys) (hm : m ≤ 140737488351232) (fb : bo = none → d = 0) (hd' : m ≤ d) (hz : Seen w co l zs) (hl : l ≤ 140737488351232) (fc : co = none → e = 0) (he : l ≤ e) (rx : isR xs = true) (ry : isR ys = true) (hi : (psX xs).index = (psX ys).index) (x0 : (psX xs).live = 1) (y0 : (psX ys).live = 0) :
    Calls Try.prog 9 #[.slice ao n c, .slice bo m d, .slice co l e] w fun r w' => r = .returned (.bool true) ∧ Below w.heap.size w w' := by
  have HX : Hid (Seen w ao n xs ∧ n ≤ c ∧ xs.length = n ∧ Bytes xs ∧ n ≤ 140737488351232) := ⟨hx, hc, hx.len, hx.bytes, hn⟩
  have HY : Hid (Seen w bo m ys ∧ m ≤ d ∧ ys.length = m ∧ Bytes ys ∧ m ≤ 140737488351232) := ⟨hy, hd', hy.len, hy.bytes, hm⟩
  have HZ : Hid (Seen w co l zs ∧ l ≤ e) := ⟨hz, he⟩
  clear hx fa hc hy fb hd' hz fc he hl hn hm
  go_enter Try.func9, Try.ntmps9
  go_wp2_with fail
  refine (awake_any w).mono ?_
  rintro r w1 ⟨rfl, l1⟩
  have A1 : Hid (Below w.heap.size w w1) := l1
  clear l1
  go_wp2_with fail
  refine (ByGroup_any ao bo n m c d xs ys HX.out.2.1 HY.out.2.1 w1 (HX.out.1.later A1.out (Nat.le_refl _)) (HY.out.1.later A1.out (Nat.le_refl _))).mono ?_
  rintro r w2 ⟨rfl, l2⟩
  have A2 : Hid (Below w.heap.size w w2) := below_chain A1.out l2 A1.out.size
  clear l2 A1
  go_wp2_with fail
  refine (ByGroup_any bo ao m n d c ys xs HY.out.2.1 HX.out.2.1 w2 (HY.out.1.later A2.out (Nat.le_refl _)) (HX.out.1.later A2.out (Nat.le_refl _))).mono ?_
  rintro r w3 ⟨rfl, l3⟩
  have A3 : Hid (Below w.heap.size w w3) := below_chain A2.out l3 A2.out.size
  clear l3 A2
  go_wp2_with fail
  refine (ByGroup_any bo co m l d e ys zs HY.out.2.1 HZ.out.2 w3 (HY.out.1.later A3.out (Nat.le_refl _)) (HZ.out.1.later A3.out (Nat.le_refl _))).mono ?_
  rintro r w4 ⟨rfl, l4⟩
  have A4 : Hid (Below w.heap.size w w4) := below_chain A3.out l4 A3.out.size
  clear l4 A3
  go_wp2_with fail
  refine (ByGroup_any ao co n l c e xs zs HX.out.2.1 HZ.out.2 w4 (HX.out.1.later A4.out (Nat.le_refl _)) (HZ.out.1.later A4.out (Nat.le_refl _))).mono ?_
  rintro r w5 ⟨rfl, l5⟩
  have A5 : Hid (Below w.heap.size w w5) := below_chain A4.out l5 A4.out.size
  clear l5 A4
  go_wp2_with fail
  refine (ByGroup_any ao ao n n c c xs xs HX.out.2.1 HX.out.2.1 w5 (HX.out.1.later A5.out (Nat.le_refl _)) (HX.out.1.later A5.out (Nat.le_refl _))).mono ?_
  rintro r w6 ⟨rfl, l6⟩
  have A6 : Hid (Below w.heap.size w w6) := below_chain A5.out l6 A5.out.size
  clear l6 A5
  go_wp2_with fail
  rw [(byG_order xs ys zs).1]
  refine (order_any (byG xs ys) (byG ys xs) (byG ys zs) (byG xs zs) (byG_order xs ys zs).2.1 (byG_order xs ys zs).2.2 w6).mono ?_
  rintro r _ ⟨rfl, rfl⟩
  go_wp2_with fail
  refine (ByIndex_any ao bo n m c d xs ys HX.out.2.1 HY.out.2.1 w6 (HX.out.1.later A6.out (Nat.le_refl _)) (HY.out.1.later A6.out (Nat.le_refl _))).mono ?_
  rintro r w7 ⟨rfl, l7⟩
  have A7 : Hid (Below w.heap.size w w7) := below_chain A6.out l7 A6.out.size
  clear l7 A6
  go_wp2_with fail
  refine (ByIndex_any bo ao m n d c ys xs HY.out.2.1 HX.out.2.1 w7 (HY.out.1.later A7.out (Nat.le_refl _)) (HX.out.1.later A7.out (Nat.le_refl _))).mono ?_
  rintro r w8 ⟨rfl, l8⟩
  have A8 : Hid (Below w.heap.size w w8) := below_chain A7.out l8 A7.out.size
  clear l8 A7
  go_wp2_with fail
  refine (ByIndex_any bo co m l d e ys zs HY.out.2.1 HZ.out.2 w8 (HY.out.1.later A8.out (Nat.le_refl _)) (HZ.out.1.later A8.out (Nat.le_refl _))).mono ?_
  rintro r w9 ⟨rfl, l9⟩
  have A9 : Hid (Below w.heap.size w w9) := below_chain A8.out l9 A8.out.size
  clear l9 A8
  go_wp2_with fail
  refine (ByIndex_any ao co n l c e xs zs HX.out.2.1 HZ.out.2 w9 (HX.out.1.later A9.out (Nat.le_refl _)) (HZ.out.1.later A9.out (Nat.le_refl _))).mono ?_
  rintro r w10 ⟨rfl, l10⟩
  have A10 : Hid (Below w.heap.size w w10) := below_chain A9.out l10 A9.out.size
  clear l10 A9
  go_wp2_with fail
  refine (ByIndex_any ao ao n n c c xs xs HX.out.2.1 HX.out.2.1 w10 (HX.out.1.later A10.out (Nat.le_refl _)) (HX.out.1.later A10.out (Nat.le_refl _))).mono ?_
  rintro r w11 ⟨rfl, l11⟩
  have A11 : Hid (Below w.heap.size w w11) := below_chain A10.out l11 A10.out.size
  clear l11 A10
  go_wp2_with fail
  rw [(byI_order xs ys zs).1]
  refine (order_any (byI xs ys) (byI ys xs) (byI ys zs) (byI xs zs) (byI_order xs ys zs).2.1 (byI_order xs ys zs).2.2 w11).mono ?_
  rintro r _ ⟨rfl, rfl⟩
  go_wp2_with fail
  obtain ⟨X, eX⟩ : ∃ X, psX xs = X := ⟨_, rfl⟩
  obtain ⟨Y, eY⟩ : ∃ Y, psX ys = Y := ⟨_, rfl⟩
  have XE' : Hid (HdOk X) := eX ▸ ps_ok HX.out.2.2.2.1
  have YE' : Hid (HdOk Y) := eY ▸ ps_ok HY.out.2.2.2.1
  rw [eX] at hi x0
  rw [eY] at hi y0
  have XE : Hid (psX xs = X ∧ psE xs = 0) := ⟨eX, by rw [psE, rx]; rfl⟩
  have YE : Hid (psX ys = Y ∧ psE ys = 0) := ⟨eY, by rw [psE, ry]; rfl⟩
  have vX : hdV xs = X := by rw [← eX, psX, if_pos rx]; exact hdV_long (isR_long rx)
  have vY : hdV ys = Y := by rw [← eY, psX, if_pos ry]; exact hdV_long (isR_long ry)
  have eG : byG xs ys = gB X Y := by rw [byG_g, rx, ry, vX, vY]; rfl
  have eG' : byG ys xs = gB Y X := by rw [byG_g, rx, ry, vX, vY]; rfl
  have eI : byI xs ys = lowB X Y := by rw [byI, rx, ry, vX, vY]; rfl
  have eI' : byI ys xs = lowB Y X := by rw [byI, rx, ry, vX, vY]; rfl
  have eT : togB xs ys = (lvB X && lvB Y && samB X Y) := by rw [togB, rx, ry, vX, vY]; rfl
  have lX : (X.live = 0 ∨ X.live = 1) ∧ lvB X = decide (X.live = 1) := by have h := isR_first HX.out.2.2.2.1 rx; have h2 := live_dec HX.out.2.2.2.1 rx; rw [vX] at h2; have e : xs.getD 0 0 = X.live := (by rw [← vX, hdV_long (isR_long rx)]; rfl); rw [e] at h h2; exact ⟨h.1, h2⟩
  have lY : (Y.live = 0 ∨ Y.live = 1) ∧ lvB Y = decide (Y.live = 1) := by have h := isR_first HY.out.2.2.2.1 ry; have h2 := live_dec HY.out.2.2.2.1 ry; rw [vY] at h2; have e : ys.getD 0 0 = Y.live := (by rw [← vY, hdV_long (isR_long ry)]; rfl); rw [e] at h h2; exact ⟨h.1, h2⟩
  have HG : Hid (byG xs ys = gB X Y ∧ byG ys xs = gB Y X ∧ byI xs ys = lowB X Y ∧ byI ys xs = lowB Y X ∧ togB xs ys = (lvB X && lvB Y && samB X Y)) := ⟨eG, eG', eI, eI', eT⟩
  have HLV : Hid (lvB X = decide (X.live = 1) ∧ lvB Y = decide (Y.live = 1)) := ⟨lX.2, lY.2⟩
  have iX := lX.1
  have iY := lY.1
  clear rx ry eX eY vX vY eG eG' eI eI' eT lX lY
  refine (copyB_any ao n c xs w11 (HX.out.1.later A11.out (Nat.le_refl _))).mono ?_
  rintro r w12 ⟨v12, rfl, o12, l12⟩
  obtain ⟨q12, c12, rfl, S12, f12, -, -⟩ := isO_sl HX.out.2.2.1 HX.out.2.2.2.1 (by have := HX.out.2.2.2.2; omega) o12
  have A12 : Hid (Below w.heap.size w w12 ∧ Seen w12 q12 n xs ∧ n ≤ c12) := ⟨below_chain A11.out l12 A11.out.size, S12, f12⟩
  clear o12 l12 S12 f12 A11
  go_wp2_with fail
  refine (parse_one q12 n c12 xs A12.out.2.2 w12 A12.out.2.1).mono ?_
  rintro r w13 ⟨v13, rfl, o13, l13⟩
  rw [XE.out.1, XE.out.2]
  have A13 : Hid (Below w.heap.size w w13) := below_chain A12.out.1 l13 A12.out.1.size
  clear o13 l13 A12
  go_wp2_with (first | (refine wpList_alloc_new rfl 26 rfl 20 _ hzero ?_; intro w14 bw14 sw14 lw14) | (refine wpList_store_blk rfl 26 26 _ _ rfl _ rfl _ (hdC X) rfl bw14 (by rw [hdC_length XE'.out.len]; rfl) (hsizeC XE'.out.len) (hdC_one _) ?_; intro w15 bw15 sw15 kw15; have L15 : Below w13.heap.size w13 w15 := below_kept lw14 kw15 (by omega) (fun j hj => by omega); have A15 : Hid (Below w.heap.size w w15 ∧ Blk w15 w13.heap.size 26 (hdC X)) := ⟨below_chain A13.out L15 A13.out.size, bw15⟩; clear bw14 sw14 lw14 bw15 sw15 kw15 L15 A13))
  refine (copyB_any bo m d ys w15 (HY.out.1.later A15.out.1 (Nat.le_refl _))).mono ?_
  rintro r w16 ⟨v16, rfl, o16, l16⟩
  obtain ⟨q16, c16, rfl, S16, f16, -, -⟩ := isO_sl HY.out.2.2.1 HY.out.2.2.2.1 (by have := HY.out.2.2.2.2; omega) o16
  have A16 : Hid (Below w.heap.size w w16 ∧ Blk w16 w13.heap.size 26 (hdC X) ∧ Seen w16 q16 m ys ∧ m ≤ c16) := ⟨below_chain A15.out.1 l16 A15.out.1.size, A15.out.2.later l16 A15.out.2.lt, S16, f16⟩
  clear o16 l16 S16 f16 A15
  go_wp2_with fail
  refine (parse_one q16 m c16 ys A16.out.2.2.2 w16 A16.out.2.2.1).mono ?_
  rintro r w17 ⟨v17, rfl, o17, l17⟩
  rw [YE.out.1, YE.out.2]
  have A17 : Hid (Below w.heap.size w w17 ∧ Blk w17 w13.heap.size 26 (hdC X)) := ⟨below_chain A16.out.1 l17 A16.out.1.size, A16.out.2.1.later l17 A16.out.2.1.lt⟩
  clear o17 l17 A16
  go_wp2_with (first | (refine wpList_alloc_new rfl 26 rfl 20 _ hzero ?_; intro w18 bw18 sw18 lw18) | (refine wpList_store_blk rfl 26 26 _ _ rfl _ rfl _ (hdC Y) rfl bw18 (by rw [hdC_length YE'.out.len]; rfl) (hsizeC YE'.out.len) (hdC_one _) ?_; intro w19 bw19 sw19 kw19; have L19 : Below w17.heap.size w17 w19 := below_kept lw18 kw19 (by omega) (fun j hj => by omega); have A19 : Hid (Below w.heap.size w w19 ∧ Blk w19 w13.heap.size 26 (hdC X) ∧ Blk w19 w17.heap.size 26 (hdC Y)) := ⟨below_chain A17.out.1 L19 A17.out.1.size, A17.out.2.later L19 A17.out.2.lt, bw19⟩; clear bw18 sw18 lw18 bw19 sw19 kw19 L19 A17; have d1 : w19.cell? ⟨w13.heap.size, 2, none⟩ = some (.int .u32 X.index) := A19.out.2.1.cell 2; have d2 : w19.cell? ⟨w17.heap.size, 2, none⟩ = some (.int .u32 Y.index) := A19.out.2.2.cell 2))
  clear d1 d2 hi
  have LX : Hid (X.live = 1) := x0
  have LY : Hid (Y.live = 0) := y0
  have TG : Hid (togB xs ys = false) := by show _ = _; rw [HG.out.2.2.2.2, HLV.out.1, HLV.out.2, x0, y0]; rfl
  have TG2 : Hid (togB ys xs = false) := by show _ = _; rw [togB_comm]; exact TG.out
  have GT : Hid (byG xs ys = true) := by show _ = _; rw [HG.out.1, gB, HLV.out.1, HLV.out.2, x0, y0]; rfl
  clear x0 y0
  refine region_invGU ((.val (.pointer (some ⟨w13.heap.size, 0, none⟩))) :: (.val (.int .u8 1)) :: (.val (.pointer (some ⟨w17.heap.size, 0, none⟩))) :: (.val (.int .u8 0)) :: (.val (.bool true)) :: (.val (.bool true)) :: (.val (.slice ao n c)) :: (.val (.slice bo m d)) :: (.val (.int .u64 18446744073709551615)) :: (.val (.bool false)) :: (.val (.bool false)) :: (.val (.bool false)) :: (.val (.slice ao n c)) :: (.val (.slice bo m d)) :: (.val (.int .u64 0)) :: (.val (.bool false)) :: (.val (.pointer (some ⟨w13.heap.size, 0, none⟩))) :: (.val (.int .u8 1)) :: (.val (.bool true)) :: (.val (.bool true)) :: (.val (.pointer (some ⟨w17.heap.size, 0, none⟩))) :: (.val (.int .u8 0)) :: (.val (.bool false)) :: (.val (.bool false)) :: (.val (.bool false)) :: (.val undef) :: (.val undef) :: (.val undef) :: (.val undef) :: (.val undef) :: (.val (.bool false)) :: (.val (.bool false)) :: (.val (.bool false)) :: (.val (.bool false)) :: (.val (.slice ao n c)) :: (.val (.slice bo m d)) :: (.val (.int .u64 0)) :: (.val (.slice bo m d)) :: (.val (.slice ao n c)) :: (.val (.int .u64 0)) :: (.val (.bool false)) :: []) (by kernel_rfl) (fast_chain [1, 4, 3, 4, 5, 6, 8, 8, 9, 10, 11, 12, 14, 14, 15, 31, 17, 18, 19, 20, 21, 22, 23, 24, 25, 26, 29, 28, 29, 30, 31, 32, 33, 34, 36, 36, 39, 39, 39, 40, 41] (by kernel_rfl)) (true :: true :: true :: true :: true :: true :: true :: true :: true :: true :: true :: true :: true :: true :: true :: true :: true :: true :: true :: true :: true :: true :: true :: true :: true :: false :: false :: false :: false :: false :: true :: true :: true :: true :: true :: true :: true :: true :: true :: true :: true :: []) (by repeat (first | exact GdsU.nil | refine GdsU.nog rfl rfl ?_ | refine GdsU.yes _ _ rfl rfl rfl ?_ | refine GdsU.no _ _ rfl rfl rfl (.inl rfl) ?_ | refine GdsU.no _ _ rfl rfl rfl (.inr rfl) ?_)) (by kernel_rfl) ?_ ?_
  · refine StepsU.cons ?_ (StepsU.cons ?_ (StepsU.cons ?_ (StepsU.cons ?_ (StepsU.cons ?_ (StepsU.cons ?_ (StepsU.cons ?_ (StepsU.cons ?_ (StepsU.cons ?_ (StepsU.cons ?_ (StepsU.cons ?_ (StepsU.cons ?_ (StepsU.cons ?_ (StepsU.cons ?_ (StepsU.cons ?_ (StepsU.cons ?_ (StepsU.cons ?_ (StepsU.cons ?_ (StepsU.cons ?_ (StepsU.cons ?_ (StepsU.cons ?_ (StepsU.cons ?_ (StepsU.cons ?_ (StepsU.cons ?_ (StepsU.cons ?_ (StepsU.skip rfl (StepsU.skip rfl (StepsU.skip rfl (StepsU.skip rfl (StepsU.skip rfl (StepsU.cons ?_ (StepsU.cons ?_ (StepsU.cons ?_ (StepsU.cons ?_ (StepsU.cons ?_ (StepsU.cons ?_ (StepsU.cons ?_ (StepsU.cons ?_ (StepsU.cons ?_ (StepsU.cons ?_ (StepsU.cons ?_ (StepsU.one _ _ _ _ _ _ _ _)))))))))))))))))))))))))))))))))))))))))
    · intro ax wx hb hs hd
      have h9 : ax.tmps.getD 9 undef = (.pointer (some ⟨w13.heap.size, 0, none⟩)) := hs 9 (by kernel_rfl)
      refine Does.value (.pointer (some ⟨w13.heap.size, 0, none⟩)) ?_ rfl
      clear hs hd
      go_simp
    · intro ax wx hb hs hd
      have h117 : ax.tmps.getD 117 undef = (.pointer (some ⟨w13.heap.size, 0, none⟩)) := hd 0 117 rfl (by kernel_rfl) (by decide)
      have cx : wx.cell? ⟨w13.heap.size, 0, none⟩ = some (.int .u8 1) := by have q := (A19.out.2.1.later hb A19.out.2.1.lt).cell 0; rwa [hdC, LX.out] at q
      refine Does.value (.int .u8 1) ?_ rfl
      clear hs hd
      go_simp
    · intro ax wx hb hs hd
      have h12 : ax.tmps.getD 12 undef = (.pointer (some ⟨w17.heap.size, 0, none⟩)) := hs 12 (by kernel_rfl)
      refine Does.value (.pointer (some ⟨w17.heap.size, 0, none⟩)) ?_ rfl
      clear hs hd
      go_simp
    · intro ax wx hb hs hd
      have h119 : ax.tmps.getD 119 undef = (.pointer (some ⟨w17.heap.size, 0, none⟩)) := hd 2 119 rfl (by kernel_rfl) (by decide)
      have cx : wx.cell? ⟨w17.heap.size, 0, none⟩ = some (.int .u8 0) := by have q := (A19.out.2.2.later hb A19.out.2.2.lt).cell 0; rwa [hdC, LY.out] at q
      refine Does.value (.int .u8 0) ?_ rfl
      clear hs hd
      go_simp
    · intro ax wx hb hs hd
      have h118 : ax.tmps.getD 118 undef = (.int .u8 1) := hd 1 118 rfl (by kernel_rfl) (by decide)
      have h120 : ax.tmps.getD 120 undef = (.int .u8 0) := hd 3 120 rfl (by kernel_rfl) (by decide)
      refine Does.value (.bool true) ?_ rfl
      clear hs hd
      go_simp
    · intro ax wx hb hs hd
      have h121 : ax.tmps.getD 121 undef = (.bool true) := hd 4 121 rfl (by kernel_rfl) (by decide)
      refine Does.value (.bool true) ?_ rfl
      clear hs hd
      go_simp
    · intro ax wx hb hs hd
      have h0 : ax.tmps.getD 0 undef = (.slice ao n c) := hs 0 (by kernel_rfl)
      refine Does.value (.slice ao n c) ?_ rfl
      clear hs hd
      go_simp
    · intro ax wx hb hs hd
      have h1 : ax.tmps.getD 1 undef = (.slice bo m d) := hs 1 (by kernel_rfl)
      refine Does.value (.slice bo m d) ?_ rfl
      clear hs hd
      go_simp
    · intro ax wx hb hs hd
      have h123 : ax.tmps.getD 123 undef = (.slice ao n c) := hd 6 123 rfl (by kernel_rfl) (by decide)
      have h124 : ax.tmps.getD 124 undef = (.slice bo m d) := hd 7 124 rfl (by kernel_rfl) (by decide)
      refine Does.call 27 #[.slice ao n c, .slice bo m d] (by clear hs hd; go_simp) ?_
      refine (ByGroup_any ao bo n m c d xs ys HX.out.2.1 HY.out.2.1 wx (HX.out.1.later (below_chain A19.out.1 hb A19.out.1.size) (Nat.le_refl _)) (HY.out.1.later (below_chain A19.out.1 hb A19.out.1.size) (Nat.le_refl _))).mono ?_
      rintro r w' ⟨rfl, lq⟩
      rw [GT.out, mk_true]
      exact ⟨_, rfl, rfl, lq⟩
    · intro ax wx hb hs hd
      have h125 : ax.tmps.getD 125 undef = (.int .u64 18446744073709551615) := hd 8 125 rfl (by kernel_rfl) (by decide)
      refine Does.value (.bool false) ?_ rfl
      clear hs hd
      go_simp
    · intro ax wx hb hs hd
      have h122 : ax.tmps.getD 122 undef = (.bool true) := hd 5 122 rfl (by kernel_rfl) (by decide)
      have h126 : ax.tmps.getD 126 undef = (.bool false) := hd 9 126 rfl (by kernel_rfl) (by decide)
      refine Does.value (.bool false) ?_ rfl
      clear hs hd
      go_simp
    · intro ax wx hb hs hd
      have h127 : ax.tmps.getD 127 undef = (.bool false) := hd 10 127 rfl (by kernel_rfl) (by decide)
      refine Does.value (.bool false) ?_ rfl
      clear hs hd
      go_simp
    · intro ax wx hb hs hd
      have h0 : ax.tmps.getD 0 undef = (.slice ao n c) := hs 0 (by kernel_rfl)
      refine Does.value (.slice ao n c) ?_ rfl
      clear hs hd
      go_simp
    · intro ax wx hb hs hd
      have h1 : ax.tmps.getD 1 undef = (.slice bo m d) := hs 1 (by kernel_rfl)
      refine Does.value (.slice bo m d) ?_ rfl
      clear hs hd
      go_simp
    · intro ax wx hb hs hd
      have h129 : ax.tmps.getD 129 undef = (.slice ao n c) := hd 12 129 rfl (by kernel_rfl) (by decide)
      have h130 : ax.tmps.getD 130 undef = (.slice bo m d) := hd 13 130 rfl (by kernel_rfl) (by decide)
      refine Does.call 25 #[.slice ao n c, .slice bo m d] (by clear hs hd; go_simp) ?_
      refine (Together_any ao bo n m c d xs ys HX.out.2.1 HY.out.2.1 wx (HX.out.1.later (below_chain A19.out.1 hb A19.out.1.size) (Nat.le_refl _)) (HY.out.1.later (below_chain A19.out.1 hb A19.out.1.size) (Nat.le_refl _))).mono ?_
      rintro r w' ⟨rfl, lq⟩
      rw [TG.out, mk_false]
      exact ⟨_, rfl, rfl, lq⟩
    · intro ax wx hb hs hd
      have h131 : ax.tmps.getD 131 undef = (.int .u64 0) := hd 14 131 rfl (by kernel_rfl) (by decide)
      refine Does.value (.bool false) ?_ rfl
      clear hs hd
      go_simp
    · intro ax wx hb hs hd
      have h9 : ax.tmps.getD 9 undef = (.pointer (some ⟨w13.heap.size, 0, none⟩)) := hs 9 (by kernel_rfl)
      refine Does.value (.pointer (some ⟨w13.heap.size, 0, none⟩)) ?_ rfl
      clear hs hd
      go_simp
    · intro ax wx hb hs hd
      have h133 : ax.tmps.getD 133 undef = (.pointer (some ⟨w13.heap.size, 0, none⟩)) := hd 16 133 rfl (by kernel_rfl) (by decide)
      have cx : wx.cell? ⟨w13.heap.size, 0, none⟩ = some (.int .u8 1) := by have q := (A19.out.2.1.later hb A19.out.2.1.lt).cell 0; rwa [hdC, LX.out] at q
      refine Does.value (.int .u8 1) ?_ rfl
      clear hs hd
      go_simp
    · intro ax wx hb hs hd
      have h134 : ax.tmps.getD 134 undef = (.int .u8 1) := hd 17 134 rfl (by kernel_rfl) (by decide)
      refine Does.value (.bool true) ?_ rfl
      clear hs hd
      go_simp
    · intro ax wx hb hs hd
      have h135 : ax.tmps.getD 135 undef = (.bool true) := hd 18 135 rfl (by kernel_rfl) (by decide)
      refine Does.value (.bool true) ?_ rfl
      clear hs hd
      go_simp
    · intro ax wx hb hs hd
      have h12 : ax.tmps.getD 12 undef = (.pointer (some ⟨w17.heap.size, 0, none⟩)) := hs 12 (by kernel_rfl)
      refine Does.value (.pointer (some ⟨w17.heap.size, 0, none⟩)) ?_ rfl
      clear hs hd
      go_simp
    · intro ax wx hb hs hd
      have h137 : ax.tmps.getD 137 undef = (.pointer (some ⟨w17.heap.size, 0, none⟩)) := hd 20 137 rfl (by kernel_rfl) (by decide)
      have cx : wx.cell? ⟨w17.heap.size, 0, none⟩ = some (.int .u8 0) := by have q := (A19.out.2.2.later hb A19.out.2.2.lt).cell 0; rwa [hdC, LY.out] at q
      refine Does.value (.int .u8 0) ?_ rfl
      clear hs hd
      go_simp
    · intro ax wx hb hs hd
      have h138 : ax.tmps.getD 138 undef = (.int .u8 0) := hd 21 138 rfl (by kernel_rfl) (by decide)
      refine Does.value (.bool false) ?_ rfl
      clear hs hd
      go_simp
    · intro ax wx hb hs hd
      have h136 : ax.tmps.getD 136 undef = (.bool true) := hd 19 136 rfl (by kernel_rfl) (by decide)
      have h139 : ax.tmps.getD 139 undef = (.bool false) := hd 22 139 rfl (by kernel_rfl) (by decide)
      refine Does.value (.bool false) ?_ rfl
      clear hs hd
      go_simp
    · intro ax wx hb hs hd
      have h140 : ax.tmps.getD 140 undef = (.bool false) := hd 23 140 rfl (by kernel_rfl) (by decide)
      refine Does.value (.bool false) ?_ rfl
      clear hs hd
      go_simp
    · intro ax wx hb hs hd
      have h141 : ax.tmps.getD 141 undef = (.bool false) := hd 24 141 rfl (by kernel_rfl) (by decide)
      refine Does.value (.bool false) ?_ rfl
      clear hs hd
      go_simp
    · intro ax wx hb hs hd
      have h132 : ax.tmps.getD 132 undef = (.bool false) := hd 15 132 rfl (by kernel_rfl) (by decide)
      have h147 : ax.tmps.getD 147 undef = (.bool false) := hd 30 147 rfl (by kernel_rfl) (by decide)
      refine Does.value (.bool false) ?_ rfl
      clear hs hd
      go_simp
    · intro ax wx hb hs hd
      have h128 : ax.tmps.getD 128 undef = (.bool false) := hd 11 128 rfl (by kernel_rfl) (by decide)
      have h148 : ax.tmps.getD 148 undef = (.bool false) := hd 31 148 rfl (by kernel_rfl) (by decide)
      refine Does.value (.bool false) ?_ rfl
      clear hs hd
      go_simp
    · intro ax wx hb hs hd
      have h149 : ax.tmps.getD 149 undef = (.bool false) := hd 32 149 rfl (by kernel_rfl) (by decide)
      refine Does.value (.bool false) ?_ rfl
      clear hs hd
      go_simp
    · intro ax wx hb hs hd
      have h0 : ax.tmps.getD 0 undef = (.slice ao n c) := hs 0 (by kernel_rfl)
      refine Does.value (.slice ao n c) ?_ rfl
      clear hs hd
      go_simp
    · intro ax wx hb hs hd
      have h1 : ax.tmps.getD 1 undef = (.slice bo m d) := hs 1 (by kernel_rfl)
      refine Does.value (.slice bo m d) ?_ rfl
      clear hs hd
      go_simp
    · intro ax wx hb hs hd
      have h151 : ax.tmps.getD 151 undef = (.slice ao n c) := hd 34 151 rfl (by kernel_rfl) (by decide)
      have h152 : ax.tmps.getD 152 undef = (.slice bo m d) := hd 35 152 rfl (by kernel_rfl) (by decide)
      refine Does.call 25 #[.slice ao n c, .slice bo m d] (by clear hs hd; go_simp) ?_
      refine (Together_any ao bo n m c d xs ys HX.out.2.1 HY.out.2.1 wx (HX.out.1.later (below_chain A19.out.1 hb A19.out.1.size) (Nat.le_refl _)) (HY.out.1.later (below_chain A19.out.1 hb A19.out.1.size) (Nat.le_refl _))).mono ?_
      rintro r w' ⟨rfl, lq⟩
      rw [TG.out, mk_false]
      exact ⟨_, rfl, rfl, lq⟩
    · intro ax wx hb hs hd
      have h1 : ax.tmps.getD 1 undef = (.slice bo m d) := hs 1 (by kernel_rfl)
      refine Does.value (.slice bo m d) ?_ rfl
      clear hs hd
      go_simp
    · intro ax wx hb hs hd
      have h0 : ax.tmps.getD 0 undef = (.slice ao n c) := hs 0 (by kernel_rfl)
      refine Does.value (.slice ao n c) ?_ rfl
      clear hs hd
      go_simp
    · intro ax wx hb hs hd
      have h154 : ax.tmps.getD 154 undef = (.slice bo m d) := hd 37 154 rfl (by kernel_rfl) (by decide)
      have h155 : ax.tmps.getD 155 undef = (.slice ao n c) := hd 38 155 rfl (by kernel_rfl) (by decide)
      refine Does.call 25 #[.slice bo m d, .slice ao n c] (by clear hs hd; go_simp) ?_
      refine (Together_any bo ao m n d c ys xs HY.out.2.1 HX.out.2.1 wx (HY.out.1.later (below_chain A19.out.1 hb A19.out.1.size) (Nat.le_refl _)) (HX.out.1.later (below_chain A19.out.1 hb A19.out.1.size) (Nat.le_refl _))).mono ?_
      rintro r w' ⟨rfl, lq⟩
      rw [TG2.out, mk_false]
      exact ⟨_, rfl, rfl, lq⟩
    · intro ax wx hb hs hd
      have h153 : ax.tmps.getD 153 undef = (.int .u64 0) := hd 36 153 rfl (by kernel_rfl) (by decide)
      have h156 : ax.tmps.getD 156 undef = (.int .u64 0) := hd 39 156 rfl (by kernel_rfl) (by decide)
      refine Does.value (.bool false) ?_ rfl
      clear hs hd
      go_simp
  · intro wx hb
    refine @Ends.val _ _ _ _ _ _ _ _ _ (.pointer (some ⟨w13.heap.size, 0, none⟩)) rfl ?_
    refine @Ends.val _ _ _ _ _ _ _ _ _ (.int .u8 1) rfl ?_
    refine @Ends.val _ _ _ _ _ _ _ _ _ (.pointer (some ⟨w17.heap.size, 0, none⟩)) rfl ?_
    refine @Ends.val _ _ _ _ _ _ _ _ _ (.int .u8 0) rfl ?_
    refine @Ends.val _ _ _ _ _ _ _ _ _ (.bool true) rfl ?_
    refine @Ends.val _ _ _ _ _ _ _ _ _ (.bool true) rfl ?_
    refine @Ends.val _ _ _ _ _ _ _ _ _ (.slice ao n c) rfl ?_
    refine @Ends.val _ _ _ _ _ _ _ _ _ (.slice bo m d) rfl ?_
    refine @Ends.val _ _ _ _ _ _ _ _ _ (.int .u64 18446744073709551615) rfl ?_
    refine @Ends.val _ _ _ _ _ _ _ _ _ (.bool false) rfl ?_
    refine @Ends.val _ _ _ _ _ _ _ _ _ (.bool false) rfl ?_
    refine @Ends.val _ _ _ _ _ _ _ _ _ (.bool false) rfl ?_
    refine @Ends.val _ _ _ _ _ _ _ _ _ (.slice ao n c) rfl ?_
    refine @Ends.val _ _ _ _ _ _ _ _ _ (.slice bo m d) rfl ?_
    refine @Ends.val _ _ _ _ _ _ _ _ _ (.int .u64 0) rfl ?_
    refine @Ends.val _ _ _ _ _ _ _ _ _ (.bool false) rfl ?_
    refine @Ends.val _ _ _ _ _ _ _ _ _ (.pointer (some ⟨w13.heap.size, 0, none⟩)) rfl ?_
    refine @Ends.val _ _ _ _ _ _ _ _ _ (.int .u8 1) rfl ?_
    refine @Ends.val _ _ _ _ _ _ _ _ _ (.bool true) rfl ?_
    refine @Ends.val _ _ _ _ _ _ _ _ _ (.bool true) rfl ?_
    refine @Ends.val _ _ _ _ _ _ _ _ _ (.pointer (some ⟨w17.heap.size, 0, none⟩)) rfl ?_
    refine @Ends.val _ _ _ _ _ _ _ _ _ (.int .u8 0) rfl ?_
    refine @Ends.val _ _ _ _ _ _ _ _ _ (.bool false) rfl ?_
    refine @Ends.val _ _ _ _ _ _ _ _ _ (.bool false) rfl ?_
    refine @Ends.val _ _ _ _ _ _ _ _ _ (.bool false) rfl ?_
    refine @Ends.val _ _ _ _ _ _ _ _ _ undef rfl ?_
    refine @Ends.val _ _ _ _ _ _ _ _ _ undef rfl ?_
    refine @Ends.val _ _ _ _ _ _ _ _ _ undef rfl ?_
    refine @Ends.val _ _ _ _ _ _ _ _ _ undef rfl ?_
    refine @Ends.val _ _ _ _ _ _ _ _ _ undef rfl ?_
    refine @Ends.val _ _ _ _ _ _ _ _ _ (.bool false) rfl ?_
    refine @Ends.val _ _ _ _ _ _ _ _ _ (.bool false) rfl ?_
    refine @Ends.val _ _ _ _ _ _ _ _ _ (.bool false) rfl ?_
    refine @Ends.val _ _ _ _ _ _ _ _ _ (.bool false) rfl ?_
    refine @Ends.val _ _ _ _ _ _ _ _ _ (.slice ao n c) rfl ?_
    refine @Ends.val _ _ _ _ _ _ _ _ _ (.slice bo m d) rfl ?_
    refine @Ends.val _ _ _ _ _ _ _ _ _ (.int .u64 0) rfl ?_
    refine @Ends.val _ _ _ _ _ _ _ _ _ (.slice bo m d) rfl ?_
    refine @Ends.val _ _ _ _ _ _ _ _ _ (.slice ao n c) rfl ?_
    refine @Ends.val _ _ _ _ _ _ _ _ _ (.int .u64 0) rfl ?_
    refine @Ends.val _ _ _ _ _ _ _ _ _ (.bool false) rfl ?_
    refine @Ends.one _ _ _ _ _ _ _ ?_
    simp only [Act.put, List.setIfInBounds_toArray, List.set_cons_zero, List.set_cons_succ]
    have A20 : Hid (Below w.heap.size w wx) := below_chain A19.out.1 hb A19.out.1.size
    refine last_valueS (some 158) rfl (.bool false) (by go_simp) ?_
    simp only [Act.put, List.setIfInBounds_toArray, List.set_cons_zero, List.set_cons_succ]
    obtain ⟨w20, hX20⟩ : ∃ u, wx = u := ⟨_, rfl⟩
    rw [hX20] at A20 ⊢
    clear hb hX20 A19
    go_wp2_with fail
    refine (ByGroup_any ao bo n m c d xs ys HX.out.2.1 HY.out.2.1 w20 (HX.out.1.later A20.out (Nat.le_refl _)) (HY.out.1.later A20.out (Nat.le_refl _))).mono ?_
    rintro r w21 ⟨rfl, l21⟩
    have A21 : Hid (Below w.heap.size w w21) := below_chain A20.out l21 A20.out.size
    clear l21 A20
    go_wp2_with fail
    refine (ByGroup_any bo co m l d e ys zs HY.out.2.1 HZ.out.2 w21 (HY.out.1.later A21.out (Nat.le_refl _)) (HZ.out.1.later A21.out (Nat.le_refl _))).mono ?_
    rintro r w22 ⟨rfl, l22⟩
    have A22 : Hid (Below w.heap.size w w22) := below_chain A21.out l22 A21.out.size
    clear l22 A21
    go_wp2_with fail
    refine (Together_any ao co n l c e xs zs HX.out.2.1 HZ.out.2 w22 (HX.out.1.later A22.out (Nat.le_refl _)) (HZ.out.1.later A22.out (Nat.le_refl _))).mono ?_
    rintro r w23 ⟨rfl, l23⟩
    have A23 : Hid (Below w.heap.size w w23) := below_chain A22.out l23 A22.out.size
    clear l23 A22
    have ma := mk_and (byG xs ys) (byG ys zs)
    have mb := mk_and (byG xs ys && byG ys zs) (togB xs zs)
    cases hq : (byG xs ys && byG ys zs && togB xs zs) with
    | true =>
      rw [hq, mk_true] at mb
      have TT := tog_between xs ys zs hq
      go_wp2_with fail
      refine (Together_any ao bo n m c d xs ys HX.out.2.1 HY.out.2.1 w23 (HX.out.1.later A23.out (Nat.le_refl _)) (HY.out.1.later A23.out (Nat.le_refl _))).mono ?_
      rintro r w24 ⟨rfl, l24⟩
      rw [TT, mk_true]
      have A24 : Hid (Below w.heap.size w w24) := below_chain A23.out l24 A23.out.size
      clear l24 A23
      go_wp2
      go_ret
      exact ⟨rfl, A24.out⟩
    | false =>
      rw [hq, mk_false] at mb
      go_wp2
      go_ret
      exact ⟨rfl, A23.out⟩
end Go.Proofs.Ytabdjoljdefjdaa.recordOrder
