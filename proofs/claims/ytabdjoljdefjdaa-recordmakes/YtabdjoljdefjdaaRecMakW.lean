/- The walk of RecordMakes. -/
import Derived.Test.YtabdjoljdefjdaaRcSt
import Derived.Test.YtabdjoljdefjdaaRcRMake
namespace Go.Proofs.Ytabdjoljdefjdaa.recordMakes
open Go.RowKit
set_option linter.unusedVariables false
set_option linter.unusedSimpArgs false

set_option maxRecDepth 20000 in
set_option maxHeartbeats 8000000 in
theorem walk (h : Hd) (ao : Option Addr) (m c : Nat) (bs : List Int) (w : World) (kh : HdOk h) (hx : Seen w ao m bs) (hm : m ≤ 140737488351232) (fa : ao = none → c = 0) (hc : m ≤ c) :
    Calls Try.prog 3 #[.agg (hdC h).toArray, .slice ao m c] w fun e w' => e = .returned (.bool true) ∧ Below w.heap.size w w' := by
  have HK : Hid (HdOk h) := kh
  have HX : Hid (Seen w ao m bs ∧ m ≤ 140737488351232 ∧ m ≤ c ∧ bs.length = m ∧ Bytes bs) := ⟨hx, hm, hc, hx.len, hx.bytes⟩
  obtain ⟨Z, eZ⟩ : ∃ Z, hdB h ++ bs = Z := ⟨_, rfl⟩
  have HZ : Hid (hdB h ++ bs = Z ∧ Z.length = 26 + m ∧ Bytes Z) := ⟨eZ, by rw [← eZ, List.length_append, hdB_length kh.len, hx.len], by rw [← eZ]; exact bytes_two (hdB_bytes kh) hx.bytes⟩
  clear kh hx fa hc eZ
  go_enter Try.func3, Try.ntmps3
  go_wp2_with (first | (refine wpList_box_new rfl 26 _ rfl (hdC h) rfl ?_; intro w1 b1 s1 l1))
  refine (spare_big ao m c bs w1 (HX.out.1.later l1 (Nat.le_refl _)) HX.out.2.1).mono ?_
  rintro e w2 ⟨rfl, b2, s2, l2⟩
  have hg : w.heap.size + 1 = w1.heap.size := s1.symm
  obtain ⟨g, eg⟩ : ∃ g, w1.heap.size = g := ⟨_, rfl⟩
  rw [eg] at b2 s2 l2 hg ⊢
  have A2 : Hid (Ld w w2 g bs ∧ Bk w w2 h) := ⟨⟨b2, below_chain l1 (eg ▸ l2) (by omega), by omega⟩, ⟨b1.later (eg ▸ l2) (by omega), below_chain l1 (eg ▸ l2) (by omega)⟩⟩
  have z2 : Hid (g < w2.heap.size ∧ w.heap.size + 1 = g) := ⟨by omega, hg⟩
  clear b1 s1 l1 b2 s2 l2 eg hg
  have v0 : ∀ W : World, W.heap.size = W.heap.size := fun _ => rfl
  clear v0
  go_wp2_with (first | ((with_reducible show wpList _ _ _ (({ dst := some 13, op := _, type := _, pos := _, after := _, guard := _ } : Oper) :: _) _ _); refine wpList_load_blk rfl 26 (.tmp 2) rfl _ rfl (hdC h) _ A2.out.2.b Try.underlying26 rfl (hsizeC HK.out.len) ?_))
  refine (make_any h HK.out _ m (m + 80) bs (fun e => by cases e) (by have := HX.out.2.1; omega) w2 (A2.out.1.seen HX.out.2.2.2.1 HX.out.2.2.2.2 HX.out.2.1)).mono ?_
  rintro e w3 ⟨v3, rfl, o3, l3⟩
  rw [HZ.out.1] at o3
  obtain ⟨o1, c1, rfl, O1⟩ := out_of HZ.out.2.1 HZ.out.2.2 (by have := HX.out.2.1; omega) o3
  have A3 : Hid (Ld w w3 g bs ∧ Bk w w3 h ∧ Out w3 w2.heap.size w3.heap.size o1 (26 + m) c1 Z) := ⟨A2.out.1.later l3, A2.out.2.later l3, O1⟩
  have z3 : Hid (w2.heap.size ≤ w3.heap.size) := l3.size
  clear o3 l3 O1 A2
  go_wp2_with (first | ((with_reducible show wpList _ _ _ (({ dst := some 16, op := _, type := _, pos := _, after := _, guard := _ } : Oper) :: _) _ _); refine wpList_load_blk rfl 26 (.tmp 2) rfl _ rfl (hdC h) _ A3.out.2.1.b Try.underlying26 rfl (hsizeC HK.out.len) ?_))
  refine (make_any h HK.out _ m (m + 80) bs (fun e => by cases e) (by have := HX.out.2.1; omega) w3 (A3.out.1.seen HX.out.2.2.2.1 HX.out.2.2.2.2 HX.out.2.1)).mono ?_
  rintro e w4 ⟨v4, rfl, o4, l4⟩
  rw [HZ.out.1] at o4
  obtain ⟨o2, c2, rfl, O2⟩ := out_of HZ.out.2.1 HZ.out.2.2 (by have := HX.out.2.1; omega) o4
  have A4 : Hid (Ld w w4 g bs ∧ Bk w w4 h ∧ Out w4 w2.heap.size w3.heap.size o1 (26 + m) c1 Z ∧ Out w4 w3.heap.size w4.heap.size o2 (26 + m) c2 Z) := ⟨A3.out.1.later l4, A3.out.2.1.later l4, A3.out.2.2.later l4, O2⟩
  have z4 : Hid (w3.heap.size ≤ w4.heap.size) := l4.size
  clear o4 l4 O2 A3
  go_wp2_with (first | ((with_reducible show wpList _ _ _ (({ dst := some 19, op := _, type := _, pos := _, after := _, guard := _ } : Oper) :: _) _ _); refine wpList_load_blk rfl 26 (.tmp 2) rfl _ rfl (hdC h) _ A4.out.2.1.b Try.underlying26 rfl (hsizeC HK.out.len) ?_))
  refine (rmake_any h HK.out ao m c bs HX.out.2.2.1 (by have := HX.out.2.1; omega) w4 (HX.out.1.later A4.out.1.bel (Nat.le_refl _))).mono ?_
  rintro e w5 ⟨v5, rfl, o5, l5⟩
  rw [HZ.out.1] at o5
  obtain ⟨o3, c3, rfl, S5, -, -, -⟩ := isO_sl HZ.out.2.1 HZ.out.2.2 (by have := HX.out.2.1; omega) o5
  have A5 : Hid (Ld w w5 g bs ∧ Bk w w5 h ∧ Out w5 w2.heap.size w3.heap.size o1 (26 + m) c1 Z ∧ Out w5 w3.heap.size w4.heap.size o2 (26 + m) c2 Z ∧ Seen w5 o3 (26 + m) Z ∧ w4.heap.size ≤ w5.heap.size) := ⟨A4.out.1.later l5, A4.out.2.1.later l5, A4.out.2.2.1.later l5, A4.out.2.2.2.later l5, S5, l5.size⟩
  have z5 : Hid (w4.heap.size ≤ w5.heap.size) := l5.size
  clear o5 l5 S5 A4
  go_wp2_with fail
  refine (reqb_any o1 o3 (26 + m) (26 + m) c1 c3 Z Z w5 A5.out.2.2.1.seen A5.out.2.2.2.2.1).mono ?_
  rintro e _ ⟨rfl, qa, rfl⟩
  rw [decide_eq_true (rfl : Z = Z)]
  obtain ⟨x1, hx1⟩ : ∃ u, w5.drewN qa = u := ⟨_, rfl⟩
  rw [hx1]
  have B1 : Hid (Ld w x1 g bs ∧ Bk w x1 h ∧ Out x1 w2.heap.size w3.heap.size o1 (26 + m) c1 Z ∧ Out x1 w3.heap.size w4.heap.size o2 (26 + m) c2 Z ∧ Seen x1 o3 (26 + m) Z ∧ w4.heap.size ≤ x1.heap.size) := ⟨hx1 ▸ A5.out.1.drewN qa, hx1 ▸ A5.out.2.1.drewN qa, hx1 ▸ A5.out.2.2.1.dn qa, hx1 ▸ A5.out.2.2.2.1.dn qa, hx1 ▸ A5.out.2.2.2.2.1.drewN qa, by have e1 := A5.out.2.2.2.2.2; have e2 := size_dn w5 qa; rw [hx1] at e2; omega⟩
  clear hx1 A5
  go_wp2_with fail
  refine (reqb_any o2 o3 (26 + m) (26 + m) c2 c3 Z Z x1 B1.out.2.2.2.1.seen B1.out.2.2.2.2.1).mono ?_
  rintro e _ ⟨rfl, qb, rfl⟩
  rw [decide_eq_true (rfl : Z = Z)]
  obtain ⟨x2, hx2⟩ : ∃ u, x1.drewN qb = u := ⟨_, rfl⟩
  rw [hx2]
  have B2 : Hid (Ld w x2 g bs ∧ Bk w x2 h ∧ Out x2 w2.heap.size w3.heap.size o1 (26 + m) c1 Z ∧ Out x2 w3.heap.size w4.heap.size o2 (26 + m) c2 Z ∧ Seen x2 o3 (26 + m) Z ∧ w4.heap.size ≤ x2.heap.size) := ⟨hx2 ▸ B1.out.1.drewN qb, hx2 ▸ B1.out.2.1.drewN qb, hx2 ▸ B1.out.2.2.1.dn qb, hx2 ▸ B1.out.2.2.2.1.dn qb, hx2 ▸ B1.out.2.2.2.2.1.drewN qb, by have e1 := B1.out.2.2.2.2.2; have e2 := size_dn x1 qb; rw [hx2] at e2; omega⟩
  clear hx2 B1
  go_wp2_with fail
  refine (kept_big g ao m c bs x2 B2.out.1.s (HX.out.1.later B2.out.1.bel (Nat.le_refl _)) HX.out.2.1).mono ?_
  rintro e _ ⟨rfl, qc, rfl⟩
  obtain ⟨w6, hw6⟩ : ∃ u, x2.drewN qc = u := ⟨_, rfl⟩
  rw [hw6]
  have A6 : Hid (Ld w w6 g bs ∧ Bk w w6 h ∧ Out w6 w2.heap.size w3.heap.size o1 (26 + m) c1 Z ∧ Out w6 w3.heap.size w4.heap.size o2 (26 + m) c2 Z ∧ Seen w6 o3 (26 + m) Z ∧ w4.heap.size ≤ w6.heap.size) := ⟨hw6 ▸ B2.out.1.drewN qc, hw6 ▸ B2.out.2.1.drewN qc, hw6 ▸ B2.out.2.2.1.dn qc, hw6 ▸ B2.out.2.2.2.1.dn qc, hw6 ▸ B2.out.2.2.2.2.1.drewN qc, by have e1 := B2.out.2.2.2.2.2; have e2 := size_dn x2 qc; rw [hw6] at e2; omega⟩
  clear hw6 B2
  go_wp2_with fail
  have LT := lot2 A6.out.2.2.1 A6.out.2.2.2.1 z3.out z4.out A6.out.2.2.2.2.2
  have B7 : Below w6.heap.size w6 (w6.alloc (.cells #[.slice o1 (26 + m) c1, .slice o2 (26 + m) c2] 27)) := (Below.refl _ _).alloc (Nat.le_refl _) _
  refine (rapart_any w6.heap.size 2 2 _ _ _ _ _ _ LT.1 (by decide) (fun j hj => by have := HX.out.2.1; rcases (by omega : j = 0 ∨ j = 1) with rfl | rfl <;> simp <;> omega)).mono ?_
  rintro e w8 ⟨rfl, k8⟩
  have A8 : Hid (Ld w w8 g bs ∧ Bk w w8 h) := ⟨(A6.out.1.later B7).kept k8 (fun j hj => by have p := LT.2 j hj; have := z2.out; exact ⟨by omega, by omega⟩), (A6.out.2.1.later B7).kept k8 (fun j hj => by have p := LT.2 j hj; have := z2.out; omega)⟩
  clear LT B7 k8 A6
  go_wp2_with fail
  refine (kept_big g ao m c bs _ A8.out.1.s (HX.out.1.later A8.out.1.bel (Nat.le_refl _)) HX.out.2.1).mono ?_
  rintro e w9 ⟨rfl, qd, rfl⟩
  go_wp2_with (first | ((with_reducible show wpList _ _ _ (({ dst := some 51, op := _, type := _, pos := _, after := _, guard := _ } : Oper) :: _) _ _); refine wpList_load_blk rfl 26 (.tmp 2) rfl _ rfl (hdC h) _ (A8.out.2.drewN qd).b Try.underlying26 rfl (hsizeC HK.out.len) ?_))
  refine (make_any h HK.out _ m (m + 80) bs (fun e => by cases e) (by have := HX.out.2.1; omega) _ ((A8.out.1.drewN qd).seen HX.out.2.2.2.1 HX.out.2.2.2.2 HX.out.2.1)).mono ?_
  rintro e w10 ⟨v10, rfl, o10, l10⟩
  have A10 : Hid (Ld w w10 g bs ∧ Bk w w10 h) := ⟨(A8.out.1.drewN qd).later l10, (A8.out.2.drewN qd).later l10⟩
  clear o10 l10 A8
  go_wp2_with fail
  go_loopw [9] (fun i wr => ∃ (k : Nat) (us : List Int), k ≤ m ∧ i = .int .i64 k ∧ us.length = m ∧ Bytes us ∧ Ld w wr g us ∧ Bk w wr h) (fun i _ => m - (intOf i).toNat)
  case atStart => exact ⟨0, bs, Nat.zero_le _, rfl, HX.out.2.2.2.1, HX.out.2.2.2.2, A10.out.1, A10.out.2⟩
  case round =>
    obtain ⟨k, us, hk, rfl, hul, hub, hsl, hbk⟩ := hrel
    by_cases hlt : k < m
    · have c1 := u8s_cell hsl.s k (by rw [spared_length]; omega)
      rw [spared_front us k (by omega)] at c1
      have f1 := hsl.s.frozen k
      have bz := hub.at k (by omega)
      obtain ⟨Y, hY⟩ : ∃ Y, us.getD k 0 = Y := ⟨_, rfl⟩
      rw [hY] at c1 bz
      obtain ⟨X, hX⟩ : ∃ X, bits .xor .u8 Y 85 = X := ⟨_, rfl⟩
      have bX : 0 ≤ X ∧ X < 256 := by rw [← hX]; exact xor8_bdR _ _ bz (by decide)
      have K1 := (Kept.refl (fun y => y = g) wr).setCell (p := ⟨g, k, none⟩) rfl (.int .u8 X)
      have T1 : Hid (Ld w (wr.setCell ⟨g, k, none⟩ (.int .u8 X)) g (us.set k X) ∧ Bk w (wr.setCell ⟨g, k, none⟩ (.int .u8 X)) h ∧ Bytes (us.set k X) ∧ (us.set k X).length = m) := ⟨hsl.set k X (by omega), hbk.kept K1 (fun j e => by have := z2.out; omega), bytes_setR hub k X bX, by rw [List.length_set]; exact hul⟩
      have j1 : (0 : Int) ≤ (k : Int) := by omega
      have j2 : (k : Int) < (m : Int) := by omega
      have j3 : (k : Int) < (m : Int) + 80 := by omega
      clear hY hsl hub hul K1 bX bz hbk
      go_wp2_with fail
      go_roundw
      case rel => exact ⟨k + 1, _, by omega, by go_num, T1.out.2.2.2, T1.out.2.2.1, T1.out.1, T1.out.2.1⟩
      case measure => simp [intOf]; omega
    · obtain rfl : m = k := by omega
      have j2 : ¬ (m : Int) < (m : Int) := by omega
      have AW : Hid (Ld w wr g us ∧ Bk w wr h ∧ us.length = m ∧ Bytes us) := ⟨hsl, hbk, hul, hub⟩
      obtain ⟨Q, eQ⟩ : ∃ Q, hdB h ++ us = Q := ⟨_, rfl⟩
      have HQ : Hid (hdB h ++ us = Q ∧ Q.length = 26 + m ∧ Bytes Q) := ⟨eQ, by rw [← eQ, List.length_append, hdB_length HK.out.len, hul], by rw [← eQ]; exact bytes_two (hdB_bytes HK.out) hub⟩
      clear hsl hbk hul hub eQ
      go_wp2_with fail
      refine (copyB_any _ m (m + 80) us wr (AW.out.1.seen AW.out.2.2.1 AW.out.2.2.2 HX.out.2.1)).mono ?_
      rintro e w11 ⟨v11, rfl, o11, l11⟩
      obtain ⟨q11, c11, rfl, S11, f11, -, -⟩ := isO_sl AW.out.2.2.1 AW.out.2.2.2 (by have := HX.out.2.1; omega) o11
      have A11 : Hid (Ld w w11 g us ∧ Bk w w11 h ∧ Seen w11 q11 m us ∧ m ≤ c11) := ⟨AW.out.1.later l11, AW.out.2.1.later l11, S11, f11⟩
      clear o11 l11 S11 f11
      go_wp2_with fail
      refine region_inv [.val (.agg (hdC h).toArray), .val (.slice (some ⟨g, 0, none⟩) m (m + 80)), .any (isO w.heap.size (26 + m) Q) (isO_later _ _ _), .val (.agg (hdC h).toArray), .val (.slice q11 m c11), .any (isO w.heap.size (26 + m) Q) (isO_later _ _ _), .val (.bool true)] (by kernel_rfl) (by kernel_rfl) (by kernel_rfl) ?_ ?_
      · refine Steps'.cons ?_ (Steps'.cons ?_ (Steps'.cons ?_ (Steps'.cons ?_ (Steps'.cons ?_ (Steps'.cons ?_ (Steps'.cons ?_ (Steps'.one _ _ _ _ _ _ _)))))))
        · intro ax wx hb hs hd
          have h2 : ax.tmps.getD 2 undef = (.pointer (some ⟨w.heap.size, 0, none⟩)) := hs 2 (by kernel_rfl)
          exact Does.load 26 (.tmp 2) rfl w.heap.size 0 h2 (hdC h) _ (A11.out.2.1.b.later hb A11.out.2.1.b.lt).allR Try.underlying26 rfl (hsizeC HK.out.len)
        · intro ax wx hb hs hd
          have h5 : ax.tmps.getD 5 undef = (.slice (some ⟨g, 0, none⟩) m (m + 80)) := hs 5 (by kernel_rfl)
          refine Does.value (.slice (some ⟨g, 0, none⟩) m (m + 80)) ?_ rfl
          clear hs hd
          go_simp
        · intro ax wx hb hs hd
          have h70 : ax.tmps.getD 70 undef = (.agg (hdC h).toArray) := hd 0 70 rfl (by kernel_rfl) (by decide)
          have h71 : ax.tmps.getD 71 undef = (.slice (some ⟨g, 0, none⟩) m (m + 80)) := hd 1 71 rfl (by kernel_rfl) (by decide)
          refine Does.call 12 #[.agg (hdC h).toArray, .slice (some ⟨g, 0, none⟩) m (m + 80)] (by clear hs hd; go_simp) ?_
          refine (make_any h HK.out _ m (m + 80) us (fun e => by cases e) (by have := HX.out.2.1; omega) wx ((A11.out.1.later hb).seen AW.out.2.2.1 AW.out.2.2.2 HX.out.2.1)).mono ?_
          rintro e w' ⟨v, rfl, o, l⟩
          rw [HQ.out.1] at o
          exact ⟨_, rfl, isO_base o (by have := hb.size; have := A11.out.1.bel.size; omega), l⟩
        · intro ax wx hb hs hd
          have h2 : ax.tmps.getD 2 undef = (.pointer (some ⟨w.heap.size, 0, none⟩)) := hs 2 (by kernel_rfl)
          exact Does.load 26 (.tmp 2) rfl w.heap.size 0 h2 (hdC h) _ (A11.out.2.1.b.later hb A11.out.2.1.b.lt).allR Try.underlying26 rfl (hsizeC HK.out.len)
        · intro ax wx hb hs hd
          have h10 : ax.tmps.getD 10 undef = (.slice q11 m c11) := hs 10 (by kernel_rfl)
          refine Does.value (.slice q11 m c11) ?_ rfl
          clear hs hd
          go_simp
        · intro ax wx hb hs hd
          have h73 : ax.tmps.getD 73 undef = (.agg (hdC h).toArray) := hd 3 73 rfl (by kernel_rfl) (by decide)
          have h74 : ax.tmps.getD 74 undef = (.slice q11 m c11) := hd 4 74 rfl (by kernel_rfl) (by decide)
          refine Does.call 13 #[.agg (hdC h).toArray, .slice q11 m c11] (by clear hs hd; go_simp) ?_
          refine (rmake_any h HK.out q11 m c11 us A11.out.2.2.2 (by have := HX.out.2.1; omega) wx (A11.out.2.2.1.later hb (Nat.le_refl _))).mono ?_
          rintro e w' ⟨v, rfl, o, l⟩
          rw [HQ.out.1] at o
          exact ⟨_, rfl, isO_base o (by have := hb.size; have := A11.out.1.bel.size; omega), l⟩
        · intro ax wx hb hs hd
          have p72 : (isO w.heap.size (26 + m) Q) (ax.tmps.getD 72 undef) wx := hd 2 72 rfl (by kernel_rfl) (by decide)
          have p75 : (isO w.heap.size (26 + m) Q) (ax.tmps.getD 75 undef) wx := hd 5 75 rfl (by kernel_rfl) (by decide)
          obtain ⟨x1, d1, h72, t1, _⟩ := isO_sl HQ.out.2.1 HQ.out.2.2 (by have := HX.out.2.1; omega) p72
          obtain ⟨x2, d2, h75, t2, _⟩ := isO_sl HQ.out.2.1 HQ.out.2.2 (by have := HX.out.2.1; omega) p75
          clear p72 p75
          refine Does.call 14 #[.slice x1 (26 + m) d1, .slice x2 (26 + m) d2] (by clear hs hd; go_simp) ?_
          refine (reqb_any x1 x2 (26 + m) (26 + m) d1 d2 Q Q wx t1 t2).mono ?_
          rintro e w' ⟨rfl, q, rfl⟩
          rw [decide_eq_true (rfl : Q = Q)]
          exact ⟨_, rfl, rfl, below_dn (Below.refl _ _) q⟩
      · intro wx hb
        refine @Ends.val _ _ _ _ _ _ _ _ _ (.agg (hdC h).toArray) rfl ?_
        refine @Ends.val _ _ _ _ _ _ _ _ _ (.slice (some ⟨g, 0, none⟩) m (m + 80)) rfl ?_
        refine @Ends.any _ _ _ _ _ _ _ _ _ (isO w.heap.size (26 + m) Q) (isO_later _ _ _) rfl ?_
        intro v72 p72
        refine @Ends.val _ _ _ _ _ _ _ _ _ (.agg (hdC h).toArray) rfl ?_
        refine @Ends.val _ _ _ _ _ _ _ _ _ (.slice q11 m c11) rfl ?_
        refine @Ends.any _ _ _ _ _ _ _ _ _ (isO w.heap.size (26 + m) Q) (isO_later _ _ _) rfl ?_
        intro v75 p75
        refine @Ends.val _ _ _ _ _ _ _ _ _ (.bool true) rfl ?_
        refine @Ends.one _ _ _ _ _ _ _ ?_
        simp only [Act.put, List.setIfInBounds_toArray, List.set_cons_zero, List.set_cons_succ]
        have L : Hid (Below w.heap.size w wx) := below_chain A11.out.1.bel hb A11.out.1.bel.size
        clear p72 p75
        refine last_assign (.tmp 76) rfl (some 4) rfl (.bool true) rfl ?_
        simp only [Act.put, List.setIfInBounds_toArray, List.set_cons_zero, List.set_cons_succ]
        go_wp2
        go_ret
        exact ⟨rfl, L.out⟩
end Go.Proofs.Ytabdjoljdefjdaa.recordMakes
