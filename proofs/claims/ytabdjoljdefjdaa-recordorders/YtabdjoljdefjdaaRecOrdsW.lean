/- The walk of RecordOrders. -/
import Derived.Test.YtabdjoljdefjdaaRcSt
import Derived.Test.YtabdjoljdefjdaaRcROrd3
namespace Go.Proofs.Ytabdjoljdefjdaa.recordOrders
open Go.RowKit
set_option linter.unusedVariables false
set_option linter.unusedSimpArgs false

set_option maxRecDepth 20000 in
set_option maxHeartbeats 16000000 in
theorem walk (ao : Option Addr) (n c : Nat) (xs : List Int) (bo : Option Addr) (m d : Nat) (ys : List Int) (w : World) (hx : Seen w ao n xs) (hn : n ≤ 140737488351232) (fa : ao = none → c = 0) (hc : n ≤ c) (hy : Seen w bo m ys) (hm : m ≤ 140737488351232) (fb : bo = none → d = 0) (hd' : m ≤ d) :
    Calls Try.prog 6 #[.slice ao n c, .slice bo m d] w fun e w' => e = .returned (.bool true) ∧ Below w.heap.size w w' := by
  have HX : Hid (Seen w ao n xs ∧ n ≤ 140737488351232 ∧ xs.length = n ∧ Bytes xs) := ⟨hx, hn, hx.len, hx.bytes⟩
  have HY : Hid (Seen w bo m ys ∧ m ≤ 140737488351232 ∧ ys.length = m ∧ Bytes ys) := ⟨hy, hm, hy.len, hy.bytes⟩
  clear hx fa hc hy fb hd'
  go_enter Try.func6, Try.ntmps6
  go_wp2_with fail
  refine (spare_big ao n c xs w HX.out.1 HX.out.2.1).mono ?_
  rintro e w2 ⟨rfl, b2, s2, l2⟩
  go_wp2_with fail
  refine (spare_big bo m d ys w2 (HY.out.1.later l2 (Nat.le_refl _)) HY.out.2.1).mono ?_
  rintro e w3 ⟨rfl, b3, s3, l3⟩
  obtain ⟨g, eg⟩ : ∃ g, w.heap.size = g := ⟨_, rfl⟩
  obtain ⟨f, ef⟩ : ∃ f, w2.heap.size = f := ⟨_, rfl⟩
  have A2 : Hid (Ld w w3 g xs ∧ Ld w w3 f ys) := ⟨(Ld.mk (w := w) (eg ▸ b2) l2 (by omega)).later l3, ⟨ef ▸ b3, below_chain l2 l3 (by omega), by omega⟩⟩
  have zg : Hid (w.heap.size = g ∧ g < f) := ⟨eg, by omega⟩
  rw [eg, ef]
  clear b2 s2 l2 b3 s3 l3 eg ef
  go_wp2_with fail
  go_loopw [7] (fun i wr => ∃ (k : Nat) (us vs : List Int), k ≤ 2 ∧ i = .int .i64 k ∧ us.length = n ∧ Bytes us ∧ vs.length = m ∧ Bytes vs ∧ Ld w wr g us ∧ Ld w wr f vs ∧ (k = 0 → us = xs ∧ vs = ys)) (fun i _ => 2 - (intOf i).toNat)
  case atStart => exact ⟨0, xs, ys, by decide, rfl, HX.out.2.2.1, HX.out.2.2.2, HY.out.2.2.1, HY.out.2.2.2, A2.out.1, A2.out.2, fun _ => ⟨rfl, rfl⟩⟩
  case round =>
    obtain ⟨k, us, vs, hk, rfl, hul, hub, hvl, hvb, hlu, hlv, hfirst⟩ := hrel
    obtain ⟨w0, rfl⟩ : ∃ w0, w0 = wr := ⟨_, rfl⟩
    by_cases hlt : k < 2
    · have HU : Hid (us.length = n ∧ Bytes us ∧ vs.length = m ∧ Bytes vs) := ⟨hul, hub, hvl, hvb⟩
      have HF : Hid (k = 0 → us = xs ∧ vs = ys) := hfirst
      have A0 : Hid (Ld w w0 g us ∧ Ld w w0 f vs) := ⟨hlu, hlv⟩
      have i1 : (k : Int) < 2 := by omega
      clear hul hub hvl hvb hlu hlv hfirst
      go_wp2_with fail
      refine (copyB_any _ n (n + 80) us w0 (A0.out.1.seen HU.out.1 HU.out.2.1 HX.out.2.1)).mono ?_
      rintro e w3 ⟨v3, rfl, o3, l3⟩
      obtain ⟨p, cp, rfl, S3, f3, -, -⟩ := isO_sl HU.out.1 HU.out.2.1 (by have := HX.out.2.1; omega) o3
      have A3 : Hid (Ld w w3 g us ∧ Ld w w3 f vs ∧ Seen w3 p n us ∧ n ≤ cp) := ⟨A0.out.1.later l3, A0.out.2.later l3, S3, f3⟩
      clear o3 l3 S3 f3 A0
      go_wp2_with fail
      refine (copyB_any _ m (m + 80) vs w3 (A3.out.2.1.seen HU.out.2.2.1 HU.out.2.2.2 HY.out.2.1)).mono ?_
      rintro e w4 ⟨v4, rfl, o4, l4⟩
      obtain ⟨q, cq, rfl, S4, f4, -, -⟩ := isO_sl HU.out.2.2.1 HU.out.2.2.2 (by have := HY.out.2.1; omega) o4
      have A4 : Hid (Ld w w4 g us ∧ Ld w w4 f vs ∧ Seen w4 p n us ∧ Seen w4 q m vs) := ⟨A3.out.1.later l4, A3.out.2.1.later l4, A3.out.2.2.1.later l4 (Nat.le_refl _), S4⟩
      have C : Hid (n ≤ cp ∧ m ≤ cq) := ⟨A3.out.2.2.2, f4⟩
      clear o4 l4 S4 f4 A3
      go_wp2_with fail
      refine (Live_any _ n (n + 80) us (by omega) w4 (A4.out.1.seen HU.out.1 HU.out.2.1 HX.out.2.1)).mono ?_
      rintro e w5 ⟨rfl, l5⟩
      have A5 : Hid (Ld w w5 g us ∧ Ld w w5 f vs ∧ Seen w5 p n us ∧ Seen w5 q m vs) := ⟨A4.out.1.later l5, A4.out.2.1.later l5, A4.out.2.2.1.later l5 (Nat.le_refl _), A4.out.2.2.2.later l5 (Nat.le_refl _)⟩
      clear l5 A4
      go_wp2_with fail
      refine (rlive_any p n cp us C.out.1 w5 A5.out.2.2.1).mono ?_
      rintro e w' ⟨rfl, hw⟩
      have hw := hw.symm
      subst hw
      go_wp2_with fail
      refine (mask_any (liveB us) w5).mono ?_
      rintro e w' ⟨rfl, hw⟩
      have hw := hw.symm
      subst hw
      go_wp2_with fail
      refine (Live_any _ m (m + 80) vs (by omega) w5 (A5.out.2.1.seen HU.out.2.2.1 HU.out.2.2.2 HY.out.2.1)).mono ?_
      rintro e w6 ⟨rfl, l6⟩
      have A6 : Hid (Ld w w6 g us ∧ Ld w w6 f vs ∧ Seen w6 p n us ∧ Seen w6 q m vs) := ⟨A5.out.1.later l6, A5.out.2.1.later l6, A5.out.2.2.1.later l6 (Nat.le_refl _), A5.out.2.2.2.later l6 (Nat.le_refl _)⟩
      clear l6 A5
      go_wp2_with fail
      refine (rlive_any q m cq vs C.out.2 w6 A6.out.2.2.2).mono ?_
      rintro e w' ⟨rfl, hw⟩
      have hw := hw.symm
      subst hw
      go_wp2_with fail
      refine (mask_any (liveB vs) w6).mono ?_
      rintro e w' ⟨rfl, hw⟩
      have hw := hw.symm
      subst hw
      go_wp2_with fail
      refine (Together_any _ _ n m (n + 80) (m + 80) us vs (by omega) (by omega) w6 (A6.out.1.seen HU.out.1 HU.out.2.1 HX.out.2.1) (A6.out.2.1.seen HU.out.2.2.1 HU.out.2.2.2 HY.out.2.1)).mono ?_
      rintro e w7 ⟨rfl, l7⟩
      have A7 : Hid (Ld w w7 g us ∧ Ld w w7 f vs ∧ Seen w7 p n us ∧ Seen w7 q m vs) := ⟨A6.out.1.later l7, A6.out.2.1.later l7, A6.out.2.2.1.later l7 (Nat.le_refl _), A6.out.2.2.2.later l7 (Nat.le_refl _)⟩
      clear l7 A6
      go_wp2_with fail
      refine (rtog_any p q n m cp cq us vs C.out.1 C.out.2 w7 A7.out.2.2.1 A7.out.2.2.2).mono ?_
      rintro e _ ⟨rfl, q8, rfl⟩
      obtain ⟨w8, hw8⟩ : ∃ u, w7.drewN q8 = u := ⟨_, rfl⟩
      rw [hw8]
      have l8 : Below w7.heap.size w7 w8 := hw8 ▸ below_dn (Below.refl _ _) q8
      clear hw8
      have A8 : Hid (Ld w w8 g us ∧ Ld w w8 f vs ∧ Seen w8 p n us ∧ Seen w8 q m vs) := ⟨A7.out.1.later l8, A7.out.2.1.later l8, A7.out.2.2.1.later l8 (Nat.le_refl _), A7.out.2.2.2.later l8 (Nat.le_refl _)⟩
      clear l8 A7
      go_wp2_with fail
      refine (mask_any (togB us vs) w8).mono ?_
      rintro e w' ⟨rfl, hw⟩
      have hw := hw.symm
      subst hw
      go_wp2_with fail
      refine (Together_any _ _ m n (m + 80) (n + 80) vs us (by omega) (by omega) w8 (A8.out.2.1.seen HU.out.2.2.1 HU.out.2.2.2 HY.out.2.1) (A8.out.1.seen HU.out.1 HU.out.2.1 HX.out.2.1)).mono ?_
      rintro e w9 ⟨rfl, l9⟩
      have A9 : Hid (Ld w w9 g us ∧ Ld w w9 f vs ∧ Seen w9 p n us ∧ Seen w9 q m vs) := ⟨A8.out.1.later l9, A8.out.2.1.later l9, A8.out.2.2.1.later l9 (Nat.le_refl _), A8.out.2.2.2.later l9 (Nat.le_refl _)⟩
      clear l9 A8
      go_wp2_with fail
      refine (rtog_any q p m n cq cp vs us C.out.2 C.out.1 w9 A9.out.2.2.2 A9.out.2.2.1).mono ?_
      rintro e _ ⟨rfl, q10, rfl⟩
      obtain ⟨w10, hw10⟩ : ∃ u, w9.drewN q10 = u := ⟨_, rfl⟩
      rw [hw10]
      have l10 : Below w9.heap.size w9 w10 := hw10 ▸ below_dn (Below.refl _ _) q10
      clear hw10
      have A10 : Hid (Ld w w10 g us ∧ Ld w w10 f vs ∧ Seen w10 p n us ∧ Seen w10 q m vs) := ⟨A9.out.1.later l10, A9.out.2.1.later l10, A9.out.2.2.1.later l10 (Nat.le_refl _), A9.out.2.2.2.later l10 (Nat.le_refl _)⟩
      clear l10 A9
      go_wp2_with fail
      refine (mask_any (togB vs us) w10).mono ?_
      rintro e w' ⟨rfl, hw⟩
      have hw := hw.symm
      subst hw
      go_wp2_with fail
      refine (ByGroup_any _ _ n m (n + 80) (m + 80) us vs (by omega) (by omega) w10 (A10.out.1.seen HU.out.1 HU.out.2.1 HX.out.2.1) (A10.out.2.1.seen HU.out.2.2.1 HU.out.2.2.2 HY.out.2.1)).mono ?_
      rintro e w11 ⟨rfl, l11⟩
      have A11 : Hid (Ld w w11 g us ∧ Ld w w11 f vs ∧ Seen w11 p n us ∧ Seen w11 q m vs) := ⟨A10.out.1.later l11, A10.out.2.1.later l11, A10.out.2.2.1.later l11 (Nat.le_refl _), A10.out.2.2.2.later l11 (Nat.le_refl _)⟩
      clear l11 A10
      go_wp2_with fail
      refine (rbyG_any p q n m cp cq us vs C.out.1 C.out.2 w11 A11.out.2.2.1 A11.out.2.2.2).mono ?_
      rintro e _ ⟨rfl, q12, rfl⟩
      obtain ⟨w12, hw12⟩ : ∃ u, w11.drewN q12 = u := ⟨_, rfl⟩
      rw [hw12]
      have l12 : Below w11.heap.size w11 w12 := hw12 ▸ below_dn (Below.refl _ _) q12
      clear hw12
      have A12 : Hid (Ld w w12 g us ∧ Ld w w12 f vs ∧ Seen w12 p n us ∧ Seen w12 q m vs) := ⟨A11.out.1.later l12, A11.out.2.1.later l12, A11.out.2.2.1.later l12 (Nat.le_refl _), A11.out.2.2.2.later l12 (Nat.le_refl _)⟩
      clear l12 A11
      go_wp2_with fail
      refine (mask_any (byG us vs) w12).mono ?_
      rintro e w' ⟨rfl, hw⟩
      have hw := hw.symm
      subst hw
      go_wp2_with fail
      refine (ByGroup_any _ _ m n (m + 80) (n + 80) vs us (by omega) (by omega) w12 (A12.out.2.1.seen HU.out.2.2.1 HU.out.2.2.2 HY.out.2.1) (A12.out.1.seen HU.out.1 HU.out.2.1 HX.out.2.1)).mono ?_
      rintro e w13 ⟨rfl, l13⟩
      have A13 : Hid (Ld w w13 g us ∧ Ld w w13 f vs ∧ Seen w13 p n us ∧ Seen w13 q m vs) := ⟨A12.out.1.later l13, A12.out.2.1.later l13, A12.out.2.2.1.later l13 (Nat.le_refl _), A12.out.2.2.2.later l13 (Nat.le_refl _)⟩
      clear l13 A12
      go_wp2_with fail
      refine (rbyG_any q p m n cq cp vs us C.out.2 C.out.1 w13 A13.out.2.2.2 A13.out.2.2.1).mono ?_
      rintro e _ ⟨rfl, q14, rfl⟩
      obtain ⟨w14, hw14⟩ : ∃ u, w13.drewN q14 = u := ⟨_, rfl⟩
      rw [hw14]
      have l14 : Below w13.heap.size w13 w14 := hw14 ▸ below_dn (Below.refl _ _) q14
      clear hw14
      have A14 : Hid (Ld w w14 g us ∧ Ld w w14 f vs ∧ Seen w14 p n us ∧ Seen w14 q m vs) := ⟨A13.out.1.later l14, A13.out.2.1.later l14, A13.out.2.2.1.later l14 (Nat.le_refl _), A13.out.2.2.2.later l14 (Nat.le_refl _)⟩
      clear l14 A13
      go_wp2_with fail
      refine (mask_any (byG vs us) w14).mono ?_
      rintro e w' ⟨rfl, hw⟩
      have hw := hw.symm
      subst hw
      go_wp2_with fail
      refine (ByIndex_any _ _ n m (n + 80) (m + 80) us vs (by omega) (by omega) w14 (A14.out.1.seen HU.out.1 HU.out.2.1 HX.out.2.1) (A14.out.2.1.seen HU.out.2.2.1 HU.out.2.2.2 HY.out.2.1)).mono ?_
      rintro e w15 ⟨rfl, l15⟩
      have A15 : Hid (Ld w w15 g us ∧ Ld w w15 f vs ∧ Seen w15 p n us ∧ Seen w15 q m vs) := ⟨A14.out.1.later l15, A14.out.2.1.later l15, A14.out.2.2.1.later l15 (Nat.le_refl _), A14.out.2.2.2.later l15 (Nat.le_refl _)⟩
      clear l15 A14
      go_wp2_with fail
      refine (rbyI_any p q n m cp cq us vs C.out.1 C.out.2 w15 A15.out.2.2.1 A15.out.2.2.2).mono ?_
      rintro e _ ⟨rfl, q16, rfl⟩
      obtain ⟨w16, hw16⟩ : ∃ u, w15.drewN q16 = u := ⟨_, rfl⟩
      rw [hw16]
      have l16 : Below w15.heap.size w15 w16 := hw16 ▸ below_dn (Below.refl _ _) q16
      clear hw16
      have A16 : Hid (Ld w w16 g us ∧ Ld w w16 f vs ∧ Seen w16 p n us ∧ Seen w16 q m vs) := ⟨A15.out.1.later l16, A15.out.2.1.later l16, A15.out.2.2.1.later l16 (Nat.le_refl _), A15.out.2.2.2.later l16 (Nat.le_refl _)⟩
      clear l16 A15
      go_wp2_with fail
      refine (mask_any (byI us vs) w16).mono ?_
      rintro e w' ⟨rfl, hw⟩
      have hw := hw.symm
      subst hw
      go_wp2_with fail
      refine (ByIndex_any _ _ m n (m + 80) (n + 80) vs us (by omega) (by omega) w16 (A16.out.2.1.seen HU.out.2.2.1 HU.out.2.2.2 HY.out.2.1) (A16.out.1.seen HU.out.1 HU.out.2.1 HX.out.2.1)).mono ?_
      rintro e w17 ⟨rfl, l17⟩
      have A17 : Hid (Ld w w17 g us ∧ Ld w w17 f vs ∧ Seen w17 p n us ∧ Seen w17 q m vs) := ⟨A16.out.1.later l17, A16.out.2.1.later l17, A16.out.2.2.1.later l17 (Nat.le_refl _), A16.out.2.2.2.later l17 (Nat.le_refl _)⟩
      clear l17 A16
      go_wp2_with fail
      refine (rbyI_any q p m n cq cp vs us C.out.2 C.out.1 w17 A17.out.2.2.2 A17.out.2.2.1).mono ?_
      rintro e _ ⟨rfl, q18, rfl⟩
      obtain ⟨w18, hw18⟩ : ∃ u, w17.drewN q18 = u := ⟨_, rfl⟩
      rw [hw18]
      have l18 : Below w17.heap.size w17 w18 := hw18 ▸ below_dn (Below.refl _ _) q18
      clear hw18
      have A18 : Hid (Ld w w18 g us ∧ Ld w w18 f vs ∧ Seen w18 p n us ∧ Seen w18 q m vs) := ⟨A17.out.1.later l18, A17.out.2.1.later l18, A17.out.2.2.1.later l18 (Nat.le_refl _), A17.out.2.2.2.later l18 (Nat.le_refl _)⟩
      clear l18 A17
      go_wp2_with fail
      refine (mask_any (byI vs us) w18).mono ?_
      rintro e w' ⟨rfl, hw⟩
      have hw := hw.symm
      subst hw
      go_wp2_with fail
      refine (reqb_any _ p n n (n + 80) cp us us w18 (A18.out.1.seen HU.out.1 HU.out.2.1 HX.out.2.1) A18.out.2.2.1).mono ?_
      rintro e _ ⟨rfl, q19, rfl⟩
      rw [decide_eq_true (rfl : us = us)]
      obtain ⟨w19, hw19⟩ : ∃ u, w18.drewN q19 = u := ⟨_, rfl⟩
      rw [hw19]
      have l19 : Below w18.heap.size w18 w19 := hw19 ▸ below_dn (Below.refl _ _) q19
      clear hw19
      have A19 : Hid (Ld w w19 g us ∧ Ld w w19 f vs ∧ Seen w19 p n us ∧ Seen w19 q m vs) := ⟨A18.out.1.later l19, A18.out.2.1.later l19, A18.out.2.2.1.later l19 (Nat.le_refl _), A18.out.2.2.2.later l19 (Nat.le_refl _)⟩
      clear l19 A18
      go_wp2_with fail
      refine (reqb_any _ q m m (m + 80) cq vs vs w19 (A19.out.2.1.seen HU.out.2.2.1 HU.out.2.2.2 HY.out.2.1) A19.out.2.2.2).mono ?_
      rintro e _ ⟨rfl, q20, rfl⟩
      rw [decide_eq_true (rfl : vs = vs)]
      obtain ⟨w20, hw20⟩ : ∃ u, w19.drewN q20 = u := ⟨_, rfl⟩
      rw [hw20]
      have l20 : Below w19.heap.size w19 w20 := hw20 ▸ below_dn (Below.refl _ _) q20
      clear hw20
      have A20 : Hid (Ld w w20 g us ∧ Ld w w20 f vs ∧ Seen w20 p n us ∧ Seen w20 q m vs) := ⟨A19.out.1.later l20, A19.out.2.1.later l20, A19.out.2.2.1.later l20 (Nat.le_refl _), A19.out.2.2.2.later l20 (Nat.le_refl _)⟩
      clear l20 A19
      have B0 : Hid (Ld w w20 g us ∧ Ld w w20 f vs) := ⟨A20.out.1, A20.out.2.1⟩
      clear A20
      obtain ⟨x0, hx0⟩ : ∃ u, w20 = u := ⟨_, rfl⟩
      rw [hx0] at B0 ⊢
      clear hx0
      rcases (by omega : k = 0 ∨ k = 1) with rfl | rfl
      · have eb := HF.out rfl
        obtain ⟨e1, e2⟩ := eb
        subst e1 e2
        go_wp2_with fail
        refine (kept_big g ao n c us x0 B0.out.1.s (HX.out.1.later B0.out.1.bel (Nat.le_refl _)) HX.out.2.1).mono ?_
        rintro e _ ⟨rfl, qd, rfl⟩
        obtain ⟨x1, hx1⟩ : ∃ u, x0.drewN qd = u := ⟨_, rfl⟩
        rw [hx1]
        have B1 : Hid (Ld w x1 g us ∧ Ld w x1 f vs) := ⟨hx1 ▸ B0.out.1.drewN qd, hx1 ▸ B0.out.2.drewN qd⟩
        clear hx1 B0
        go_wp2_with fail
        refine (kept_big f bo m d vs x1 B1.out.2.s (HY.out.1.later B1.out.2.bel (Nat.le_refl _)) HY.out.2.1).mono ?_
        rintro e _ ⟨rfl, qe, rfl⟩
        obtain ⟨x5, hx5⟩ : ∃ u, x1.drewN qe = u := ⟨_, rfl⟩
        rw [hx5]
        have B5 : Hid (Ld w x5 g us ∧ Ld w x5 f vs) := ⟨hx5 ▸ B1.out.1.drewN qe, hx5 ▸ B1.out.2.drewN qe⟩
        clear hx5 B1
        go_wp2_with fail
        go_loopw [13] (fun i wr => ∃ (j : Nat) (us vs : List Int), j ≤ n ∧ i = .int .i64 j ∧ us.length = n ∧ Bytes us ∧ vs.length = m ∧ Bytes vs ∧ Ld w wr g us ∧ Ld w wr f vs) (fun i _ => n - (intOf i).toNat)
        case atStart => exact ⟨0, us, vs, Nat.zero_le _, rfl, HU.out.1, HU.out.2.1, HU.out.2.2.1, HU.out.2.2.2, B5.out.1, B5.out.2⟩
        case round =>
          obtain ⟨j, ss, es, hj, rfl, hal, hab, hel, heb, hla, hle⟩ := hrel
          have X1 : Hid (Ld w wr g ss ∧ Ld w wr f es ∧ ss.length = n ∧ Bytes ss ∧ es.length = m ∧ Bytes es) := ⟨hla, hle, hal, hab, hel, heb⟩
          by_cases hjn : j < n
          · by_cases hjm : j < m
            · have c1 := u8s_cell hla.s j (by rw [spared_length]; omega)
              have c2 := u8s_cell hle.s j (by rw [spared_length]; omega)
              rw [spared_front ss j (by omega)] at c1
              rw [spared_front es j (by omega)] at c2
              have f1 := hla.s.frozen j
              have f2 := hle.s.frozen j
              have bA := hab.at j (by omega)
              have bE := heb.at j (by omega)
              obtain ⟨A, hA⟩ : ∃ A, ss.getD j 0 = A := ⟨_, rfl⟩
              obtain ⟨E, hE⟩ : ∃ E, es.getD j 0 = E := ⟨_, rfl⟩
              rw [hA] at c1 bA
              rw [hE] at c2 bE
              have hne : g ≠ f := by have := zg.out; omega
              have hne' : f ≠ g := fun e => hne e.symm
              have K1 := (Kept.refl (fun y => y = g) wr).setCell (p := ⟨g, j, none⟩) rfl (.int .u8 E)
              have K2 := (Kept.refl (fun y => y = f) (wr.setCell ⟨g, j, none⟩ (.int .u8 E))).setCell (p := ⟨f, j, none⟩) rfl (.int .u8 A)
              have T1 : Ld w (wr.setCell ⟨g, j, none⟩ (.int .u8 E)) g (ss.set j E) := hla.set j E (by omega)
              have T2 : Ld w (wr.setCell ⟨g, j, none⟩ (.int .u8 E)) f es := hle.kept K1 (fun y e => by have := zg.out; exact ⟨by omega, by omega⟩)
              have c3 := u8s_cell T2.s j (by rw [spared_length]; omega)
              rw [spared_front es j (by omega), hE] at c3
              have f3 := T2.s.frozen j
              have T : Hid (Ld w ((wr.setCell ⟨g, j, none⟩ (.int .u8 E)).setCell ⟨f, j, none⟩ (.int .u8 A)) g (ss.set j E) ∧ Ld w ((wr.setCell ⟨g, j, none⟩ (.int .u8 E)).setCell ⟨f, j, none⟩ (.int .u8 A)) f (es.set j A) ∧ (ss.set j E).length = n ∧ Bytes (ss.set j E) ∧ (es.set j A).length = m ∧ Bytes (es.set j A)) := ⟨T1.kept K2 (fun y e => by have := zg.out; exact ⟨by omega, by omega⟩), T2.set j A (by omega), by rw [List.length_set]; exact hal, bytes_setR hab j E bE, by rw [List.length_set]; exact hel, bytes_setR heb j A bA⟩
              have j1 : (0 : Int) ≤ (j : Int) := by omega
              have j2 : (j : Int) < (n : Int) := by omega
              have j3 : (j : Int) < (n : Int) + 80 := by omega
              have j4 : (j : Int) < (m : Int) := by omega
              have j5 : (j : Int) < (m : Int) + 80 := by omega
              clear hA hE hla hle hal hab hel heb K1 K2 T1 T2 bA bE X1
              go_wp2_with fail
              exact ⟨⟨j + 1, _, _, by omega, by go_num, T.out.2.2.1, T.out.2.2.2.1, T.out.2.2.2.2.1, T.out.2.2.2.2.2, T.out.1, T.out.2.1⟩, by simp [intOf]; omega⟩
            · have j2 : (j : Int) < (n : Int) := by omega
              have j4 : ¬ (j : Int) < (m : Int) := by omega
              clear hla hle hal hab hel heb
              go_wp2_with fail
              exact ⟨⟨1, ss, es, by decide, by go_num, X1.out.2.2.1, X1.out.2.2.2.1, X1.out.2.2.2.2.1, X1.out.2.2.2.2.2, X1.out.1, X1.out.2.1, fun h => by omega⟩, by simp [intOf]⟩
          · have j2 : ¬ (j : Int) < (n : Int) := by omega
            clear hla hle hal hab hel heb
            go_wp2_with fail
            exact ⟨⟨1, ss, es, by decide, by go_num, X1.out.2.2.1, X1.out.2.2.2.1, X1.out.2.2.2.2.1, X1.out.2.2.2.2.2, X1.out.1, X1.out.2.1, fun h => by omega⟩, by simp [intOf]⟩
      · obtain ⟨x5, hx5⟩ : ∃ u, x0 = u := ⟨_, rfl⟩
        rw [hx5]
        have B5 : Hid (Ld w x5 g us ∧ Ld w x5 f vs) := ⟨hx5 ▸ B0.out.1, hx5 ▸ B0.out.2⟩
        clear hx5 B0
        go_wp2_with fail
        go_loopw [13] (fun i wr => ∃ (j : Nat) (us vs : List Int), j ≤ n ∧ i = .int .i64 j ∧ us.length = n ∧ Bytes us ∧ vs.length = m ∧ Bytes vs ∧ Ld w wr g us ∧ Ld w wr f vs) (fun i _ => n - (intOf i).toNat)
        case atStart => exact ⟨0, us, vs, Nat.zero_le _, rfl, HU.out.1, HU.out.2.1, HU.out.2.2.1, HU.out.2.2.2, B5.out.1, B5.out.2⟩
        case round =>
          obtain ⟨j, ss, es, hj, rfl, hal, hab, hel, heb, hla, hle⟩ := hrel
          have X1 : Hid (Ld w wr g ss ∧ Ld w wr f es ∧ ss.length = n ∧ Bytes ss ∧ es.length = m ∧ Bytes es) := ⟨hla, hle, hal, hab, hel, heb⟩
          by_cases hjn : j < n
          · by_cases hjm : j < m
            · have c1 := u8s_cell hla.s j (by rw [spared_length]; omega)
              have c2 := u8s_cell hle.s j (by rw [spared_length]; omega)
              rw [spared_front ss j (by omega)] at c1
              rw [spared_front es j (by omega)] at c2
              have f1 := hla.s.frozen j
              have f2 := hle.s.frozen j
              have bA := hab.at j (by omega)
              have bE := heb.at j (by omega)
              obtain ⟨A, hA⟩ : ∃ A, ss.getD j 0 = A := ⟨_, rfl⟩
              obtain ⟨E, hE⟩ : ∃ E, es.getD j 0 = E := ⟨_, rfl⟩
              rw [hA] at c1 bA
              rw [hE] at c2 bE
              have hne : g ≠ f := by have := zg.out; omega
              have hne' : f ≠ g := fun e => hne e.symm
              have K1 := (Kept.refl (fun y => y = g) wr).setCell (p := ⟨g, j, none⟩) rfl (.int .u8 E)
              have K2 := (Kept.refl (fun y => y = f) (wr.setCell ⟨g, j, none⟩ (.int .u8 E))).setCell (p := ⟨f, j, none⟩) rfl (.int .u8 A)
              have T1 : Ld w (wr.setCell ⟨g, j, none⟩ (.int .u8 E)) g (ss.set j E) := hla.set j E (by omega)
              have T2 : Ld w (wr.setCell ⟨g, j, none⟩ (.int .u8 E)) f es := hle.kept K1 (fun y e => by have := zg.out; exact ⟨by omega, by omega⟩)
              have c3 := u8s_cell T2.s j (by rw [spared_length]; omega)
              rw [spared_front es j (by omega), hE] at c3
              have f3 := T2.s.frozen j
              have T : Hid (Ld w ((wr.setCell ⟨g, j, none⟩ (.int .u8 E)).setCell ⟨f, j, none⟩ (.int .u8 A)) g (ss.set j E) ∧ Ld w ((wr.setCell ⟨g, j, none⟩ (.int .u8 E)).setCell ⟨f, j, none⟩ (.int .u8 A)) f (es.set j A) ∧ (ss.set j E).length = n ∧ Bytes (ss.set j E) ∧ (es.set j A).length = m ∧ Bytes (es.set j A)) := ⟨T1.kept K2 (fun y e => by have := zg.out; exact ⟨by omega, by omega⟩), T2.set j A (by omega), by rw [List.length_set]; exact hal, bytes_setR hab j E bE, by rw [List.length_set]; exact hel, bytes_setR heb j A bA⟩
              have j1 : (0 : Int) ≤ (j : Int) := by omega
              have j2 : (j : Int) < (n : Int) := by omega
              have j3 : (j : Int) < (n : Int) + 80 := by omega
              have j4 : (j : Int) < (m : Int) := by omega
              have j5 : (j : Int) < (m : Int) + 80 := by omega
              clear hA hE hla hle hal hab hel heb K1 K2 T1 T2 bA bE X1
              go_wp2_with fail
              exact ⟨⟨j + 1, _, _, by omega, by go_num, T.out.2.2.1, T.out.2.2.2.1, T.out.2.2.2.2.1, T.out.2.2.2.2.2, T.out.1, T.out.2.1⟩, by simp [intOf]; omega⟩
            · have j2 : (j : Int) < (n : Int) := by omega
              have j4 : ¬ (j : Int) < (m : Int) := by omega
              clear hla hle hal hab hel heb
              go_wp2_with fail
              exact ⟨⟨2, ss, es, by decide, by go_num, X1.out.2.2.1, X1.out.2.2.2.1, X1.out.2.2.2.2.1, X1.out.2.2.2.2.2, X1.out.1, X1.out.2.1, fun h => by omega⟩, by simp [intOf]⟩
          · have j2 : ¬ (j : Int) < (n : Int) := by omega
            clear hla hle hal hab hel heb
            go_wp2_with fail
            exact ⟨⟨2, ss, es, by decide, by go_num, X1.out.2.2.1, X1.out.2.2.2.1, X1.out.2.2.2.2.1, X1.out.2.2.2.2.2, X1.out.1, X1.out.2.1, fun h => by omega⟩, by simp [intOf]⟩
    · have A0 : Hid (Ld w w0 g us) := hlu
      have i1 : ¬ (k : Int) < 2 := by omega
      clear hlu hlv hul hub hvl hvb hfirst
      go_wp2
      go_ret
      exact ⟨rfl, A0.out.bel⟩
end Go.Proofs.Ytabdjoljdefjdaa.recordOrders
