/- Layer field: FieldPowers: every power, every Invert. -/
import Derived.Test.YtfeeikkfjbdkiaaFInv
import Derived.Test.YtfeeikkfjbdkiaaRFPow
import Derived.Test.YtfeeikkfjbdkiaaRInvG
import Derived.Test.YtfeeikkfjbdkiaaFLast
namespace Go.Proofs.Ytfeeikkfjbdkiaa
open Go.RowKit
set_option linter.unusedVariables false
set_option linter.unusedSimpArgs false

set_option maxRecDepth 20000 in
set_option maxHeartbeats 8000000 in
theorem powers_any (aa ee : List Int) (la : aa.length = 32) (ba : Bytes aa) (lb : ee.length = 32) (be : Bytes ee) (w : World) :
    Calls Try.prog 5 #[.agg (u8s aa).toArray, .agg (u8s ee).toArray] w fun e w' => e = .returned (.bool true) ∧ Below w.heap.size w w' := by
  have hro := rof_any aa la ba
  have hx := fof_any aa la ba
  have HA_aa : Hid ((u8s aa).length = 32) := by rw [u8s_length, la]; rfl
  obtain ⟨x, ex⟩ : ∃ q, le aa % 57896044618658097711785492504343953926634992332820282019728792003956564819968 % PR = q := ⟨_, rfl⟩
  have rx : 0 ≤ x ∧ x < PR := by rw [← ex]; exact ⟨Int.emod_nonneg _ (by decide), Int.emod_lt_of_pos _ (by decide)⟩
  rw [ex] at hx
  have HCx : Hid (∀ w, Calls Try.prog 12 #[.agg (u8s aa).toArray] w fun e w' => ∃ r, e = .returned (.agg (u64s r).toArray) ∧ Fe r x ∧ Below w.heap.size w w') := hx
  rw [ex] at hro
  obtain ⟨N, hNN⟩ : ∃ z, (le ee).toNat = z := ⟨_, rfl⟩
  have hrp := rpower_any x ee rx lb be
  have hri := rinvert_any x rx
  rw [hNN] at hrp
  have hq1 : ∀ wx, (Op.equalIn 10000 22 (.agg (u8s (leB 32 (x ^ N % PR))).toArray) (.agg (u8s (leB 32 (x ^ N % PR))).toArray)).run Try.prog wx = .ok true wx := equal32A 22 32 Try.underlying22 9998 _ (leB_length _ _)
  have hq2 : ∀ wx, (Op.equalIn 10000 22 (.agg (u8s (leB 32 (inv x))).toArray) (.agg (u8s (leB 32 (inv x))).toArray)).run Try.prog wx = .ok true wx := equal32A 22 32 Try.underlying22 9998 _ (leB_length _ _)
  have hq3 : ∀ wx, (Op.equalIn 10000 22 (.agg (u8s (leB 32 x)).toArray) (.agg (u8s (leB 32 x)).toArray)).run Try.prog wx = .ok true wx := equal32A 22 32 Try.underlying22 9998 _ (leB_length _ _)
  obtain ⟨BX, hBX⟩ : ∃ z, leB 32 x = z := ⟨_, rfl⟩
  obtain ⟨BP, hBP⟩ : ∃ z, leB 32 (x ^ N % PR) = z := ⟨_, rfl⟩
  obtain ⟨BI, hBI⟩ : ∃ z, leB 32 (inv x) = z := ⟨_, rfl⟩
  rw [hBX] at hro hq3 hrp hri
  rw [hBP] at hrp hq1
  rw [hBI] at hri hq2
  have HB : Hid (leB 32 x = BX ∧ leB 32 (x ^ N % PR) = BP ∧ leB 32 (inv x) = BI ∧ (u8s BX).length = 32) := ⟨hBX, hBP, hBI, by rw [← hBX, u8s_length, leB_length]⟩
  have HE : Hid (ee.length = 32 ∧ Bytes ee ∧ (le ee).toNat = N ∧ (u8s ee).length = 32) := ⟨lb, be, hNN, by rw [u8s_length, lb]⟩
  have HRO : Hid (∀ w, Calls Try.prog 14 #[.agg (u8s aa).toArray] w fun e w' => e = .returned (.agg (u8s BX).toArray) ∧ Below w.heap.size w w') := hro
  have HRP : Hid (∀ w, Calls Try.prog 24 #[.agg (u8s BX).toArray, .agg (u8s ee).toArray] w fun e w' => e = .returned (.agg (u8s BP).toArray) ∧ Below w.heap.size w w') := hrp
  have HRI : Hid (∀ w, Calls Try.prog 26 #[.agg (u8s BX).toArray] w fun e w' => e = .returned (.agg (u8s BI).toArray) ∧ Below w.heap.size w w') := hri
  clear hx ex la ba lb be rx hro hrp hri hBX hBP hBI hNN
  go_enter Try.func5, Try.ntmps5
  go_wp2_with (first | (refine wpList_box_new rfl 22 (.tmp 0) rfl (u8s aa) rfl ?_; intro x1 z1 s1 l1) | (refine wpList_box_new rfl 22 (.tmp 1) rfl (u8s ee) rfl ?_; intro x2 z2 s2 l2; rw [s1] at z2; rw [s1]; have W2 : Hid (Below w.heap.size w x2 ∧ Blk x2 w.heap.size 22 (u8s aa) ∧ Blk x2 (w.heap.size + 1) 22 (u8s ee)) := ⟨below_chain l1 l2 (by omega), z1.later l2 (by omega), z2⟩; have q2 : w.heap.size + 2 ≤ x2.heap.size := (by omega); clear z1 s1 l1 z2 s2 l2) | ((with_reducible show wpList _ _ _ (({ dst := some 7, op := _, type := _, pos := _, after := _, guard := _ } : Oper) :: _) _ _); refine wpList_load_blk rfl 22 (.tmp 2) rfl w.heap.size rfl (u8s aa) _ W2.out.2.1 Try.underlying22 rfl (by rw [HA_aa.out]; exact size32) ?_) | (go_at_call 12; refine (HCx.out _).mono ?_; rintro e x3 ⟨lx, rfl, fx, l3⟩; have HF : Hid (Fe lx x) := fx; have N_lx : Hid ((u64s lx).length = 5) := (by rw [u64s_length, fx.len]; rfl); clear fx) | ((with_reducible show wpList _ _ _ _ _ x3); refine wpList_alloc_new rfl 26 rfl 5 _ zeroElem ?_; intro x4 z4 s4 l4) | ((with_reducible show wpList _ _ _ _ _ x4); refine wpList_store_blk rfl 26 26 _ _ rfl _ rfl _ (u64s lx) rfl z4 (by rw [N_lx.out]; rfl) (by rw [N_lx.out]; exact sizeElem) (u64s_one _) ?_; intro x5 b5 s5 k5; obtain ⟨gx, hgx⟩ : ∃ q, x3.heap.size = q := ⟨_, rfl⟩; rw [hgx] at b5 k5; rw [hgx]; have W5 : Hid (Below w.heap.size w x5 ∧ Blk x5 w.heap.size 22 (u8s aa) ∧ Blk x5 (w.heap.size + 1) 22 (u8s ee) ∧ Blk x5 gx 26 (u64s lx)) := (by have q3 := l3.size; exact ⟨below_kept (below_chain (below_chain W2.out.1 l3 W2.out.1.size) l4 (by omega)) k5 (by omega) (fun j hj => by omega), ((W2.out.2.1.later l3 (by omega)).later l4 (by omega)).kept k5 (by omega), ((W2.out.2.2.later l3 (by omega)).later l4 (by omega)).kept k5 (by omega), b5⟩); clear W2 q2 l3 z4 s4 l4 b5 s5 k5 hgx) | ((with_reducible show wpList _ _ _ (({ dst := some 9, op := _, type := _, pos := _, after := _, guard := _ } : Oper) :: _) _ _); refine wpList_load_blk rfl 22 (.tmp 2) rfl w.heap.size rfl (u8s aa) _ W5.out.2.1 Try.underlying22 rfl (by rw [HA_aa.out]; exact size32) ?_) | (go_at_call 14; refine (HRO.out _).mono ?_; rintro e x6 ⟨rfl, l6⟩) | ((with_reducible show wpList _ _ _ _ _ x6); refine wpList_alloc_new rfl 29 rfl 32 _ zeroNum ?_; intro x7 z7 s7 l7) | ((with_reducible show wpList _ _ _ _ _ x7); refine wpList_store_blk rfl 29 29 _ _ rfl _ rfl _ (u8s BX) rfl z7 (by rw [HB.out.2.2.2]; rfl) (by rw [HB.out.2.2.2]; exact sizeNum) (u8s_one _) ?_; intro x8 b8 s8 k8))
  obtain ⟨gy, hgy⟩ : ∃ q, x6.heap.size = q := ⟨_, rfl⟩
  rw [hgy] at b8 k8
  try rw [hgy]
  have V0 : Hid (Below w.heap.size w x8 ∧ Blk x8 (w.heap.size + 1) 22 (u8s ee) ∧ Blk x8 gx 26 (u64s lx) ∧ Blk x8 gy 29 (u8s BX)) := by
    have q6 := l6.size
    have q1 := W5.out.1.size
    have t1 := W5.out.2.2.1.lt
    have t2 := W5.out.2.2.2.lt
    exact ⟨below_kept (below_chain (below_chain W5.out.1 l6 q1) l7 (by omega)) k8 (by omega) (fun j hj => by omega), ((W5.out.2.2.1.later l6 (by omega)).later l7 (by omega)).kept k8 (by omega), ((W5.out.2.2.2.later l6 (by omega)).later l7 (by omega)).kept k8 (by omega), b8⟩
  clear W5 l6 z7 s7 l7 b8 s8 k8 hgy
  try simp only [Act.put, List.setIfInBounds_toArray, List.set_cons_zero, List.set_cons_succ]
  refine region_invG ((.val (.agg (u64s lx).toArray)) :: (.val (.agg (u8s ee).toArray)) :: (.any (isF (x ^ N % PR)) (isF_later (x ^ N % PR))) :: (.val (.agg (u8s BP).toArray)) :: (.val (.agg (u8s BX).toArray)) :: (.val (.agg (u8s ee).toArray)) :: (.val (.agg (u8s BP).toArray)) :: (.val (.bool true)) :: (.val (.bool true)) :: (.val (.agg (u64s lx).toArray)) :: (.any (isF (inv x)) (isF_later (inv x))) :: (.val (.agg (u8s BI).toArray)) :: (.val (.agg (u8s BX).toArray)) :: (.val (.agg (u8s BI).toArray)) :: (.val (.bool true)) :: (.val (.bool true)) :: (.val (.bool true)) :: (.val (.agg (u64s lx).toArray)) :: (.val (.agg (u8s BX).toArray)) :: (.val (.agg (u8s BX).toArray)) :: (.val (.bool true)) :: (.val (.bool true)) :: []) (by kernel_rfl) (by kernel_rfl) (by repeat (first | exact trivial | (refine ⟨by first | trivial | rfl, ?_⟩))) (by kernel_rfl) ?_ ?_
  · refine Steps'.cons ?_ (Steps'.cons ?_ (Steps'.cons ?_ (Steps'.cons ?_ (Steps'.cons ?_ (Steps'.cons ?_ (Steps'.cons ?_ (Steps'.cons ?_ (Steps'.cons ?_ (Steps'.cons ?_ (Steps'.cons ?_ (Steps'.cons ?_ (Steps'.cons ?_ (Steps'.cons ?_ (Steps'.cons ?_ (Steps'.cons ?_ (Steps'.cons ?_ (Steps'.cons ?_ (Steps'.cons ?_ (Steps'.cons ?_ (Steps'.cons ?_ (Steps'.cons ?_ (Steps'.one _ _ _ _ _ _ _))))))))))))))))))))))
    · intro ax wx hb hs hd
      have h5 : ax.tmps.getD 5 undef = (.pointer (some ⟨gx, 0, none⟩)) := hs 5 (by kernel_rfl)
      exact Does.load 26 (.tmp 5) rfl gx 0 h5 (u64s lx) _ ((Blk.later V0.out.2.2.1 hb (Blk.lt V0.out.2.2.1)).whole) Try.underlying26 rfl (by rw [N_lx.out]; exact sizeElem)
    · intro ax wx hb hs hd
      have h3 : ax.tmps.getD 3 undef = (.pointer (some ⟨(w.heap.size + 1), 0, none⟩)) := hs 3 (by kernel_rfl)
      exact Does.load 22 (.tmp 3) rfl (w.heap.size + 1) 0 h3 (u8s ee) _ ((Blk.later V0.out.2.1 hb (Blk.lt V0.out.2.1)).whole) Try.underlying22 rfl (by rw [HE.out.2.2.2]; exact size32)
    · intro ax wx hb hs hd
      have h11 : ax.tmps.getD 11 undef = (.agg (u64s lx).toArray) := hd 0 11 rfl (by kernel_rfl) (by decide)
      have h12 : ax.tmps.getD 12 undef = (.agg (u8s ee).toArray) := hd 1 12 rfl (by kernel_rfl) (by decide)
      refine Does.call 23 #[(.agg (u64s lx).toArray), (.agg (u8s ee).toArray)] (by clear hs hd; go_simp) ?_
      refine (fpower_any _ _ _ HF.out HE.out.1 HE.out.2.1 _).mono ?_
      rintro z w' ⟨r, rfl, fr, l⟩
      rw [HE.out.2.2.1] at fr
      exact ⟨_, rfl, ⟨r, rfl, fr⟩, l⟩
    · intro ax wx hb hs hd
      obtain ⟨l13, h13, f13⟩ : isF (x ^ N % PR) (ax.tmps.getD 13 undef) wx := hd 2 13 rfl (by kernel_rfl) (by decide)
      refine Does.call 13 #[(.agg (u64s l13).toArray)] (by clear hs hd; go_simp) ?_
      refine (fbytes_any _ _ f13 _).mono ?_
      rintro z w' ⟨rfl, l⟩
      exact ⟨_, rfl, by show Value.agg _ = Value.agg _; rw [HB.out.2.1], l⟩
    · intro ax wx hb hs hd
      have h6 : ax.tmps.getD 6 undef = (.pointer (some ⟨gy, 0, none⟩)) := hs 6 (by kernel_rfl)
      exact Does.load 29 (.tmp 6) rfl gy 0 h6 (u8s BX) _ ((Blk.later V0.out.2.2.2 hb (Blk.lt V0.out.2.2.2)).whole) Try.underlying29 rfl (by rw [HB.out.2.2.2]; exact sizeNum)
    · intro ax wx hb hs hd
      have h3 : ax.tmps.getD 3 undef = (.pointer (some ⟨(w.heap.size + 1), 0, none⟩)) := hs 3 (by kernel_rfl)
      exact Does.load 22 (.tmp 3) rfl (w.heap.size + 1) 0 h3 (u8s ee) _ ((Blk.later V0.out.2.1 hb (Blk.lt V0.out.2.1)).whole) Try.underlying22 rfl (by rw [HE.out.2.2.2]; exact size32)
    · intro ax wx hb hs hd
      have h15 : ax.tmps.getD 15 undef = (.agg (u8s BX).toArray) := hd 4 15 rfl (by kernel_rfl) (by decide)
      have h16 : ax.tmps.getD 16 undef = (.agg (u8s ee).toArray) := hd 5 16 rfl (by kernel_rfl) (by decide)
      refine Does.call 24 #[(.agg (u8s BX).toArray), (.agg (u8s ee).toArray)] (by clear hs hd; go_simp) ?_
      refine (HRP.out _).mono ?_
      rintro z w' ⟨rfl, l⟩
      exact ⟨_, rfl, rfl, l⟩
    · intro ax wx hb hs hd
      have h14 : ax.tmps.getD 14 undef = (.agg (u8s BP).toArray) := hd 3 14 rfl (by kernel_rfl) (by decide)
      have h17 : ax.tmps.getD 17 undef = (.agg (u8s BP).toArray) := hd 6 17 rfl (by kernel_rfl) (by decide)
      refine Does.value (.bool true) ?_ rfl
      clear hs hd
      go_simp
    · intro ax wx hb hs hd
      have h18 : ax.tmps.getD 18 undef = (.bool true) := hd 7 18 rfl (by kernel_rfl) (by decide)
      refine Does.value (.bool true) ?_ rfl
      clear hs hd
      go_simp
    · intro ax wx hb hs hd
      have h5 : ax.tmps.getD 5 undef = (.pointer (some ⟨gx, 0, none⟩)) := hs 5 (by kernel_rfl)
      exact Does.load 26 (.tmp 5) rfl gx 0 h5 (u64s lx) _ ((Blk.later V0.out.2.2.1 hb (Blk.lt V0.out.2.2.1)).whole) Try.underlying26 rfl (by rw [N_lx.out]; exact sizeElem)
    · intro ax wx hb hs hd
      have h20 : ax.tmps.getD 20 undef = (.agg (u64s lx).toArray) := hd 9 20 rfl (by kernel_rfl) (by decide)
      refine Does.call 25 #[(.agg (u64s lx).toArray)] (by clear hs hd; go_simp) ?_
      refine (finv_any _ _ HF.out _).mono ?_
      rintro z w' ⟨r, rfl, fr, l⟩
      exact ⟨_, rfl, ⟨r, rfl, fr⟩, l⟩
    · intro ax wx hb hs hd
      obtain ⟨l21, h21, f21⟩ : isF (inv x) (ax.tmps.getD 21 undef) wx := hd 10 21 rfl (by kernel_rfl) (by decide)
      refine Does.call 13 #[(.agg (u64s l21).toArray)] (by clear hs hd; go_simp) ?_
      refine (fbytes_any _ _ f21 _).mono ?_
      rintro z w' ⟨rfl, l⟩
      exact ⟨_, rfl, by show Value.agg _ = Value.agg _; rw [HB.out.2.2.1], l⟩
    · intro ax wx hb hs hd
      have h6 : ax.tmps.getD 6 undef = (.pointer (some ⟨gy, 0, none⟩)) := hs 6 (by kernel_rfl)
      exact Does.load 29 (.tmp 6) rfl gy 0 h6 (u8s BX) _ ((Blk.later V0.out.2.2.2 hb (Blk.lt V0.out.2.2.2)).whole) Try.underlying29 rfl (by rw [HB.out.2.2.2]; exact sizeNum)
    · intro ax wx hb hs hd
      have h23 : ax.tmps.getD 23 undef = (.agg (u8s BX).toArray) := hd 12 23 rfl (by kernel_rfl) (by decide)
      refine Does.call 26 #[(.agg (u8s BX).toArray)] (by clear hs hd; go_simp) ?_
      refine (HRI.out _).mono ?_
      rintro z w' ⟨rfl, l⟩
      exact ⟨_, rfl, rfl, l⟩
    · intro ax wx hb hs hd
      have h22 : ax.tmps.getD 22 undef = (.agg (u8s BI).toArray) := hd 11 22 rfl (by kernel_rfl) (by decide)
      have h24 : ax.tmps.getD 24 undef = (.agg (u8s BI).toArray) := hd 13 24 rfl (by kernel_rfl) (by decide)
      refine Does.value (.bool true) ?_ rfl
      clear hs hd
      go_simp
    · intro ax wx hb hs hd
      have h19 : ax.tmps.getD 19 undef = (.bool true) := hd 8 19 rfl (by kernel_rfl) (by decide)
      have h25 : ax.tmps.getD 25 undef = (.bool true) := hd 14 25 rfl (by kernel_rfl) (by decide)
      refine Does.value (.bool true) ?_ rfl
      clear hs hd
      go_simp
    · intro ax wx hb hs hd
      have h26 : ax.tmps.getD 26 undef = (.bool true) := hd 15 26 rfl (by kernel_rfl) (by decide)
      refine Does.value (.bool true) ?_ rfl
      clear hs hd
      go_simp
    · intro ax wx hb hs hd
      have h5 : ax.tmps.getD 5 undef = (.pointer (some ⟨gx, 0, none⟩)) := hs 5 (by kernel_rfl)
      exact Does.load 26 (.tmp 5) rfl gx 0 h5 (u64s lx) _ ((Blk.later V0.out.2.2.1 hb (Blk.lt V0.out.2.2.1)).whole) Try.underlying26 rfl (by rw [N_lx.out]; exact sizeElem)
    · intro ax wx hb hs hd
      have h28 : ax.tmps.getD 28 undef = (.agg (u64s lx).toArray) := hd 17 28 rfl (by kernel_rfl) (by decide)
      refine Does.call 13 #[(.agg (u64s lx).toArray)] (by clear hs hd; go_simp) ?_
      refine (fbytes_any _ _ HF.out _).mono ?_
      rintro z w' ⟨rfl, l⟩
      exact ⟨_, rfl, by show Value.agg _ = Value.agg _; rw [HB.out.1], l⟩
    · intro ax wx hb hs hd
      have h6 : ax.tmps.getD 6 undef = (.pointer (some ⟨gy, 0, none⟩)) := hs 6 (by kernel_rfl)
      exact Does.load 29 (.tmp 6) rfl gy 0 h6 (u8s BX) _ ((Blk.later V0.out.2.2.2 hb (Blk.lt V0.out.2.2.2)).whole) Try.underlying29 rfl (by rw [HB.out.2.2.2]; exact sizeNum)
    · intro ax wx hb hs hd
      have h29 : ax.tmps.getD 29 undef = (.agg (u8s BX).toArray) := hd 18 29 rfl (by kernel_rfl) (by decide)
      have h30 : ax.tmps.getD 30 undef = (.agg (u8s BX).toArray) := hd 19 30 rfl (by kernel_rfl) (by decide)
      refine Does.value (.bool true) ?_ rfl
      clear hs hd
      go_simp
    · intro ax wx hb hs hd
      have h27 : ax.tmps.getD 27 undef = (.bool true) := hd 16 27 rfl (by kernel_rfl) (by decide)
      have h31 : ax.tmps.getD 31 undef = (.bool true) := hd 20 31 rfl (by kernel_rfl) (by decide)
      refine Does.value (.bool true) ?_ rfl
      clear hs hd
      go_simp
  · intro wx hb
    refine @Ends.val _ _ _ _ _ _ _ _ _ (.agg (u64s lx).toArray) rfl ?_
    refine @Ends.val _ _ _ _ _ _ _ _ _ (.agg (u8s ee).toArray) rfl ?_
    refine @Ends.any _ _ _ _ _ _ _ _ _ (isF (x ^ N % PR)) (isF_later (x ^ N % PR)) rfl ?_
    intro v2 p2
    refine @Ends.val _ _ _ _ _ _ _ _ _ (.agg (u8s BP).toArray) rfl ?_
    refine @Ends.val _ _ _ _ _ _ _ _ _ (.agg (u8s BX).toArray) rfl ?_
    refine @Ends.val _ _ _ _ _ _ _ _ _ (.agg (u8s ee).toArray) rfl ?_
    refine @Ends.val _ _ _ _ _ _ _ _ _ (.agg (u8s BP).toArray) rfl ?_
    refine @Ends.val _ _ _ _ _ _ _ _ _ (.bool true) rfl ?_
    refine @Ends.val _ _ _ _ _ _ _ _ _ (.bool true) rfl ?_
    refine @Ends.val _ _ _ _ _ _ _ _ _ (.agg (u64s lx).toArray) rfl ?_
    refine @Ends.any _ _ _ _ _ _ _ _ _ (isF (inv x)) (isF_later (inv x)) rfl ?_
    intro v10 p10
    refine @Ends.val _ _ _ _ _ _ _ _ _ (.agg (u8s BI).toArray) rfl ?_
    refine @Ends.val _ _ _ _ _ _ _ _ _ (.agg (u8s BX).toArray) rfl ?_
    refine @Ends.val _ _ _ _ _ _ _ _ _ (.agg (u8s BI).toArray) rfl ?_
    refine @Ends.val _ _ _ _ _ _ _ _ _ (.bool true) rfl ?_
    refine @Ends.val _ _ _ _ _ _ _ _ _ (.bool true) rfl ?_
    refine @Ends.val _ _ _ _ _ _ _ _ _ (.bool true) rfl ?_
    refine @Ends.val _ _ _ _ _ _ _ _ _ (.agg (u64s lx).toArray) rfl ?_
    refine @Ends.val _ _ _ _ _ _ _ _ _ (.agg (u8s BX).toArray) rfl ?_
    refine @Ends.val _ _ _ _ _ _ _ _ _ (.agg (u8s BX).toArray) rfl ?_
    refine @Ends.val _ _ _ _ _ _ _ _ _ (.bool true) rfl ?_
    refine @Ends.val _ _ _ _ _ _ _ _ _ (.bool true) rfl ?_
    refine @Ends.one _ _ _ _ _ _ _ ?_
    simp only [Act.put, List.setIfInBounds_toArray, List.set_cons_zero, List.set_cons_succ]
    refine last_assign (.tmp 32) rfl (some 4) rfl (.bool true) rfl ?_
    have V1 : Hid (Below w.heap.size w wx ∧ Blk wx (w.heap.size + 1) 22 (u8s ee) ∧ Blk wx gx 26 (u64s lx) ∧ Blk wx gy 29 (u8s BX)) := ⟨below_chain V0.out.1 hb V0.out.1.size, (V0.out.2.1.later hb V0.out.2.1.lt), (V0.out.2.2.1.later hb V0.out.2.2.1.lt), (V0.out.2.2.2.later hb V0.out.2.2.2.lt)⟩
    obtain ⟨yV1, rfl⟩ : ∃ q, q = wx := ⟨_, rfl⟩
    clear V0 hb p2 p10
    simp only [Act.put, List.setIfInBounds_toArray, List.set_cons_zero, List.set_cons_succ]
    go_wp2_with fail
    go_ret
    exact ⟨rfl, V1.out.1⟩
end Go.Proofs.Ytfeeikkfjbdkiaa
