/- Layer field: FieldNames: the chapter's examples. -/
import Derived.Test.YtfeeikkfjbdkiaaFInv
import Derived.Test.YtfeeikkfjbdkiaaFLast
import Derived.Test.YtfeeikkfjbdkiaaRInvG
namespace Go.Proofs.Ytfeeikkfjbdkiaa
open Go.RowKit
set_option linter.unusedVariables false
set_option linter.unusedSimpArgs false

/-- The half of p + 1. -/
def halfL : List Int := ((primeL 0).set 0 247).set 31 63
theorem half_inv : leB 32 (inv 2) = halfL := by
  have e : inv 2 = 28948022309329048855892746252171976963317496166410141009864396001978282409975 := inv_only _ _ 2 (inv_bd _) (by decide) (inv_mul 2 (by decide) (by decide)) (by decide +kernel)
  rw [e]; decide +kernel
def b5L : List Int := (List.replicate 32 0).set 0 5
set_option maxRecDepth 20000 in
set_option maxHeartbeats 4000000 in
theorem names_any (w : World) : Calls Try.prog 11 #[] w fun e w' => e = .returned (.bool true) ∧ Below w.heap.size w w' := by
  have HB0 : Hid (∀ w, (Instr.build 22 #[]).run Try.prog w = .ok (.agg (u8s (List.replicate 32 0)).toArray) w) := fun w => by kernel_rfl
  have HB5 : Hid (∀ w, (Instr.build 22 #[(0, .int .u8 5)]).run Try.prog w = .ok (.agg (u8s b5L).toArray) w) := fun w => by kernel_rfl
  have HZ : Hid ((List.replicate 32 (0 : Int)).length = 32 ∧ Bytes (List.replicate 32 (0 : Int)) ∧ (0 : Int) ^ (le (List.replicate 32 0)).toNat % PR = 1) := ⟨rfl, fun z hz => by rw [List.eq_of_mem_replicate hz]; decide, by decide +kernel⟩
  have H5 : Hid (b5L.length = 32 ∧ Bytes b5L ∧ (2 : Int) ^ (le b5L).toNat % PR = 32) := ⟨rfl, fun z hz => by have : z = 5 ∨ z = 0 := (by simp [b5L, List.replicate] at hz; omega); rcases this with rfl | rfl <;> decide, by decide +kernel⟩
  have HH : Hid (leB 32 (inv 2) = halfL ∧ (u8s halfL).length = 32) := ⟨half_inv, rfl⟩
  have hq : ∀ wx, (Op.equalIn 10000 22 (.agg (u8s halfL).toArray) (.agg (u8s halfL).toArray)).run Try.prog wx = .ok true wx := equal32A 22 32 Try.underlying22 9998 _ rfl
  have HP : Hid ((primeL 0).length = 32 ∧ ((primeL 0).set 0 247).set 31 63 = halfL ∧ (u8s (primeL 0)).length = 32) := ⟨rfl, rfl, rfl⟩
  obtain ⟨HF, hHF⟩ : ∃ z, halfL = z := ⟨_, rfl⟩
  obtain ⟨Z0, hZ0⟩ : ∃ z, List.replicate 32 (0 : Int) = z := ⟨_, rfl⟩
  obtain ⟨B5, hB5⟩ : ∃ z, b5L = z := ⟨_, rfl⟩
  have hz32 := zero32
  rw [hZ0] at HB0 HZ hz32
  rw [hB5] at HB5 H5
  rw [hHF] at HH hq HP
  clear hHF hZ0 hB5
  go_enter Try.func11, Try.ntmps11
  go_wp2_with (first | (refine wpList_alloc_new rfl 26 rfl 5 _ zeroElem ?_; intro x1 z1 s1 l1) | (go_at_call 35; refine (prime_any 0 (by decide) _).mono ?_; rintro e x2 ⟨rfl, l2⟩) | ((with_reducible show wpList _ _ _ _ _ x2); refine wpList_alloc_new rfl 22 rfl 32 _ hz32 ?_; intro x3 z3 s3 l3) | ((with_reducible show wpList _ _ _ _ _ x3); refine wpList_store_blk rfl 22 22 _ _ rfl _ rfl _ (u8s (primeL 0)) rfl z3 (by rw [HP.out.2.2, u8s_length, HZ.out.1]) (by rw [HP.out.2.2]; exact size32) (u8s_one _) ?_; intro x4 b4 s4 k4; obtain ⟨gH, hgH⟩ : ∃ q, x2.heap.size = q := ⟨_, rfl⟩; rw [hgH] at b4 k4; rw [hgH]; have c0 : x4.cell? ⟨gH, 0, none⟩ = some (.int .u8 (237 - 0)) := b4.cell 0; have c31 : x4.cell? ⟨gH, 31, none⟩ = some (.int .u8 127) := b4.cell 31; have f0 := b4.frozen 0; have f31 := b4.frozen 31))
  obtain ⟨y0, hy0⟩ : ∃ q, (x4.setCell ⟨gH, 0, none⟩ (.int .u8 247)).setCell ⟨gH, 31, none⟩ (.int .u8 63) = q := ⟨_, rfl⟩
  have V0 : Hid (Below w.heap.size w y0 ∧ Blk y0 w.heap.size 26 (u64s [0, 0, 0, 0, 0]) ∧ Blk y0 gH 22 (u8s HF)) := by
    have q2 := l2.size
    have R := (b4.set 0 (.int .u8 247)).set 31 (.int .u8 63)
    rw [u8s_set, u8s_set, HP.out.2.1, hy0] at R
    have K := (k4.setCell (p := ⟨gH, 0, none⟩) rfl (.int .u8 247)).setCell (p := ⟨gH, 31, none⟩) rfl (.int .u8 63)
    rw [hy0] at K
    exact ⟨below_kept (below_chain (below_chain l1 l2 (by omega)) l3 (by omega)) K (by omega) (fun j hj => by omega), ((z1.later l2 (by omega)).later l3 (by omega)).kept K (by omega), R⟩
  rw [hy0]
  clear z1 s1 l1 l2 z3 s3 l3 b4 s4 k4 hgH c0 c31 f0 f31 hy0
  refine region_invG ((.val (.bool true)) :: (.val (.bool true)) :: (.val (.agg (u64s [0, 0, 0, 0, 0]).toArray)) :: (.val (.int .u64 18446744073709551615)) :: (.val (.bool true)) :: (.val (.bool true)) :: (.val (.bool true)) :: (.val (.agg (u64s [0, 0, 0, 0, 0]).toArray)) :: (.any (isF (inv 0)) (isF_later (inv 0))) :: (.val (.int .u64 18446744073709551615)) :: (.val (.bool true)) :: (.val (.bool true)) :: (.val (.bool true)) :: (.val (.agg (u64s [0, 0, 0, 0, 0]).toArray)) :: (.val (.agg (u8s Z0).toArray)) :: (.any (isF 1) (isF_later 1)) :: (.any (isF 1) (isF_later 1)) :: (.val (.bool true)) :: (.val (.bool true)) :: (.val (.bool true)) :: (.any (isF 2) (isF_later 2)) :: (.any (isF (inv 2)) (isF_later (inv 2))) :: (.val (.agg (u8s HF).toArray)) :: (.val (.agg (u8s HF).toArray)) :: (.val (.bool true)) :: (.val (.bool true)) :: (.val (.bool true)) :: (.any (isF 2) (isF_later 2)) :: (.val (.agg (u8s B5).toArray)) :: (.any (isF 32) (isF_later 32)) :: (.any (isF 32) (isF_later 32)) :: (.val (.bool true)) :: (.val (.bool true)) :: []) (by kernel_rfl) (by kernel_rfl) (by repeat (first | exact trivial | (refine ⟨by first | trivial | rfl, ?_⟩))) (by kernel_rfl) ?_ ?_
  · refine Steps'.cons ?_ (Steps'.cons ?_ (Steps'.cons ?_ (Steps'.cons ?_ (Steps'.cons ?_ (Steps'.cons ?_ (Steps'.cons ?_ (Steps'.cons ?_ (Steps'.cons ?_ (Steps'.cons ?_ (Steps'.cons ?_ (Steps'.cons ?_ (Steps'.cons ?_ (Steps'.cons ?_ (Steps'.cons ?_ (Steps'.cons ?_ (Steps'.cons ?_ (Steps'.cons ?_ (Steps'.cons ?_ (Steps'.cons ?_ (Steps'.cons ?_ (Steps'.cons ?_ (Steps'.cons ?_ (Steps'.cons ?_ (Steps'.cons ?_ (Steps'.cons ?_ (Steps'.cons ?_ (Steps'.cons ?_ (Steps'.cons ?_ (Steps'.cons ?_ (Steps'.cons ?_ (Steps'.cons ?_ (Steps'.cons ?_ (Steps'.one _ _ _ _ _ _ _)))))))))))))))))))))))))))))))))
    · intro ax wx hb hs hd
      refine Does.call 27 #[] (by clear hs hd; go_simp) ?_
      refine (awake_any _).mono ?_
      rintro z w' ⟨rfl, l⟩
      exact ⟨_, rfl, rfl, l⟩
    · intro ax wx hb hs hd
      have h6 : ax.tmps.getD 6 undef = (.bool true) := hd 0 6 rfl (by kernel_rfl) (by decide)
      refine Does.value (.bool true) ?_ rfl
      clear hs hd
      go_simp
    · intro ax wx hb hs hd
      have h1 : ax.tmps.getD 1 undef = (.pointer (some ⟨w.heap.size, 0, none⟩)) := hs 1 (by kernel_rfl)
      exact Does.load 26 (.tmp 1) rfl w.heap.size 0 h1 (u64s [0, 0, 0, 0, 0]) _ ((Blk.later V0.out.2.1 hb (Blk.lt V0.out.2.1)).whole) Try.underlying26 rfl sizeElem
    · intro ax wx hb hs hd
      have h8 : ax.tmps.getD 8 undef = (.agg (u64s [0, 0, 0, 0, 0]).toArray) := hd 2 8 rfl (by kernel_rfl) (by decide)
      refine Does.call 20 #[(.agg (u64s [0, 0, 0, 0, 0]).toArray)] (by clear hs hd; go_simp) ?_
      refine (fzero_yes _ _ fe_zero (rfl) _).mono ?_
      rintro z w' ⟨rfl, l⟩
      exact ⟨_, rfl, rfl, l⟩
    · intro ax wx hb hs hd
      have h9 : ax.tmps.getD 9 undef = (.int .u64 18446744073709551615) := hd 3 9 rfl (by kernel_rfl) (by decide)
      refine Does.value (.bool true) ?_ rfl
      clear hs hd
      go_simp
    · intro ax wx hb hs hd
      have h7 : ax.tmps.getD 7 undef = (.bool true) := hd 1 7 rfl (by kernel_rfl) (by decide)
      have h10 : ax.tmps.getD 10 undef = (.bool true) := hd 4 10 rfl (by kernel_rfl) (by decide)
      refine Does.value (.bool true) ?_ rfl
      clear hs hd
      go_simp
    · intro ax wx hb hs hd
      have h11 : ax.tmps.getD 11 undef = (.bool true) := hd 5 11 rfl (by kernel_rfl) (by decide)
      refine Does.value (.bool true) ?_ rfl
      clear hs hd
      go_simp
    · intro ax wx hb hs hd
      have h1 : ax.tmps.getD 1 undef = (.pointer (some ⟨w.heap.size, 0, none⟩)) := hs 1 (by kernel_rfl)
      exact Does.load 26 (.tmp 1) rfl w.heap.size 0 h1 (u64s [0, 0, 0, 0, 0]) _ ((Blk.later V0.out.2.1 hb (Blk.lt V0.out.2.1)).whole) Try.underlying26 rfl sizeElem
    · intro ax wx hb hs hd
      have h13 : ax.tmps.getD 13 undef = (.agg (u64s [0, 0, 0, 0, 0]).toArray) := hd 7 13 rfl (by kernel_rfl) (by decide)
      refine Does.call 25 #[(.agg (u64s [0, 0, 0, 0, 0]).toArray)] (by clear hs hd; go_simp) ?_
      refine (finv_any _ _ fe_zero _).mono ?_
      rintro z w' ⟨r, rfl, fr, l⟩
      exact ⟨_, rfl, ⟨r, rfl, fr⟩, l⟩
    · intro ax wx hb hs hd
      obtain ⟨l14, h14, f14⟩ : isF (inv 0) (ax.tmps.getD 14 undef) wx := hd 8 14 rfl (by kernel_rfl) (by decide)
      refine Does.call 20 #[(.agg (u64s l14).toArray)] (by clear hs hd; go_simp) ?_
      refine (fzero_yes _ _ f14 (inv_zero) _).mono ?_
      rintro z w' ⟨rfl, l⟩
      exact ⟨_, rfl, rfl, l⟩
    · intro ax wx hb hs hd
      have h15 : ax.tmps.getD 15 undef = (.int .u64 18446744073709551615) := hd 9 15 rfl (by kernel_rfl) (by decide)
      refine Does.value (.bool true) ?_ rfl
      clear hs hd
      go_simp
    · intro ax wx hb hs hd
      have h12 : ax.tmps.getD 12 undef = (.bool true) := hd 6 12 rfl (by kernel_rfl) (by decide)
      have h16 : ax.tmps.getD 16 undef = (.bool true) := hd 10 16 rfl (by kernel_rfl) (by decide)
      refine Does.value (.bool true) ?_ rfl
      clear hs hd
      go_simp
    · intro ax wx hb hs hd
      have h17 : ax.tmps.getD 17 undef = (.bool true) := hd 11 17 rfl (by kernel_rfl) (by decide)
      refine Does.value (.bool true) ?_ rfl
      clear hs hd
      go_simp
    · intro ax wx hb hs hd
      have h1 : ax.tmps.getD 1 undef = (.pointer (some ⟨w.heap.size, 0, none⟩)) := hs 1 (by kernel_rfl)
      exact Does.load 26 (.tmp 1) rfl w.heap.size 0 h1 (u64s [0, 0, 0, 0, 0]) _ ((Blk.later V0.out.2.1 hb (Blk.lt V0.out.2.1)).whole) Try.underlying26 rfl sizeElem
    · intro ax wx hb hs hd
      exact Does.build 22 _ rfl #[] (by simp [Act.eval]) _ (HB0.out _)
    · intro ax wx hb hs hd
      have h19 : ax.tmps.getD 19 undef = (.agg (u64s [0, 0, 0, 0, 0]).toArray) := hd 13 19 rfl (by kernel_rfl) (by decide)
      have h20 : ax.tmps.getD 20 undef = (.agg (u8s Z0).toArray) := hd 14 20 rfl (by kernel_rfl) (by decide)
      refine Does.call 23 #[(.agg (u64s [0, 0, 0, 0, 0]).toArray), (.agg (u8s Z0).toArray)] (by clear hs hd; go_simp) ?_
      refine (fpower_any _ _ _ fe_zero HZ.out.1 HZ.out.2.1 _).mono ?_
      rintro z w' ⟨r, rfl, fr, l⟩
      exact ⟨_, rfl, ⟨r, rfl, fr.eq HZ.out.2.2⟩, l⟩
    · intro ax wx hb hs hd
      refine Does.call 15 #[(.int .u64 1)] (by clear hs hd; go_simp) ?_
      refine (small_any 1 (by decide) (by decide) _).mono ?_
      rintro z w' ⟨r, rfl, fr, l⟩
      exact ⟨_, rfl, ⟨r, rfl, fr⟩, l⟩
    · intro ax wx hb hs hd
      obtain ⟨l21, h21, f21⟩ : isF 1 (ax.tmps.getD 21 undef) wx := hd 15 21 rfl (by kernel_rfl) (by decide)
      obtain ⟨l22, h22, f22⟩ : isF 1 (ax.tmps.getD 22 undef) wx := hd 16 22 rfl (by kernel_rfl) (by decide)
      refine Does.call 28 #[(.agg (u64s l21).toArray), (.agg (u64s l22).toArray)] (by clear hs hd; go_simp) ?_
      refine (one_yes _ _ _ f21 (Fe.eq f22 (rfl)) _).mono ?_
      rintro z w' ⟨rfl, l⟩
      exact ⟨_, rfl, rfl, l⟩
    · intro ax wx hb hs hd
      have h18 : ax.tmps.getD 18 undef = (.bool true) := hd 12 18 rfl (by kernel_rfl) (by decide)
      have h23 : ax.tmps.getD 23 undef = (.bool true) := hd 17 23 rfl (by kernel_rfl) (by decide)
      refine Does.value (.bool true) ?_ rfl
      clear hs hd
      go_simp
    · intro ax wx hb hs hd
      have h24 : ax.tmps.getD 24 undef = (.bool true) := hd 18 24 rfl (by kernel_rfl) (by decide)
      refine Does.value (.bool true) ?_ rfl
      clear hs hd
      go_simp
    · intro ax wx hb hs hd
      refine Does.call 15 #[(.int .u64 2)] (by clear hs hd; go_simp) ?_
      refine (small_any 2 (by decide) (by decide) _).mono ?_
      rintro z w' ⟨r, rfl, fr, l⟩
      exact ⟨_, rfl, ⟨r, rfl, fr⟩, l⟩
    · intro ax wx hb hs hd
      obtain ⟨l26, h26, f26⟩ : isF 2 (ax.tmps.getD 26 undef) wx := hd 20 26 rfl (by kernel_rfl) (by decide)
      refine Does.call 25 #[(.agg (u64s l26).toArray)] (by clear hs hd; go_simp) ?_
      refine (finv_any _ _ f26 _).mono ?_
      rintro z w' ⟨r, rfl, fr, l⟩
      exact ⟨_, rfl, ⟨r, rfl, fr⟩, l⟩
    · intro ax wx hb hs hd
      obtain ⟨l27, h27, f27⟩ : isF (inv 2) (ax.tmps.getD 27 undef) wx := hd 21 27 rfl (by kernel_rfl) (by decide)
      refine Does.call 13 #[(.agg (u64s l27).toArray)] (by clear hs hd; go_simp) ?_
      refine (fbytes_any _ _ f27 _).mono ?_
      rintro z w' ⟨rfl, l⟩
      exact ⟨_, rfl, by show Value.agg _ = Value.agg _; rw [HH.out.1], l⟩
    · intro ax wx hb hs hd
      have h2 : ax.tmps.getD 2 undef = (.pointer (some ⟨gH, 0, none⟩)) := hs 2 (by kernel_rfl)
      exact Does.load 22 (.tmp 2) rfl gH 0 h2 (u8s HF) _ ((Blk.later V0.out.2.2 hb (Blk.lt V0.out.2.2)).whole) Try.underlying22 rfl (by rw [HH.out.2]; exact size32)
    · intro ax wx hb hs hd
      have h28 : ax.tmps.getD 28 undef = (.agg (u8s HF).toArray) := hd 22 28 rfl (by kernel_rfl) (by decide)
      have h29 : ax.tmps.getD 29 undef = (.agg (u8s HF).toArray) := hd 23 29 rfl (by kernel_rfl) (by decide)
      refine Does.value (.bool true) ?_ rfl
      clear hs hd
      go_simp
    · intro ax wx hb hs hd
      have h25 : ax.tmps.getD 25 undef = (.bool true) := hd 19 25 rfl (by kernel_rfl) (by decide)
      have h30 : ax.tmps.getD 30 undef = (.bool true) := hd 24 30 rfl (by kernel_rfl) (by decide)
      refine Does.value (.bool true) ?_ rfl
      clear hs hd
      go_simp
    · intro ax wx hb hs hd
      have h31 : ax.tmps.getD 31 undef = (.bool true) := hd 25 31 rfl (by kernel_rfl) (by decide)
      refine Does.value (.bool true) ?_ rfl
      clear hs hd
      go_simp
    · intro ax wx hb hs hd
      refine Does.call 15 #[(.int .u64 2)] (by clear hs hd; go_simp) ?_
      refine (small_any 2 (by decide) (by decide) _).mono ?_
      rintro z w' ⟨r, rfl, fr, l⟩
      exact ⟨_, rfl, ⟨r, rfl, fr⟩, l⟩
    · intro ax wx hb hs hd
      exact Does.build 22 _ rfl #[(0, .int .u8 5)] (by simp [Act.eval]) _ (HB5.out _)
    · intro ax wx hb hs hd
      obtain ⟨l33, h33, f33⟩ : isF 2 (ax.tmps.getD 33 undef) wx := hd 27 33 rfl (by kernel_rfl) (by decide)
      have h34 : ax.tmps.getD 34 undef = (.agg (u8s B5).toArray) := hd 28 34 rfl (by kernel_rfl) (by decide)
      refine Does.call 23 #[(.agg (u64s l33).toArray), (.agg (u8s B5).toArray)] (by clear hs hd; go_simp) ?_
      refine (fpower_any _ _ _ f33 H5.out.1 H5.out.2.1 _).mono ?_
      rintro z w' ⟨r, rfl, fr, l⟩
      exact ⟨_, rfl, ⟨r, rfl, fr.eq H5.out.2.2⟩, l⟩
    · intro ax wx hb hs hd
      refine Does.call 15 #[(.int .u64 32)] (by clear hs hd; go_simp) ?_
      refine (small_any 32 (by decide) (by decide) _).mono ?_
      rintro z w' ⟨r, rfl, fr, l⟩
      exact ⟨_, rfl, ⟨r, rfl, fr⟩, l⟩
    · intro ax wx hb hs hd
      obtain ⟨l35, h35, f35⟩ : isF 32 (ax.tmps.getD 35 undef) wx := hd 29 35 rfl (by kernel_rfl) (by decide)
      obtain ⟨l36, h36, f36⟩ : isF 32 (ax.tmps.getD 36 undef) wx := hd 30 36 rfl (by kernel_rfl) (by decide)
      refine Does.call 28 #[(.agg (u64s l35).toArray), (.agg (u64s l36).toArray)] (by clear hs hd; go_simp) ?_
      refine (one_yes _ _ _ f35 (Fe.eq f36 (rfl)) _).mono ?_
      rintro z w' ⟨rfl, l⟩
      exact ⟨_, rfl, rfl, l⟩
    · intro ax wx hb hs hd
      have h32 : ax.tmps.getD 32 undef = (.bool true) := hd 26 32 rfl (by kernel_rfl) (by decide)
      have h37 : ax.tmps.getD 37 undef = (.bool true) := hd 31 37 rfl (by kernel_rfl) (by decide)
      refine Does.value (.bool true) ?_ rfl
      clear hs hd
      go_simp
  · intro wx hb
    refine @Ends.val _ _ _ _ _ _ _ _ _ (.bool true) rfl ?_
    refine @Ends.val _ _ _ _ _ _ _ _ _ (.bool true) rfl ?_
    refine @Ends.val _ _ _ _ _ _ _ _ _ (.agg (u64s [0, 0, 0, 0, 0]).toArray) rfl ?_
    refine @Ends.val _ _ _ _ _ _ _ _ _ (.int .u64 18446744073709551615) rfl ?_
    refine @Ends.val _ _ _ _ _ _ _ _ _ (.bool true) rfl ?_
    refine @Ends.val _ _ _ _ _ _ _ _ _ (.bool true) rfl ?_
    refine @Ends.val _ _ _ _ _ _ _ _ _ (.bool true) rfl ?_
    refine @Ends.val _ _ _ _ _ _ _ _ _ (.agg (u64s [0, 0, 0, 0, 0]).toArray) rfl ?_
    refine @Ends.any _ _ _ _ _ _ _ _ _ (isF (inv 0)) (isF_later (inv 0)) rfl ?_
    intro v8 p8
    refine @Ends.val _ _ _ _ _ _ _ _ _ (.int .u64 18446744073709551615) rfl ?_
    refine @Ends.val _ _ _ _ _ _ _ _ _ (.bool true) rfl ?_
    refine @Ends.val _ _ _ _ _ _ _ _ _ (.bool true) rfl ?_
    refine @Ends.val _ _ _ _ _ _ _ _ _ (.bool true) rfl ?_
    refine @Ends.val _ _ _ _ _ _ _ _ _ (.agg (u64s [0, 0, 0, 0, 0]).toArray) rfl ?_
    refine @Ends.val _ _ _ _ _ _ _ _ _ (.agg (u8s Z0).toArray) rfl ?_
    refine @Ends.any _ _ _ _ _ _ _ _ _ (isF 1) (isF_later 1) rfl ?_
    intro v15 p15
    refine @Ends.any _ _ _ _ _ _ _ _ _ (isF 1) (isF_later 1) rfl ?_
    intro v16 p16
    refine @Ends.val _ _ _ _ _ _ _ _ _ (.bool true) rfl ?_
    refine @Ends.val _ _ _ _ _ _ _ _ _ (.bool true) rfl ?_
    refine @Ends.val _ _ _ _ _ _ _ _ _ (.bool true) rfl ?_
    refine @Ends.any _ _ _ _ _ _ _ _ _ (isF 2) (isF_later 2) rfl ?_
    intro v20 p20
    refine @Ends.any _ _ _ _ _ _ _ _ _ (isF (inv 2)) (isF_later (inv 2)) rfl ?_
    intro v21 p21
    refine @Ends.val _ _ _ _ _ _ _ _ _ (.agg (u8s HF).toArray) rfl ?_
    refine @Ends.val _ _ _ _ _ _ _ _ _ (.agg (u8s HF).toArray) rfl ?_
    refine @Ends.val _ _ _ _ _ _ _ _ _ (.bool true) rfl ?_
    refine @Ends.val _ _ _ _ _ _ _ _ _ (.bool true) rfl ?_
    refine @Ends.val _ _ _ _ _ _ _ _ _ (.bool true) rfl ?_
    refine @Ends.any _ _ _ _ _ _ _ _ _ (isF 2) (isF_later 2) rfl ?_
    intro v27 p27
    refine @Ends.val _ _ _ _ _ _ _ _ _ (.agg (u8s B5).toArray) rfl ?_
    refine @Ends.any _ _ _ _ _ _ _ _ _ (isF 32) (isF_later 32) rfl ?_
    intro v29 p29
    refine @Ends.any _ _ _ _ _ _ _ _ _ (isF 32) (isF_later 32) rfl ?_
    intro v30 p30
    refine @Ends.val _ _ _ _ _ _ _ _ _ (.bool true) rfl ?_
    refine @Ends.val _ _ _ _ _ _ _ _ _ (.bool true) rfl ?_
    refine @Ends.one _ _ _ _ _ _ _ ?_
    simp only [Act.put, List.setIfInBounds_toArray, List.set_cons_zero, List.set_cons_succ]
    refine last_assign (.tmp 38) rfl (some 0) rfl (.bool true) rfl ?_
    have V1 : Hid (Below w.heap.size w wx ∧ Blk wx w.heap.size 26 (u64s [0, 0, 0, 0, 0]) ∧ Blk wx gH 22 (u8s HF)) := ⟨below_chain V0.out.1 hb V0.out.1.size, (V0.out.2.1.later hb V0.out.2.1.lt), (V0.out.2.2.later hb V0.out.2.2.lt)⟩
    obtain ⟨yV1, rfl⟩ : ∃ q, q = wx := ⟨_, rfl⟩
    clear V0 hb p8 p15 p16 p20 p21 p27 p29 p30
    simp only [Act.put, List.setIfInBounds_toArray, List.set_cons_zero, List.set_cons_succ]
    go_wp2_with fail
    go_ret
    exact ⟨rfl, V1.out.1⟩
end Go.Proofs.Ytfeeikkfjbdkiaa
