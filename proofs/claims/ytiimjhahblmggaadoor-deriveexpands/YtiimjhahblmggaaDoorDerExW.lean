/- The walk of DeriveExpands. -/
import Derived.Test.YtiimjhahblmggaaDoorVExA
import Derived.Test.YtiimjhahblmggaaDoorVWorks
import Derived.Test.YtiimjhahblmggaaDoorRInvP
namespace Go.Proofs.YtiimjhahblmggaaDoor.deriveExpands
open Go.RowKit
set_option linter.unusedVariables false
set_option linter.unusedSimpArgs false

set_option maxRecDepth 20000 in
set_option maxHeartbeats 4000000 in
theorem walk (so : Option Addr) (sn sc : Nat) (salt : List Int) (xo : Option Addr) (xn xc : Nat) (sec : List Int) (io : Option Addr) (im ic : Nat) (info : List Int) (N : Int) (w : World) (hd : Dr w so sn sc salt xo xn xc sec io im ic info) (hK : KTab w) :
    Calls Tryd.prog 5 #[.agg #[.slice so sn sc, .slice xo xn xc, .slice io im ic, .int .i64 N]] w fun e w' => e = .returned (.bool true) ∧ Below w.heap.size w w' := by
  have HX : Hid (Dr w so sn sc salt xo xn xc sec io im ic info ∧ KTab w) := ⟨hd, hK⟩
  have his := hd.fsn
  have hix := hd.fxn
  have hii := hd.fim
  obtain ⟨n, hn⟩ : ∃ n, nE N = n := ⟨_, rfl⟩
  obtain ⟨c, hc⟩ : ∃ c, ccE N 8160 = c := ⟨_, rfl⟩
  obtain ⟨prk, hp⟩ : ∃ p, mac salt sec = p := ⟨_, rfl⟩
  obtain ⟨E, hE⟩ : ∃ E, exps prk info n = E := ⟨_, rfl⟩
  obtain ⟨E2, hE2⟩ : ∃ E, exps prk (turn 68 info) n = E := ⟨_, rfl⟩
  have hn2 : n ≤ 8160 := by rw [← hn]; exact nE_le N
  have HM : Hid (nE N = n ∧ ccE N 8160 = c ∧ mac salt sec = prk ∧ prk.length = 32 ∧ Bytes prk) := ⟨hn, hc, hp, by rw [← hp]; exact mac_length _ _, by rw [← hp]; exact mac_bytes _ _⟩
  have HE : Hid (exps prk info n = E ∧ exps prk (turn 68 info) n = E2 ∧ Bytes E ∧ Bytes E2 ∧ info.length = im) := ⟨hE, hE2, by rw [← hE]; exact exps_bytes _ _ _, by rw [← hE2]; exact exps_bytes _ _ _, hd.fi.len⟩
  have u2 : (Tryd.prog.info? 28).map (·.size) = some (u8s prk).length := by rw [u8s_length, HM.out.2.2.2.1]; exact sizeAH
  clear hd hK hn hc hp hE hE2
  go_enter Tryd.func5, Tryd.ntmps5
  go_wp2_with (first | (refine wpList_box_new rfl 51 _ rfl (dC so sn sc xo xn xc io im ic N) rfl ?_; intro w1 b1 s1 l1; have e0 : w1.cell? ⟨w.heap.size, 0, none⟩ = some (.slice so sn sc) := b1.cell 0; have e1 : w1.cell? ⟨w.heap.size, 1, none⟩ = some (.slice xo xn xc) := b1.cell 1; have e2 : w1.cell? ⟨w.heap.size, 2, none⟩ = some (.slice io im ic) := b1.cell 2; have e3 : w1.cell? ⟨w.heap.size, 3, none⟩ = some (.int .i64 N) := b1.cell 3; have D1 := HX.out.1.later l1) | (go_at_call 22; refine (wrong_any N 8160 _).mono ?_; rintro e _ ⟨rfl, rfl⟩; rw [HM.out.2.1]) | (go_at_call 23; refine (rextract_any so sn sc salt xo xn xc sec w1 D1.fs D1.fs0 (by omega) D1.fx D1.fx0 (by omega)).mono ?_; rintro e w2 ⟨rfl, l2⟩; rw [HM.out.2.2.1]) | (refine wpList_alloc_new rfl 28 rfl 32 _ zeroAH ?_; intro w3 b3 s3 l3) | (refine wpList_store_blk rfl 28 28 _ _ rfl _ rfl _ (u8s prk) rfl b3 (by rw [u8s_length, HM.out.2.2.2.1, u8s_length, zer_length]) u2 (u8s_one _) ?_; intro w4 b4 s4 k4; have l14 : Below w1.heap.size w1 w4 := below_chain l2 (below_kept l3 k4 (by omega) (fun j hj => by omega)) l2.size; have B4 := b1.later l14 b1.lt; have D4 := D1.later l14; have e0 : w4.cell? ⟨w.heap.size, 0, none⟩ = some (.slice so sn sc) := B4.cell 0; have e1 : w4.cell? ⟨w.heap.size, 1, none⟩ = some (.slice xo xn xc) := B4.cell 1; have e2 : w4.cell? ⟨w.heap.size, 2, none⟩ = some (.slice io im ic) := B4.cell 2; have e3 : w4.cell? ⟨w.heap.size, 3, none⟩ = some (.int .i64 N) := B4.cell 3) | (refine wpList_load_blk rfl 28 _ rfl _ rfl (u8s prk) _ b4 Tryd.underlying28 rfl u2 ?_) | ((with_reducible show Calls _ _ _ w4 _); go_at_call 24; refine (rex_out prk HM.out.2.2.2.1 HM.out.2.2.2.2 io im ic info N w4 D4.fi D4.fi0 (by omega)).mono ?_; rintro e w5 ⟨wo, wc, rfl, S5, l5⟩; rw [HM.out.1] at S5 ⊢; rw [HE.out.1] at S5; have B5 := B4.later l5 B4.lt; have D5 := D4.later l5; have e0 : w5.cell? ⟨w.heap.size, 0, none⟩ = some (.slice so sn sc) := B5.cell 0; have e1 : w5.cell? ⟨w.heap.size, 1, none⟩ = some (.slice xo xn xc) := B5.cell 1; have e2 : w5.cell? ⟨w.heap.size, 2, none⟩ = some (.slice io im ic) := B5.cell 2; have e3 : w5.cell? ⟨w.heap.size, 3, none⟩ = some (.int .i64 N) := B5.cell 3) | ((with_reducible show Calls _ _ _ w5 _); go_at_call 7; refine (lent_any io im ic info w5 D5.fi (by omega)).mono ?_; rintro e w6 ⟨gi, ci, rfl, r6, hgi, hci, _, l6⟩; have B6 := B5.later l6 B5.lt; have D6 := D5.later l6; have e0 : w6.cell? ⟨w.heap.size, 0, none⟩ = some (.slice so sn sc) := B6.cell 0; have e1 : w6.cell? ⟨w.heap.size, 1, none⟩ = some (.slice xo xn xc) := B6.cell 1; have e2 : w6.cell? ⟨w.heap.size, 2, none⟩ = some (.slice io im ic) := B6.cell 2; have e3 : w6.cell? ⟨w.heap.size, 3, none⟩ = some (.int .i64 N) := B6.cell 3) | ((with_reducible show Calls _ _ _ w6 _); go_at_call 7; refine (lent_any so sn sc salt w6 D6.fs (by omega)).mono ?_; rintro e w7 ⟨gs, cs, rfl, r7, hgs, hcs, _, l7⟩; have B7 := B6.later l7 B6.lt; have D7 := D6.later l7; have e0 : w7.cell? ⟨w.heap.size, 0, none⟩ = some (.slice so sn sc) := B7.cell 0; have e1 : w7.cell? ⟨w.heap.size, 1, none⟩ = some (.slice xo xn xc) := B7.cell 1; have e2 : w7.cell? ⟨w.heap.size, 2, none⟩ = some (.slice io im ic) := B7.cell 2; have e3 : w7.cell? ⟨w.heap.size, 3, none⟩ = some (.int .i64 N) := B7.cell 3) | ((with_reducible show Calls _ _ _ w7 _); go_at_call 7; refine (lent_any xo xn xc sec w7 D7.fx (by omega)).mono ?_; rintro e w8 ⟨gx, cx, rfl, r8, hgx, hcx, _, l8⟩))
  have z1 := l1.size
  have z2 := l2.size
  have z4 := l14.size
  have z5 := l5.size
  have z6 := l6.size
  have z7 := l7.size
  have z8 := l8.size
  obtain ⟨q, hq⟩ : ∃ q, w2.heap.size = q := ⟨_, rfl⟩
  rw [hq] at b4 ⊢
  have S8 : Hid (St w w8 q gi gs gx wo n E prk info so sn sc salt xo xn xc sec io im ic info N) := ⟨B7.later l8 B7.lt, (((b4.later l5 b4.lt).later l6 (by have := b4.lt; omega)).later l7 (by have := b4.lt; omega)).later l8 (by have := b4.lt; omega), ((S5.later l6 (Nat.le_refl _)).later l7 (Nat.le_refl _)).later l8 (Nat.le_refl _), (r6.later l7 (Nat.le_refl _)).later l8 (Nat.le_refl _), r7.later l8 (Nat.le_refl _), r8, D7.later l8, by
    have t1 := HX.out.2.below l1 HX.out.2.lt
    have t4 := t1.below l14 t1.lt
    have t5 := t4.below l5 t4.lt
    have t6 := t5.below l6 t5.lt
    have t7 := t6.below l7 t6.lt
    exact t7.below l8 t7.lt, below_chain (below_chain (below_chain (below_chain (below_chain l1 l14 z1) l5 (by omega)) l6 (by omega)) l7 (by omega)) l8 (by omega)⟩
  have yw : Hid (∀ b o, 0 < n → wo = some ⟨b, o, none⟩ → b < gi) := fun b o h0 e => by have := S5.old (Nat.le_refl _) b o h0 e; omega
  have y8 : gi < w8.heap.size ∧ gs < w8.heap.size ∧ gx < w8.heap.size ∧ gi ≠ gs ∧ gi ≠ gx ∧ gi ≠ q ∧ gi ≠ w.heap.size ∧ w.heap.size ≤ gi := by
    have a1 := r6.lt
    have a2 := r7.lt
    have a3 := r8.lt
    have a4 := b4.lt
    omega
  clear B4 B5 B6 B7 D1 D4 D5 D6 D7 e0 e1 e2 e3 b1 b3 b4 k4 l1 l2 l3 l5 l6 l7 l8 l14 r6 r7 r8 S5 s1 s3 s4 z1 z2 z4 z5 z6 z7 z8 hgi hgs hgx
  refine region_invP 9 ((.val (.agg (u8s prk).toArray)) :: (.val (.slice (some ⟨gi, 0, none⟩) (im + 64) ci)) :: (.val (.pointer (some ⟨w.heap.size, 2, none⟩))) :: (.val (.slice io im ic)) :: (.val (.int .i64 (im : Int))) :: (.val (.slice (some ⟨gi, 0, none⟩) im ci)) :: (.val (.int .i64 N)) :: (.any (isEx w8.heap.size n c E) (isEx_later _ _ _ _)) :: (.any (isEx w8.heap.size n c E) (isEx_later _ _ _ _)) :: []) (by kernel_rfl) (by kernel_rfl) (by kernel_rfl) [] ⟨.inl rfl, .inl rfl, .inl rfl, .inl rfl, .inl rfl, .inl rfl, .inl rfl, .inl rfl, .inl rfl, trivial⟩ (by kernel_rfl) ?_ ?_
  · refine Steps'.cons ?_ (Steps'.cons ?_ (Steps'.cons ?_ (Steps'.cons ?_ (Steps'.cons ?_ (Steps'.cons ?_ (Steps'.cons ?_ (Steps'.cons ?_ (Steps'.cons ?_ (Steps'.one _ _ _ _ _ _ _)))))))))
    · intro ax wx hb hs hd
      have h5 : ax.tmps.getD 5 undef = (.pointer (some ⟨q, 0, none⟩)) := hs 5 (by kernel_rfl)
      exact Does.load 28 (.tmp 5) rfl q 0 h5 (u8s prk) _ (blk_all (S8.out.later hb).pk) Tryd.underlying28 rfl u2
    · intro ax wx hb hs hd
      have h7 : ax.tmps.getD 7 undef = (.slice (some ⟨gi, 0, none⟩) (im + 64) ci) := hs 7 (by kernel_rfl)
      refine Does.value (.slice (some ⟨gi, 0, none⟩) (im + 64) ci) ?_ rfl
      clear hs hd
      go_simp
    · intro ax wx hb hs hd
      have h1 : ax.tmps.getD 1 undef = (.pointer (some ⟨w.heap.size, 0, none⟩)) := hs 1 (by kernel_rfl)
      refine Does.value (.pointer (some ⟨w.heap.size, 2, none⟩)) ?_ rfl
      clear hs hd
      go_simp
    · intro ax wx hb hs hd
      have h45 : ax.tmps.getD 45 undef = (.pointer (some ⟨w.heap.size, 2, none⟩)) := hd 2 45 rfl (by kernel_rfl) (by decide)
      have hc2 : wx.cell? ⟨w.heap.size, 2, none⟩ = some (.slice io im ic) := (S8.out.later hb).dr.cell 2
      refine Does.value (.slice io im ic) ?_ rfl
      clear hs hd
      go_simp
    · intro ax wx hb hs hd
      have h46 : ax.tmps.getD 46 undef = (.slice io im ic) := hd 3 46 rfl (by kernel_rfl) (by decide)
      refine Does.value (.int .i64 (im : Int)) ?_ rfl
      clear hs hd
      go_simp
    · intro ax wx hb hs hd
      have h44 : ax.tmps.getD 44 undef = (.slice (some ⟨gi, 0, none⟩) (im + 64) ci) := hd 1 44 rfl (by kernel_rfl) (by decide)
      have h47 : ax.tmps.getD 47 undef = (.int .i64 (im : Int)) := hd 4 47 rfl (by kernel_rfl) (by decide)
      have hsl := sl_lent gi (im + 64) ci im (by omega) wx
      refine Does.value (.slice (some ⟨gi, 0, none⟩) im ci) ?_ rfl
      clear hs hd
      go_simp
    · intro ax wx hb hs hd
      have h3 : ax.tmps.getD 3 undef = (.int .i64 N) := hs 3 (by kernel_rfl)
      refine Does.value (.int .i64 N) ?_ rfl
      clear hs hd
      go_simp
    · intro ax wx hb hs hd
      have h43 : ax.tmps.getD 43 undef = (.agg (u8s prk).toArray) := hd 0 43 rfl (by kernel_rfl) (by decide)
      have h48 : ax.tmps.getD 48 undef = (.slice (some ⟨gi, 0, none⟩) im ci) := hd 5 48 rfl (by kernel_rfl) (by decide)
      have h49 : ax.tmps.getD 49 undef = (.int .i64 N) := hd 6 49 rfl (by kernel_rfl) (by decide)
      refine Does.call 25 #[(.agg (u8s prk).toArray), (.slice (some ⟨gi, 0, none⟩) im ci), .int .i64 N] (by clear hs hd; go_simp) ?_
      have sI := Seen.lent ((S8.out.later hb).ri) S8.out.d.fi
      refine (ex_out prk HM.out.2.2.2.1 HM.out.2.2.2.2 _ im ci info N wx sI (by omega) ((S8.out.later hb).k)).mono ?_
      rintro e w9 ⟨v, rfl, ⟨vo, rfl, O⟩, l9⟩
      rw [HM.out.1, HE.out.1] at O
      rw [HM.out.1, HM.out.2.1]
      exact ⟨_, rfl, ⟨vo, rfl, O.up hb.size⟩, l9⟩
    · intro ax wx hb hs hd
      have p50 : isEx w8.heap.size n c E (ax.tmps.getD 50 undef) wx := hd 7 50 rfl (by kernel_rfl) (by decide)
      exact Does.value (ax.tmps.getD 50 undef) (by clear hs hd; go_simp) p50
  · intro wx hb
    refine @EndsP.val _ _ _ _ _ _ _ _ (.agg (u8s prk).toArray) rfl ?_
    refine @EndsP.val _ _ _ _ _ _ _ _ (.slice (some ⟨gi, 0, none⟩) (im + 64) ci) rfl ?_
    refine @EndsP.val _ _ _ _ _ _ _ _ (.pointer (some ⟨w.heap.size, 2, none⟩)) rfl ?_
    refine @EndsP.val _ _ _ _ _ _ _ _ (.slice io im ic) rfl ?_
    refine @EndsP.val _ _ _ _ _ _ _ _ (.int .i64 (im : Int)) rfl ?_
    refine @EndsP.val _ _ _ _ _ _ _ _ (.slice (some ⟨gi, 0, none⟩) im ci) rfl ?_
    refine @EndsP.val _ _ _ _ _ _ _ _ (.int .i64 N) rfl ?_
    refine @EndsP.any _ _ _ _ _ _ _ _ (isEx w8.heap.size n c E) (isEx_later _ _ _ _) rfl ?_
    intro v7 p7
    refine @EndsP.any _ _ _ _ _ _ _ _ (isEx w8.heap.size n c E) (isEx_later _ _ _ _) rfl ?_
    intro v8 p8
    intro hD nf hn
    obtain ⟨v1, rfl, Ov1⟩ := p8
    clear p7
    obtain ⟨mf, rfl⟩ : ∃ mf, nf = mf + 4 := ⟨nf - 4, by have h3 : 4 ≤ nf := hn; omega⟩
    clear hD hn
    simp only [Act.put, List.setIfInBounds_toArray, List.set_cons_zero, List.set_cons_succ]
    refine take_op 9 (some 51) (.slice v1 n n) rfl rfl (by kernel_rfl) (by kernel_rfl) (by kernel_rfl) (fun _ _ _ h => h) (by rfl) (fun _ => by rfl) ?_
    refine take_op 10 (some 52) (.int .i64 c) rfl rfl (by kernel_rfl) (by kernel_rfl) (by kernel_rfl) (fun _ _ _ h => h) (by rfl) (fun _ => by rfl) ?_
    simp only [Act.put, List.setIfInBounds_toArray, List.set_cons_zero, List.set_cons_succ]
    refine wpAny_ready (rs := [11]) (by kernel_rfl) (by simp) (AllReady.cons rfl (fun K hK => ?_) AllReady.nil)
    rw [if_pos (by rfl)]
    refine last_assign (.tmp 51) rfl (some 10) rfl (.slice v1 n n) rfl ?_
    refine hK _ _ ?_
    clear hK K
    simp only [Act.put, List.setIfInBounds_toArray, List.set_cons_zero, List.set_cons_succ]
    refine wpAny_ready (rs := [12]) (by kernel_rfl) (by simp) (AllReady.cons rfl (fun K hK => ?_) AllReady.nil)
    rw [if_pos (by rfl)]
    refine last_assign (.tmp 52) rfl (some 11) rfl (.int .i64 c) rfl ?_
    refine hK _ _ ?_
    clear hK K
    simp only [Act.put, List.setIfInBounds_toArray, List.set_cons_zero, List.set_cons_succ]
    refine wpAny_done (by kernel_rfl) (NoPanic.normal ?_) _
    obtain ⟨w9, rfl⟩ : ∃ q, q = wx := ⟨_, rfl⟩
    have S9 : Hid (St w w9 q gi gs gx wo n E prk info so sn sc salt xo xn xc sec io im ic info N ∧ Own2 w8.heap.size w9 v1 n E ∧ w8.heap.size ≤ w9.heap.size) := ⟨S8.out.later hb, Ov1, hb.size⟩
    clear hb Ov1
    go_wp2
    refine region_invP 9 ((.val (.agg (u8s prk).toArray)) :: (.val (.slice (some ⟨gi, 0, none⟩) (im + 64) ci)) :: (.val (.pointer (some ⟨w.heap.size, 2, none⟩))) :: (.val (.slice io im ic)) :: (.val (.int .i64 (im : Int))) :: (.val (.slice (some ⟨gi, 0, none⟩) im ci)) :: (.val (.int .i64 N)) :: (.any (isEx w9.heap.size n c E) (isEx_later _ _ _ _)) :: (.any (isEx w9.heap.size n c E) (isEx_later _ _ _ _)) :: []) (by kernel_rfl) (by kernel_rfl) (by kernel_rfl) [] ⟨.inl rfl, .inl rfl, .inl rfl, .inl rfl, .inl rfl, .inl rfl, .inl rfl, .inl rfl, .inl rfl, trivial⟩ (by kernel_rfl) ?_ ?_
    · refine Steps'.cons ?_ (Steps'.cons ?_ (Steps'.cons ?_ (Steps'.cons ?_ (Steps'.cons ?_ (Steps'.cons ?_ (Steps'.cons ?_ (Steps'.cons ?_ (Steps'.cons ?_ (Steps'.one _ _ _ _ _ _ _)))))))))
      · intro ax wx hb hs hd
        have h5 : ax.tmps.getD 5 undef = (.pointer (some ⟨q, 0, none⟩)) := hs 5 (by kernel_rfl)
        exact Does.load 28 (.tmp 5) rfl q 0 h5 (u8s prk) _ (blk_all (S9.out.1.later hb).pk) Tryd.underlying28 rfl u2
      · intro ax wx hb hs hd
        have h7 : ax.tmps.getD 7 undef = (.slice (some ⟨gi, 0, none⟩) (im + 64) ci) := hs 7 (by kernel_rfl)
        refine Does.value (.slice (some ⟨gi, 0, none⟩) (im + 64) ci) ?_ rfl
        clear hs hd
        go_simp
      · intro ax wx hb hs hd
        have h1 : ax.tmps.getD 1 undef = (.pointer (some ⟨w.heap.size, 0, none⟩)) := hs 1 (by kernel_rfl)
        refine Does.value (.pointer (some ⟨w.heap.size, 2, none⟩)) ?_ rfl
        clear hs hd
        go_simp
      · intro ax wx hb hs hd
        have h56 : ax.tmps.getD 56 undef = (.pointer (some ⟨w.heap.size, 2, none⟩)) := hd 2 56 rfl (by kernel_rfl) (by decide)
        have hc2 : wx.cell? ⟨w.heap.size, 2, none⟩ = some (.slice io im ic) := (S9.out.1.later hb).dr.cell 2
        refine Does.value (.slice io im ic) ?_ rfl
        clear hs hd
        go_simp
      · intro ax wx hb hs hd
        have h57 : ax.tmps.getD 57 undef = (.slice io im ic) := hd 3 57 rfl (by kernel_rfl) (by decide)
        refine Does.value (.int .i64 (im : Int)) ?_ rfl
        clear hs hd
        go_simp
      · intro ax wx hb hs hd
        have h55 : ax.tmps.getD 55 undef = (.slice (some ⟨gi, 0, none⟩) (im + 64) ci) := hd 1 55 rfl (by kernel_rfl) (by decide)
        have h58 : ax.tmps.getD 58 undef = (.int .i64 (im : Int)) := hd 4 58 rfl (by kernel_rfl) (by decide)
        have hsl := sl_lent gi (im + 64) ci im (by omega) wx
        refine Does.value (.slice (some ⟨gi, 0, none⟩) im ci) ?_ rfl
        clear hs hd
        go_simp
      · intro ax wx hb hs hd
        have h3 : ax.tmps.getD 3 undef = (.int .i64 N) := hs 3 (by kernel_rfl)
        refine Does.value (.int .i64 N) ?_ rfl
        clear hs hd
        go_simp
      · intro ax wx hb hs hd
        have h54 : ax.tmps.getD 54 undef = (.agg (u8s prk).toArray) := hd 0 54 rfl (by kernel_rfl) (by decide)
        have h59 : ax.tmps.getD 59 undef = (.slice (some ⟨gi, 0, none⟩) im ci) := hd 5 59 rfl (by kernel_rfl) (by decide)
        have h60 : ax.tmps.getD 60 undef = (.int .i64 N) := hd 6 60 rfl (by kernel_rfl) (by decide)
        refine Does.call 25 #[(.agg (u8s prk).toArray), (.slice (some ⟨gi, 0, none⟩) im ci), .int .i64 N] (by clear hs hd; go_simp) ?_
        have sI := Seen.lent ((S9.out.1.later hb).ri) S9.out.1.d.fi
        refine (ex_out prk HM.out.2.2.2.1 HM.out.2.2.2.2 _ im ci info N wx sI (by omega) ((S9.out.1.later hb).k)).mono ?_
        rintro e w9 ⟨v, rfl, ⟨vo, rfl, O⟩, l9⟩
        rw [HM.out.1, HE.out.1] at O
        rw [HM.out.1, HM.out.2.1]
        exact ⟨_, rfl, ⟨vo, rfl, O.up hb.size⟩, l9⟩
      · intro ax wx hb hs hd
        have p61 : isEx w9.heap.size n c E (ax.tmps.getD 61 undef) wx := hd 7 61 rfl (by kernel_rfl) (by decide)
        exact Does.value (ax.tmps.getD 61 undef) (by clear hs hd; go_simp) p61
    · intro wx hb
      refine @EndsP.val _ _ _ _ _ _ _ _ (.agg (u8s prk).toArray) rfl ?_
      refine @EndsP.val _ _ _ _ _ _ _ _ (.slice (some ⟨gi, 0, none⟩) (im + 64) ci) rfl ?_
      refine @EndsP.val _ _ _ _ _ _ _ _ (.pointer (some ⟨w.heap.size, 2, none⟩)) rfl ?_
      refine @EndsP.val _ _ _ _ _ _ _ _ (.slice io im ic) rfl ?_
      refine @EndsP.val _ _ _ _ _ _ _ _ (.int .i64 (im : Int)) rfl ?_
      refine @EndsP.val _ _ _ _ _ _ _ _ (.slice (some ⟨gi, 0, none⟩) im ci) rfl ?_
      refine @EndsP.val _ _ _ _ _ _ _ _ (.int .i64 N) rfl ?_
      refine @EndsP.any _ _ _ _ _ _ _ _ (isEx w9.heap.size n c E) (isEx_later _ _ _ _) rfl ?_
      intro v7 p7
      refine @EndsP.any _ _ _ _ _ _ _ _ (isEx w9.heap.size n c E) (isEx_later _ _ _ _) rfl ?_
      intro v8 p8
      intro hD nf hn
      obtain ⟨v2, rfl, Ov2⟩ := p8
      clear p7
      obtain ⟨mf, rfl⟩ : ∃ mf, nf = mf + 4 := ⟨nf - 4, by have h3 : 4 ≤ nf := hn; omega⟩
      clear hD hn
      simp only [Act.put, List.setIfInBounds_toArray, List.set_cons_zero, List.set_cons_succ]
      refine take_op 9 (some 62) (.slice v2 n n) rfl rfl (by kernel_rfl) (by kernel_rfl) (by kernel_rfl) (fun _ _ _ h => h) (by rfl) (fun _ => by rfl) ?_
      refine take_op 10 (some 63) (.int .i64 c) rfl rfl (by kernel_rfl) (by kernel_rfl) (by kernel_rfl) (fun _ _ _ h => h) (by rfl) (fun _ => by rfl) ?_
      simp only [Act.put, List.setIfInBounds_toArray, List.set_cons_zero, List.set_cons_succ]
      refine wpAny_ready (rs := [11]) (by kernel_rfl) (by simp) (AllReady.cons rfl (fun K hK => ?_) AllReady.nil)
      rw [if_pos (by rfl)]
      refine last_assign (.tmp 62) rfl (some 12) rfl (.slice v2 n n) rfl ?_
      refine hK _ _ ?_
      clear hK K
      simp only [Act.put, List.setIfInBounds_toArray, List.set_cons_zero, List.set_cons_succ]
      refine wpAny_ready (rs := [12]) (by kernel_rfl) (by simp) (AllReady.cons rfl (fun K hK => ?_) AllReady.nil)
      rw [if_pos (by rfl)]
      refine last_assign (.tmp 63) rfl (some 13) rfl (.int .i64 c) rfl ?_
      refine hK _ _ ?_
      clear hK K
      simp only [Act.put, List.setIfInBounds_toArray, List.set_cons_zero, List.set_cons_succ]
      refine wpAny_done (by kernel_rfl) (NoPanic.normal ?_) _
      obtain ⟨w10, rfl⟩ : ∃ q, q = wx := ⟨_, rfl⟩
      have S10 : Hid (St w w10 q gi gs gx wo n E prk info so sn sc salt xo xn xc sec io im ic info N ∧ Own2 w8.heap.size w10 v1 n E ∧ Own2 w9.heap.size w10 v2 n E ∧ w9.heap.size ≤ w10.heap.size) := ⟨S9.out.1.later hb, S9.out.2.1.later hb, Ov2, hb.size⟩
      clear hb Ov2
      go_wp2
      refine region_invP 18 ((.val (.slice (some ⟨gs, 0, none⟩) (sn + 64) cs)) :: (.val (.pointer (some ⟨w.heap.size, 0, none⟩))) :: (.val (.slice so sn sc)) :: (.val (.int .i64 (sn : Int))) :: (.val (.slice (some ⟨gs, 0, none⟩) sn cs)) :: (.val (.slice (some ⟨gx, 0, none⟩) (xn + 64) cx)) :: (.val (.pointer (some ⟨w.heap.size, 1, none⟩))) :: (.val (.slice xo xn xc)) :: (.val (.int .i64 (xn : Int))) :: (.val (.slice (some ⟨gx, 0, none⟩) xn cx)) :: (.val (.slice (some ⟨gi, 0, none⟩) (im + 64) ci)) :: (.val (.pointer (some ⟨w.heap.size, 2, none⟩))) :: (.val (.slice io im ic)) :: (.val (.int .i64 (im : Int))) :: (.val (.slice (some ⟨gi, 0, none⟩) im ci)) :: (.val (.int .i64 N)) :: (.any (isEx w10.heap.size n c E) (isEx_later _ _ _ _)) :: (.any (isEx w10.heap.size n c E) (isEx_later _ _ _ _)) :: []) (by kernel_rfl) (by kernel_rfl) (by kernel_rfl) [] ⟨.inl rfl, .inl rfl, .inl rfl, .inl rfl, .inl rfl, .inl rfl, .inl rfl, .inl rfl, .inl rfl, .inl rfl, .inl rfl, .inl rfl, .inl rfl, .inl rfl, .inl rfl, .inl rfl, .inl rfl, .inl rfl, trivial⟩ (by kernel_rfl) ?_ ?_
      · refine Steps'.cons ?_ (Steps'.cons ?_ (Steps'.cons ?_ (Steps'.cons ?_ (Steps'.cons ?_ (Steps'.cons ?_ (Steps'.cons ?_ (Steps'.cons ?_ (Steps'.cons ?_ (Steps'.cons ?_ (Steps'.cons ?_ (Steps'.cons ?_ (Steps'.cons ?_ (Steps'.cons ?_ (Steps'.cons ?_ (Steps'.cons ?_ (Steps'.cons ?_ (Steps'.cons ?_ (Steps'.one _ _ _ _ _ _ _))))))))))))))))))
        · intro ax wx hb hs hd
          have h8 : ax.tmps.getD 8 undef = (.slice (some ⟨gs, 0, none⟩) (sn + 64) cs) := hs 8 (by kernel_rfl)
          refine Does.value (.slice (some ⟨gs, 0, none⟩) (sn + 64) cs) ?_ rfl
          clear hs hd
          go_simp
        · intro ax wx hb hs hd
          have h1 : ax.tmps.getD 1 undef = (.pointer (some ⟨w.heap.size, 0, none⟩)) := hs 1 (by kernel_rfl)
          refine Does.value (.pointer (some ⟨w.heap.size, 0, none⟩)) ?_ rfl
          clear hs hd
          go_simp
        · intro ax wx hb hs hd
          have h66 : ax.tmps.getD 66 undef = (.pointer (some ⟨w.heap.size, 0, none⟩)) := hd 1 66 rfl (by kernel_rfl) (by decide)
          have hc2 : wx.cell? ⟨w.heap.size, 0, none⟩ = some (.slice so sn sc) := (S10.out.1.later hb).dr.cell 0
          refine Does.value (.slice so sn sc) ?_ rfl
          clear hs hd
          go_simp
        · intro ax wx hb hs hd
          have h67 : ax.tmps.getD 67 undef = (.slice so sn sc) := hd 2 67 rfl (by kernel_rfl) (by decide)
          refine Does.value (.int .i64 (sn : Int)) ?_ rfl
          clear hs hd
          go_simp
        · intro ax wx hb hs hd
          have h65 : ax.tmps.getD 65 undef = (.slice (some ⟨gs, 0, none⟩) (sn + 64) cs) := hd 0 65 rfl (by kernel_rfl) (by decide)
          have h68 : ax.tmps.getD 68 undef = (.int .i64 (sn : Int)) := hd 3 68 rfl (by kernel_rfl) (by decide)
          have hsl := sl_lent gs (sn + 64) cs sn (by omega) wx
          refine Does.value (.slice (some ⟨gs, 0, none⟩) sn cs) ?_ rfl
          clear hs hd
          go_simp
        · intro ax wx hb hs hd
          have h9 : ax.tmps.getD 9 undef = (.slice (some ⟨gx, 0, none⟩) (xn + 64) cx) := hs 9 (by kernel_rfl)
          refine Does.value (.slice (some ⟨gx, 0, none⟩) (xn + 64) cx) ?_ rfl
          clear hs hd
          go_simp
        · intro ax wx hb hs hd
          have h1 : ax.tmps.getD 1 undef = (.pointer (some ⟨w.heap.size, 0, none⟩)) := hs 1 (by kernel_rfl)
          refine Does.value (.pointer (some ⟨w.heap.size, 1, none⟩)) ?_ rfl
          clear hs hd
          go_simp
        · intro ax wx hb hs hd
          have h71 : ax.tmps.getD 71 undef = (.pointer (some ⟨w.heap.size, 1, none⟩)) := hd 6 71 rfl (by kernel_rfl) (by decide)
          have hc2 : wx.cell? ⟨w.heap.size, 1, none⟩ = some (.slice xo xn xc) := (S10.out.1.later hb).dr.cell 1
          refine Does.value (.slice xo xn xc) ?_ rfl
          clear hs hd
          go_simp
        · intro ax wx hb hs hd
          have h72 : ax.tmps.getD 72 undef = (.slice xo xn xc) := hd 7 72 rfl (by kernel_rfl) (by decide)
          refine Does.value (.int .i64 (xn : Int)) ?_ rfl
          clear hs hd
          go_simp
        · intro ax wx hb hs hd
          have h70 : ax.tmps.getD 70 undef = (.slice (some ⟨gx, 0, none⟩) (xn + 64) cx) := hd 5 70 rfl (by kernel_rfl) (by decide)
          have h73 : ax.tmps.getD 73 undef = (.int .i64 (xn : Int)) := hd 8 73 rfl (by kernel_rfl) (by decide)
          have hsl := sl_lent gx (xn + 64) cx xn (by omega) wx
          refine Does.value (.slice (some ⟨gx, 0, none⟩) xn cx) ?_ rfl
          clear hs hd
          go_simp
        · intro ax wx hb hs hd
          have h7 : ax.tmps.getD 7 undef = (.slice (some ⟨gi, 0, none⟩) (im + 64) ci) := hs 7 (by kernel_rfl)
          refine Does.value (.slice (some ⟨gi, 0, none⟩) (im + 64) ci) ?_ rfl
          clear hs hd
          go_simp
        · intro ax wx hb hs hd
          have h1 : ax.tmps.getD 1 undef = (.pointer (some ⟨w.heap.size, 0, none⟩)) := hs 1 (by kernel_rfl)
          refine Does.value (.pointer (some ⟨w.heap.size, 2, none⟩)) ?_ rfl
          clear hs hd
          go_simp
        · intro ax wx hb hs hd
          have h76 : ax.tmps.getD 76 undef = (.pointer (some ⟨w.heap.size, 2, none⟩)) := hd 11 76 rfl (by kernel_rfl) (by decide)
          have hc2 : wx.cell? ⟨w.heap.size, 2, none⟩ = some (.slice io im ic) := (S10.out.1.later hb).dr.cell 2
          refine Does.value (.slice io im ic) ?_ rfl
          clear hs hd
          go_simp
        · intro ax wx hb hs hd
          have h77 : ax.tmps.getD 77 undef = (.slice io im ic) := hd 12 77 rfl (by kernel_rfl) (by decide)
          refine Does.value (.int .i64 (im : Int)) ?_ rfl
          clear hs hd
          go_simp
        · intro ax wx hb hs hd
          have h75 : ax.tmps.getD 75 undef = (.slice (some ⟨gi, 0, none⟩) (im + 64) ci) := hd 10 75 rfl (by kernel_rfl) (by decide)
          have h78 : ax.tmps.getD 78 undef = (.int .i64 (im : Int)) := hd 13 78 rfl (by kernel_rfl) (by decide)
          have hsl := sl_lent gi (im + 64) ci im (by omega) wx
          refine Does.value (.slice (some ⟨gi, 0, none⟩) im ci) ?_ rfl
          clear hs hd
          go_simp
        · intro ax wx hb hs hd
          have h3 : ax.tmps.getD 3 undef = (.int .i64 N) := hs 3 (by kernel_rfl)
          refine Does.value (.int .i64 N) ?_ rfl
          clear hs hd
          go_simp
        · intro ax wx hb hs hd
          have h69 : ax.tmps.getD 69 undef = (.slice (some ⟨gs, 0, none⟩) sn cs) := hd 4 69 rfl (by kernel_rfl) (by decide)
          have h74 : ax.tmps.getD 74 undef = (.slice (some ⟨gx, 0, none⟩) xn cx) := hd 9 74 rfl (by kernel_rfl) (by decide)
          have h79 : ax.tmps.getD 79 undef = (.slice (some ⟨gi, 0, none⟩) im ci) := hd 14 79 rfl (by kernel_rfl) (by decide)
          have h80 : ax.tmps.getD 80 undef = (.int .i64 N) := hd 15 80 rfl (by kernel_rfl) (by decide)
          refine Does.call 26 #[(.slice (some ⟨gs, 0, none⟩) sn cs), (.slice (some ⟨gx, 0, none⟩) xn cx), (.slice (some ⟨gi, 0, none⟩) im ci), .int .i64 N] (by clear hs hd; go_simp) ?_
          have q1 := Seen.lent (S10.out.1.later hb).rs S10.out.1.d.fs
          have q2 := Seen.lent (S10.out.1.later hb).rx S10.out.1.d.fx
          have q3 := Seen.lent (S10.out.1.later hb).ri S10.out.1.d.fi
          refine (de_out _ sn cs salt _ xn cx sec _ im ci info N wx q1 (by omega) q2 (by omega) q3 (by omega) (S10.out.1.later hb).k).mono ?_
          rintro e w9 ⟨v, rfl, ⟨vo, rfl, O⟩, l9⟩
          rw [HM.out.1, HM.out.2.2.1, HE.out.1] at O
          rw [HM.out.1, HM.out.2.1]
          exact ⟨_, rfl, ⟨vo, rfl, O.up hb.size⟩, l9⟩
        · intro ax wx hb hs hd
          have p81 : isEx w10.heap.size n c E (ax.tmps.getD 81 undef) wx := hd 16 81 rfl (by kernel_rfl) (by decide)
          exact Does.value (ax.tmps.getD 81 undef) (by clear hs hd; go_simp) p81
      · intro wx hb
        refine @EndsP.val _ _ _ _ _ _ _ _ (.slice (some ⟨gs, 0, none⟩) (sn + 64) cs) rfl ?_
        refine @EndsP.val _ _ _ _ _ _ _ _ (.pointer (some ⟨w.heap.size, 0, none⟩)) rfl ?_
        refine @EndsP.val _ _ _ _ _ _ _ _ (.slice so sn sc) rfl ?_
        refine @EndsP.val _ _ _ _ _ _ _ _ (.int .i64 (sn : Int)) rfl ?_
        refine @EndsP.val _ _ _ _ _ _ _ _ (.slice (some ⟨gs, 0, none⟩) sn cs) rfl ?_
        refine @EndsP.val _ _ _ _ _ _ _ _ (.slice (some ⟨gx, 0, none⟩) (xn + 64) cx) rfl ?_
        refine @EndsP.val _ _ _ _ _ _ _ _ (.pointer (some ⟨w.heap.size, 1, none⟩)) rfl ?_
        refine @EndsP.val _ _ _ _ _ _ _ _ (.slice xo xn xc) rfl ?_
        refine @EndsP.val _ _ _ _ _ _ _ _ (.int .i64 (xn : Int)) rfl ?_
        refine @EndsP.val _ _ _ _ _ _ _ _ (.slice (some ⟨gx, 0, none⟩) xn cx) rfl ?_
        refine @EndsP.val _ _ _ _ _ _ _ _ (.slice (some ⟨gi, 0, none⟩) (im + 64) ci) rfl ?_
        refine @EndsP.val _ _ _ _ _ _ _ _ (.pointer (some ⟨w.heap.size, 2, none⟩)) rfl ?_
        refine @EndsP.val _ _ _ _ _ _ _ _ (.slice io im ic) rfl ?_
        refine @EndsP.val _ _ _ _ _ _ _ _ (.int .i64 (im : Int)) rfl ?_
        refine @EndsP.val _ _ _ _ _ _ _ _ (.slice (some ⟨gi, 0, none⟩) im ci) rfl ?_
        refine @EndsP.val _ _ _ _ _ _ _ _ (.int .i64 N) rfl ?_
        refine @EndsP.any _ _ _ _ _ _ _ _ (isEx w10.heap.size n c E) (isEx_later _ _ _ _) rfl ?_
        intro v16 p16
        refine @EndsP.any _ _ _ _ _ _ _ _ (isEx w10.heap.size n c E) (isEx_later _ _ _ _) rfl ?_
        intro v17 p17
        intro hD nf hn
        obtain ⟨v3, rfl, Ov3⟩ := p17
        clear p16
        obtain ⟨mf, rfl⟩ : ∃ mf, nf = mf + 4 := ⟨nf - 4, by have h3 : 4 ≤ nf := hn; omega⟩
        clear hD hn
        simp only [Act.put, List.setIfInBounds_toArray, List.set_cons_zero, List.set_cons_succ]
        refine take_op 18 (some 82) (.slice v3 n n) rfl rfl (by kernel_rfl) (by kernel_rfl) (by kernel_rfl) (fun _ _ _ h => h) (by rfl) (fun _ => by rfl) ?_
        refine take_op 19 (some 83) (.int .i64 c) rfl rfl (by kernel_rfl) (by kernel_rfl) (by kernel_rfl) (fun _ _ _ h => h) (by rfl) (fun _ => by rfl) ?_
        simp only [Act.put, List.setIfInBounds_toArray, List.set_cons_zero, List.set_cons_succ]
        refine wpAny_ready (rs := [20]) (by kernel_rfl) (by simp) (AllReady.cons rfl (fun K hK => ?_) AllReady.nil)
        rw [if_pos (by rfl)]
        refine last_assign (.tmp 82) rfl (some 14) rfl (.slice v3 n n) rfl ?_
        refine hK _ _ ?_
        clear hK K
        simp only [Act.put, List.setIfInBounds_toArray, List.set_cons_zero, List.set_cons_succ]
        refine wpAny_ready (rs := [21]) (by kernel_rfl) (by simp) (AllReady.cons rfl (fun K hK => ?_) AllReady.nil)
        rw [if_pos (by rfl)]
        refine last_assign (.tmp 83) rfl (some 15) rfl (.int .i64 c) rfl ?_
        refine hK _ _ ?_
        clear hK K
        simp only [Act.put, List.setIfInBounds_toArray, List.set_cons_zero, List.set_cons_succ]
        refine wpAny_done (by kernel_rfl) (NoPanic.normal ?_) _
        obtain ⟨w11, rfl⟩ : ∃ q, q = wx := ⟨_, rfl⟩
        have S11 : Hid (St w w11 q gi gs gx wo n E prk info so sn sc salt xo xn xc sec io im ic info N ∧ Own2 w8.heap.size w11 v1 n E ∧ Own2 w9.heap.size w11 v2 n E ∧ Own2 w10.heap.size w11 v3 n E ∧ w8.heap.size ≤ w9.heap.size ∧ w9.heap.size ≤ w10.heap.size ∧ (∀ R, v1 = some ⟨R, 0, none⟩ → R < w9.heap.size) ∧ (∀ R, v2 = some ⟨R, 0, none⟩ → R < w10.heap.size) ∧ w10.heap.size ≤ w11.heap.size) := ⟨S10.out.1.later hb, S10.out.2.1.later hb, S10.out.2.2.1.later hb, Ov3, S9.out.2.2, S10.out.2.2.2, S9.out.2.1.lt, S10.out.2.2.1.lt, hb.size⟩
        clear hb Ov3
        have hT : n ≤ 140737488355328 := by omega
        go_wp2_with (first | ((with_reducible show Calls _ _ _ w11 _); go_at_call 16; refine (rsame_low v1 wo n n wc E w11 (S11.out.2.1.seen HE.out.2.2.1 hT) S11.out.1.wt).mono ?_; rintro e w12 ⟨rfl, l12⟩; have T12 := S11.out.1.later l12) | ((with_reducible show Calls _ _ _ w12 _); go_at_call 16; refine (rsame_low v2 wo n n wc E w12 ((S11.out.2.2.1.later l12).seen HE.out.2.2.1 hT) T12.wt).mono ?_; rintro e w13 ⟨rfl, l13⟩; have T13 := T12.later l13) | ((with_reducible show Calls _ _ _ w13 _); go_at_call 16; refine (rsame_low v3 wo n n wc E w13 (((S11.out.2.2.2.1.later l12).later l13).seen HE.out.2.2.1 hT) T13.wt).mono ?_; rintro e w14 ⟨rfl, l14⟩; have T14 := T13.later l14; have e0 : w14.cell? ⟨w.heap.size, 0, none⟩ = some (.slice so sn sc) := T14.dr.cell 0; have e1 : w14.cell? ⟨w.heap.size, 1, none⟩ = some (.slice xo xn xc) := T14.dr.cell 1; have e2 : w14.cell? ⟨w.heap.size, 2, none⟩ = some (.slice io im ic) := T14.dr.cell 2; have e3 : w14.cell? ⟨w.heap.size, 3, none⟩ = some (.int .i64 N) := T14.dr.cell 3) | ((with_reducible show Calls _ _ _ w14 _); go_at_call 15; refine (rkept_yes gi (im + 64) ci io im ic info w14 T14.ri T14.d.fi (by omega) rfl).mono ?_; rintro e w15 ⟨rfl, l15⟩; have T15 := T14.later l15; have e0 : w15.cell? ⟨w.heap.size, 0, none⟩ = some (.slice so sn sc) := T15.dr.cell 0; have e1 : w15.cell? ⟨w.heap.size, 1, none⟩ = some (.slice xo xn xc) := T15.dr.cell 1; have e2 : w15.cell? ⟨w.heap.size, 2, none⟩ = some (.slice io im ic) := T15.dr.cell 2; have e3 : w15.cell? ⟨w.heap.size, 3, none⟩ = some (.int .i64 N) := T15.dr.cell 3) | ((with_reducible show Calls _ _ _ w15 _); go_at_call 15; refine (rkept_yes gs (sn + 64) cs so sn sc salt w15 T15.rs T15.d.fs (by omega) rfl).mono ?_; rintro e w16 ⟨rfl, l16⟩; have T16 := T15.later l16; have e0 : w16.cell? ⟨w.heap.size, 0, none⟩ = some (.slice so sn sc) := T16.dr.cell 0; have e1 : w16.cell? ⟨w.heap.size, 1, none⟩ = some (.slice xo xn xc) := T16.dr.cell 1; have e2 : w16.cell? ⟨w.heap.size, 2, none⟩ = some (.slice io im ic) := T16.dr.cell 2; have e3 : w16.cell? ⟨w.heap.size, 3, none⟩ = some (.int .i64 N) := T16.dr.cell 3) | ((with_reducible show Calls _ _ _ w16 _); go_at_call 15; refine (rkept_yes gx (xn + 64) cx xo xn xc sec w16 T16.rx T16.d.fx (by omega) rfl).mono ?_; rintro e w17 ⟨rfl, l17⟩; have T17 := T16.later l17))
        have S17 : Hid (St w w17 q gi gs gx wo n E prk info so sn sc salt xo xn xc sec io im ic info N ∧ Own2 w8.heap.size w17 v1 n E ∧ Own2 w9.heap.size w17 v2 n E ∧ Own2 w10.heap.size w17 v3 n E ∧ w11.heap.size ≤ w17.heap.size) := ⟨T17, (((((S11.out.2.1.later l12).later l13).later l14).later l15).later l16).later l17, (((((S11.out.2.2.1.later l12).later l13).later l14).later l15).later l16).later l17, (((((S11.out.2.2.2.1.later l12).later l13).later l14).later l15).later l16).later l17, by have := l12.size; have := l13.size; have := l14.size; have := l15.size; have := l16.size; have := l17.size; omega⟩
        clear T12 T13 T14 T15 T16 T17 l12 l13 l14 l15 l16 l17 e0 e1 e2 e3
        have HL : Hid (∀ wr, Kept (fun b => b = gi) w17 wr → wr.cell? ⟨w.heap.size, 2, none⟩ = some (.slice io im ic)) := fun wr k => (S17.out.1.dr.kept k (by omega)).cell 2
        go_loopw [16] (fun i wr => ∃ k : Nat, k ≤ im ∧ i = .int .i64 k ∧ RowAt wr gi (mixT info k ++ marks) ∧ Kept (fun b => b = gi) w17 wr) (fun i _ => im - (intOf i).toNat)
        case atStart => exact ⟨0, Nat.zero_le _, rfl, by rw [mixT_zero]; exact S17.out.1.ri, Kept.refl _ _⟩
        case round =>
          obtain ⟨k, hk, rfl, hr, hkp⟩ := hrel
          have e2 := HL.out _ hkp
          by_cases hlt : k < im
          · have cR := hr.cell k (by rw [List.length_append, mixT_length _ _ (by have := HE.out.2.2.2.2; omega)]; have := HE.out.2.2.2.2; omega)
            rw [mixT_at _ _ (by have := HE.out.2.2.2.2; omega)] at cR
            have fR := hr.frozen k
            have hR := hr.set k (by rw [List.length_append, mixT_length _ _ (by have := HE.out.2.2.2.2; omega)]; have := HE.out.2.2.2.2; omega) (bits .xor .u8 (info.getD k 0) 68)
            rw [mixT_set _ _ (by have := HE.out.2.2.2.2; omega)] at hR
            obtain ⟨y, hy⟩ : ∃ y, info.getD k 0 = y := ⟨_, rfl⟩
            rw [hy] at cR hR
            have HR : Hid (RowAt (wr.setCell ⟨gi, k, none⟩ (.int .u8 (bits .xor .u8 y 68))) gi (mixT info (k + 1) ++ marks) ∧ Kept (fun b => b = gi) w17 (wr.setCell ⟨gi, k, none⟩ (.int .u8 (bits .xor .u8 y 68)))) := ⟨hR, hkp.setCell rfl _⟩
            have i1 : (0 : Int) ≤ (k : Int) := by omega
            have i2 : (k : Int) < (im : Int) + 64 := by omega
            have i3 : (k : Int) < (im : Int) := by omega
            clear hr hkp hR hy
            go_wp2
            exact ⟨⟨k + 1, by omega, by go_num, HR.out.1, HR.out.2⟩, by simp [intOf]; omega⟩
          · obtain rfl : k = im := by omega
            have S18 : Hid (St w wr q gi gs gx wo n E prk (turn 68 info) so sn sc salt xo xn xc sec io k ic info N ∧ Own2 w8.heap.size wr v1 n E ∧ Own2 w9.heap.size wr v2 n E ∧ Own2 w10.heap.size wr v3 n E ∧ w17.heap.size ≤ wr.heap.size) := by
              have bl : Below w.heap.size w wr := below_kept S17.out.1.bel hkp (by have := S17.out.1.bel.size; omega) (fun j hj => by omega)
              have zz := S11.out.2.2.2.2
              refine ⟨⟨S17.out.1.dr.kept hkp (by omega), S17.out.1.pk.kept hkp (by omega), S17.out.1.wt.kept hkp (fun b o h0 e h => by have := yw.out b o h0 e; omega), ?_, S17.out.1.rs.kept hkp (by omega), S17.out.1.rx.kept hkp (by omega), HX.out.1.later bl, HX.out.2.below bl HX.out.2.lt, bl⟩, S17.out.2.1.kept hkp (fun b hb h => by omega), S17.out.2.2.1.kept hkp (fun b hb h => by omega), S17.out.2.2.2.1.kept hkp (fun b hb h => by omega), hkp.size⟩
              rw [← HE.out.2.2.2.2, mixT_all] at hr
              exact hr
            clear hr hkp
            have hsl := fun W => sl_lent gi (k + 64) ci k (by omega) W
            have hB2 : Hid (Bytes (turn 68 info) ∧ (turn 68 info).length = k) := ⟨turn_bytes _ _, by rw [turn_length]; exact HE.out.2.2.2.2⟩
            have sT : Hid (Seen wr (some ⟨gi, 0, none⟩) k (turn 68 info)) := by
              have h1 := S18.out.1.ri.take k
              rw [List.take_append_of_le_length (by rw [hB2.out.2]; exact Nat.le_refl _), List.take_of_length_le (by rw [hB2.out.2]; exact Nat.le_refl _)] at h1
              have h2 := Seen.of_row (n := k) h1 (by rw [hB2.out.2]; exact Nat.le_refl _) (by omega) hB2.out.1
              rwa [List.take_of_length_le (by rw [hB2.out.2]; exact Nat.le_refl _)] at h2
            obtain ⟨w18, rfl⟩ : ∃ q, q = wr := ⟨_, rfl⟩
            go_wp2_with (go_at_call 27; refine (twin_any _ k ci (turn 68 info) w18 sT.out).mono ?_; rintro e w19 ⟨vt, rfl, ot, l19⟩)
            rw [← hB2.out.2] at ot
            obtain ⟨to, tc, rfl, st, htc, ht0, hta, _⟩ := own_data hB2.out.1 (by rw [hB2.out.2]; omega) ot
            rw [hB2.out.2] at st htc ⊢
            have S19 : Hid (St w w19 q gi gs gx wo n E prk (turn 68 info) so sn sc salt xo xn xc sec io k ic info N ∧ Own2 w8.heap.size w19 v1 n E ∧ Own2 w9.heap.size w19 v2 n E ∧ Own2 w10.heap.size w19 v3 n E ∧ Seen w19 to k (turn 68 info) ∧ (to = none → tc = 0) ∧ (∀ b o, to = some ⟨b, o, none⟩ → w18.heap.size ≤ b ∧ b < w19.heap.size)) := ⟨S18.out.1.later l19, S18.out.2.1.later l19, S18.out.2.2.1.later l19, S18.out.2.2.2.1.later l19, st, ht0, fun b o e => ⟨(hta b o e).1, (hta b o e).2.1⟩⟩
            have LE19 : Hid (w18.heap.size ≤ w19.heap.size) := l19.size
            clear st ot l19 hta ht0 hsl
            go_wp2
            refine region_invP 9 ((.val (.agg (u8s prk).toArray)) :: (.val (.slice (some ⟨gi, 0, none⟩) (k + 64) ci)) :: (.val (.pointer (some ⟨w.heap.size, 2, none⟩))) :: (.val (.slice io k ic)) :: (.val (.int .i64 (k : Int))) :: (.val (.slice (some ⟨gi, 0, none⟩) k ci)) :: (.val (.int .i64 N)) :: (.any (isEx w19.heap.size n c E2) (isEx_later _ _ _ _)) :: (.any (isEx w19.heap.size n c E2) (isEx_later _ _ _ _)) :: []) (by kernel_rfl) (by kernel_rfl) (by kernel_rfl) [] ⟨.inl rfl, .inl rfl, .inl rfl, .inl rfl, .inl rfl, .inl rfl, .inl rfl, .inl rfl, .inl rfl, trivial⟩ (by kernel_rfl) ?_ ?_
            · refine Steps'.cons ?_ (Steps'.cons ?_ (Steps'.cons ?_ (Steps'.cons ?_ (Steps'.cons ?_ (Steps'.cons ?_ (Steps'.cons ?_ (Steps'.cons ?_ (Steps'.cons ?_ (Steps'.one _ _ _ _ _ _ _)))))))))
              · intro ax wx hb hs hd
                have h5 : ax.tmps.getD 5 undef = (.pointer (some ⟨q, 0, none⟩)) := hs 5 (by kernel_rfl)
                exact Does.load 28 (.tmp 5) rfl q 0 h5 (u8s prk) _ (blk_all (S19.out.1.later hb).pk) Tryd.underlying28 rfl u2
              · intro ax wx hb hs hd
                have h7 : ax.tmps.getD 7 undef = (.slice (some ⟨gi, 0, none⟩) (k + 64) ci) := hs 7 (by kernel_rfl)
                refine Does.value (.slice (some ⟨gi, 0, none⟩) (k + 64) ci) ?_ rfl
                clear hs hd
                go_simp
              · intro ax wx hb hs hd
                have h1 : ax.tmps.getD 1 undef = (.pointer (some ⟨w.heap.size, 0, none⟩)) := hs 1 (by kernel_rfl)
                refine Does.value (.pointer (some ⟨w.heap.size, 2, none⟩)) ?_ rfl
                clear hs hd
                go_simp
              · intro ax wx hb hs hd
                have h158 : ax.tmps.getD 158 undef = (.pointer (some ⟨w.heap.size, 2, none⟩)) := hd 2 158 rfl (by kernel_rfl) (by decide)
                have hc2 : wx.cell? ⟨w.heap.size, 2, none⟩ = some (.slice io k ic) := (S19.out.1.later hb).dr.cell 2
                refine Does.value (.slice io k ic) ?_ rfl
                clear hs hd
                go_simp
              · intro ax wx hb hs hd
                have h159 : ax.tmps.getD 159 undef = (.slice io k ic) := hd 3 159 rfl (by kernel_rfl) (by decide)
                refine Does.value (.int .i64 (k : Int)) ?_ rfl
                clear hs hd
                go_simp
              · intro ax wx hb hs hd
                have h157 : ax.tmps.getD 157 undef = (.slice (some ⟨gi, 0, none⟩) (k + 64) ci) := hd 1 157 rfl (by kernel_rfl) (by decide)
                have h160 : ax.tmps.getD 160 undef = (.int .i64 (k : Int)) := hd 4 160 rfl (by kernel_rfl) (by decide)
                have hsl := sl_lent gi (k + 64) ci k (by omega) wx
                refine Does.value (.slice (some ⟨gi, 0, none⟩) k ci) ?_ rfl
                clear hs hd
                go_simp
              · intro ax wx hb hs hd
                have h3 : ax.tmps.getD 3 undef = (.int .i64 N) := hs 3 (by kernel_rfl)
                refine Does.value (.int .i64 N) ?_ rfl
                clear hs hd
                go_simp
              · intro ax wx hb hs hd
                have h156 : ax.tmps.getD 156 undef = (.agg (u8s prk).toArray) := hd 0 156 rfl (by kernel_rfl) (by decide)
                have h161 : ax.tmps.getD 161 undef = (.slice (some ⟨gi, 0, none⟩) k ci) := hd 5 161 rfl (by kernel_rfl) (by decide)
                have h162 : ax.tmps.getD 162 undef = (.int .i64 N) := hd 6 162 rfl (by kernel_rfl) (by decide)
                refine Does.call 25 #[(.agg (u8s prk).toArray), (.slice (some ⟨gi, 0, none⟩) k ci), .int .i64 N] (by clear hs hd; go_simp) ?_
                have sI := Seen.lent ((S19.out.1.later hb).ri) S19.out.2.2.2.2.1
                refine (ex_out prk HM.out.2.2.2.1 HM.out.2.2.2.2 _ k ci (turn 68 info) N wx sI (by omega) ((S19.out.1.later hb).k)).mono ?_
                rintro e w9 ⟨v, rfl, ⟨vo, rfl, O⟩, l9⟩
                rw [HM.out.1, HE.out.2.1] at O
                rw [HM.out.1, HM.out.2.1]
                exact ⟨_, rfl, ⟨vo, rfl, O.up hb.size⟩, l9⟩
              · intro ax wx hb hs hd
                have p163 : isEx w19.heap.size n c E2 (ax.tmps.getD 163 undef) wx := hd 7 163 rfl (by kernel_rfl) (by decide)
                exact Does.value (ax.tmps.getD 163 undef) (by clear hs hd; go_simp) p163
            · intro wx hb
              refine @EndsP.val _ _ _ _ _ _ _ _ (.agg (u8s prk).toArray) rfl ?_
              refine @EndsP.val _ _ _ _ _ _ _ _ (.slice (some ⟨gi, 0, none⟩) (k + 64) ci) rfl ?_
              refine @EndsP.val _ _ _ _ _ _ _ _ (.pointer (some ⟨w.heap.size, 2, none⟩)) rfl ?_
              refine @EndsP.val _ _ _ _ _ _ _ _ (.slice io k ic) rfl ?_
              refine @EndsP.val _ _ _ _ _ _ _ _ (.int .i64 (k : Int)) rfl ?_
              refine @EndsP.val _ _ _ _ _ _ _ _ (.slice (some ⟨gi, 0, none⟩) k ci) rfl ?_
              refine @EndsP.val _ _ _ _ _ _ _ _ (.int .i64 N) rfl ?_
              refine @EndsP.any _ _ _ _ _ _ _ _ (isEx w19.heap.size n c E2) (isEx_later _ _ _ _) rfl ?_
              intro v7 p7
              refine @EndsP.any _ _ _ _ _ _ _ _ (isEx w19.heap.size n c E2) (isEx_later _ _ _ _) rfl ?_
              intro v8 p8
              intro hD nf hn
              obtain ⟨v4, rfl, Ov4⟩ := p8
              clear p7
              obtain ⟨mf, rfl⟩ : ∃ mf, nf = mf + 4 := ⟨nf - 4, by have h3 : 4 ≤ nf := hn; omega⟩
              clear hD hn
              simp only [Act.put, List.setIfInBounds_toArray, List.set_cons_zero, List.set_cons_succ]
              refine take_op 9 (some 164) (.slice v4 n n) rfl rfl (by kernel_rfl) (by kernel_rfl) (by kernel_rfl) (fun _ _ _ h => h) (by rfl) (fun _ => by rfl) ?_
              refine take_op 10 (some 165) (.int .i64 c) rfl rfl (by kernel_rfl) (by kernel_rfl) (by kernel_rfl) (fun _ _ _ h => h) (by rfl) (fun _ => by rfl) ?_
              simp only [Act.put, List.setIfInBounds_toArray, List.set_cons_zero, List.set_cons_succ]
              refine wpAny_ready (rs := [11]) (by kernel_rfl) (by simp) (AllReady.cons rfl (fun K hK => ?_) AllReady.nil)
              rw [if_pos (by rfl)]
              refine last_assign (.tmp 164) rfl (some 18) rfl (.slice v4 n n) rfl ?_
              refine hK _ _ ?_
              clear hK K
              simp only [Act.put, List.setIfInBounds_toArray, List.set_cons_zero, List.set_cons_succ]
              refine wpAny_ready (rs := [12]) (by kernel_rfl) (by simp) (AllReady.cons rfl (fun K hK => ?_) AllReady.nil)
              rw [if_pos (by rfl)]
              refine last_assign (.tmp 165) rfl (some 11) rfl (.int .i64 c) rfl ?_
              refine hK _ _ ?_
              clear hK K
              simp only [Act.put, List.setIfInBounds_toArray, List.set_cons_zero, List.set_cons_succ]
              refine wpAny_done (by kernel_rfl) (NoPanic.normal ?_) _
              obtain ⟨w20, rfl⟩ : ∃ q, q = wx := ⟨_, rfl⟩
              have S20 : Hid (St w w20 q gi gs gx wo n E prk (turn 68 info) so sn sc salt xo xn xc sec io k ic info N ∧ Own2 w8.heap.size w20 v1 n E ∧ Own2 w9.heap.size w20 v2 n E ∧ Own2 w10.heap.size w20 v3 n E ∧ Own2 w19.heap.size w20 v4 n E2 ∧ Seen w20 to k (turn 68 info)) := ⟨S19.out.1.later hb, S19.out.2.1.later hb, S19.out.2.2.1.later hb, S19.out.2.2.2.1.later hb, Ov4, S19.out.2.2.2.2.1.later hb (Nat.le_refl _)⟩
              clear hb Ov4
              have Z19 : Hid (w17.heap.size ≤ w18.heap.size ∧ w11.heap.size ≤ w17.heap.size ∧ w18.heap.size ≤ w19.heap.size) := ⟨S18.out.2.2.2.2, S17.out.2.2.2.2, LE19.out⟩
              have V3 : Hid (∀ R, v3 = some ⟨R, 0, none⟩ → R < w19.heap.size) := fun R e => by have := S18.out.2.2.2.1.lt R e; have := Z19.out; omega
              have hsl := fun W => sl_lent gi (k + 64) ci k (by omega) W
              have FIN : Hid (∀ w24 w26, Below w20.heap.size w20 w24 → Kept (LotS 4 (pick4 v1 v2 v3 v4) (fun _ => n)) (w24.alloc (.cells #[.slice v1 n n, .slice v2 n n, .slice v3 n n, .slice v4 n n] 22)) w26 → w26.cell? ⟨w.heap.size, 2, none⟩ = some (.slice io k ic) ∧ Seen w26 (some ⟨gi, 0, none⟩) k (turn 68 info) ∧ Seen w26 to k (turn 68 info) ∧ KTab w26 ∧ Below w.heap.size w w26) := by
                intro w24 w26 l24 k26
                have l25 : Below w20.heap.size w20 (w24.alloc (.cells #[.slice v1 n n, .slice v2 n n, .slice v3 n n, .slice v4 n n] 22)) := l24.alloc l24.size _
                have T25 := S20.out.1.later l25
                have zz := S11.out.2.2.2.2
                have zy := Z19.out
                have LB : ∀ b, LotS 4 (pick4 v1 v2 v3 v4) (fun _ => n) b → w8.heap.size ≤ b ∧ (b < w17.heap.size ∨ w19.heap.size ≤ b) := by
                  rintro b ⟨j, hj, h0, e⟩
                  have low : ∀ {lo : Nat} {vo : Option Addr} {E : List Int}, Own2 lo w20 vo n E → vo = some ⟨b, 0, none⟩ → lo ≤ b := fun h e => by
                    rcases h with ⟨rfl, _⟩ | ⟨R, rfl, hlo, _⟩
                    · cases e
                    · cases e; exact hlo
                  obtain rfl | rfl | rfl | rfl : j = 0 ∨ j = 1 ∨ j = 2 ∨ j = 3 := by omega
                  · have := low S20.out.2.1 e; have := zz.2.2.1 b e; omega
                  · have := low S20.out.2.2.1 e; have := zz.2.2.2.1 b e; omega
                  · have := low S20.out.2.2.2.1 e; have := S17.out.2.2.2.1.lt b e; omega
                  · have := low S20.out.2.2.2.2.1 e; omega
                have bel : Below w.heap.size w w26 := below_kept T25.bel k26 (by have := T25.bel.size; omega) (fun j hj hs => by have := LB j hs; omega)
                refine ⟨(T25.dr.kept k26 (fun h => by have := LB _ h; omega)).cell 2, ?_, (S20.out.2.2.2.2.2.later l25 (Nat.le_refl _)).kept k26 (fun b o h0 e h => ?_), HX.out.2.below bel HX.out.2.lt, bel⟩
                · have h0 := T25.ri.kept k26 (fun h => by have := LB _ h; omega)
                  exact Seen.lent h0 S20.out.2.2.2.2.2
                · have h1 := LB b h
                  have h2 := S19.out.2.2.2.2.2.2 b o e
                  omega
              go_wp2_with (first | (refine wpList_load_g (by rfl) 28 _ rfl q rfl (u8s prk) _ S20.out.1.pk Tryd.underlying28 rfl u2 ?_) | ((with_reducible show Calls _ _ _ w20 _); go_at_call 24; refine (rex_out prk HM.out.2.2.2.1 HM.out.2.2.2.2 to k tc (turn 68 info) N w20 S20.out.2.2.2.2.2 S19.out.2.2.2.2.2.1 (by omega)).mono ?_; rintro e w21 ⟨yo, yc, rfl, y21, l21⟩; rw [HM.out.1] at y21 ⊢; rw [HE.out.2.1] at y21; have O21 := S20.out.2.2.2.2.1.later l21; have T21 := S20.out.1.later l21) | ((with_reducible show Calls _ _ _ w21 _); go_at_call 16; refine (rsame_low v4 yo n n yc E2 w21 (O21.seen HE.out.2.2.2.1 hT) y21).mono ?_; rintro e w22 ⟨rfl, l22⟩; have T22 := T21.later l22) | ((with_reducible show Calls _ _ _ w22 _); go_at_call 16; refine (rsame_low v1 wo n n wc E w22 (((S20.out.2.1.later l21).later l22).seen HE.out.2.2.1 hT) T22.wt).mono ?_; rintro e w23 ⟨rfl, l23⟩; have T23 := T22.later l23) | ((with_reducible show Calls _ _ _ w23 _); go_at_call 16; refine (rsame_low v2 wo n n wc E w23 ((((S20.out.2.2.1.later l21).later l22).later l23).seen HE.out.2.2.1 hT) T23.wt).mono ?_; rintro e w24 ⟨rfl, l24⟩; have T24 := T23.later l24) | (refine wpList_buildSlice rfl 23 4 _ rfl #[(0, .slice v1 n n), (1, .slice v2 n n), (2, .slice v3 n n), (3, .slice v4 n n)] (by rfl) _ _ (bs4 v1 v2 v3 v4 n _) ?_) | (go_at_call 28; refine (apart_any _ 4 4 _ _ _ _ (lot4 ((((S20.out.2.1.later l21).later l22).later l23).later l24) ((((S20.out.2.2.1.later l21).later l22).later l23).later l24) ((((S20.out.2.2.2.1.later l21).later l22).later l23).later l24) ((((S20.out.2.2.2.2.1.later l21).later l22).later l23).later l24) S11.out.2.2.2.2.2.2.1 S11.out.2.2.2.2.2.2.2.1 V3.out (by have := S11.out.2.2.2.2; omega) (by have := S11.out.2.2.2.2; omega) (by have := S11.out.2.2.2.2; have := Z19.out; omega)) (by omega) (fun j hj => by omega)).mono ?_; rintro e w26 ⟨rfl, k26⟩; have F26 := FIN.out w24 w26 (below_chain (below_chain (below_chain l21 l22 l21.size) l23 (by have := l21.size; have := l22.size; omega)) l24 (by have := l21.size; have := l22.size; have := l23.size; omega)) k26; have e2 := F26.1; have HF : Hid (Seen w26 (some ⟨gi, 0, none⟩) k (turn 68 info) ∧ Seen w26 to k (turn 68 info) ∧ KTab w26 ∧ Below w.heap.size w w26) := F26.2; clear F26) | ((with_reducible show Calls _ _ _ w26 _); go_at_call 16; refine (rsame_low (some ⟨gi, 0, none⟩) to k ci tc (turn 68 info) w26 HF.out.1 HF.out.2.1).mono ?_; rintro e w27 ⟨rfl, l27⟩) | ((with_reducible show Calls _ _ _ w27 _); go_at_call 18; refine (works_any w27 (HF.out.2.2.1.below l27 HF.out.2.2.1.lt)).mono ?_; rintro e w28 ⟨rfl, l28⟩))
              go_ret
              exact ⟨rfl, below_chain (below_chain HF.out.2.2.2 l27 HF.out.2.2.2.size) l28 (by have := l27.size; have := HF.out.2.2.2.size; omega)⟩
end Go.Proofs.YtiimjhahblmggaaDoor.deriveExpands
