/- Layer field: FieldInverse: inverses. -/
import Derived.Test.YtfeeikkfjbdkiaaFInv
import Derived.Test.YtfeeikkfjbdkiaaFLast
import Derived.Test.YtfeeikkfjbdkiaaRInvGT
namespace Go.Proofs.Ytfeeikkfjbdkiaa
open Go.RowKit
set_option linter.unusedVariables false
set_option linter.unusedSimpArgs false

set_option maxRecDepth 20000 in
set_option maxHeartbeats 8000000 in
theorem inverse1 (aa bb : List Int) (la : aa.length = 32) (ba : Bytes aa) (lb : bb.length = 32) (bbb : Bytes bb) (hx0 : le aa % 57896044618658097711785492504343953926634992332820282019728792003956564819968 % PR = 0) (hy0 : le bb % 57896044618658097711785492504343953926634992332820282019728792003956564819968 % PR = le bb % 57896044618658097711785492504343953926634992332820282019728792003956564819968 % PR) (w : World) :
    Calls Try.prog 7 #[.agg (u8s aa).toArray, .agg (u8s bb).toArray] w fun e w' => e = .returned (.bool true) ∧ Below w.heap.size w w' := by
  have hx := fof_any aa la ba
  have HA_aa : Hid ((u8s aa).length = 32) := by rw [u8s_length, la]; rfl
  obtain ⟨x, ex⟩ : ∃ q, le aa % 57896044618658097711785492504343953926634992332820282019728792003956564819968 % PR = q := ⟨_, rfl⟩
  have rx : 0 ≤ x ∧ x < PR := by rw [← ex]; exact ⟨Int.emod_nonneg _ (by decide), Int.emod_lt_of_pos _ (by decide)⟩
  rw [ex] at hx
  have HCx : Hid (∀ w, Calls Try.prog 12 #[.agg (u8s aa).toArray] w fun e w' => ∃ r, e = .returned (.agg (u64s r).toArray) ∧ Fe r x ∧ Below w.heap.size w w') := hx
  have hy := fof_any bb lb bbb
  have HA_bb : Hid ((u8s bb).length = 32) := by rw [u8s_length, lb]; rfl
  obtain ⟨y, ey⟩ : ∃ q, le bb % 57896044618658097711785492504343953926634992332820282019728792003956564819968 % PR = q := ⟨_, rfl⟩
  have ry : 0 ≤ y ∧ y < PR := by rw [← ey]; exact ⟨Int.emod_nonneg _ (by decide), Int.emod_lt_of_pos _ (by decide)⟩
  rw [ey] at hy
  have HCy : Hid (∀ w, Calls Try.prog 12 #[.agg (u8s bb).toArray] w fun e w' => ∃ r, e = .returned (.agg (u64s r).toArray) ∧ Fe r y ∧ Below w.heap.size w w') := hy
  rw [ex] at hx0
  rw [ey] at hy0
  have RR : Hid ((0 ≤ x ∧ x < PR) ∧ (0 ≤ y ∧ y < PR)) := ⟨rx, ry⟩
  have H0 : Hid (x = 0 ∧ (x * y) % PR = 0 ∧ inv x = 0) := ⟨hx0, by rw [hx0, Int.zero_mul]; rfl, by rw [hx0, inv_zero]⟩
  clear hx ex la ba hy ey lb bbb rx ry hx0 hy0
  go_enter Try.func7, Try.ntmps7
  go_wp2_with (first | (refine wpList_box_new rfl 22 (.tmp 0) rfl (u8s aa) rfl ?_; intro x1 z1 s1 l1) | (refine wpList_box_new rfl 22 (.tmp 1) rfl (u8s bb) rfl ?_; intro x2 z2 s2 l2) | (go_at_call 27; refine (awake_any _).mono ?_; rintro e x4 ⟨rfl, l4⟩))
  have V0 : Hid (Below w.heap.size w x4 ∧ Blk x4 w.heap.size 22 (u8s aa) ∧ Blk x4 (w.heap.size + 1) 22 (u8s bb)) := by
    rw [s1] at z2
    exact ⟨below_chain (below_chain l1 l2 (by omega)) l4 (by omega), (z1.later l2 (by omega)).later l4 (by omega), z2.later l4 (by omega)⟩
  clear z1 s1 l1 z2 s2 l2 l4
  refine region_invP 6 ((.val (.agg (u8s aa).toArray)) :: (.any (isF x) (isF_later x)) :: (.val (.agg (u8s bb).toArray)) :: (.any (isF y) (isF_later y)) :: (.blk 26 (u64s [0, 0, 0, 0, 0])) :: (.blk 26 (u64s [0, 0, 0, 0, 0])) :: []) (by kernel_rfl) (by kernel_rfl) (by kernel_rfl) [5, 6] ⟨.inl rfl, .inl rfl, .inl rfl, .inl rfl, .inr ⟨26, _, 5, rfl, rfl, zeroElem⟩, .inr ⟨26, _, 5, rfl, rfl, zeroElem⟩, trivial⟩ (by kernel_rfl) ?_ ?_
  · refine Steps'.cons ?_ (Steps'.cons ?_ (Steps'.cons ?_ (Steps'.cons ?_ (Steps'.cons ?_ (Steps'.cons ?_ (Steps'.one _ _ _ _ _ _ _))))))
    · intro ax wx hb hs hd
      have h2 : ax.tmps.getD 2 undef = (.pointer (some ⟨w.heap.size, 0, none⟩)) := hs 2 (by kernel_rfl)
      exact Does.load 22 (.tmp 2) rfl w.heap.size 0 h2 (u8s aa) _ ((Blk.later V0.out.2.1 hb (Blk.lt V0.out.2.1)).whole) Try.underlying22 rfl (by rw [HA_aa.out]; exact size32)
    · intro ax wx hb hs hd
      have h13 : ax.tmps.getD 13 undef = (.agg (u8s aa).toArray) := hd 0 13 rfl (by kernel_rfl) (by decide)
      refine Does.call 12 #[(.agg (u8s aa).toArray)] (by clear hs hd; go_simp) ?_
      refine (HCx.out _).mono ?_
      rintro z w' ⟨r, rfl, fr, l⟩
      exact ⟨_, rfl, ⟨r, rfl, fr⟩, l⟩
    · intro ax wx hb hs hd
      have h3 : ax.tmps.getD 3 undef = (.pointer (some ⟨(w.heap.size + 1), 0, none⟩)) := hs 3 (by kernel_rfl)
      exact Does.load 22 (.tmp 3) rfl (w.heap.size + 1) 0 h3 (u8s bb) _ ((Blk.later V0.out.2.2 hb (Blk.lt V0.out.2.2)).whole) Try.underlying22 rfl (by rw [HA_bb.out]; exact size32)
    · intro ax wx hb hs hd
      have h15 : ax.tmps.getD 15 undef = (.agg (u8s bb).toArray) := hd 2 15 rfl (by kernel_rfl) (by decide)
      refine Does.call 12 #[(.agg (u8s bb).toArray)] (by clear hs hd; go_simp) ?_
      refine (HCy.out _).mono ?_
      rintro z w' ⟨r, rfl, fr, l⟩
      exact ⟨_, rfl, ⟨r, rfl, fr⟩, l⟩
    · intro ax wx hb hs hd
      exact Does.alloc 26 rfl 5 _ zeroElem hb.size
    · intro ax wx hb hs hd
      exact Does.alloc 26 rfl 5 _ zeroElem hb.size
  · intro wx hb
    refine @EndsP.val _ _ _ _ _ _ _ _ (.agg (u8s aa).toArray) rfl ?_
    refine @EndsP.any _ _ _ _ _ _ _ _ (isF x) (isF_later x) rfl ?_
    intro v1 p1
    refine @EndsP.val _ _ _ _ _ _ _ _ (.agg (u8s bb).toArray) rfl ?_
    refine @EndsP.any _ _ _ _ _ _ _ _ (isF y) (isF_later y) rfl ?_
    intro v3 p3
    refine @EndsP.blk _ _ _ _ _ _ _ _ 26 (u64s [0, 0, 0, 0, 0]) rfl ?_
    intro g4 hg4 bg4
    refine @EndsP.blk _ _ _ _ _ _ _ _ 26 (u64s [0, 0, 0, 0, 0]) rfl ?_
    intro g5 hg5 bg5
    intro hD n hn
    obtain ⟨m, rfl⟩ : ∃ m, n = m + 2 := ⟨n - 2, by have h3 : 2 ≤ n := hn; omega⟩
    obtain ⟨lx, rfl, F_lx⟩ := p1
    obtain ⟨ly, rfl, F_ly⟩ := p3
    have d01 : g4 ≠ g5 := fun e => hD 5 (by simp) 6 (by simp) (by decide) (by subst e; kernel_rfl)
    have N_lx : Hid ((u64s lx).length = 5) := by rw [u64s_length, F_lx.len]; rfl
    have N_ly : Hid ((u64s ly).length = 5) := by rw [u64s_length, F_ly.len]; rfl
    clear hD hn
    simp only [Act.put, List.setIfInBounds_toArray, List.set_cons_zero, List.set_cons_succ]
    refine wpAny_ready (rs := [6]) (by kernel_rfl) (by simp) (AllReady.cons rfl (fun K hK => ?_) AllReady.nil)
    rw [if_pos (by rfl)]
    refine last_store 26 (.tmp 5) (.tmp 14) rfl rfl g4 rfl 26 _ (u64s lx) rfl bg4 (by rw [N_lx.out]; rfl) (by rw [N_lx.out]; exact sizeElem) (u64s_one _) ?_
    intro w0 b0 s0 k0
    refine hK _ _ ?_
    refine wpAny_ready (rs := [7]) (by kernel_rfl) (by simp) (AllReady.cons rfl (fun K hK => ?_) AllReady.nil)
    rw [if_pos (by rfl)]
    refine last_store 26 (.tmp 6) (.tmp 16) rfl rfl g5 rfl 26 _ (u64s ly) rfl (bg5.kept k0 (by omega)) (by rw [N_ly.out]; rfl) (by rw [N_ly.out]; exact sizeElem) (u64s_one _) ?_
    intro w1 b1 s1 k1
    refine hK _ _ ?_
    refine wpAny_done (by kernel_rfl) (NoPanic.normal ?_) _
    have V1 : Hid (Below w.heap.size w w1 ∧ Blk w1 w.heap.size 22 (u8s aa) ∧ Blk w1 (w.heap.size + 1) 22 (u8s bb) ∧ Blk w1 g4 26 (u64s lx) ∧ Blk w1 g5 26 (u64s ly)) := by
      have qb := hb.size
      have qw := V0.out.1.size
      have q0 := V0.out.2.1.lt
      have q1 := V0.out.2.2.lt
      exact ⟨below_kept (below_kept (below_chain V0.out.1 hb (by omega)) k0 (by omega) (fun j hj => by omega)) k1 (by omega) (fun j hj => by omega), (((V0.out.2.1.later hb V0.out.2.1.lt).kept k0 (by omega)).kept k1 (by omega)), (((V0.out.2.2.later hb V0.out.2.2.lt).kept k0 (by omega)).kept k1 (by omega)), (b0.kept k1 (by omega)), b1⟩
    obtain ⟨gx, rfl⟩ : ∃ q, q = g4 := ⟨_, rfl⟩
    obtain ⟨gy, rfl⟩ : ∃ q, q = g5 := ⟨_, rfl⟩
    obtain ⟨yV1, rfl⟩ : ∃ q, q = w1 := ⟨_, rfl⟩
    clear hb V0 hK b0 s0 k0 b1 s1 k1 bg4 hg4 bg5 hg5 d01
    have HF : Hid (Fe lx x ∧ Fe ly y) := ⟨F_lx, F_ly⟩
    clear F_lx F_ly
    try simp only [Act.put, List.setIfInBounds_toArray, List.set_cons_zero, List.set_cons_succ]
    go_wp2_with fail
    refine region_invP 6 ((.val (.agg (u64s lx).toArray)) :: (.any (isF (inv x)) (isF_later (inv x))) :: (.val (.agg (u64s ly).toArray)) :: (.any (isF (inv y)) (isF_later (inv y))) :: (.blk 26 (u64s [0, 0, 0, 0, 0])) :: (.blk 26 (u64s [0, 0, 0, 0, 0])) :: []) (by kernel_rfl) (by kernel_rfl) (by kernel_rfl) [7, 8] ⟨.inl rfl, .inl rfl, .inl rfl, .inl rfl, .inr ⟨26, _, 5, rfl, rfl, zeroElem⟩, .inr ⟨26, _, 5, rfl, rfl, zeroElem⟩, trivial⟩ (by kernel_rfl) ?_ ?_
    · refine Steps'.cons ?_ (Steps'.cons ?_ (Steps'.cons ?_ (Steps'.cons ?_ (Steps'.cons ?_ (Steps'.cons ?_ (Steps'.one _ _ _ _ _ _ _))))))
      · intro ax wx hb hs hd
        have h5 : ax.tmps.getD 5 undef = (.pointer (some ⟨gx, 0, none⟩)) := hs 5 (by kernel_rfl)
        exact Does.load 26 (.tmp 5) rfl gx 0 h5 (u64s lx) _ ((Blk.later V1.out.2.2.2.1 hb (Blk.lt V1.out.2.2.2.1)).whole) Try.underlying26 rfl (by rw [N_lx.out]; exact sizeElem)
      · intro ax wx hb hs hd
        have h17 : ax.tmps.getD 17 undef = (.agg (u64s lx).toArray) := hd 0 17 rfl (by kernel_rfl) (by decide)
        refine Does.call 25 #[(.agg (u64s lx).toArray)] (by clear hs hd; go_simp) ?_
        refine (finv_any _ _ HF.out.1 _).mono ?_
        rintro z w' ⟨r, rfl, fr, l⟩
        exact ⟨_, rfl, ⟨r, rfl, fr⟩, l⟩
      · intro ax wx hb hs hd
        have h6 : ax.tmps.getD 6 undef = (.pointer (some ⟨gy, 0, none⟩)) := hs 6 (by kernel_rfl)
        exact Does.load 26 (.tmp 6) rfl gy 0 h6 (u64s ly) _ ((Blk.later V1.out.2.2.2.2 hb (Blk.lt V1.out.2.2.2.2)).whole) Try.underlying26 rfl (by rw [N_ly.out]; exact sizeElem)
      · intro ax wx hb hs hd
        have h19 : ax.tmps.getD 19 undef = (.agg (u64s ly).toArray) := hd 2 19 rfl (by kernel_rfl) (by decide)
        refine Does.call 25 #[(.agg (u64s ly).toArray)] (by clear hs hd; go_simp) ?_
        refine (finv_any _ _ HF.out.2 _).mono ?_
        rintro z w' ⟨r, rfl, fr, l⟩
        exact ⟨_, rfl, ⟨r, rfl, fr⟩, l⟩
      · intro ax wx hb hs hd
        exact Does.alloc 26 rfl 5 _ zeroElem hb.size
      · intro ax wx hb hs hd
        exact Does.alloc 26 rfl 5 _ zeroElem hb.size
    · intro wx hb
      refine @EndsP.val _ _ _ _ _ _ _ _ (.agg (u64s lx).toArray) rfl ?_
      refine @EndsP.any _ _ _ _ _ _ _ _ (isF (inv x)) (isF_later (inv x)) rfl ?_
      intro v1 p1
      refine @EndsP.val _ _ _ _ _ _ _ _ (.agg (u64s ly).toArray) rfl ?_
      refine @EndsP.any _ _ _ _ _ _ _ _ (isF (inv y)) (isF_later (inv y)) rfl ?_
      intro v3 p3
      refine @EndsP.blk _ _ _ _ _ _ _ _ 26 (u64s [0, 0, 0, 0, 0]) rfl ?_
      intro g4 hg4 bg4
      refine @EndsP.blk _ _ _ _ _ _ _ _ 26 (u64s [0, 0, 0, 0, 0]) rfl ?_
      intro g5 hg5 bg5
      intro hD n hn
      obtain ⟨m, rfl⟩ : ∃ m, n = m + 2 := ⟨n - 2, by have h3 : 2 ≤ n := hn; omega⟩
      obtain ⟨li, rfl, F_li⟩ := p1
      obtain ⟨lk, rfl, F_lk⟩ := p3
      have d01 : g4 ≠ g5 := fun e => hD 7 (by simp) 8 (by simp) (by decide) (by subst e; kernel_rfl)
      have N_li : Hid ((u64s li).length = 5) := by rw [u64s_length, F_li.len]; rfl
      have N_lk : Hid ((u64s lk).length = 5) := by rw [u64s_length, F_lk.len]; rfl
      clear hD hn
      simp only [Act.put, List.setIfInBounds_toArray, List.set_cons_zero, List.set_cons_succ]
      refine wpAny_ready (rs := [6]) (by kernel_rfl) (by simp) (AllReady.cons rfl (fun K hK => ?_) AllReady.nil)
      rw [if_pos (by rfl)]
      refine last_store 26 (.tmp 7) (.tmp 18) rfl rfl g4 rfl 26 _ (u64s li) rfl bg4 (by rw [N_li.out]; rfl) (by rw [N_li.out]; exact sizeElem) (u64s_one _) ?_
      intro w0 b0 s0 k0
      refine hK _ _ ?_
      refine wpAny_ready (rs := [7]) (by kernel_rfl) (by simp) (AllReady.cons rfl (fun K hK => ?_) AllReady.nil)
      rw [if_pos (by rfl)]
      refine last_store 26 (.tmp 8) (.tmp 20) rfl rfl g5 rfl 26 _ (u64s lk) rfl (bg5.kept k0 (by omega)) (by rw [N_lk.out]; rfl) (by rw [N_lk.out]; exact sizeElem) (u64s_one _) ?_
      intro w1 b1 s1 k1
      refine hK _ _ ?_
      refine wpAny_done (by kernel_rfl) (NoPanic.normal ?_) _
      have V2 : Hid (Below w.heap.size w w1 ∧ Blk w1 w.heap.size 22 (u8s aa) ∧ Blk w1 (w.heap.size + 1) 22 (u8s bb) ∧ Blk w1 gx 26 (u64s lx) ∧ Blk w1 gy 26 (u64s ly) ∧ Blk w1 g4 26 (u64s li) ∧ Blk w1 g5 26 (u64s lk)) := by
        have qb := hb.size
        have qw := V1.out.1.size
        have q0 := V1.out.2.1.lt
        have q1 := V1.out.2.2.1.lt
        have q2 := V1.out.2.2.2.1.lt
        have q3 := V1.out.2.2.2.2.lt
        exact ⟨below_kept (below_kept (below_chain V1.out.1 hb (by omega)) k0 (by omega) (fun j hj => by omega)) k1 (by omega) (fun j hj => by omega), (((V1.out.2.1.later hb V1.out.2.1.lt).kept k0 (by omega)).kept k1 (by omega)), (((V1.out.2.2.1.later hb V1.out.2.2.1.lt).kept k0 (by omega)).kept k1 (by omega)), (((V1.out.2.2.2.1.later hb V1.out.2.2.2.1.lt).kept k0 (by omega)).kept k1 (by omega)), (((V1.out.2.2.2.2.later hb V1.out.2.2.2.2.lt).kept k0 (by omega)).kept k1 (by omega)), (b0.kept k1 (by omega)), b1⟩
      obtain ⟨gi, rfl⟩ : ∃ q, q = g4 := ⟨_, rfl⟩
      obtain ⟨gk, rfl⟩ : ∃ q, q = g5 := ⟨_, rfl⟩
      obtain ⟨yV2, rfl⟩ : ∃ q, q = w1 := ⟨_, rfl⟩
      clear hb V1 hK b0 s0 k0 b1 s1 k1 bg4 hg4 bg5 hg5 d01
      have HI : Hid (Fe li (inv x) ∧ Fe lk (inv y)) := ⟨F_li, F_lk⟩
      clear F_li F_lk
      try simp only [Act.put, List.setIfInBounds_toArray, List.set_cons_zero, List.set_cons_succ]
      go_wp2_with (first | ((with_reducible show wpList _ _ _ (({ dst := some 21, op := _, type := _, pos := _, after := _, guard := _ } : Oper) :: _) _ _); refine wpList_load_blk rfl 26 (.tmp 5) rfl gx rfl (u64s lx) _ V2.out.2.2.2.1 Try.underlying26 rfl (by rw [N_lx.out]; exact sizeElem) ?_) | ((with_reducible show wpList _ _ _ (({ dst := some 22, op := _, type := _, pos := _, after := _, guard := _ } : Oper) :: _) _ _); refine wpList_load_blk rfl 26 (.tmp 6) rfl gy rfl (u64s ly) _ V2.out.2.2.2.2.1 Try.underlying26 rfl (by rw [N_ly.out]; exact sizeElem) ?_) | (go_at_call 32; refine (mul_any _ _ _ _ HF.out.1 HF.out.2 _).mono ?_; rintro e z3 ⟨lp, rfl, fp, l3⟩; have HG : Hid (Fe lp ((x * y) % PR)) := fp; have N_lp : Hid ((u64s lp).length = 5) := (by rw [u64s_length, fp.len]; rfl); clear fp) | ((with_reducible show wpList _ _ _ _ _ z3); refine wpList_alloc_new rfl 26 rfl 5 _ zeroElem ?_; intro z4 b4 s4 l4) | ((with_reducible show wpList _ _ _ _ _ z4); refine wpList_store_blk rfl 26 26 _ _ rfl _ rfl _ (u64s lp) rfl b4 (by rw [N_lp.out]; rfl) (by rw [N_lp.out]; exact sizeElem) (u64s_one _) ?_; intro z5 b5 s5 k5; obtain ⟨gp, hgp⟩ : ∃ q, z3.heap.size = q := ⟨_, rfl⟩; rw [hgp] at b5 k5; rw [hgp]; have V3 : Hid (Below w.heap.size w z5 ∧ Blk z5 w.heap.size 22 (u8s aa) ∧ Blk z5 (w.heap.size + 1) 22 (u8s bb) ∧ Blk z5 gx 26 (u64s lx) ∧ Blk z5 gy 26 (u64s ly) ∧ Blk z5 gi 26 (u64s li) ∧ Blk z5 gk 26 (u64s lk) ∧ Blk z5 gp 26 (u64s lp)) := (by have qw := V2.out.1.size; have q0 := V2.out.2.1.lt; have q1 := V2.out.2.2.1.lt; have q2 := V2.out.2.2.2.1.lt; have q3 := V2.out.2.2.2.2.1.lt; have q4 := V2.out.2.2.2.2.2.1.lt; have q5 := V2.out.2.2.2.2.2.2.lt; have q9 := l3.size; exact ⟨below_kept (below_chain (below_chain V2.out.1 l3 (by omega)) l4 (by omega)) k5 (by omega) (fun j hj => by omega), ((V2.out.2.1.later l3 q0).later l4 (by omega)).kept k5 (by omega), ((V2.out.2.2.1.later l3 q1).later l4 (by omega)).kept k5 (by omega), ((V2.out.2.2.2.1.later l3 q2).later l4 (by omega)).kept k5 (by omega), ((V2.out.2.2.2.2.1.later l3 q3).later l4 (by omega)).kept k5 (by omega), ((V2.out.2.2.2.2.2.1.later l3 q4).later l4 (by omega)).kept k5 (by omega), ((V2.out.2.2.2.2.2.2.later l3 q5).later l4 (by omega)).kept k5 (by omega), b5⟩); clear l3 b4 s4 l4 b5 s5 k5 hgp) | ((with_reducible show wpList _ _ _ (({ dst := some 24, op := _, type := _, pos := _, after := _, guard := _ } : Oper) :: _) _ _); refine wpList_load_blk rfl 26 (.tmp 5) rfl gx rfl (u64s lx) _ V3.out.2.2.2.1 Try.underlying26 rfl (by rw [N_lx.out]; exact sizeElem) ?_) | ((with_reducible show Calls _ 20 #[.agg (u64s lx).toArray] z5 _); refine (fzero_yes _ _ HF.out.1 H0.out.1 _).mono ?_; rintro e z6 ⟨rfl, l6⟩))
      have V4 : Hid (Below w.heap.size w z6 ∧ Blk z6 w.heap.size 22 (u8s aa) ∧ Blk z6 (w.heap.size + 1) 22 (u8s bb) ∧ Blk z6 gx 26 (u64s lx) ∧ Blk z6 gy 26 (u64s ly) ∧ Blk z6 gi 26 (u64s li) ∧ Blk z6 gk 26 (u64s lk) ∧ Blk z6 gp 26 (u64s lp)) := ⟨below_chain V3.out.1 l6 V3.out.1.size, (V3.out.2.1.later l6 V3.out.2.1.lt), (V3.out.2.2.1.later l6 V3.out.2.2.1.lt), (V3.out.2.2.2.1.later l6 V3.out.2.2.2.1.lt), (V3.out.2.2.2.2.1.later l6 V3.out.2.2.2.2.1.lt), (V3.out.2.2.2.2.2.1.later l6 V3.out.2.2.2.2.2.1.lt), (V3.out.2.2.2.2.2.2.1.later l6 V3.out.2.2.2.2.2.2.1.lt), (V3.out.2.2.2.2.2.2.2.later l6 V3.out.2.2.2.2.2.2.2.lt)⟩
      clear V3 l6
      refine region_invGT ((.val (.agg (u64s lp).toArray)) :: (.val (.int .u64 18446744073709551615)) :: (.val (.bool true)) :: (.val (.bool true)) :: (.val (.bool false)) :: (.val (.bool false)) :: (.val (.agg (u64s li).toArray)) :: (.any (isF (inv (inv x))) (isF_later (inv (inv x)))) :: (.val (.agg (u64s lx).toArray)) :: (.val (.bool true)) :: (.val (.bool false)) :: (.val (.bool false)) :: (.val (.bool false)) :: (.val (.agg (u64s lp).toArray)) :: (.any (isF (inv ((x * y) % PR))) (isF_later (inv ((x * y) % PR)))) :: (.val (.agg (u64s li).toArray)) :: (.val (.agg (u64s lk).toArray)) :: (.any (isF (((inv x) * (inv y)) % PR)) (isF_later (((inv x) * (inv y)) % PR))) :: (.val (.bool true)) :: (.val (.bool false)) :: []) (by kernel_rfl) (by kernel_rfl) (by repeat (first | exact trivial | (refine ⟨by first | trivial | rfl, ?_⟩))) (by kernel_rfl) ?_ ?_
      · refine Steps'.cons ?_ (Steps'.cons ?_ (Steps'.cons ?_ (Steps'.cons ?_ (Steps'.cons ?_ (Steps'.cons ?_ (Steps'.cons ?_ (Steps'.cons ?_ (Steps'.cons ?_ (Steps'.cons ?_ (Steps'.cons ?_ (Steps'.cons ?_ (Steps'.cons ?_ (Steps'.cons ?_ (Steps'.cons ?_ (Steps'.cons ?_ (Steps'.cons ?_ (Steps'.cons ?_ (Steps'.cons ?_ (Steps'.cons ?_ (Steps'.one _ _ _ _ _ _ _))))))))))))))))))))
        · intro ax wx hb hs hd
          have h9 : ax.tmps.getD 9 undef = (.pointer (some ⟨gp, 0, none⟩)) := hs 9 (by kernel_rfl)
          exact Does.load 26 (.tmp 9) rfl gp 0 h9 (u64s lp) _ ((Blk.later V4.out.2.2.2.2.2.2.2 hb (Blk.lt V4.out.2.2.2.2.2.2.2)).whole) Try.underlying26 rfl (by rw [N_lp.out]; exact sizeElem)
        · intro ax wx hb hs hd
          have h32 : ax.tmps.getD 32 undef = (.agg (u64s lp).toArray) := hd 0 32 rfl (by kernel_rfl) (by decide)
          refine Does.call 20 #[(.agg (u64s lp).toArray)] (by clear hs hd; go_simp) ?_
          refine (fzero_yes _ _ HG.out H0.out.2.1 _).mono ?_
          rintro z w' ⟨rfl, l⟩
          exact ⟨_, rfl, rfl, l⟩
        · intro ax wx hb hs hd
          have h33 : ax.tmps.getD 33 undef = (.int .u64 18446744073709551615) := hd 1 33 rfl (by kernel_rfl) (by decide)
          refine Does.value (.bool true) ?_ rfl
          clear hs hd
          go_simp
        · intro ax wx hb hs hd
          have h10 : ax.tmps.getD 10 undef = (.bool true) := hs 10 (by kernel_rfl)
          refine Does.value (.bool true) ?_ rfl
          clear hs hd
          go_simp
        · intro ax wx hb hs hd
          have h34 : ax.tmps.getD 34 undef = (.bool true) := hd 2 34 rfl (by kernel_rfl) (by decide)
          have h35 : ax.tmps.getD 35 undef = (.bool true) := hd 3 35 rfl (by kernel_rfl) (by decide)
          refine Does.value (.bool false) ?_ rfl
          clear hs hd
          go_simp
        · intro ax wx hb hs hd
          have h36 : ax.tmps.getD 36 undef = (.bool false) := hd 4 36 rfl (by kernel_rfl) (by decide)
          refine Does.value (.bool false) ?_ rfl
          clear hs hd
          go_simp
        · intro ax wx hb hs hd
          have h7 : ax.tmps.getD 7 undef = (.pointer (some ⟨gi, 0, none⟩)) := hs 7 (by kernel_rfl)
          exact Does.load 26 (.tmp 7) rfl gi 0 h7 (u64s li) _ ((Blk.later V4.out.2.2.2.2.2.1 hb (Blk.lt V4.out.2.2.2.2.2.1)).whole) Try.underlying26 rfl (by rw [N_li.out]; exact sizeElem)
        · intro ax wx hb hs hd
          have h38 : ax.tmps.getD 38 undef = (.agg (u64s li).toArray) := hd 6 38 rfl (by kernel_rfl) (by decide)
          refine Does.call 25 #[(.agg (u64s li).toArray)] (by clear hs hd; go_simp) ?_
          refine (finv_any _ _ HI.out.1 _).mono ?_
          rintro z w' ⟨r, rfl, fr, l⟩
          exact ⟨_, rfl, ⟨r, rfl, fr⟩, l⟩
        · intro ax wx hb hs hd
          have h5 : ax.tmps.getD 5 undef = (.pointer (some ⟨gx, 0, none⟩)) := hs 5 (by kernel_rfl)
          exact Does.load 26 (.tmp 5) rfl gx 0 h5 (u64s lx) _ ((Blk.later V4.out.2.2.2.1 hb (Blk.lt V4.out.2.2.2.1)).whole) Try.underlying26 rfl (by rw [N_lx.out]; exact sizeElem)
        · intro ax wx hb hs hd
          obtain ⟨l39, h39, f39⟩ : isF (inv (inv x)) (ax.tmps.getD 39 undef) wx := hd 7 39 rfl (by kernel_rfl) (by decide)
          have h40 : ax.tmps.getD 40 undef = (.agg (u64s lx).toArray) := hd 8 40 rfl (by kernel_rfl) (by decide)
          refine Does.call 28 #[(.agg (u64s l39).toArray), (.agg (u64s lx).toArray)] (by clear hs hd; go_simp) ?_
          refine (one_yes _ _ _ f39 (Fe.eq HF.out.1 ((inv_inv x RR.out.1).symm)) _).mono ?_
          rintro z w' ⟨rfl, l⟩
          exact ⟨_, rfl, rfl, l⟩
        · intro ax wx hb hs hd
          have h41 : ax.tmps.getD 41 undef = (.bool true) := hd 9 41 rfl (by kernel_rfl) (by decide)
          refine Does.value (.bool false) ?_ rfl
          clear hs hd
          go_simp
        · intro ax wx hb hs hd
          have h37 : ax.tmps.getD 37 undef = (.bool false) := hd 5 37 rfl (by kernel_rfl) (by decide)
          have h42 : ax.tmps.getD 42 undef = (.bool false) := hd 10 42 rfl (by kernel_rfl) (by decide)
          refine Does.value (.bool false) ?_ rfl
          clear hs hd
          go_simp
        · intro ax wx hb hs hd
          have h43 : ax.tmps.getD 43 undef = (.bool false) := hd 11 43 rfl (by kernel_rfl) (by decide)
          refine Does.value (.bool false) ?_ rfl
          clear hs hd
          go_simp
        · intro ax wx hb hs hd
          have h9 : ax.tmps.getD 9 undef = (.pointer (some ⟨gp, 0, none⟩)) := hs 9 (by kernel_rfl)
          exact Does.load 26 (.tmp 9) rfl gp 0 h9 (u64s lp) _ ((Blk.later V4.out.2.2.2.2.2.2.2 hb (Blk.lt V4.out.2.2.2.2.2.2.2)).whole) Try.underlying26 rfl (by rw [N_lp.out]; exact sizeElem)
        · intro ax wx hb hs hd
          have h45 : ax.tmps.getD 45 undef = (.agg (u64s lp).toArray) := hd 13 45 rfl (by kernel_rfl) (by decide)
          refine Does.call 25 #[(.agg (u64s lp).toArray)] (by clear hs hd; go_simp) ?_
          refine (finv_any _ _ HG.out _).mono ?_
          rintro z w' ⟨r, rfl, fr, l⟩
          exact ⟨_, rfl, ⟨r, rfl, fr⟩, l⟩
        · intro ax wx hb hs hd
          have h7 : ax.tmps.getD 7 undef = (.pointer (some ⟨gi, 0, none⟩)) := hs 7 (by kernel_rfl)
          exact Does.load 26 (.tmp 7) rfl gi 0 h7 (u64s li) _ ((Blk.later V4.out.2.2.2.2.2.1 hb (Blk.lt V4.out.2.2.2.2.2.1)).whole) Try.underlying26 rfl (by rw [N_li.out]; exact sizeElem)
        · intro ax wx hb hs hd
          have h8 : ax.tmps.getD 8 undef = (.pointer (some ⟨gk, 0, none⟩)) := hs 8 (by kernel_rfl)
          exact Does.load 26 (.tmp 8) rfl gk 0 h8 (u64s lk) _ ((Blk.later V4.out.2.2.2.2.2.2.1 hb (Blk.lt V4.out.2.2.2.2.2.2.1)).whole) Try.underlying26 rfl (by rw [N_lk.out]; exact sizeElem)
        · intro ax wx hb hs hd
          have h47 : ax.tmps.getD 47 undef = (.agg (u64s li).toArray) := hd 15 47 rfl (by kernel_rfl) (by decide)
          have h48 : ax.tmps.getD 48 undef = (.agg (u64s lk).toArray) := hd 16 48 rfl (by kernel_rfl) (by decide)
          refine Does.call 32 #[(.agg (u64s li).toArray), (.agg (u64s lk).toArray)] (by clear hs hd; go_simp) ?_
          refine (mul_any _ _ _ _ HI.out.1 HI.out.2 _).mono ?_
          rintro z w' ⟨r, rfl, fr, l⟩
          exact ⟨_, rfl, ⟨r, rfl, fr⟩, l⟩
        · intro ax wx hb hs hd
          obtain ⟨l46, h46, f46⟩ : isF (inv ((x * y) % PR)) (ax.tmps.getD 46 undef) wx := hd 14 46 rfl (by kernel_rfl) (by decide)
          obtain ⟨l49, h49, f49⟩ : isF (((inv x) * (inv y)) % PR) (ax.tmps.getD 49 undef) wx := hd 17 49 rfl (by kernel_rfl) (by decide)
          refine Does.call 28 #[(.agg (u64s l46).toArray), (.agg (u64s l49).toArray)] (by clear hs hd; go_simp) ?_
          refine (one_yes _ _ _ f46 (Fe.eq f49 ((inv_prod x y).symm)) _).mono ?_
          rintro z w' ⟨rfl, l⟩
          exact ⟨_, rfl, rfl, l⟩
        · intro ax wx hb hs hd
          have h50 : ax.tmps.getD 50 undef = (.bool true) := hd 18 50 rfl (by kernel_rfl) (by decide)
          refine Does.value (.bool false) ?_ rfl
          clear hs hd
          go_simp
      · intro wx hb
        refine @Ends.val _ _ _ _ _ _ _ _ _ (.agg (u64s lp).toArray) rfl ?_
        refine @Ends.val _ _ _ _ _ _ _ _ _ (.int .u64 18446744073709551615) rfl ?_
        refine @Ends.val _ _ _ _ _ _ _ _ _ (.bool true) rfl ?_
        refine @Ends.val _ _ _ _ _ _ _ _ _ (.bool true) rfl ?_
        refine @Ends.val _ _ _ _ _ _ _ _ _ (.bool false) rfl ?_
        refine @Ends.val _ _ _ _ _ _ _ _ _ (.bool false) rfl ?_
        refine @Ends.val _ _ _ _ _ _ _ _ _ (.agg (u64s li).toArray) rfl ?_
        refine @Ends.any _ _ _ _ _ _ _ _ _ (isF (inv (inv x))) (isF_later (inv (inv x))) rfl ?_
        intro v7 p7
        refine @Ends.val _ _ _ _ _ _ _ _ _ (.agg (u64s lx).toArray) rfl ?_
        refine @Ends.val _ _ _ _ _ _ _ _ _ (.bool true) rfl ?_
        refine @Ends.val _ _ _ _ _ _ _ _ _ (.bool false) rfl ?_
        refine @Ends.val _ _ _ _ _ _ _ _ _ (.bool false) rfl ?_
        refine @Ends.val _ _ _ _ _ _ _ _ _ (.bool false) rfl ?_
        refine @Ends.val _ _ _ _ _ _ _ _ _ (.agg (u64s lp).toArray) rfl ?_
        refine @Ends.any _ _ _ _ _ _ _ _ _ (isF (inv ((x * y) % PR))) (isF_later (inv ((x * y) % PR))) rfl ?_
        intro v14 p14
        refine @Ends.val _ _ _ _ _ _ _ _ _ (.agg (u64s li).toArray) rfl ?_
        refine @Ends.val _ _ _ _ _ _ _ _ _ (.agg (u64s lk).toArray) rfl ?_
        refine @Ends.any _ _ _ _ _ _ _ _ _ (isF (((inv x) * (inv y)) % PR)) (isF_later (((inv x) * (inv y)) % PR)) rfl ?_
        intro v17 p17
        refine @Ends.val _ _ _ _ _ _ _ _ _ (.bool true) rfl ?_
        refine @Ends.val _ _ _ _ _ _ _ _ _ (.bool false) rfl ?_
        refine @Ends.one _ _ _ _ _ _ _ ?_
        simp only [Act.put, List.setIfInBounds_toArray, List.set_cons_zero, List.set_cons_succ]
        refine last_value (some 52) rfl (.bool false) (by go_simp) ?_
        have V5 : Hid (Below w.heap.size w wx ∧ Blk wx w.heap.size 22 (u8s aa) ∧ Blk wx (w.heap.size + 1) 22 (u8s bb) ∧ Blk wx gx 26 (u64s lx) ∧ Blk wx gy 26 (u64s ly) ∧ Blk wx gi 26 (u64s li) ∧ Blk wx gk 26 (u64s lk) ∧ Blk wx gp 26 (u64s lp)) := ⟨below_chain V4.out.1 hb V4.out.1.size, (V4.out.2.1.later hb V4.out.2.1.lt), (V4.out.2.2.1.later hb V4.out.2.2.1.lt), (V4.out.2.2.2.1.later hb V4.out.2.2.2.1.lt), (V4.out.2.2.2.2.1.later hb V4.out.2.2.2.2.1.lt), (V4.out.2.2.2.2.2.1.later hb V4.out.2.2.2.2.2.1.lt), (V4.out.2.2.2.2.2.2.1.later hb V4.out.2.2.2.2.2.2.1.lt), (V4.out.2.2.2.2.2.2.2.later hb V4.out.2.2.2.2.2.2.2.lt)⟩
        obtain ⟨yV5, rfl⟩ : ∃ q, q = wx := ⟨_, rfl⟩
        clear V4 hb p7 p14 p17
        simp only [Act.put, List.setIfInBounds_toArray, List.set_cons_zero, List.set_cons_succ]
        go_wp2_with (first | ((with_reducible show wpList _ _ _ (({ dst := some 53, op := _, type := _, pos := _, after := _, guard := _ } : Oper) :: _) _ _); refine wpList_load_blk rfl 26 (.tmp 5) rfl gx rfl (u64s lx) _ V5.out.2.2.2.1 Try.underlying26 rfl (by rw [N_lx.out]; exact sizeElem) ?_) | ((with_reducible show Calls _ 20 #[.agg (u64s lx).toArray] yV5 _); refine (fzero_yes _ _ HF.out.1 H0.out.1 _).mono ?_; rintro e z8 ⟨rfl, l8⟩) | ((with_reducible show wpList _ _ _ (({ dst := some 56, op := _, type := _, pos := _, after := _, guard := _ } : Oper) :: _) _ _); refine wpList_load_blk rfl 26 (.tmp 7) rfl gi rfl (u64s li) _ (V5.out.2.2.2.2.2.1.later l8 V5.out.2.2.2.2.2.1.lt) Try.underlying26 rfl (by rw [N_li.out]; exact sizeElem) ?_) | ((with_reducible show Calls _ 20 #[.agg (u64s li).toArray] z8 _); refine (fzero_yes _ _ HI.out.1 H0.out.2.2 _).mono ?_; rintro e z9 ⟨rfl, l9⟩))
        go_ret
        exact ⟨rfl, below_chain (below_chain V5.out.1 l8 V5.out.1.size) l9 (Nat.le_trans V5.out.1.size l8.size)⟩
set_option maxRecDepth 20000 in
set_option maxHeartbeats 8000000 in
theorem inverse2 (aa bb : List Int) (la : aa.length = 32) (ba : Bytes aa) (lb : bb.length = 32) (bbb : Bytes bb) (hx0 : le aa % 57896044618658097711785492504343953926634992332820282019728792003956564819968 % PR ≠ 0) (hy0 : le bb % 57896044618658097711785492504343953926634992332820282019728792003956564819968 % PR = 0) (w : World) :
    Calls Try.prog 7 #[.agg (u8s aa).toArray, .agg (u8s bb).toArray] w fun e w' => e = .returned (.bool true) ∧ Below w.heap.size w w' := by
  have hx := fof_any aa la ba
  have HA_aa : Hid ((u8s aa).length = 32) := by rw [u8s_length, la]; rfl
  obtain ⟨x, ex⟩ : ∃ q, le aa % 57896044618658097711785492504343953926634992332820282019728792003956564819968 % PR = q := ⟨_, rfl⟩
  have rx : 0 ≤ x ∧ x < PR := by rw [← ex]; exact ⟨Int.emod_nonneg _ (by decide), Int.emod_lt_of_pos _ (by decide)⟩
  rw [ex] at hx
  have HCx : Hid (∀ w, Calls Try.prog 12 #[.agg (u8s aa).toArray] w fun e w' => ∃ r, e = .returned (.agg (u64s r).toArray) ∧ Fe r x ∧ Below w.heap.size w w') := hx
  have hy := fof_any bb lb bbb
  have HA_bb : Hid ((u8s bb).length = 32) := by rw [u8s_length, lb]; rfl
  obtain ⟨y, ey⟩ : ∃ q, le bb % 57896044618658097711785492504343953926634992332820282019728792003956564819968 % PR = q := ⟨_, rfl⟩
  have ry : 0 ≤ y ∧ y < PR := by rw [← ey]; exact ⟨Int.emod_nonneg _ (by decide), Int.emod_lt_of_pos _ (by decide)⟩
  rw [ey] at hy
  have HCy : Hid (∀ w, Calls Try.prog 12 #[.agg (u8s bb).toArray] w fun e w' => ∃ r, e = .returned (.agg (u64s r).toArray) ∧ Fe r y ∧ Below w.heap.size w w') := hy
  rw [ex] at hx0
  rw [ey] at hy0
  have RR : Hid ((0 ≤ x ∧ x < PR) ∧ (0 ≤ y ∧ y < PR)) := ⟨rx, ry⟩
  have H0 : Hid (x ≠ 0 ∧ y = 0 ∧ (x * y) % PR = 0) := ⟨hx0, hy0, by rw [hy0, Int.mul_zero]; rfl⟩
  clear hx ex la ba hy ey lb bbb rx ry hx0 hy0
  go_enter Try.func7, Try.ntmps7
  go_wp2_with (first | (refine wpList_box_new rfl 22 (.tmp 0) rfl (u8s aa) rfl ?_; intro x1 z1 s1 l1) | (refine wpList_box_new rfl 22 (.tmp 1) rfl (u8s bb) rfl ?_; intro x2 z2 s2 l2) | (go_at_call 27; refine (awake_any _).mono ?_; rintro e x4 ⟨rfl, l4⟩))
  have V0 : Hid (Below w.heap.size w x4 ∧ Blk x4 w.heap.size 22 (u8s aa) ∧ Blk x4 (w.heap.size + 1) 22 (u8s bb)) := by
    rw [s1] at z2
    exact ⟨below_chain (below_chain l1 l2 (by omega)) l4 (by omega), (z1.later l2 (by omega)).later l4 (by omega), z2.later l4 (by omega)⟩
  clear z1 s1 l1 z2 s2 l2 l4
  refine region_invP 6 ((.val (.agg (u8s aa).toArray)) :: (.any (isF x) (isF_later x)) :: (.val (.agg (u8s bb).toArray)) :: (.any (isF y) (isF_later y)) :: (.blk 26 (u64s [0, 0, 0, 0, 0])) :: (.blk 26 (u64s [0, 0, 0, 0, 0])) :: []) (by kernel_rfl) (by kernel_rfl) (by kernel_rfl) [5, 6] ⟨.inl rfl, .inl rfl, .inl rfl, .inl rfl, .inr ⟨26, _, 5, rfl, rfl, zeroElem⟩, .inr ⟨26, _, 5, rfl, rfl, zeroElem⟩, trivial⟩ (by kernel_rfl) ?_ ?_
  · refine Steps'.cons ?_ (Steps'.cons ?_ (Steps'.cons ?_ (Steps'.cons ?_ (Steps'.cons ?_ (Steps'.cons ?_ (Steps'.one _ _ _ _ _ _ _))))))
    · intro ax wx hb hs hd
      have h2 : ax.tmps.getD 2 undef = (.pointer (some ⟨w.heap.size, 0, none⟩)) := hs 2 (by kernel_rfl)
      exact Does.load 22 (.tmp 2) rfl w.heap.size 0 h2 (u8s aa) _ ((Blk.later V0.out.2.1 hb (Blk.lt V0.out.2.1)).whole) Try.underlying22 rfl (by rw [HA_aa.out]; exact size32)
    · intro ax wx hb hs hd
      have h13 : ax.tmps.getD 13 undef = (.agg (u8s aa).toArray) := hd 0 13 rfl (by kernel_rfl) (by decide)
      refine Does.call 12 #[(.agg (u8s aa).toArray)] (by clear hs hd; go_simp) ?_
      refine (HCx.out _).mono ?_
      rintro z w' ⟨r, rfl, fr, l⟩
      exact ⟨_, rfl, ⟨r, rfl, fr⟩, l⟩
    · intro ax wx hb hs hd
      have h3 : ax.tmps.getD 3 undef = (.pointer (some ⟨(w.heap.size + 1), 0, none⟩)) := hs 3 (by kernel_rfl)
      exact Does.load 22 (.tmp 3) rfl (w.heap.size + 1) 0 h3 (u8s bb) _ ((Blk.later V0.out.2.2 hb (Blk.lt V0.out.2.2)).whole) Try.underlying22 rfl (by rw [HA_bb.out]; exact size32)
    · intro ax wx hb hs hd
      have h15 : ax.tmps.getD 15 undef = (.agg (u8s bb).toArray) := hd 2 15 rfl (by kernel_rfl) (by decide)
      refine Does.call 12 #[(.agg (u8s bb).toArray)] (by clear hs hd; go_simp) ?_
      refine (HCy.out _).mono ?_
      rintro z w' ⟨r, rfl, fr, l⟩
      exact ⟨_, rfl, ⟨r, rfl, fr⟩, l⟩
    · intro ax wx hb hs hd
      exact Does.alloc 26 rfl 5 _ zeroElem hb.size
    · intro ax wx hb hs hd
      exact Does.alloc 26 rfl 5 _ zeroElem hb.size
  · intro wx hb
    refine @EndsP.val _ _ _ _ _ _ _ _ (.agg (u8s aa).toArray) rfl ?_
    refine @EndsP.any _ _ _ _ _ _ _ _ (isF x) (isF_later x) rfl ?_
    intro v1 p1
    refine @EndsP.val _ _ _ _ _ _ _ _ (.agg (u8s bb).toArray) rfl ?_
    refine @EndsP.any _ _ _ _ _ _ _ _ (isF y) (isF_later y) rfl ?_
    intro v3 p3
    refine @EndsP.blk _ _ _ _ _ _ _ _ 26 (u64s [0, 0, 0, 0, 0]) rfl ?_
    intro g4 hg4 bg4
    refine @EndsP.blk _ _ _ _ _ _ _ _ 26 (u64s [0, 0, 0, 0, 0]) rfl ?_
    intro g5 hg5 bg5
    intro hD n hn
    obtain ⟨m, rfl⟩ : ∃ m, n = m + 2 := ⟨n - 2, by have h3 : 2 ≤ n := hn; omega⟩
    obtain ⟨lx, rfl, F_lx⟩ := p1
    obtain ⟨ly, rfl, F_ly⟩ := p3
    have d01 : g4 ≠ g5 := fun e => hD 5 (by simp) 6 (by simp) (by decide) (by subst e; kernel_rfl)
    have N_lx : Hid ((u64s lx).length = 5) := by rw [u64s_length, F_lx.len]; rfl
    have N_ly : Hid ((u64s ly).length = 5) := by rw [u64s_length, F_ly.len]; rfl
    clear hD hn
    simp only [Act.put, List.setIfInBounds_toArray, List.set_cons_zero, List.set_cons_succ]
    refine wpAny_ready (rs := [6]) (by kernel_rfl) (by simp) (AllReady.cons rfl (fun K hK => ?_) AllReady.nil)
    rw [if_pos (by rfl)]
    refine last_store 26 (.tmp 5) (.tmp 14) rfl rfl g4 rfl 26 _ (u64s lx) rfl bg4 (by rw [N_lx.out]; rfl) (by rw [N_lx.out]; exact sizeElem) (u64s_one _) ?_
    intro w0 b0 s0 k0
    refine hK _ _ ?_
    refine wpAny_ready (rs := [7]) (by kernel_rfl) (by simp) (AllReady.cons rfl (fun K hK => ?_) AllReady.nil)
    rw [if_pos (by rfl)]
    refine last_store 26 (.tmp 6) (.tmp 16) rfl rfl g5 rfl 26 _ (u64s ly) rfl (bg5.kept k0 (by omega)) (by rw [N_ly.out]; rfl) (by rw [N_ly.out]; exact sizeElem) (u64s_one _) ?_
    intro w1 b1 s1 k1
    refine hK _ _ ?_
    refine wpAny_done (by kernel_rfl) (NoPanic.normal ?_) _
    have V1 : Hid (Below w.heap.size w w1 ∧ Blk w1 w.heap.size 22 (u8s aa) ∧ Blk w1 (w.heap.size + 1) 22 (u8s bb) ∧ Blk w1 g4 26 (u64s lx) ∧ Blk w1 g5 26 (u64s ly)) := by
      have qb := hb.size
      have qw := V0.out.1.size
      have q0 := V0.out.2.1.lt
      have q1 := V0.out.2.2.lt
      exact ⟨below_kept (below_kept (below_chain V0.out.1 hb (by omega)) k0 (by omega) (fun j hj => by omega)) k1 (by omega) (fun j hj => by omega), (((V0.out.2.1.later hb V0.out.2.1.lt).kept k0 (by omega)).kept k1 (by omega)), (((V0.out.2.2.later hb V0.out.2.2.lt).kept k0 (by omega)).kept k1 (by omega)), (b0.kept k1 (by omega)), b1⟩
    obtain ⟨gx, rfl⟩ : ∃ q, q = g4 := ⟨_, rfl⟩
    obtain ⟨gy, rfl⟩ : ∃ q, q = g5 := ⟨_, rfl⟩
    obtain ⟨yV1, rfl⟩ : ∃ q, q = w1 := ⟨_, rfl⟩
    clear hb V0 hK b0 s0 k0 b1 s1 k1 bg4 hg4 bg5 hg5 d01
    have HF : Hid (Fe lx x ∧ Fe ly y) := ⟨F_lx, F_ly⟩
    clear F_lx F_ly
    try simp only [Act.put, List.setIfInBounds_toArray, List.set_cons_zero, List.set_cons_succ]
    go_wp2_with fail
    refine region_invP 6 ((.val (.agg (u64s lx).toArray)) :: (.any (isF (inv x)) (isF_later (inv x))) :: (.val (.agg (u64s ly).toArray)) :: (.any (isF (inv y)) (isF_later (inv y))) :: (.blk 26 (u64s [0, 0, 0, 0, 0])) :: (.blk 26 (u64s [0, 0, 0, 0, 0])) :: []) (by kernel_rfl) (by kernel_rfl) (by kernel_rfl) [7, 8] ⟨.inl rfl, .inl rfl, .inl rfl, .inl rfl, .inr ⟨26, _, 5, rfl, rfl, zeroElem⟩, .inr ⟨26, _, 5, rfl, rfl, zeroElem⟩, trivial⟩ (by kernel_rfl) ?_ ?_
    · refine Steps'.cons ?_ (Steps'.cons ?_ (Steps'.cons ?_ (Steps'.cons ?_ (Steps'.cons ?_ (Steps'.cons ?_ (Steps'.one _ _ _ _ _ _ _))))))
      · intro ax wx hb hs hd
        have h5 : ax.tmps.getD 5 undef = (.pointer (some ⟨gx, 0, none⟩)) := hs 5 (by kernel_rfl)
        exact Does.load 26 (.tmp 5) rfl gx 0 h5 (u64s lx) _ ((Blk.later V1.out.2.2.2.1 hb (Blk.lt V1.out.2.2.2.1)).whole) Try.underlying26 rfl (by rw [N_lx.out]; exact sizeElem)
      · intro ax wx hb hs hd
        have h17 : ax.tmps.getD 17 undef = (.agg (u64s lx).toArray) := hd 0 17 rfl (by kernel_rfl) (by decide)
        refine Does.call 25 #[(.agg (u64s lx).toArray)] (by clear hs hd; go_simp) ?_
        refine (finv_any _ _ HF.out.1 _).mono ?_
        rintro z w' ⟨r, rfl, fr, l⟩
        exact ⟨_, rfl, ⟨r, rfl, fr⟩, l⟩
      · intro ax wx hb hs hd
        have h6 : ax.tmps.getD 6 undef = (.pointer (some ⟨gy, 0, none⟩)) := hs 6 (by kernel_rfl)
        exact Does.load 26 (.tmp 6) rfl gy 0 h6 (u64s ly) _ ((Blk.later V1.out.2.2.2.2 hb (Blk.lt V1.out.2.2.2.2)).whole) Try.underlying26 rfl (by rw [N_ly.out]; exact sizeElem)
      · intro ax wx hb hs hd
        have h19 : ax.tmps.getD 19 undef = (.agg (u64s ly).toArray) := hd 2 19 rfl (by kernel_rfl) (by decide)
        refine Does.call 25 #[(.agg (u64s ly).toArray)] (by clear hs hd; go_simp) ?_
        refine (finv_any _ _ HF.out.2 _).mono ?_
        rintro z w' ⟨r, rfl, fr, l⟩
        exact ⟨_, rfl, ⟨r, rfl, fr⟩, l⟩
      · intro ax wx hb hs hd
        exact Does.alloc 26 rfl 5 _ zeroElem hb.size
      · intro ax wx hb hs hd
        exact Does.alloc 26 rfl 5 _ zeroElem hb.size
    · intro wx hb
      refine @EndsP.val _ _ _ _ _ _ _ _ (.agg (u64s lx).toArray) rfl ?_
      refine @EndsP.any _ _ _ _ _ _ _ _ (isF (inv x)) (isF_later (inv x)) rfl ?_
      intro v1 p1
      refine @EndsP.val _ _ _ _ _ _ _ _ (.agg (u64s ly).toArray) rfl ?_
      refine @EndsP.any _ _ _ _ _ _ _ _ (isF (inv y)) (isF_later (inv y)) rfl ?_
      intro v3 p3
      refine @EndsP.blk _ _ _ _ _ _ _ _ 26 (u64s [0, 0, 0, 0, 0]) rfl ?_
      intro g4 hg4 bg4
      refine @EndsP.blk _ _ _ _ _ _ _ _ 26 (u64s [0, 0, 0, 0, 0]) rfl ?_
      intro g5 hg5 bg5
      intro hD n hn
      obtain ⟨m, rfl⟩ : ∃ m, n = m + 2 := ⟨n - 2, by have h3 : 2 ≤ n := hn; omega⟩
      obtain ⟨li, rfl, F_li⟩ := p1
      obtain ⟨lk, rfl, F_lk⟩ := p3
      have d01 : g4 ≠ g5 := fun e => hD 7 (by simp) 8 (by simp) (by decide) (by subst e; kernel_rfl)
      have N_li : Hid ((u64s li).length = 5) := by rw [u64s_length, F_li.len]; rfl
      have N_lk : Hid ((u64s lk).length = 5) := by rw [u64s_length, F_lk.len]; rfl
      clear hD hn
      simp only [Act.put, List.setIfInBounds_toArray, List.set_cons_zero, List.set_cons_succ]
      refine wpAny_ready (rs := [6]) (by kernel_rfl) (by simp) (AllReady.cons rfl (fun K hK => ?_) AllReady.nil)
      rw [if_pos (by rfl)]
      refine last_store 26 (.tmp 7) (.tmp 18) rfl rfl g4 rfl 26 _ (u64s li) rfl bg4 (by rw [N_li.out]; rfl) (by rw [N_li.out]; exact sizeElem) (u64s_one _) ?_
      intro w0 b0 s0 k0
      refine hK _ _ ?_
      refine wpAny_ready (rs := [7]) (by kernel_rfl) (by simp) (AllReady.cons rfl (fun K hK => ?_) AllReady.nil)
      rw [if_pos (by rfl)]
      refine last_store 26 (.tmp 8) (.tmp 20) rfl rfl g5 rfl 26 _ (u64s lk) rfl (bg5.kept k0 (by omega)) (by rw [N_lk.out]; rfl) (by rw [N_lk.out]; exact sizeElem) (u64s_one _) ?_
      intro w1 b1 s1 k1
      refine hK _ _ ?_
      refine wpAny_done (by kernel_rfl) (NoPanic.normal ?_) _
      have V2 : Hid (Below w.heap.size w w1 ∧ Blk w1 w.heap.size 22 (u8s aa) ∧ Blk w1 (w.heap.size + 1) 22 (u8s bb) ∧ Blk w1 gx 26 (u64s lx) ∧ Blk w1 gy 26 (u64s ly) ∧ Blk w1 g4 26 (u64s li) ∧ Blk w1 g5 26 (u64s lk)) := by
        have qb := hb.size
        have qw := V1.out.1.size
        have q0 := V1.out.2.1.lt
        have q1 := V1.out.2.2.1.lt
        have q2 := V1.out.2.2.2.1.lt
        have q3 := V1.out.2.2.2.2.lt
        exact ⟨below_kept (below_kept (below_chain V1.out.1 hb (by omega)) k0 (by omega) (fun j hj => by omega)) k1 (by omega) (fun j hj => by omega), (((V1.out.2.1.later hb V1.out.2.1.lt).kept k0 (by omega)).kept k1 (by omega)), (((V1.out.2.2.1.later hb V1.out.2.2.1.lt).kept k0 (by omega)).kept k1 (by omega)), (((V1.out.2.2.2.1.later hb V1.out.2.2.2.1.lt).kept k0 (by omega)).kept k1 (by omega)), (((V1.out.2.2.2.2.later hb V1.out.2.2.2.2.lt).kept k0 (by omega)).kept k1 (by omega)), (b0.kept k1 (by omega)), b1⟩
      obtain ⟨gi, rfl⟩ : ∃ q, q = g4 := ⟨_, rfl⟩
      obtain ⟨gk, rfl⟩ : ∃ q, q = g5 := ⟨_, rfl⟩
      obtain ⟨yV2, rfl⟩ : ∃ q, q = w1 := ⟨_, rfl⟩
      clear hb V1 hK b0 s0 k0 b1 s1 k1 bg4 hg4 bg5 hg5 d01
      have HI : Hid (Fe li (inv x) ∧ Fe lk (inv y)) := ⟨F_li, F_lk⟩
      clear F_li F_lk
      try simp only [Act.put, List.setIfInBounds_toArray, List.set_cons_zero, List.set_cons_succ]
      go_wp2_with (first | ((with_reducible show wpList _ _ _ (({ dst := some 21, op := _, type := _, pos := _, after := _, guard := _ } : Oper) :: _) _ _); refine wpList_load_blk rfl 26 (.tmp 5) rfl gx rfl (u64s lx) _ V2.out.2.2.2.1 Try.underlying26 rfl (by rw [N_lx.out]; exact sizeElem) ?_) | ((with_reducible show wpList _ _ _ (({ dst := some 22, op := _, type := _, pos := _, after := _, guard := _ } : Oper) :: _) _ _); refine wpList_load_blk rfl 26 (.tmp 6) rfl gy rfl (u64s ly) _ V2.out.2.2.2.2.1 Try.underlying26 rfl (by rw [N_ly.out]; exact sizeElem) ?_) | (go_at_call 32; refine (mul_any _ _ _ _ HF.out.1 HF.out.2 _).mono ?_; rintro e z3 ⟨lp, rfl, fp, l3⟩; have HG : Hid (Fe lp ((x * y) % PR)) := fp; have N_lp : Hid ((u64s lp).length = 5) := (by rw [u64s_length, fp.len]; rfl); clear fp) | ((with_reducible show wpList _ _ _ _ _ z3); refine wpList_alloc_new rfl 26 rfl 5 _ zeroElem ?_; intro z4 b4 s4 l4) | ((with_reducible show wpList _ _ _ _ _ z4); refine wpList_store_blk rfl 26 26 _ _ rfl _ rfl _ (u64s lp) rfl b4 (by rw [N_lp.out]; rfl) (by rw [N_lp.out]; exact sizeElem) (u64s_one _) ?_; intro z5 b5 s5 k5; obtain ⟨gp, hgp⟩ : ∃ q, z3.heap.size = q := ⟨_, rfl⟩; rw [hgp] at b5 k5; rw [hgp]; have V3 : Hid (Below w.heap.size w z5 ∧ Blk z5 w.heap.size 22 (u8s aa) ∧ Blk z5 (w.heap.size + 1) 22 (u8s bb) ∧ Blk z5 gx 26 (u64s lx) ∧ Blk z5 gy 26 (u64s ly) ∧ Blk z5 gi 26 (u64s li) ∧ Blk z5 gk 26 (u64s lk) ∧ Blk z5 gp 26 (u64s lp)) := (by have qw := V2.out.1.size; have q0 := V2.out.2.1.lt; have q1 := V2.out.2.2.1.lt; have q2 := V2.out.2.2.2.1.lt; have q3 := V2.out.2.2.2.2.1.lt; have q4 := V2.out.2.2.2.2.2.1.lt; have q5 := V2.out.2.2.2.2.2.2.lt; have q9 := l3.size; exact ⟨below_kept (below_chain (below_chain V2.out.1 l3 (by omega)) l4 (by omega)) k5 (by omega) (fun j hj => by omega), ((V2.out.2.1.later l3 q0).later l4 (by omega)).kept k5 (by omega), ((V2.out.2.2.1.later l3 q1).later l4 (by omega)).kept k5 (by omega), ((V2.out.2.2.2.1.later l3 q2).later l4 (by omega)).kept k5 (by omega), ((V2.out.2.2.2.2.1.later l3 q3).later l4 (by omega)).kept k5 (by omega), ((V2.out.2.2.2.2.2.1.later l3 q4).later l4 (by omega)).kept k5 (by omega), ((V2.out.2.2.2.2.2.2.later l3 q5).later l4 (by omega)).kept k5 (by omega), b5⟩); clear l3 b4 s4 l4 b5 s5 k5 hgp) | ((with_reducible show wpList _ _ _ (({ dst := some 24, op := _, type := _, pos := _, after := _, guard := _ } : Oper) :: _) _ _); refine wpList_load_blk rfl 26 (.tmp 5) rfl gx rfl (u64s lx) _ V3.out.2.2.2.1 Try.underlying26 rfl (by rw [N_lx.out]; exact sizeElem) ?_) | ((with_reducible show Calls _ 20 #[.agg (u64s lx).toArray] z5 _); refine (fzero_no _ _ HF.out.1 H0.out.1 _).mono ?_; rintro e z6 ⟨rfl, l6⟩) | ((with_reducible show wpList _ _ _ (({ dst := some 28, op := _, type := _, pos := _, after := _, guard := _ } : Oper) :: _) _ _); refine wpList_load_g (by rfl) 26 (.tmp 6) rfl gy rfl (u64s ly) _ (V3.out.2.2.2.2.1.later l6 V3.out.2.2.2.2.1.lt) Try.underlying26 rfl (by rw [N_ly.out]; exact sizeElem) ?_) | ((with_reducible show Calls _ 20 #[.agg (u64s ly).toArray] z6 _); refine (fzero_yes _ _ HF.out.2 H0.out.2.1 _).mono ?_; rintro e z7 ⟨rfl, l7⟩))
      have V4 : Hid (Below w.heap.size w z7 ∧ Blk z7 w.heap.size 22 (u8s aa) ∧ Blk z7 (w.heap.size + 1) 22 (u8s bb) ∧ Blk z7 gx 26 (u64s lx) ∧ Blk z7 gy 26 (u64s ly) ∧ Blk z7 gi 26 (u64s li) ∧ Blk z7 gk 26 (u64s lk) ∧ Blk z7 gp 26 (u64s lp)) := ⟨below_chain (below_chain V3.out.1 l6 V3.out.1.size) l7 (Nat.le_trans V3.out.1.size l6.size), ((V3.out.2.1.later l6 V3.out.2.1.lt).later l7 (Nat.lt_of_lt_of_le V3.out.2.1.lt l6.size)), ((V3.out.2.2.1.later l6 V3.out.2.2.1.lt).later l7 (Nat.lt_of_lt_of_le V3.out.2.2.1.lt l6.size)), ((V3.out.2.2.2.1.later l6 V3.out.2.2.2.1.lt).later l7 (Nat.lt_of_lt_of_le V3.out.2.2.2.1.lt l6.size)), ((V3.out.2.2.2.2.1.later l6 V3.out.2.2.2.2.1.lt).later l7 (Nat.lt_of_lt_of_le V3.out.2.2.2.2.1.lt l6.size)), ((V3.out.2.2.2.2.2.1.later l6 V3.out.2.2.2.2.2.1.lt).later l7 (Nat.lt_of_lt_of_le V3.out.2.2.2.2.2.1.lt l6.size)), ((V3.out.2.2.2.2.2.2.1.later l6 V3.out.2.2.2.2.2.2.1.lt).later l7 (Nat.lt_of_lt_of_le V3.out.2.2.2.2.2.2.1.lt l6.size)), ((V3.out.2.2.2.2.2.2.2.later l6 V3.out.2.2.2.2.2.2.2.lt).later l7 (Nat.lt_of_lt_of_le V3.out.2.2.2.2.2.2.2.lt l6.size))⟩
      clear V3 l6 l7
      refine region_invGT ((.val (.agg (u64s lp).toArray)) :: (.val (.int .u64 18446744073709551615)) :: (.val (.bool true)) :: (.val (.bool true)) :: (.val (.bool false)) :: (.val (.bool false)) :: (.val (.agg (u64s li).toArray)) :: (.any (isF (inv (inv x))) (isF_later (inv (inv x)))) :: (.val (.agg (u64s lx).toArray)) :: (.val (.bool true)) :: (.val (.bool false)) :: (.val (.bool false)) :: (.val (.bool false)) :: (.val (.agg (u64s lp).toArray)) :: (.any (isF (inv ((x * y) % PR))) (isF_later (inv ((x * y) % PR)))) :: (.val (.agg (u64s li).toArray)) :: (.val (.agg (u64s lk).toArray)) :: (.any (isF (((inv x) * (inv y)) % PR)) (isF_later (((inv x) * (inv y)) % PR))) :: (.val (.bool true)) :: (.val (.bool false)) :: []) (by kernel_rfl) (by kernel_rfl) (by repeat (first | exact trivial | (refine ⟨by first | trivial | rfl, ?_⟩))) (by kernel_rfl) ?_ ?_
      · refine Steps'.cons ?_ (Steps'.cons ?_ (Steps'.cons ?_ (Steps'.cons ?_ (Steps'.cons ?_ (Steps'.cons ?_ (Steps'.cons ?_ (Steps'.cons ?_ (Steps'.cons ?_ (Steps'.cons ?_ (Steps'.cons ?_ (Steps'.cons ?_ (Steps'.cons ?_ (Steps'.cons ?_ (Steps'.cons ?_ (Steps'.cons ?_ (Steps'.cons ?_ (Steps'.cons ?_ (Steps'.cons ?_ (Steps'.cons ?_ (Steps'.one _ _ _ _ _ _ _))))))))))))))))))))
        · intro ax wx hb hs hd
          have h9 : ax.tmps.getD 9 undef = (.pointer (some ⟨gp, 0, none⟩)) := hs 9 (by kernel_rfl)
          exact Does.load 26 (.tmp 9) rfl gp 0 h9 (u64s lp) _ ((Blk.later V4.out.2.2.2.2.2.2.2 hb (Blk.lt V4.out.2.2.2.2.2.2.2)).whole) Try.underlying26 rfl (by rw [N_lp.out]; exact sizeElem)
        · intro ax wx hb hs hd
          have h32 : ax.tmps.getD 32 undef = (.agg (u64s lp).toArray) := hd 0 32 rfl (by kernel_rfl) (by decide)
          refine Does.call 20 #[(.agg (u64s lp).toArray)] (by clear hs hd; go_simp) ?_
          refine (fzero_yes _ _ HG.out H0.out.2.2 _).mono ?_
          rintro z w' ⟨rfl, l⟩
          exact ⟨_, rfl, rfl, l⟩
        · intro ax wx hb hs hd
          have h33 : ax.tmps.getD 33 undef = (.int .u64 18446744073709551615) := hd 1 33 rfl (by kernel_rfl) (by decide)
          refine Does.value (.bool true) ?_ rfl
          clear hs hd
          go_simp
        · intro ax wx hb hs hd
          have h10 : ax.tmps.getD 10 undef = (.bool true) := hs 10 (by kernel_rfl)
          refine Does.value (.bool true) ?_ rfl
          clear hs hd
          go_simp
        · intro ax wx hb hs hd
          have h34 : ax.tmps.getD 34 undef = (.bool true) := hd 2 34 rfl (by kernel_rfl) (by decide)
          have h35 : ax.tmps.getD 35 undef = (.bool true) := hd 3 35 rfl (by kernel_rfl) (by decide)
          refine Does.value (.bool false) ?_ rfl
          clear hs hd
          go_simp
        · intro ax wx hb hs hd
          have h36 : ax.tmps.getD 36 undef = (.bool false) := hd 4 36 rfl (by kernel_rfl) (by decide)
          refine Does.value (.bool false) ?_ rfl
          clear hs hd
          go_simp
        · intro ax wx hb hs hd
          have h7 : ax.tmps.getD 7 undef = (.pointer (some ⟨gi, 0, none⟩)) := hs 7 (by kernel_rfl)
          exact Does.load 26 (.tmp 7) rfl gi 0 h7 (u64s li) _ ((Blk.later V4.out.2.2.2.2.2.1 hb (Blk.lt V4.out.2.2.2.2.2.1)).whole) Try.underlying26 rfl (by rw [N_li.out]; exact sizeElem)
        · intro ax wx hb hs hd
          have h38 : ax.tmps.getD 38 undef = (.agg (u64s li).toArray) := hd 6 38 rfl (by kernel_rfl) (by decide)
          refine Does.call 25 #[(.agg (u64s li).toArray)] (by clear hs hd; go_simp) ?_
          refine (finv_any _ _ HI.out.1 _).mono ?_
          rintro z w' ⟨r, rfl, fr, l⟩
          exact ⟨_, rfl, ⟨r, rfl, fr⟩, l⟩
        · intro ax wx hb hs hd
          have h5 : ax.tmps.getD 5 undef = (.pointer (some ⟨gx, 0, none⟩)) := hs 5 (by kernel_rfl)
          exact Does.load 26 (.tmp 5) rfl gx 0 h5 (u64s lx) _ ((Blk.later V4.out.2.2.2.1 hb (Blk.lt V4.out.2.2.2.1)).whole) Try.underlying26 rfl (by rw [N_lx.out]; exact sizeElem)
        · intro ax wx hb hs hd
          obtain ⟨l39, h39, f39⟩ : isF (inv (inv x)) (ax.tmps.getD 39 undef) wx := hd 7 39 rfl (by kernel_rfl) (by decide)
          have h40 : ax.tmps.getD 40 undef = (.agg (u64s lx).toArray) := hd 8 40 rfl (by kernel_rfl) (by decide)
          refine Does.call 28 #[(.agg (u64s l39).toArray), (.agg (u64s lx).toArray)] (by clear hs hd; go_simp) ?_
          refine (one_yes _ _ _ f39 (Fe.eq HF.out.1 ((inv_inv x RR.out.1).symm)) _).mono ?_
          rintro z w' ⟨rfl, l⟩
          exact ⟨_, rfl, rfl, l⟩
        · intro ax wx hb hs hd
          have h41 : ax.tmps.getD 41 undef = (.bool true) := hd 9 41 rfl (by kernel_rfl) (by decide)
          refine Does.value (.bool false) ?_ rfl
          clear hs hd
          go_simp
        · intro ax wx hb hs hd
          have h37 : ax.tmps.getD 37 undef = (.bool false) := hd 5 37 rfl (by kernel_rfl) (by decide)
          have h42 : ax.tmps.getD 42 undef = (.bool false) := hd 10 42 rfl (by kernel_rfl) (by decide)
          refine Does.value (.bool false) ?_ rfl
          clear hs hd
          go_simp
        · intro ax wx hb hs hd
          have h43 : ax.tmps.getD 43 undef = (.bool false) := hd 11 43 rfl (by kernel_rfl) (by decide)
          refine Does.value (.bool false) ?_ rfl
          clear hs hd
          go_simp
        · intro ax wx hb hs hd
          have h9 : ax.tmps.getD 9 undef = (.pointer (some ⟨gp, 0, none⟩)) := hs 9 (by kernel_rfl)
          exact Does.load 26 (.tmp 9) rfl gp 0 h9 (u64s lp) _ ((Blk.later V4.out.2.2.2.2.2.2.2 hb (Blk.lt V4.out.2.2.2.2.2.2.2)).whole) Try.underlying26 rfl (by rw [N_lp.out]; exact sizeElem)
        · intro ax wx hb hs hd
          have h45 : ax.tmps.getD 45 undef = (.agg (u64s lp).toArray) := hd 13 45 rfl (by kernel_rfl) (by decide)
          refine Does.call 25 #[(.agg (u64s lp).toArray)] (by clear hs hd; go_simp) ?_
          refine (finv_any _ _ HG.out _).mono ?_
          rintro z w' ⟨r, rfl, fr, l⟩
          exact ⟨_, rfl, ⟨r, rfl, fr⟩, l⟩
        · intro ax wx hb hs hd
          have h7 : ax.tmps.getD 7 undef = (.pointer (some ⟨gi, 0, none⟩)) := hs 7 (by kernel_rfl)
          exact Does.load 26 (.tmp 7) rfl gi 0 h7 (u64s li) _ ((Blk.later V4.out.2.2.2.2.2.1 hb (Blk.lt V4.out.2.2.2.2.2.1)).whole) Try.underlying26 rfl (by rw [N_li.out]; exact sizeElem)
        · intro ax wx hb hs hd
          have h8 : ax.tmps.getD 8 undef = (.pointer (some ⟨gk, 0, none⟩)) := hs 8 (by kernel_rfl)
          exact Does.load 26 (.tmp 8) rfl gk 0 h8 (u64s lk) _ ((Blk.later V4.out.2.2.2.2.2.2.1 hb (Blk.lt V4.out.2.2.2.2.2.2.1)).whole) Try.underlying26 rfl (by rw [N_lk.out]; exact sizeElem)
        · intro ax wx hb hs hd
          have h47 : ax.tmps.getD 47 undef = (.agg (u64s li).toArray) := hd 15 47 rfl (by kernel_rfl) (by decide)
          have h48 : ax.tmps.getD 48 undef = (.agg (u64s lk).toArray) := hd 16 48 rfl (by kernel_rfl) (by decide)
          refine Does.call 32 #[(.agg (u64s li).toArray), (.agg (u64s lk).toArray)] (by clear hs hd; go_simp) ?_
          refine (mul_any _ _ _ _ HI.out.1 HI.out.2 _).mono ?_
          rintro z w' ⟨r, rfl, fr, l⟩
          exact ⟨_, rfl, ⟨r, rfl, fr⟩, l⟩
        · intro ax wx hb hs hd
          obtain ⟨l46, h46, f46⟩ : isF (inv ((x * y) % PR)) (ax.tmps.getD 46 undef) wx := hd 14 46 rfl (by kernel_rfl) (by decide)
          obtain ⟨l49, h49, f49⟩ : isF (((inv x) * (inv y)) % PR) (ax.tmps.getD 49 undef) wx := hd 17 49 rfl (by kernel_rfl) (by decide)
          refine Does.call 28 #[(.agg (u64s l46).toArray), (.agg (u64s l49).toArray)] (by clear hs hd; go_simp) ?_
          refine (one_yes _ _ _ f46 (Fe.eq f49 ((inv_prod x y).symm)) _).mono ?_
          rintro z w' ⟨rfl, l⟩
          exact ⟨_, rfl, rfl, l⟩
        · intro ax wx hb hs hd
          have h50 : ax.tmps.getD 50 undef = (.bool true) := hd 18 50 rfl (by kernel_rfl) (by decide)
          refine Does.value (.bool false) ?_ rfl
          clear hs hd
          go_simp
      · intro wx hb
        refine @Ends.val _ _ _ _ _ _ _ _ _ (.agg (u64s lp).toArray) rfl ?_
        refine @Ends.val _ _ _ _ _ _ _ _ _ (.int .u64 18446744073709551615) rfl ?_
        refine @Ends.val _ _ _ _ _ _ _ _ _ (.bool true) rfl ?_
        refine @Ends.val _ _ _ _ _ _ _ _ _ (.bool true) rfl ?_
        refine @Ends.val _ _ _ _ _ _ _ _ _ (.bool false) rfl ?_
        refine @Ends.val _ _ _ _ _ _ _ _ _ (.bool false) rfl ?_
        refine @Ends.val _ _ _ _ _ _ _ _ _ (.agg (u64s li).toArray) rfl ?_
        refine @Ends.any _ _ _ _ _ _ _ _ _ (isF (inv (inv x))) (isF_later (inv (inv x))) rfl ?_
        intro v7 p7
        refine @Ends.val _ _ _ _ _ _ _ _ _ (.agg (u64s lx).toArray) rfl ?_
        refine @Ends.val _ _ _ _ _ _ _ _ _ (.bool true) rfl ?_
        refine @Ends.val _ _ _ _ _ _ _ _ _ (.bool false) rfl ?_
        refine @Ends.val _ _ _ _ _ _ _ _ _ (.bool false) rfl ?_
        refine @Ends.val _ _ _ _ _ _ _ _ _ (.bool false) rfl ?_
        refine @Ends.val _ _ _ _ _ _ _ _ _ (.agg (u64s lp).toArray) rfl ?_
        refine @Ends.any _ _ _ _ _ _ _ _ _ (isF (inv ((x * y) % PR))) (isF_later (inv ((x * y) % PR))) rfl ?_
        intro v14 p14
        refine @Ends.val _ _ _ _ _ _ _ _ _ (.agg (u64s li).toArray) rfl ?_
        refine @Ends.val _ _ _ _ _ _ _ _ _ (.agg (u64s lk).toArray) rfl ?_
        refine @Ends.any _ _ _ _ _ _ _ _ _ (isF (((inv x) * (inv y)) % PR)) (isF_later (((inv x) * (inv y)) % PR)) rfl ?_
        intro v17 p17
        refine @Ends.val _ _ _ _ _ _ _ _ _ (.bool true) rfl ?_
        refine @Ends.val _ _ _ _ _ _ _ _ _ (.bool false) rfl ?_
        refine @Ends.one _ _ _ _ _ _ _ ?_
        simp only [Act.put, List.setIfInBounds_toArray, List.set_cons_zero, List.set_cons_succ]
        refine last_value (some 52) rfl (.bool false) (by go_simp) ?_
        have V5 : Hid (Below w.heap.size w wx ∧ Blk wx w.heap.size 22 (u8s aa) ∧ Blk wx (w.heap.size + 1) 22 (u8s bb) ∧ Blk wx gx 26 (u64s lx) ∧ Blk wx gy 26 (u64s ly) ∧ Blk wx gi 26 (u64s li) ∧ Blk wx gk 26 (u64s lk) ∧ Blk wx gp 26 (u64s lp)) := ⟨below_chain V4.out.1 hb V4.out.1.size, (V4.out.2.1.later hb V4.out.2.1.lt), (V4.out.2.2.1.later hb V4.out.2.2.1.lt), (V4.out.2.2.2.1.later hb V4.out.2.2.2.1.lt), (V4.out.2.2.2.2.1.later hb V4.out.2.2.2.2.1.lt), (V4.out.2.2.2.2.2.1.later hb V4.out.2.2.2.2.2.1.lt), (V4.out.2.2.2.2.2.2.1.later hb V4.out.2.2.2.2.2.2.1.lt), (V4.out.2.2.2.2.2.2.2.later hb V4.out.2.2.2.2.2.2.2.lt)⟩
        obtain ⟨yV5, rfl⟩ : ∃ q, q = wx := ⟨_, rfl⟩
        clear V4 hb p7 p14 p17
        simp only [Act.put, List.setIfInBounds_toArray, List.set_cons_zero, List.set_cons_succ]
        go_wp2_with (first | ((with_reducible show wpList _ _ _ (({ dst := some 53, op := _, type := _, pos := _, after := _, guard := _ } : Oper) :: _) _ _); refine wpList_load_blk rfl 26 (.tmp 5) rfl gx rfl (u64s lx) _ V5.out.2.2.2.1 Try.underlying26 rfl (by rw [N_lx.out]; exact sizeElem) ?_) | ((with_reducible show Calls _ 20 #[.agg (u64s lx).toArray] yV5 _); refine (fzero_no _ _ HF.out.1 H0.out.1 _).mono ?_; rintro e z8 ⟨rfl, l8⟩))
        have V6 : Hid (Below w.heap.size w z8 ∧ Blk z8 w.heap.size 22 (u8s aa) ∧ Blk z8 (w.heap.size + 1) 22 (u8s bb) ∧ Blk z8 gx 26 (u64s lx) ∧ Blk z8 gy 26 (u64s ly) ∧ Blk z8 gi 26 (u64s li) ∧ Blk z8 gk 26 (u64s lk) ∧ Blk z8 gp 26 (u64s lp)) := ⟨below_chain V5.out.1 l8 V5.out.1.size, (V5.out.2.1.later l8 V5.out.2.1.lt), (V5.out.2.2.1.later l8 V5.out.2.2.1.lt), (V5.out.2.2.2.1.later l8 V5.out.2.2.2.1.lt), (V5.out.2.2.2.2.1.later l8 V5.out.2.2.2.2.1.lt), (V5.out.2.2.2.2.2.1.later l8 V5.out.2.2.2.2.2.1.lt), (V5.out.2.2.2.2.2.2.1.later l8 V5.out.2.2.2.2.2.2.1.lt), (V5.out.2.2.2.2.2.2.2.later l8 V5.out.2.2.2.2.2.2.2.lt)⟩
        clear V5 l8
        refine region_invG ((.val (.agg (u64s lx).toArray)) :: (.val (.agg (u64s li).toArray)) :: (.any (isF ((x * (inv x)) % PR)) (isF_later ((x * (inv x)) % PR))) :: (.any (isF 1) (isF_later 1)) :: (.val (.bool true)) :: (.val (.bool true)) :: (.val (.agg (u64s ly).toArray)) :: (.val (.agg (u64s lx).toArray)) :: (.any (isF ((y * x) % PR)) (isF_later ((y * x) % PR))) :: (.val (.agg (u64s li).toArray)) :: (.any (isF ((((y * x) % PR) * (inv x)) % PR)) (isF_later ((((y * x) % PR) * (inv x)) % PR))) :: (.val (.agg (u64s ly).toArray)) :: (.val (.bool true)) :: (.val (.bool true)) :: []) (by kernel_rfl) (by kernel_rfl) (by repeat (first | exact trivial | (refine ⟨by first | trivial | rfl, ?_⟩))) (by kernel_rfl) ?_ ?_
        · refine Steps'.cons ?_ (Steps'.cons ?_ (Steps'.cons ?_ (Steps'.cons ?_ (Steps'.cons ?_ (Steps'.cons ?_ (Steps'.cons ?_ (Steps'.cons ?_ (Steps'.cons ?_ (Steps'.cons ?_ (Steps'.cons ?_ (Steps'.cons ?_ (Steps'.cons ?_ (Steps'.cons ?_ (Steps'.one _ _ _ _ _ _ _))))))))))))))
          · intro ax wx hb hs hd
            have h5 : ax.tmps.getD 5 undef = (.pointer (some ⟨gx, 0, none⟩)) := hs 5 (by kernel_rfl)
            exact Does.load 26 (.tmp 5) rfl gx 0 h5 (u64s lx) _ ((Blk.later V6.out.2.2.2.1 hb (Blk.lt V6.out.2.2.2.1)).whole) Try.underlying26 rfl (by rw [N_lx.out]; exact sizeElem)
          · intro ax wx hb hs hd
            have h7 : ax.tmps.getD 7 undef = (.pointer (some ⟨gi, 0, none⟩)) := hs 7 (by kernel_rfl)
            exact Does.load 26 (.tmp 7) rfl gi 0 h7 (u64s li) _ ((Blk.later V6.out.2.2.2.2.2.1 hb (Blk.lt V6.out.2.2.2.2.2.1)).whole) Try.underlying26 rfl (by rw [N_li.out]; exact sizeElem)
          · intro ax wx hb hs hd
            have h59 : ax.tmps.getD 59 undef = (.agg (u64s lx).toArray) := hd 0 59 rfl (by kernel_rfl) (by decide)
            have h60 : ax.tmps.getD 60 undef = (.agg (u64s li).toArray) := hd 1 60 rfl (by kernel_rfl) (by decide)
            refine Does.call 32 #[(.agg (u64s lx).toArray), (.agg (u64s li).toArray)] (by clear hs hd; go_simp) ?_
            refine (mul_any _ _ _ _ HF.out.1 HI.out.1 _).mono ?_
            rintro z w' ⟨r, rfl, fr, l⟩
            exact ⟨_, rfl, ⟨r, rfl, fr⟩, l⟩
          · intro ax wx hb hs hd
            refine Does.call 15 #[(.int .u64 1)] (by clear hs hd; go_simp) ?_
            refine (small_any 1 (by decide) (by decide) _).mono ?_
            rintro z w' ⟨r, rfl, fr, l⟩
            exact ⟨_, rfl, ⟨r, rfl, fr⟩, l⟩
          · intro ax wx hb hs hd
            obtain ⟨l61, h61, f61⟩ : isF ((x * (inv x)) % PR) (ax.tmps.getD 61 undef) wx := hd 2 61 rfl (by kernel_rfl) (by decide)
            obtain ⟨l62, h62, f62⟩ : isF 1 (ax.tmps.getD 62 undef) wx := hd 3 62 rfl (by kernel_rfl) (by decide)
            refine Does.call 28 #[(.agg (u64s l61).toArray), (.agg (u64s l62).toArray)] (by clear hs hd; go_simp) ?_
            refine (one_yes _ _ _ f61 (Fe.eq f62 ((inv_mul x RR.out.1 H0.out.1).symm)) _).mono ?_
            rintro z w' ⟨rfl, l⟩
            exact ⟨_, rfl, rfl, l⟩
          · intro ax wx hb hs hd
            have h63 : ax.tmps.getD 63 undef = (.bool true) := hd 4 63 rfl (by kernel_rfl) (by decide)
            refine Does.value (.bool true) ?_ rfl
            clear hs hd
            go_simp
          · intro ax wx hb hs hd
            have h6 : ax.tmps.getD 6 undef = (.pointer (some ⟨gy, 0, none⟩)) := hs 6 (by kernel_rfl)
            exact Does.load 26 (.tmp 6) rfl gy 0 h6 (u64s ly) _ ((Blk.later V6.out.2.2.2.2.1 hb (Blk.lt V6.out.2.2.2.2.1)).whole) Try.underlying26 rfl (by rw [N_ly.out]; exact sizeElem)
          · intro ax wx hb hs hd
            have h5 : ax.tmps.getD 5 undef = (.pointer (some ⟨gx, 0, none⟩)) := hs 5 (by kernel_rfl)
            exact Does.load 26 (.tmp 5) rfl gx 0 h5 (u64s lx) _ ((Blk.later V6.out.2.2.2.1 hb (Blk.lt V6.out.2.2.2.1)).whole) Try.underlying26 rfl (by rw [N_lx.out]; exact sizeElem)
          · intro ax wx hb hs hd
            have h65 : ax.tmps.getD 65 undef = (.agg (u64s ly).toArray) := hd 6 65 rfl (by kernel_rfl) (by decide)
            have h66 : ax.tmps.getD 66 undef = (.agg (u64s lx).toArray) := hd 7 66 rfl (by kernel_rfl) (by decide)
            refine Does.call 32 #[(.agg (u64s ly).toArray), (.agg (u64s lx).toArray)] (by clear hs hd; go_simp) ?_
            refine (mul_any _ _ _ _ HF.out.2 HF.out.1 _).mono ?_
            rintro z w' ⟨r, rfl, fr, l⟩
            exact ⟨_, rfl, ⟨r, rfl, fr⟩, l⟩
          · intro ax wx hb hs hd
            have h7 : ax.tmps.getD 7 undef = (.pointer (some ⟨gi, 0, none⟩)) := hs 7 (by kernel_rfl)
            exact Does.load 26 (.tmp 7) rfl gi 0 h7 (u64s li) _ ((Blk.later V6.out.2.2.2.2.2.1 hb (Blk.lt V6.out.2.2.2.2.2.1)).whole) Try.underlying26 rfl (by rw [N_li.out]; exact sizeElem)
          · intro ax wx hb hs hd
            obtain ⟨l67, h67, f67⟩ : isF ((y * x) % PR) (ax.tmps.getD 67 undef) wx := hd 8 67 rfl (by kernel_rfl) (by decide)
            have h68 : ax.tmps.getD 68 undef = (.agg (u64s li).toArray) := hd 9 68 rfl (by kernel_rfl) (by decide)
            refine Does.call 32 #[(.agg (u64s l67).toArray), (.agg (u64s li).toArray)] (by clear hs hd; go_simp) ?_
            refine (mul_any _ _ _ _ f67 HI.out.1 _).mono ?_
            rintro z w' ⟨r, rfl, fr, l⟩
            exact ⟨_, rfl, ⟨r, rfl, fr⟩, l⟩
          · intro ax wx hb hs hd
            have h6 : ax.tmps.getD 6 undef = (.pointer (some ⟨gy, 0, none⟩)) := hs 6 (by kernel_rfl)
            exact Does.load 26 (.tmp 6) rfl gy 0 h6 (u64s ly) _ ((Blk.later V6.out.2.2.2.2.1 hb (Blk.lt V6.out.2.2.2.2.1)).whole) Try.underlying26 rfl (by rw [N_ly.out]; exact sizeElem)
          · intro ax wx hb hs hd
            obtain ⟨l69, h69, f69⟩ : isF ((((y * x) % PR) * (inv x)) % PR) (ax.tmps.getD 69 undef) wx := hd 10 69 rfl (by kernel_rfl) (by decide)
            have h70 : ax.tmps.getD 70 undef = (.agg (u64s ly).toArray) := hd 11 70 rfl (by kernel_rfl) (by decide)
            refine Does.call 28 #[(.agg (u64s l69).toArray), (.agg (u64s ly).toArray)] (by clear hs hd; go_simp) ?_
            refine (one_yes _ _ _ f69 (Fe.eq HF.out.2 (back_mul x y RR.out.1 RR.out.2 H0.out.1)) _).mono ?_
            rintro z w' ⟨rfl, l⟩
            exact ⟨_, rfl, rfl, l⟩
          · intro ax wx hb hs hd
            have h64 : ax.tmps.getD 64 undef = (.bool true) := hd 5 64 rfl (by kernel_rfl) (by decide)
            have h71 : ax.tmps.getD 71 undef = (.bool true) := hd 12 71 rfl (by kernel_rfl) (by decide)
            refine Does.value (.bool true) ?_ rfl
            clear hs hd
            go_simp
        · intro wx hb
          refine @Ends.val _ _ _ _ _ _ _ _ _ (.agg (u64s lx).toArray) rfl ?_
          refine @Ends.val _ _ _ _ _ _ _ _ _ (.agg (u64s li).toArray) rfl ?_
          refine @Ends.any _ _ _ _ _ _ _ _ _ (isF ((x * (inv x)) % PR)) (isF_later ((x * (inv x)) % PR)) rfl ?_
          intro v2 p2
          refine @Ends.any _ _ _ _ _ _ _ _ _ (isF 1) (isF_later 1) rfl ?_
          intro v3 p3
          refine @Ends.val _ _ _ _ _ _ _ _ _ (.bool true) rfl ?_
          refine @Ends.val _ _ _ _ _ _ _ _ _ (.bool true) rfl ?_
          refine @Ends.val _ _ _ _ _ _ _ _ _ (.agg (u64s ly).toArray) rfl ?_
          refine @Ends.val _ _ _ _ _ _ _ _ _ (.agg (u64s lx).toArray) rfl ?_
          refine @Ends.any _ _ _ _ _ _ _ _ _ (isF ((y * x) % PR)) (isF_later ((y * x) % PR)) rfl ?_
          intro v8 p8
          refine @Ends.val _ _ _ _ _ _ _ _ _ (.agg (u64s li).toArray) rfl ?_
          refine @Ends.any _ _ _ _ _ _ _ _ _ (isF ((((y * x) % PR) * (inv x)) % PR)) (isF_later ((((y * x) % PR) * (inv x)) % PR)) rfl ?_
          intro v10 p10
          refine @Ends.val _ _ _ _ _ _ _ _ _ (.agg (u64s ly).toArray) rfl ?_
          refine @Ends.val _ _ _ _ _ _ _ _ _ (.bool true) rfl ?_
          refine @Ends.val _ _ _ _ _ _ _ _ _ (.bool true) rfl ?_
          refine @Ends.one _ _ _ _ _ _ _ ?_
          simp only [Act.put, List.setIfInBounds_toArray, List.set_cons_zero, List.set_cons_succ]
          refine last_assign (.tmp 72) rfl (some 4) rfl (.bool true) rfl ?_
          have V7 : Hid (Below w.heap.size w wx ∧ Blk wx w.heap.size 22 (u8s aa) ∧ Blk wx (w.heap.size + 1) 22 (u8s bb) ∧ Blk wx gx 26 (u64s lx) ∧ Blk wx gy 26 (u64s ly) ∧ Blk wx gi 26 (u64s li) ∧ Blk wx gk 26 (u64s lk) ∧ Blk wx gp 26 (u64s lp)) := ⟨below_chain V6.out.1 hb V6.out.1.size, (V6.out.2.1.later hb V6.out.2.1.lt), (V6.out.2.2.1.later hb V6.out.2.2.1.lt), (V6.out.2.2.2.1.later hb V6.out.2.2.2.1.lt), (V6.out.2.2.2.2.1.later hb V6.out.2.2.2.2.1.lt), (V6.out.2.2.2.2.2.1.later hb V6.out.2.2.2.2.2.1.lt), (V6.out.2.2.2.2.2.2.1.later hb V6.out.2.2.2.2.2.2.1.lt), (V6.out.2.2.2.2.2.2.2.later hb V6.out.2.2.2.2.2.2.2.lt)⟩
          obtain ⟨yV7, rfl⟩ : ∃ q, q = wx := ⟨_, rfl⟩
          clear V6 hb p2 p3 p8 p10
          simp only [Act.put, List.setIfInBounds_toArray, List.set_cons_zero, List.set_cons_succ]
          go_wp2_with fail
          go_ret
          exact ⟨rfl, V7.out.1⟩
set_option maxRecDepth 20000 in
set_option maxHeartbeats 8000000 in
theorem inverse3 (aa bb : List Int) (la : aa.length = 32) (ba : Bytes aa) (lb : bb.length = 32) (bbb : Bytes bb) (hx0 : le aa % 57896044618658097711785492504343953926634992332820282019728792003956564819968 % PR ≠ 0) (hy0 : le bb % 57896044618658097711785492504343953926634992332820282019728792003956564819968 % PR ≠ 0) (w : World) :
    Calls Try.prog 7 #[.agg (u8s aa).toArray, .agg (u8s bb).toArray] w fun e w' => e = .returned (.bool true) ∧ Below w.heap.size w w' := by
  have hx := fof_any aa la ba
  have HA_aa : Hid ((u8s aa).length = 32) := by rw [u8s_length, la]; rfl
  obtain ⟨x, ex⟩ : ∃ q, le aa % 57896044618658097711785492504343953926634992332820282019728792003956564819968 % PR = q := ⟨_, rfl⟩
  have rx : 0 ≤ x ∧ x < PR := by rw [← ex]; exact ⟨Int.emod_nonneg _ (by decide), Int.emod_lt_of_pos _ (by decide)⟩
  rw [ex] at hx
  have HCx : Hid (∀ w, Calls Try.prog 12 #[.agg (u8s aa).toArray] w fun e w' => ∃ r, e = .returned (.agg (u64s r).toArray) ∧ Fe r x ∧ Below w.heap.size w w') := hx
  have hy := fof_any bb lb bbb
  have HA_bb : Hid ((u8s bb).length = 32) := by rw [u8s_length, lb]; rfl
  obtain ⟨y, ey⟩ : ∃ q, le bb % 57896044618658097711785492504343953926634992332820282019728792003956564819968 % PR = q := ⟨_, rfl⟩
  have ry : 0 ≤ y ∧ y < PR := by rw [← ey]; exact ⟨Int.emod_nonneg _ (by decide), Int.emod_lt_of_pos _ (by decide)⟩
  rw [ey] at hy
  have HCy : Hid (∀ w, Calls Try.prog 12 #[.agg (u8s bb).toArray] w fun e w' => ∃ r, e = .returned (.agg (u64s r).toArray) ∧ Fe r y ∧ Below w.heap.size w w') := hy
  rw [ex] at hx0
  rw [ey] at hy0
  have RR : Hid ((0 ≤ x ∧ x < PR) ∧ (0 ≤ y ∧ y < PR)) := ⟨rx, ry⟩
  have H0 : Hid (x ≠ 0 ∧ y ≠ 0 ∧ (x * y) % PR ≠ 0) := ⟨hx0, hy0, fun h => by rcases (prod_zero x y rx ry).1 h with h | h; exact hx0 h; exact hy0 h⟩
  clear hx ex la ba hy ey lb bbb rx ry hx0 hy0
  go_enter Try.func7, Try.ntmps7
  go_wp2_with (first | (refine wpList_box_new rfl 22 (.tmp 0) rfl (u8s aa) rfl ?_; intro x1 z1 s1 l1) | (refine wpList_box_new rfl 22 (.tmp 1) rfl (u8s bb) rfl ?_; intro x2 z2 s2 l2) | (go_at_call 27; refine (awake_any _).mono ?_; rintro e x4 ⟨rfl, l4⟩))
  have V0 : Hid (Below w.heap.size w x4 ∧ Blk x4 w.heap.size 22 (u8s aa) ∧ Blk x4 (w.heap.size + 1) 22 (u8s bb)) := by
    rw [s1] at z2
    exact ⟨below_chain (below_chain l1 l2 (by omega)) l4 (by omega), (z1.later l2 (by omega)).later l4 (by omega), z2.later l4 (by omega)⟩
  clear z1 s1 l1 z2 s2 l2 l4
  refine region_invP 6 ((.val (.agg (u8s aa).toArray)) :: (.any (isF x) (isF_later x)) :: (.val (.agg (u8s bb).toArray)) :: (.any (isF y) (isF_later y)) :: (.blk 26 (u64s [0, 0, 0, 0, 0])) :: (.blk 26 (u64s [0, 0, 0, 0, 0])) :: []) (by kernel_rfl) (by kernel_rfl) (by kernel_rfl) [5, 6] ⟨.inl rfl, .inl rfl, .inl rfl, .inl rfl, .inr ⟨26, _, 5, rfl, rfl, zeroElem⟩, .inr ⟨26, _, 5, rfl, rfl, zeroElem⟩, trivial⟩ (by kernel_rfl) ?_ ?_
  · refine Steps'.cons ?_ (Steps'.cons ?_ (Steps'.cons ?_ (Steps'.cons ?_ (Steps'.cons ?_ (Steps'.cons ?_ (Steps'.one _ _ _ _ _ _ _))))))
    · intro ax wx hb hs hd
      have h2 : ax.tmps.getD 2 undef = (.pointer (some ⟨w.heap.size, 0, none⟩)) := hs 2 (by kernel_rfl)
      exact Does.load 22 (.tmp 2) rfl w.heap.size 0 h2 (u8s aa) _ ((Blk.later V0.out.2.1 hb (Blk.lt V0.out.2.1)).whole) Try.underlying22 rfl (by rw [HA_aa.out]; exact size32)
    · intro ax wx hb hs hd
      have h13 : ax.tmps.getD 13 undef = (.agg (u8s aa).toArray) := hd 0 13 rfl (by kernel_rfl) (by decide)
      refine Does.call 12 #[(.agg (u8s aa).toArray)] (by clear hs hd; go_simp) ?_
      refine (HCx.out _).mono ?_
      rintro z w' ⟨r, rfl, fr, l⟩
      exact ⟨_, rfl, ⟨r, rfl, fr⟩, l⟩
    · intro ax wx hb hs hd
      have h3 : ax.tmps.getD 3 undef = (.pointer (some ⟨(w.heap.size + 1), 0, none⟩)) := hs 3 (by kernel_rfl)
      exact Does.load 22 (.tmp 3) rfl (w.heap.size + 1) 0 h3 (u8s bb) _ ((Blk.later V0.out.2.2 hb (Blk.lt V0.out.2.2)).whole) Try.underlying22 rfl (by rw [HA_bb.out]; exact size32)
    · intro ax wx hb hs hd
      have h15 : ax.tmps.getD 15 undef = (.agg (u8s bb).toArray) := hd 2 15 rfl (by kernel_rfl) (by decide)
      refine Does.call 12 #[(.agg (u8s bb).toArray)] (by clear hs hd; go_simp) ?_
      refine (HCy.out _).mono ?_
      rintro z w' ⟨r, rfl, fr, l⟩
      exact ⟨_, rfl, ⟨r, rfl, fr⟩, l⟩
    · intro ax wx hb hs hd
      exact Does.alloc 26 rfl 5 _ zeroElem hb.size
    · intro ax wx hb hs hd
      exact Does.alloc 26 rfl 5 _ zeroElem hb.size
  · intro wx hb
    refine @EndsP.val _ _ _ _ _ _ _ _ (.agg (u8s aa).toArray) rfl ?_
    refine @EndsP.any _ _ _ _ _ _ _ _ (isF x) (isF_later x) rfl ?_
    intro v1 p1
    refine @EndsP.val _ _ _ _ _ _ _ _ (.agg (u8s bb).toArray) rfl ?_
    refine @EndsP.any _ _ _ _ _ _ _ _ (isF y) (isF_later y) rfl ?_
    intro v3 p3
    refine @EndsP.blk _ _ _ _ _ _ _ _ 26 (u64s [0, 0, 0, 0, 0]) rfl ?_
    intro g4 hg4 bg4
    refine @EndsP.blk _ _ _ _ _ _ _ _ 26 (u64s [0, 0, 0, 0, 0]) rfl ?_
    intro g5 hg5 bg5
    intro hD n hn
    obtain ⟨m, rfl⟩ : ∃ m, n = m + 2 := ⟨n - 2, by have h3 : 2 ≤ n := hn; omega⟩
    obtain ⟨lx, rfl, F_lx⟩ := p1
    obtain ⟨ly, rfl, F_ly⟩ := p3
    have d01 : g4 ≠ g5 := fun e => hD 5 (by simp) 6 (by simp) (by decide) (by subst e; kernel_rfl)
    have N_lx : Hid ((u64s lx).length = 5) := by rw [u64s_length, F_lx.len]; rfl
    have N_ly : Hid ((u64s ly).length = 5) := by rw [u64s_length, F_ly.len]; rfl
    clear hD hn
    simp only [Act.put, List.setIfInBounds_toArray, List.set_cons_zero, List.set_cons_succ]
    refine wpAny_ready (rs := [6]) (by kernel_rfl) (by simp) (AllReady.cons rfl (fun K hK => ?_) AllReady.nil)
    rw [if_pos (by rfl)]
    refine last_store 26 (.tmp 5) (.tmp 14) rfl rfl g4 rfl 26 _ (u64s lx) rfl bg4 (by rw [N_lx.out]; rfl) (by rw [N_lx.out]; exact sizeElem) (u64s_one _) ?_
    intro w0 b0 s0 k0
    refine hK _ _ ?_
    refine wpAny_ready (rs := [7]) (by kernel_rfl) (by simp) (AllReady.cons rfl (fun K hK => ?_) AllReady.nil)
    rw [if_pos (by rfl)]
    refine last_store 26 (.tmp 6) (.tmp 16) rfl rfl g5 rfl 26 _ (u64s ly) rfl (bg5.kept k0 (by omega)) (by rw [N_ly.out]; rfl) (by rw [N_ly.out]; exact sizeElem) (u64s_one _) ?_
    intro w1 b1 s1 k1
    refine hK _ _ ?_
    refine wpAny_done (by kernel_rfl) (NoPanic.normal ?_) _
    have V1 : Hid (Below w.heap.size w w1 ∧ Blk w1 w.heap.size 22 (u8s aa) ∧ Blk w1 (w.heap.size + 1) 22 (u8s bb) ∧ Blk w1 g4 26 (u64s lx) ∧ Blk w1 g5 26 (u64s ly)) := by
      have qb := hb.size
      have qw := V0.out.1.size
      have q0 := V0.out.2.1.lt
      have q1 := V0.out.2.2.lt
      exact ⟨below_kept (below_kept (below_chain V0.out.1 hb (by omega)) k0 (by omega) (fun j hj => by omega)) k1 (by omega) (fun j hj => by omega), (((V0.out.2.1.later hb V0.out.2.1.lt).kept k0 (by omega)).kept k1 (by omega)), (((V0.out.2.2.later hb V0.out.2.2.lt).kept k0 (by omega)).kept k1 (by omega)), (b0.kept k1 (by omega)), b1⟩
    obtain ⟨gx, rfl⟩ : ∃ q, q = g4 := ⟨_, rfl⟩
    obtain ⟨gy, rfl⟩ : ∃ q, q = g5 := ⟨_, rfl⟩
    obtain ⟨yV1, rfl⟩ : ∃ q, q = w1 := ⟨_, rfl⟩
    clear hb V0 hK b0 s0 k0 b1 s1 k1 bg4 hg4 bg5 hg5 d01
    have HF : Hid (Fe lx x ∧ Fe ly y) := ⟨F_lx, F_ly⟩
    clear F_lx F_ly
    try simp only [Act.put, List.setIfInBounds_toArray, List.set_cons_zero, List.set_cons_succ]
    go_wp2_with fail
    refine region_invP 6 ((.val (.agg (u64s lx).toArray)) :: (.any (isF (inv x)) (isF_later (inv x))) :: (.val (.agg (u64s ly).toArray)) :: (.any (isF (inv y)) (isF_later (inv y))) :: (.blk 26 (u64s [0, 0, 0, 0, 0])) :: (.blk 26 (u64s [0, 0, 0, 0, 0])) :: []) (by kernel_rfl) (by kernel_rfl) (by kernel_rfl) [7, 8] ⟨.inl rfl, .inl rfl, .inl rfl, .inl rfl, .inr ⟨26, _, 5, rfl, rfl, zeroElem⟩, .inr ⟨26, _, 5, rfl, rfl, zeroElem⟩, trivial⟩ (by kernel_rfl) ?_ ?_
    · refine Steps'.cons ?_ (Steps'.cons ?_ (Steps'.cons ?_ (Steps'.cons ?_ (Steps'.cons ?_ (Steps'.cons ?_ (Steps'.one _ _ _ _ _ _ _))))))
      · intro ax wx hb hs hd
        have h5 : ax.tmps.getD 5 undef = (.pointer (some ⟨gx, 0, none⟩)) := hs 5 (by kernel_rfl)
        exact Does.load 26 (.tmp 5) rfl gx 0 h5 (u64s lx) _ ((Blk.later V1.out.2.2.2.1 hb (Blk.lt V1.out.2.2.2.1)).whole) Try.underlying26 rfl (by rw [N_lx.out]; exact sizeElem)
      · intro ax wx hb hs hd
        have h17 : ax.tmps.getD 17 undef = (.agg (u64s lx).toArray) := hd 0 17 rfl (by kernel_rfl) (by decide)
        refine Does.call 25 #[(.agg (u64s lx).toArray)] (by clear hs hd; go_simp) ?_
        refine (finv_any _ _ HF.out.1 _).mono ?_
        rintro z w' ⟨r, rfl, fr, l⟩
        exact ⟨_, rfl, ⟨r, rfl, fr⟩, l⟩
      · intro ax wx hb hs hd
        have h6 : ax.tmps.getD 6 undef = (.pointer (some ⟨gy, 0, none⟩)) := hs 6 (by kernel_rfl)
        exact Does.load 26 (.tmp 6) rfl gy 0 h6 (u64s ly) _ ((Blk.later V1.out.2.2.2.2 hb (Blk.lt V1.out.2.2.2.2)).whole) Try.underlying26 rfl (by rw [N_ly.out]; exact sizeElem)
      · intro ax wx hb hs hd
        have h19 : ax.tmps.getD 19 undef = (.agg (u64s ly).toArray) := hd 2 19 rfl (by kernel_rfl) (by decide)
        refine Does.call 25 #[(.agg (u64s ly).toArray)] (by clear hs hd; go_simp) ?_
        refine (finv_any _ _ HF.out.2 _).mono ?_
        rintro z w' ⟨r, rfl, fr, l⟩
        exact ⟨_, rfl, ⟨r, rfl, fr⟩, l⟩
      · intro ax wx hb hs hd
        exact Does.alloc 26 rfl 5 _ zeroElem hb.size
      · intro ax wx hb hs hd
        exact Does.alloc 26 rfl 5 _ zeroElem hb.size
    · intro wx hb
      refine @EndsP.val _ _ _ _ _ _ _ _ (.agg (u64s lx).toArray) rfl ?_
      refine @EndsP.any _ _ _ _ _ _ _ _ (isF (inv x)) (isF_later (inv x)) rfl ?_
      intro v1 p1
      refine @EndsP.val _ _ _ _ _ _ _ _ (.agg (u64s ly).toArray) rfl ?_
      refine @EndsP.any _ _ _ _ _ _ _ _ (isF (inv y)) (isF_later (inv y)) rfl ?_
      intro v3 p3
      refine @EndsP.blk _ _ _ _ _ _ _ _ 26 (u64s [0, 0, 0, 0, 0]) rfl ?_
      intro g4 hg4 bg4
      refine @EndsP.blk _ _ _ _ _ _ _ _ 26 (u64s [0, 0, 0, 0, 0]) rfl ?_
      intro g5 hg5 bg5
      intro hD n hn
      obtain ⟨m, rfl⟩ : ∃ m, n = m + 2 := ⟨n - 2, by have h3 : 2 ≤ n := hn; omega⟩
      obtain ⟨li, rfl, F_li⟩ := p1
      obtain ⟨lk, rfl, F_lk⟩ := p3
      have d01 : g4 ≠ g5 := fun e => hD 7 (by simp) 8 (by simp) (by decide) (by subst e; kernel_rfl)
      have N_li : Hid ((u64s li).length = 5) := by rw [u64s_length, F_li.len]; rfl
      have N_lk : Hid ((u64s lk).length = 5) := by rw [u64s_length, F_lk.len]; rfl
      clear hD hn
      simp only [Act.put, List.setIfInBounds_toArray, List.set_cons_zero, List.set_cons_succ]
      refine wpAny_ready (rs := [6]) (by kernel_rfl) (by simp) (AllReady.cons rfl (fun K hK => ?_) AllReady.nil)
      rw [if_pos (by rfl)]
      refine last_store 26 (.tmp 7) (.tmp 18) rfl rfl g4 rfl 26 _ (u64s li) rfl bg4 (by rw [N_li.out]; rfl) (by rw [N_li.out]; exact sizeElem) (u64s_one _) ?_
      intro w0 b0 s0 k0
      refine hK _ _ ?_
      refine wpAny_ready (rs := [7]) (by kernel_rfl) (by simp) (AllReady.cons rfl (fun K hK => ?_) AllReady.nil)
      rw [if_pos (by rfl)]
      refine last_store 26 (.tmp 8) (.tmp 20) rfl rfl g5 rfl 26 _ (u64s lk) rfl (bg5.kept k0 (by omega)) (by rw [N_lk.out]; rfl) (by rw [N_lk.out]; exact sizeElem) (u64s_one _) ?_
      intro w1 b1 s1 k1
      refine hK _ _ ?_
      refine wpAny_done (by kernel_rfl) (NoPanic.normal ?_) _
      have V2 : Hid (Below w.heap.size w w1 ∧ Blk w1 w.heap.size 22 (u8s aa) ∧ Blk w1 (w.heap.size + 1) 22 (u8s bb) ∧ Blk w1 gx 26 (u64s lx) ∧ Blk w1 gy 26 (u64s ly) ∧ Blk w1 g4 26 (u64s li) ∧ Blk w1 g5 26 (u64s lk)) := by
        have qb := hb.size
        have qw := V1.out.1.size
        have q0 := V1.out.2.1.lt
        have q1 := V1.out.2.2.1.lt
        have q2 := V1.out.2.2.2.1.lt
        have q3 := V1.out.2.2.2.2.lt
        exact ⟨below_kept (below_kept (below_chain V1.out.1 hb (by omega)) k0 (by omega) (fun j hj => by omega)) k1 (by omega) (fun j hj => by omega), (((V1.out.2.1.later hb V1.out.2.1.lt).kept k0 (by omega)).kept k1 (by omega)), (((V1.out.2.2.1.later hb V1.out.2.2.1.lt).kept k0 (by omega)).kept k1 (by omega)), (((V1.out.2.2.2.1.later hb V1.out.2.2.2.1.lt).kept k0 (by omega)).kept k1 (by omega)), (((V1.out.2.2.2.2.later hb V1.out.2.2.2.2.lt).kept k0 (by omega)).kept k1 (by omega)), (b0.kept k1 (by omega)), b1⟩
      obtain ⟨gi, rfl⟩ : ∃ q, q = g4 := ⟨_, rfl⟩
      obtain ⟨gk, rfl⟩ : ∃ q, q = g5 := ⟨_, rfl⟩
      obtain ⟨yV2, rfl⟩ : ∃ q, q = w1 := ⟨_, rfl⟩
      clear hb V1 hK b0 s0 k0 b1 s1 k1 bg4 hg4 bg5 hg5 d01
      have HI : Hid (Fe li (inv x) ∧ Fe lk (inv y)) := ⟨F_li, F_lk⟩
      clear F_li F_lk
      try simp only [Act.put, List.setIfInBounds_toArray, List.set_cons_zero, List.set_cons_succ]
      go_wp2_with (first | ((with_reducible show wpList _ _ _ (({ dst := some 21, op := _, type := _, pos := _, after := _, guard := _ } : Oper) :: _) _ _); refine wpList_load_blk rfl 26 (.tmp 5) rfl gx rfl (u64s lx) _ V2.out.2.2.2.1 Try.underlying26 rfl (by rw [N_lx.out]; exact sizeElem) ?_) | ((with_reducible show wpList _ _ _ (({ dst := some 22, op := _, type := _, pos := _, after := _, guard := _ } : Oper) :: _) _ _); refine wpList_load_blk rfl 26 (.tmp 6) rfl gy rfl (u64s ly) _ V2.out.2.2.2.2.1 Try.underlying26 rfl (by rw [N_ly.out]; exact sizeElem) ?_) | (go_at_call 32; refine (mul_any _ _ _ _ HF.out.1 HF.out.2 _).mono ?_; rintro e z3 ⟨lp, rfl, fp, l3⟩; have HG : Hid (Fe lp ((x * y) % PR)) := fp; have N_lp : Hid ((u64s lp).length = 5) := (by rw [u64s_length, fp.len]; rfl); clear fp) | ((with_reducible show wpList _ _ _ _ _ z3); refine wpList_alloc_new rfl 26 rfl 5 _ zeroElem ?_; intro z4 b4 s4 l4) | ((with_reducible show wpList _ _ _ _ _ z4); refine wpList_store_blk rfl 26 26 _ _ rfl _ rfl _ (u64s lp) rfl b4 (by rw [N_lp.out]; rfl) (by rw [N_lp.out]; exact sizeElem) (u64s_one _) ?_; intro z5 b5 s5 k5; obtain ⟨gp, hgp⟩ : ∃ q, z3.heap.size = q := ⟨_, rfl⟩; rw [hgp] at b5 k5; rw [hgp]; have V3 : Hid (Below w.heap.size w z5 ∧ Blk z5 w.heap.size 22 (u8s aa) ∧ Blk z5 (w.heap.size + 1) 22 (u8s bb) ∧ Blk z5 gx 26 (u64s lx) ∧ Blk z5 gy 26 (u64s ly) ∧ Blk z5 gi 26 (u64s li) ∧ Blk z5 gk 26 (u64s lk) ∧ Blk z5 gp 26 (u64s lp)) := (by have qw := V2.out.1.size; have q0 := V2.out.2.1.lt; have q1 := V2.out.2.2.1.lt; have q2 := V2.out.2.2.2.1.lt; have q3 := V2.out.2.2.2.2.1.lt; have q4 := V2.out.2.2.2.2.2.1.lt; have q5 := V2.out.2.2.2.2.2.2.lt; have q9 := l3.size; exact ⟨below_kept (below_chain (below_chain V2.out.1 l3 (by omega)) l4 (by omega)) k5 (by omega) (fun j hj => by omega), ((V2.out.2.1.later l3 q0).later l4 (by omega)).kept k5 (by omega), ((V2.out.2.2.1.later l3 q1).later l4 (by omega)).kept k5 (by omega), ((V2.out.2.2.2.1.later l3 q2).later l4 (by omega)).kept k5 (by omega), ((V2.out.2.2.2.2.1.later l3 q3).later l4 (by omega)).kept k5 (by omega), ((V2.out.2.2.2.2.2.1.later l3 q4).later l4 (by omega)).kept k5 (by omega), ((V2.out.2.2.2.2.2.2.later l3 q5).later l4 (by omega)).kept k5 (by omega), b5⟩); clear l3 b4 s4 l4 b5 s5 k5 hgp) | ((with_reducible show wpList _ _ _ (({ dst := some 24, op := _, type := _, pos := _, after := _, guard := _ } : Oper) :: _) _ _); refine wpList_load_blk rfl 26 (.tmp 5) rfl gx rfl (u64s lx) _ V3.out.2.2.2.1 Try.underlying26 rfl (by rw [N_lx.out]; exact sizeElem) ?_) | ((with_reducible show Calls _ 20 #[.agg (u64s lx).toArray] z5 _); refine (fzero_no _ _ HF.out.1 H0.out.1 _).mono ?_; rintro e z6 ⟨rfl, l6⟩) | ((with_reducible show wpList _ _ _ (({ dst := some 28, op := _, type := _, pos := _, after := _, guard := _ } : Oper) :: _) _ _); refine wpList_load_g (by rfl) 26 (.tmp 6) rfl gy rfl (u64s ly) _ (V3.out.2.2.2.2.1.later l6 V3.out.2.2.2.2.1.lt) Try.underlying26 rfl (by rw [N_ly.out]; exact sizeElem) ?_) | ((with_reducible show Calls _ 20 #[.agg (u64s ly).toArray] z6 _); refine (fzero_no _ _ HF.out.2 H0.out.2.1 _).mono ?_; rintro e z7 ⟨rfl, l7⟩))
      have V4 : Hid (Below w.heap.size w z7 ∧ Blk z7 w.heap.size 22 (u8s aa) ∧ Blk z7 (w.heap.size + 1) 22 (u8s bb) ∧ Blk z7 gx 26 (u64s lx) ∧ Blk z7 gy 26 (u64s ly) ∧ Blk z7 gi 26 (u64s li) ∧ Blk z7 gk 26 (u64s lk) ∧ Blk z7 gp 26 (u64s lp)) := ⟨below_chain (below_chain V3.out.1 l6 V3.out.1.size) l7 (Nat.le_trans V3.out.1.size l6.size), ((V3.out.2.1.later l6 V3.out.2.1.lt).later l7 (Nat.lt_of_lt_of_le V3.out.2.1.lt l6.size)), ((V3.out.2.2.1.later l6 V3.out.2.2.1.lt).later l7 (Nat.lt_of_lt_of_le V3.out.2.2.1.lt l6.size)), ((V3.out.2.2.2.1.later l6 V3.out.2.2.2.1.lt).later l7 (Nat.lt_of_lt_of_le V3.out.2.2.2.1.lt l6.size)), ((V3.out.2.2.2.2.1.later l6 V3.out.2.2.2.2.1.lt).later l7 (Nat.lt_of_lt_of_le V3.out.2.2.2.2.1.lt l6.size)), ((V3.out.2.2.2.2.2.1.later l6 V3.out.2.2.2.2.2.1.lt).later l7 (Nat.lt_of_lt_of_le V3.out.2.2.2.2.2.1.lt l6.size)), ((V3.out.2.2.2.2.2.2.1.later l6 V3.out.2.2.2.2.2.2.1.lt).later l7 (Nat.lt_of_lt_of_le V3.out.2.2.2.2.2.2.1.lt l6.size)), ((V3.out.2.2.2.2.2.2.2.later l6 V3.out.2.2.2.2.2.2.2.lt).later l7 (Nat.lt_of_lt_of_le V3.out.2.2.2.2.2.2.2.lt l6.size))⟩
      clear V3 l6 l7
      refine region_invGT ((.val (.agg (u64s lp).toArray)) :: (.val (.int .u64 0)) :: (.val (.bool false)) :: (.val (.bool false)) :: (.val (.bool false)) :: (.val (.bool false)) :: (.val (.agg (u64s li).toArray)) :: (.any (isF (inv (inv x))) (isF_later (inv (inv x)))) :: (.val (.agg (u64s lx).toArray)) :: (.val (.bool true)) :: (.val (.bool false)) :: (.val (.bool false)) :: (.val (.bool false)) :: (.val (.agg (u64s lp).toArray)) :: (.any (isF (inv ((x * y) % PR))) (isF_later (inv ((x * y) % PR)))) :: (.val (.agg (u64s li).toArray)) :: (.val (.agg (u64s lk).toArray)) :: (.any (isF (((inv x) * (inv y)) % PR)) (isF_later (((inv x) * (inv y)) % PR))) :: (.val (.bool true)) :: (.val (.bool false)) :: []) (by kernel_rfl) (by kernel_rfl) (by repeat (first | exact trivial | (refine ⟨by first | trivial | rfl, ?_⟩))) (by kernel_rfl) ?_ ?_
      · refine Steps'.cons ?_ (Steps'.cons ?_ (Steps'.cons ?_ (Steps'.cons ?_ (Steps'.cons ?_ (Steps'.cons ?_ (Steps'.cons ?_ (Steps'.cons ?_ (Steps'.cons ?_ (Steps'.cons ?_ (Steps'.cons ?_ (Steps'.cons ?_ (Steps'.cons ?_ (Steps'.cons ?_ (Steps'.cons ?_ (Steps'.cons ?_ (Steps'.cons ?_ (Steps'.cons ?_ (Steps'.cons ?_ (Steps'.cons ?_ (Steps'.one _ _ _ _ _ _ _))))))))))))))))))))
        · intro ax wx hb hs hd
          have h9 : ax.tmps.getD 9 undef = (.pointer (some ⟨gp, 0, none⟩)) := hs 9 (by kernel_rfl)
          exact Does.load 26 (.tmp 9) rfl gp 0 h9 (u64s lp) _ ((Blk.later V4.out.2.2.2.2.2.2.2 hb (Blk.lt V4.out.2.2.2.2.2.2.2)).whole) Try.underlying26 rfl (by rw [N_lp.out]; exact sizeElem)
        · intro ax wx hb hs hd
          have h32 : ax.tmps.getD 32 undef = (.agg (u64s lp).toArray) := hd 0 32 rfl (by kernel_rfl) (by decide)
          refine Does.call 20 #[(.agg (u64s lp).toArray)] (by clear hs hd; go_simp) ?_
          refine (fzero_no _ _ HG.out H0.out.2.2 _).mono ?_
          rintro z w' ⟨rfl, l⟩
          exact ⟨_, rfl, rfl, l⟩
        · intro ax wx hb hs hd
          have h33 : ax.tmps.getD 33 undef = (.int .u64 0) := hd 1 33 rfl (by kernel_rfl) (by decide)
          refine Does.value (.bool false) ?_ rfl
          clear hs hd
          go_simp
        · intro ax wx hb hs hd
          have h10 : ax.tmps.getD 10 undef = (.bool false) := hs 10 (by kernel_rfl)
          refine Does.value (.bool false) ?_ rfl
          clear hs hd
          go_simp
        · intro ax wx hb hs hd
          have h34 : ax.tmps.getD 34 undef = (.bool false) := hd 2 34 rfl (by kernel_rfl) (by decide)
          have h35 : ax.tmps.getD 35 undef = (.bool false) := hd 3 35 rfl (by kernel_rfl) (by decide)
          refine Does.value (.bool false) ?_ rfl
          clear hs hd
          go_simp
        · intro ax wx hb hs hd
          have h36 : ax.tmps.getD 36 undef = (.bool false) := hd 4 36 rfl (by kernel_rfl) (by decide)
          refine Does.value (.bool false) ?_ rfl
          clear hs hd
          go_simp
        · intro ax wx hb hs hd
          have h7 : ax.tmps.getD 7 undef = (.pointer (some ⟨gi, 0, none⟩)) := hs 7 (by kernel_rfl)
          exact Does.load 26 (.tmp 7) rfl gi 0 h7 (u64s li) _ ((Blk.later V4.out.2.2.2.2.2.1 hb (Blk.lt V4.out.2.2.2.2.2.1)).whole) Try.underlying26 rfl (by rw [N_li.out]; exact sizeElem)
        · intro ax wx hb hs hd
          have h38 : ax.tmps.getD 38 undef = (.agg (u64s li).toArray) := hd 6 38 rfl (by kernel_rfl) (by decide)
          refine Does.call 25 #[(.agg (u64s li).toArray)] (by clear hs hd; go_simp) ?_
          refine (finv_any _ _ HI.out.1 _).mono ?_
          rintro z w' ⟨r, rfl, fr, l⟩
          exact ⟨_, rfl, ⟨r, rfl, fr⟩, l⟩
        · intro ax wx hb hs hd
          have h5 : ax.tmps.getD 5 undef = (.pointer (some ⟨gx, 0, none⟩)) := hs 5 (by kernel_rfl)
          exact Does.load 26 (.tmp 5) rfl gx 0 h5 (u64s lx) _ ((Blk.later V4.out.2.2.2.1 hb (Blk.lt V4.out.2.2.2.1)).whole) Try.underlying26 rfl (by rw [N_lx.out]; exact sizeElem)
        · intro ax wx hb hs hd
          obtain ⟨l39, h39, f39⟩ : isF (inv (inv x)) (ax.tmps.getD 39 undef) wx := hd 7 39 rfl (by kernel_rfl) (by decide)
          have h40 : ax.tmps.getD 40 undef = (.agg (u64s lx).toArray) := hd 8 40 rfl (by kernel_rfl) (by decide)
          refine Does.call 28 #[(.agg (u64s l39).toArray), (.agg (u64s lx).toArray)] (by clear hs hd; go_simp) ?_
          refine (one_yes _ _ _ f39 (Fe.eq HF.out.1 ((inv_inv x RR.out.1).symm)) _).mono ?_
          rintro z w' ⟨rfl, l⟩
          exact ⟨_, rfl, rfl, l⟩
        · intro ax wx hb hs hd
          have h41 : ax.tmps.getD 41 undef = (.bool true) := hd 9 41 rfl (by kernel_rfl) (by decide)
          refine Does.value (.bool false) ?_ rfl
          clear hs hd
          go_simp
        · intro ax wx hb hs hd
          have h37 : ax.tmps.getD 37 undef = (.bool false) := hd 5 37 rfl (by kernel_rfl) (by decide)
          have h42 : ax.tmps.getD 42 undef = (.bool false) := hd 10 42 rfl (by kernel_rfl) (by decide)
          refine Does.value (.bool false) ?_ rfl
          clear hs hd
          go_simp
        · intro ax wx hb hs hd
          have h43 : ax.tmps.getD 43 undef = (.bool false) := hd 11 43 rfl (by kernel_rfl) (by decide)
          refine Does.value (.bool false) ?_ rfl
          clear hs hd
          go_simp
        · intro ax wx hb hs hd
          have h9 : ax.tmps.getD 9 undef = (.pointer (some ⟨gp, 0, none⟩)) := hs 9 (by kernel_rfl)
          exact Does.load 26 (.tmp 9) rfl gp 0 h9 (u64s lp) _ ((Blk.later V4.out.2.2.2.2.2.2.2 hb (Blk.lt V4.out.2.2.2.2.2.2.2)).whole) Try.underlying26 rfl (by rw [N_lp.out]; exact sizeElem)
        · intro ax wx hb hs hd
          have h45 : ax.tmps.getD 45 undef = (.agg (u64s lp).toArray) := hd 13 45 rfl (by kernel_rfl) (by decide)
          refine Does.call 25 #[(.agg (u64s lp).toArray)] (by clear hs hd; go_simp) ?_
          refine (finv_any _ _ HG.out _).mono ?_
          rintro z w' ⟨r, rfl, fr, l⟩
          exact ⟨_, rfl, ⟨r, rfl, fr⟩, l⟩
        · intro ax wx hb hs hd
          have h7 : ax.tmps.getD 7 undef = (.pointer (some ⟨gi, 0, none⟩)) := hs 7 (by kernel_rfl)
          exact Does.load 26 (.tmp 7) rfl gi 0 h7 (u64s li) _ ((Blk.later V4.out.2.2.2.2.2.1 hb (Blk.lt V4.out.2.2.2.2.2.1)).whole) Try.underlying26 rfl (by rw [N_li.out]; exact sizeElem)
        · intro ax wx hb hs hd
          have h8 : ax.tmps.getD 8 undef = (.pointer (some ⟨gk, 0, none⟩)) := hs 8 (by kernel_rfl)
          exact Does.load 26 (.tmp 8) rfl gk 0 h8 (u64s lk) _ ((Blk.later V4.out.2.2.2.2.2.2.1 hb (Blk.lt V4.out.2.2.2.2.2.2.1)).whole) Try.underlying26 rfl (by rw [N_lk.out]; exact sizeElem)
        · intro ax wx hb hs hd
          have h47 : ax.tmps.getD 47 undef = (.agg (u64s li).toArray) := hd 15 47 rfl (by kernel_rfl) (by decide)
          have h48 : ax.tmps.getD 48 undef = (.agg (u64s lk).toArray) := hd 16 48 rfl (by kernel_rfl) (by decide)
          refine Does.call 32 #[(.agg (u64s li).toArray), (.agg (u64s lk).toArray)] (by clear hs hd; go_simp) ?_
          refine (mul_any _ _ _ _ HI.out.1 HI.out.2 _).mono ?_
          rintro z w' ⟨r, rfl, fr, l⟩
          exact ⟨_, rfl, ⟨r, rfl, fr⟩, l⟩
        · intro ax wx hb hs hd
          obtain ⟨l46, h46, f46⟩ : isF (inv ((x * y) % PR)) (ax.tmps.getD 46 undef) wx := hd 14 46 rfl (by kernel_rfl) (by decide)
          obtain ⟨l49, h49, f49⟩ : isF (((inv x) * (inv y)) % PR) (ax.tmps.getD 49 undef) wx := hd 17 49 rfl (by kernel_rfl) (by decide)
          refine Does.call 28 #[(.agg (u64s l46).toArray), (.agg (u64s l49).toArray)] (by clear hs hd; go_simp) ?_
          refine (one_yes _ _ _ f46 (Fe.eq f49 ((inv_prod x y).symm)) _).mono ?_
          rintro z w' ⟨rfl, l⟩
          exact ⟨_, rfl, rfl, l⟩
        · intro ax wx hb hs hd
          have h50 : ax.tmps.getD 50 undef = (.bool true) := hd 18 50 rfl (by kernel_rfl) (by decide)
          refine Does.value (.bool false) ?_ rfl
          clear hs hd
          go_simp
      · intro wx hb
        refine @Ends.val _ _ _ _ _ _ _ _ _ (.agg (u64s lp).toArray) rfl ?_
        refine @Ends.val _ _ _ _ _ _ _ _ _ (.int .u64 0) rfl ?_
        refine @Ends.val _ _ _ _ _ _ _ _ _ (.bool false) rfl ?_
        refine @Ends.val _ _ _ _ _ _ _ _ _ (.bool false) rfl ?_
        refine @Ends.val _ _ _ _ _ _ _ _ _ (.bool false) rfl ?_
        refine @Ends.val _ _ _ _ _ _ _ _ _ (.bool false) rfl ?_
        refine @Ends.val _ _ _ _ _ _ _ _ _ (.agg (u64s li).toArray) rfl ?_
        refine @Ends.any _ _ _ _ _ _ _ _ _ (isF (inv (inv x))) (isF_later (inv (inv x))) rfl ?_
        intro v7 p7
        refine @Ends.val _ _ _ _ _ _ _ _ _ (.agg (u64s lx).toArray) rfl ?_
        refine @Ends.val _ _ _ _ _ _ _ _ _ (.bool true) rfl ?_
        refine @Ends.val _ _ _ _ _ _ _ _ _ (.bool false) rfl ?_
        refine @Ends.val _ _ _ _ _ _ _ _ _ (.bool false) rfl ?_
        refine @Ends.val _ _ _ _ _ _ _ _ _ (.bool false) rfl ?_
        refine @Ends.val _ _ _ _ _ _ _ _ _ (.agg (u64s lp).toArray) rfl ?_
        refine @Ends.any _ _ _ _ _ _ _ _ _ (isF (inv ((x * y) % PR))) (isF_later (inv ((x * y) % PR))) rfl ?_
        intro v14 p14
        refine @Ends.val _ _ _ _ _ _ _ _ _ (.agg (u64s li).toArray) rfl ?_
        refine @Ends.val _ _ _ _ _ _ _ _ _ (.agg (u64s lk).toArray) rfl ?_
        refine @Ends.any _ _ _ _ _ _ _ _ _ (isF (((inv x) * (inv y)) % PR)) (isF_later (((inv x) * (inv y)) % PR)) rfl ?_
        intro v17 p17
        refine @Ends.val _ _ _ _ _ _ _ _ _ (.bool true) rfl ?_
        refine @Ends.val _ _ _ _ _ _ _ _ _ (.bool false) rfl ?_
        refine @Ends.one _ _ _ _ _ _ _ ?_
        simp only [Act.put, List.setIfInBounds_toArray, List.set_cons_zero, List.set_cons_succ]
        refine last_value (some 52) rfl (.bool false) (by go_simp) ?_
        have V5 : Hid (Below w.heap.size w wx ∧ Blk wx w.heap.size 22 (u8s aa) ∧ Blk wx (w.heap.size + 1) 22 (u8s bb) ∧ Blk wx gx 26 (u64s lx) ∧ Blk wx gy 26 (u64s ly) ∧ Blk wx gi 26 (u64s li) ∧ Blk wx gk 26 (u64s lk) ∧ Blk wx gp 26 (u64s lp)) := ⟨below_chain V4.out.1 hb V4.out.1.size, (V4.out.2.1.later hb V4.out.2.1.lt), (V4.out.2.2.1.later hb V4.out.2.2.1.lt), (V4.out.2.2.2.1.later hb V4.out.2.2.2.1.lt), (V4.out.2.2.2.2.1.later hb V4.out.2.2.2.2.1.lt), (V4.out.2.2.2.2.2.1.later hb V4.out.2.2.2.2.2.1.lt), (V4.out.2.2.2.2.2.2.1.later hb V4.out.2.2.2.2.2.2.1.lt), (V4.out.2.2.2.2.2.2.2.later hb V4.out.2.2.2.2.2.2.2.lt)⟩
        obtain ⟨yV5, rfl⟩ : ∃ q, q = wx := ⟨_, rfl⟩
        clear V4 hb p7 p14 p17
        simp only [Act.put, List.setIfInBounds_toArray, List.set_cons_zero, List.set_cons_succ]
        go_wp2_with (first | ((with_reducible show wpList _ _ _ (({ dst := some 53, op := _, type := _, pos := _, after := _, guard := _ } : Oper) :: _) _ _); refine wpList_load_blk rfl 26 (.tmp 5) rfl gx rfl (u64s lx) _ V5.out.2.2.2.1 Try.underlying26 rfl (by rw [N_lx.out]; exact sizeElem) ?_) | ((with_reducible show Calls _ 20 #[.agg (u64s lx).toArray] yV5 _); refine (fzero_no _ _ HF.out.1 H0.out.1 _).mono ?_; rintro e z8 ⟨rfl, l8⟩))
        have V6 : Hid (Below w.heap.size w z8 ∧ Blk z8 w.heap.size 22 (u8s aa) ∧ Blk z8 (w.heap.size + 1) 22 (u8s bb) ∧ Blk z8 gx 26 (u64s lx) ∧ Blk z8 gy 26 (u64s ly) ∧ Blk z8 gi 26 (u64s li) ∧ Blk z8 gk 26 (u64s lk) ∧ Blk z8 gp 26 (u64s lp)) := ⟨below_chain V5.out.1 l8 V5.out.1.size, (V5.out.2.1.later l8 V5.out.2.1.lt), (V5.out.2.2.1.later l8 V5.out.2.2.1.lt), (V5.out.2.2.2.1.later l8 V5.out.2.2.2.1.lt), (V5.out.2.2.2.2.1.later l8 V5.out.2.2.2.2.1.lt), (V5.out.2.2.2.2.2.1.later l8 V5.out.2.2.2.2.2.1.lt), (V5.out.2.2.2.2.2.2.1.later l8 V5.out.2.2.2.2.2.2.1.lt), (V5.out.2.2.2.2.2.2.2.later l8 V5.out.2.2.2.2.2.2.2.lt)⟩
        clear V5 l8
        refine region_invG ((.val (.agg (u64s lx).toArray)) :: (.val (.agg (u64s li).toArray)) :: (.any (isF ((x * (inv x)) % PR)) (isF_later ((x * (inv x)) % PR))) :: (.any (isF 1) (isF_later 1)) :: (.val (.bool true)) :: (.val (.bool true)) :: (.val (.agg (u64s ly).toArray)) :: (.val (.agg (u64s lx).toArray)) :: (.any (isF ((y * x) % PR)) (isF_later ((y * x) % PR))) :: (.val (.agg (u64s li).toArray)) :: (.any (isF ((((y * x) % PR) * (inv x)) % PR)) (isF_later ((((y * x) % PR) * (inv x)) % PR))) :: (.val (.agg (u64s ly).toArray)) :: (.val (.bool true)) :: (.val (.bool true)) :: []) (by kernel_rfl) (by kernel_rfl) (by repeat (first | exact trivial | (refine ⟨by first | trivial | rfl, ?_⟩))) (by kernel_rfl) ?_ ?_
        · refine Steps'.cons ?_ (Steps'.cons ?_ (Steps'.cons ?_ (Steps'.cons ?_ (Steps'.cons ?_ (Steps'.cons ?_ (Steps'.cons ?_ (Steps'.cons ?_ (Steps'.cons ?_ (Steps'.cons ?_ (Steps'.cons ?_ (Steps'.cons ?_ (Steps'.cons ?_ (Steps'.cons ?_ (Steps'.one _ _ _ _ _ _ _))))))))))))))
          · intro ax wx hb hs hd
            have h5 : ax.tmps.getD 5 undef = (.pointer (some ⟨gx, 0, none⟩)) := hs 5 (by kernel_rfl)
            exact Does.load 26 (.tmp 5) rfl gx 0 h5 (u64s lx) _ ((Blk.later V6.out.2.2.2.1 hb (Blk.lt V6.out.2.2.2.1)).whole) Try.underlying26 rfl (by rw [N_lx.out]; exact sizeElem)
          · intro ax wx hb hs hd
            have h7 : ax.tmps.getD 7 undef = (.pointer (some ⟨gi, 0, none⟩)) := hs 7 (by kernel_rfl)
            exact Does.load 26 (.tmp 7) rfl gi 0 h7 (u64s li) _ ((Blk.later V6.out.2.2.2.2.2.1 hb (Blk.lt V6.out.2.2.2.2.2.1)).whole) Try.underlying26 rfl (by rw [N_li.out]; exact sizeElem)
          · intro ax wx hb hs hd
            have h59 : ax.tmps.getD 59 undef = (.agg (u64s lx).toArray) := hd 0 59 rfl (by kernel_rfl) (by decide)
            have h60 : ax.tmps.getD 60 undef = (.agg (u64s li).toArray) := hd 1 60 rfl (by kernel_rfl) (by decide)
            refine Does.call 32 #[(.agg (u64s lx).toArray), (.agg (u64s li).toArray)] (by clear hs hd; go_simp) ?_
            refine (mul_any _ _ _ _ HF.out.1 HI.out.1 _).mono ?_
            rintro z w' ⟨r, rfl, fr, l⟩
            exact ⟨_, rfl, ⟨r, rfl, fr⟩, l⟩
          · intro ax wx hb hs hd
            refine Does.call 15 #[(.int .u64 1)] (by clear hs hd; go_simp) ?_
            refine (small_any 1 (by decide) (by decide) _).mono ?_
            rintro z w' ⟨r, rfl, fr, l⟩
            exact ⟨_, rfl, ⟨r, rfl, fr⟩, l⟩
          · intro ax wx hb hs hd
            obtain ⟨l61, h61, f61⟩ : isF ((x * (inv x)) % PR) (ax.tmps.getD 61 undef) wx := hd 2 61 rfl (by kernel_rfl) (by decide)
            obtain ⟨l62, h62, f62⟩ : isF 1 (ax.tmps.getD 62 undef) wx := hd 3 62 rfl (by kernel_rfl) (by decide)
            refine Does.call 28 #[(.agg (u64s l61).toArray), (.agg (u64s l62).toArray)] (by clear hs hd; go_simp) ?_
            refine (one_yes _ _ _ f61 (Fe.eq f62 ((inv_mul x RR.out.1 H0.out.1).symm)) _).mono ?_
            rintro z w' ⟨rfl, l⟩
            exact ⟨_, rfl, rfl, l⟩
          · intro ax wx hb hs hd
            have h63 : ax.tmps.getD 63 undef = (.bool true) := hd 4 63 rfl (by kernel_rfl) (by decide)
            refine Does.value (.bool true) ?_ rfl
            clear hs hd
            go_simp
          · intro ax wx hb hs hd
            have h6 : ax.tmps.getD 6 undef = (.pointer (some ⟨gy, 0, none⟩)) := hs 6 (by kernel_rfl)
            exact Does.load 26 (.tmp 6) rfl gy 0 h6 (u64s ly) _ ((Blk.later V6.out.2.2.2.2.1 hb (Blk.lt V6.out.2.2.2.2.1)).whole) Try.underlying26 rfl (by rw [N_ly.out]; exact sizeElem)
          · intro ax wx hb hs hd
            have h5 : ax.tmps.getD 5 undef = (.pointer (some ⟨gx, 0, none⟩)) := hs 5 (by kernel_rfl)
            exact Does.load 26 (.tmp 5) rfl gx 0 h5 (u64s lx) _ ((Blk.later V6.out.2.2.2.1 hb (Blk.lt V6.out.2.2.2.1)).whole) Try.underlying26 rfl (by rw [N_lx.out]; exact sizeElem)
          · intro ax wx hb hs hd
            have h65 : ax.tmps.getD 65 undef = (.agg (u64s ly).toArray) := hd 6 65 rfl (by kernel_rfl) (by decide)
            have h66 : ax.tmps.getD 66 undef = (.agg (u64s lx).toArray) := hd 7 66 rfl (by kernel_rfl) (by decide)
            refine Does.call 32 #[(.agg (u64s ly).toArray), (.agg (u64s lx).toArray)] (by clear hs hd; go_simp) ?_
            refine (mul_any _ _ _ _ HF.out.2 HF.out.1 _).mono ?_
            rintro z w' ⟨r, rfl, fr, l⟩
            exact ⟨_, rfl, ⟨r, rfl, fr⟩, l⟩
          · intro ax wx hb hs hd
            have h7 : ax.tmps.getD 7 undef = (.pointer (some ⟨gi, 0, none⟩)) := hs 7 (by kernel_rfl)
            exact Does.load 26 (.tmp 7) rfl gi 0 h7 (u64s li) _ ((Blk.later V6.out.2.2.2.2.2.1 hb (Blk.lt V6.out.2.2.2.2.2.1)).whole) Try.underlying26 rfl (by rw [N_li.out]; exact sizeElem)
          · intro ax wx hb hs hd
            obtain ⟨l67, h67, f67⟩ : isF ((y * x) % PR) (ax.tmps.getD 67 undef) wx := hd 8 67 rfl (by kernel_rfl) (by decide)
            have h68 : ax.tmps.getD 68 undef = (.agg (u64s li).toArray) := hd 9 68 rfl (by kernel_rfl) (by decide)
            refine Does.call 32 #[(.agg (u64s l67).toArray), (.agg (u64s li).toArray)] (by clear hs hd; go_simp) ?_
            refine (mul_any _ _ _ _ f67 HI.out.1 _).mono ?_
            rintro z w' ⟨r, rfl, fr, l⟩
            exact ⟨_, rfl, ⟨r, rfl, fr⟩, l⟩
          · intro ax wx hb hs hd
            have h6 : ax.tmps.getD 6 undef = (.pointer (some ⟨gy, 0, none⟩)) := hs 6 (by kernel_rfl)
            exact Does.load 26 (.tmp 6) rfl gy 0 h6 (u64s ly) _ ((Blk.later V6.out.2.2.2.2.1 hb (Blk.lt V6.out.2.2.2.2.1)).whole) Try.underlying26 rfl (by rw [N_ly.out]; exact sizeElem)
          · intro ax wx hb hs hd
            obtain ⟨l69, h69, f69⟩ : isF ((((y * x) % PR) * (inv x)) % PR) (ax.tmps.getD 69 undef) wx := hd 10 69 rfl (by kernel_rfl) (by decide)
            have h70 : ax.tmps.getD 70 undef = (.agg (u64s ly).toArray) := hd 11 70 rfl (by kernel_rfl) (by decide)
            refine Does.call 28 #[(.agg (u64s l69).toArray), (.agg (u64s ly).toArray)] (by clear hs hd; go_simp) ?_
            refine (one_yes _ _ _ f69 (Fe.eq HF.out.2 (back_mul x y RR.out.1 RR.out.2 H0.out.1)) _).mono ?_
            rintro z w' ⟨rfl, l⟩
            exact ⟨_, rfl, rfl, l⟩
          · intro ax wx hb hs hd
            have h64 : ax.tmps.getD 64 undef = (.bool true) := hd 5 64 rfl (by kernel_rfl) (by decide)
            have h71 : ax.tmps.getD 71 undef = (.bool true) := hd 12 71 rfl (by kernel_rfl) (by decide)
            refine Does.value (.bool true) ?_ rfl
            clear hs hd
            go_simp
        · intro wx hb
          refine @Ends.val _ _ _ _ _ _ _ _ _ (.agg (u64s lx).toArray) rfl ?_
          refine @Ends.val _ _ _ _ _ _ _ _ _ (.agg (u64s li).toArray) rfl ?_
          refine @Ends.any _ _ _ _ _ _ _ _ _ (isF ((x * (inv x)) % PR)) (isF_later ((x * (inv x)) % PR)) rfl ?_
          intro v2 p2
          refine @Ends.any _ _ _ _ _ _ _ _ _ (isF 1) (isF_later 1) rfl ?_
          intro v3 p3
          refine @Ends.val _ _ _ _ _ _ _ _ _ (.bool true) rfl ?_
          refine @Ends.val _ _ _ _ _ _ _ _ _ (.bool true) rfl ?_
          refine @Ends.val _ _ _ _ _ _ _ _ _ (.agg (u64s ly).toArray) rfl ?_
          refine @Ends.val _ _ _ _ _ _ _ _ _ (.agg (u64s lx).toArray) rfl ?_
          refine @Ends.any _ _ _ _ _ _ _ _ _ (isF ((y * x) % PR)) (isF_later ((y * x) % PR)) rfl ?_
          intro v8 p8
          refine @Ends.val _ _ _ _ _ _ _ _ _ (.agg (u64s li).toArray) rfl ?_
          refine @Ends.any _ _ _ _ _ _ _ _ _ (isF ((((y * x) % PR) * (inv x)) % PR)) (isF_later ((((y * x) % PR) * (inv x)) % PR)) rfl ?_
          intro v10 p10
          refine @Ends.val _ _ _ _ _ _ _ _ _ (.agg (u64s ly).toArray) rfl ?_
          refine @Ends.val _ _ _ _ _ _ _ _ _ (.bool true) rfl ?_
          refine @Ends.val _ _ _ _ _ _ _ _ _ (.bool true) rfl ?_
          refine @Ends.one _ _ _ _ _ _ _ ?_
          simp only [Act.put, List.setIfInBounds_toArray, List.set_cons_zero, List.set_cons_succ]
          refine last_assign (.tmp 72) rfl (some 4) rfl (.bool true) rfl ?_
          have V7 : Hid (Below w.heap.size w wx ∧ Blk wx w.heap.size 22 (u8s aa) ∧ Blk wx (w.heap.size + 1) 22 (u8s bb) ∧ Blk wx gx 26 (u64s lx) ∧ Blk wx gy 26 (u64s ly) ∧ Blk wx gi 26 (u64s li) ∧ Blk wx gk 26 (u64s lk) ∧ Blk wx gp 26 (u64s lp)) := ⟨below_chain V6.out.1 hb V6.out.1.size, (V6.out.2.1.later hb V6.out.2.1.lt), (V6.out.2.2.1.later hb V6.out.2.2.1.lt), (V6.out.2.2.2.1.later hb V6.out.2.2.2.1.lt), (V6.out.2.2.2.2.1.later hb V6.out.2.2.2.2.1.lt), (V6.out.2.2.2.2.2.1.later hb V6.out.2.2.2.2.2.1.lt), (V6.out.2.2.2.2.2.2.1.later hb V6.out.2.2.2.2.2.2.1.lt), (V6.out.2.2.2.2.2.2.2.later hb V6.out.2.2.2.2.2.2.2.lt)⟩
          obtain ⟨yV7, rfl⟩ : ∃ q, q = wx := ⟨_, rfl⟩
          clear V6 hb p2 p3 p8 p10
          simp only [Act.put, List.setIfInBounds_toArray, List.set_cons_zero, List.set_cons_succ]
          go_wp2_with fail
          go_ret
          exact ⟨rfl, V7.out.1⟩
theorem inverse_any (aa bb : List Int) (la : aa.length = 32) (ba : Bytes aa) (lb : bb.length = 32) (bbb : Bytes bb) (w : World) :
    Calls Try.prog 7 #[.agg (u8s aa).toArray, .agg (u8s bb).toArray] w fun e w' => e = .returned (.bool true) ∧ Below w.heap.size w w' := by
  by_cases hx : le aa % 57896044618658097711785492504343953926634992332820282019728792003956564819968 % PR = 0
  · exact inverse1 aa bb la ba lb bbb hx rfl w
  · by_cases hy : le bb % 57896044618658097711785492504343953926634992332820282019728792003956564819968 % PR = 0
    · exact inverse2 aa bb la ba lb bbb hx hy w
    · exact inverse3 aa bb la ba lb bbb hx hy w
end Go.Proofs.Ytfeeikkfjbdkiaa
