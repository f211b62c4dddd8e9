/- The document's numbers of ladder: product. -/
import Derived.Test.YtnifolefhelmcaaQPrM
import Derived.Test.YtnifolefhelmcaaLdSwap
import Derived.Test.YtnifolefhelmcaaRInvT
import Derived.Test.YtnifolefhelmcaaRInvP
import Derived.Test.YtnifolefhelmcaaRInvH
namespace Go.Proofs.Ytnifolefhelmcaa
open Go.RowKit
set_option linter.unusedVariables false
set_option linter.unusedSimpArgs false

set_option maxRecDepth 20000 in
set_option maxHeartbeats 8000000 in
theorem qprod_any (ks us : List Int) (hk : ks.length = 32) (bk : Bytes ks) (hu : us.length = 32) (bu : Bytes us) (w : World) :
    Calls Try.prog 112 #[.agg (u8s ks).toArray, .agg (u8s us).toArray] w fun e w' => ∃ a b, e = .returned (.tuple #[.agg (i64s a).toArray, .agg (i64s b).toArray]) ∧ Nd a (ladI (pubN us) (le (clampL ks)).toNat 255).1 ∧ Nd b (ladI (pubN us) (le (clampL ks)).toNat 255).2.1 ∧ Below w.heap.size w w' := by
  have HC := qclamp_any ks hk bk
  have HO := qof_any us hu bu
  have HN : Hid ((clampL ks).length = 32 ∧ Bytes (clampL ks) ∧ ks.length = 32 ∧ us.length = 32) := ⟨by rw [clampL_length]; exact hk, clampL_bytes ks bk hk, hk, hu⟩
  obtain ⟨u, hu2⟩ : ∃ z, pubN us = z := ⟨_, rfl⟩
  rw [hu2] at HO ⊢
  obtain ⟨n, hn⟩ : ∃ z, (le (clampL ks)).toNat = z := ⟨_, rfl⟩
  rw [hn]
  obtain ⟨ns, hns⟩ : ∃ z, clampL ks = z := ⟨_, rfl⟩
  rw [hns] at HC HN hn
  have HM : Hid ((le ns).toNat = n) := hn
  have LN : Hid (∀ l : List Int, l.length = 16 → (Try.prog.info? 140).map (·.size) = some (i64s l).length) := fun l h => by rw [i64s_length, h]; exact sizeNm
  have L32 : Hid (∀ l : List Int, l.length = 32 → (Try.prog.info? 58).map (·.size) = some (u8s l).length) := fun l h => by rw [u8s_length, h]; exact sizeKey
  clear hk bk hu bu hu2 hn hns
  go_enter Try.func112, Try.ntmps112
  go_wp2_with (first | (refine wpList_box_new rfl 58 (.tmp 0) rfl (u8s ks) rfl ?_; intro x0 z0 s0 l0) | (refine wpList_box_new rfl 58 (.tmp 1) rfl (u8s us) rfl ?_; intro x1 z1 s1 l1; rw [s0] at z1) | ((with_reducible show wpList _ _ _ (({ dst := some 4, op := _, type := _, pos := _, after := _, guard := _ } : Oper) :: _) _ _); refine wpList_alloc_new rfl 140 rfl 16 _ zeroNm ?_; intro x2 z2 s2 l2; rw [s1, s0] at z2) | ((with_reducible show wpList _ _ _ (({ dst := some 5, op := _, type := _, pos := _, after := _, guard := _ } : Oper) :: _) _ _); refine wpList_alloc_new rfl 140 rfl 16 _ zeroNm ?_; intro x3 z3 s3 l3; rw [s2, s1, s0] at z3; have a0 := ((z0.later l1 (by omega)).later l2 (by omega)).later l3 (by omega); have a1 := (z1.later l2 (by omega)).later l3 (by omega); have a2 := z2.later l3 (by omega)) | ((with_reducible show wpList _ _ _ (({ dst := some 25, op := _, type := _, pos := _, after := _, guard := _ } : Oper) :: _) _ _); refine wpList_load_blk rfl 58 _ rfl w.heap.size rfl (u8s ks) _ a0 Try.underlying58 rfl (L32.out _ HN.out.2.2.1) ?_) | ((with_reducible show Calls _ _ #[.agg (u8s ks).toArray] _ _); refine (HC _).mono ?_; rintro e x4 ⟨rfl, l4⟩) | ((with_reducible show wpList _ _ _ (({ dst := some 6, op := _, type := _, pos := _, after := _, guard := _ } : Oper) :: _) _ _); refine wpList_alloc_new rfl 58 rfl 32 _ zeroKey ?_; intro x5 z5 s5 l5) | ((with_reducible show wpList _ _ _ (({ dst := none, op := .store _ (.tmp 6) (.tmp 26), type := _, pos := _, after := _, guard := _ } : Oper) :: _) _ _); refine wpList_store_blk rfl 58 58 _ _ rfl _ rfl _ (u8s ns) rfl z5 (by rw [u8s_length, HN.out.1]; rfl) (L32.out _ HN.out.1) (u8s_one _) ?_; intro x6 z6 s6 k6; have c1 := ((a1.later l4 (by omega)).later l5 (by have := l4.size; omega)).kept k6 (by have := l4.size; omega)) | ((with_reducible show wpList _ _ _ (({ dst := some 27, op := _, type := _, pos := _, after := _, guard := _ } : Oper) :: _) _ _); refine wpList_load_blk rfl 58 _ rfl (w.heap.size + 1) rfl (u8s us) _ c1 Try.underlying58 rfl (L32.out _ HN.out.2.2.2) ?_) | ((with_reducible show Calls _ _ #[.agg (u8s us).toArray] _ _); refine (HO _).mono ?_; rintro e x7 ⟨lu, rfl, F_lu, l7⟩) | ((with_reducible show wpList _ _ _ (({ dst := some 7, op := _, type := _, pos := _, after := _, guard := _ } : Oper) :: _) _ _); refine wpList_alloc_new rfl 140 rfl 16 _ zeroNm ?_; intro x8 z8 s8 l8) | ((with_reducible show wpList _ _ _ (({ dst := none, op := .store _ (.tmp 7) (.tmp 28), type := _, pos := _, after := _, guard := _ } : Oper) :: _) _ _); refine wpList_store_blk rfl 140 140 _ _ rfl _ rfl _ (i64s lu) rfl z8 (by rw [i64s_length, F_lu.len]; rfl) (LN.out _ F_lu.len) (i64s_one _) ?_; intro x9 z9 s9 k9))
  obtain ⟨gn, hgn⟩ : ∃ q, x4.heap.size = q := ⟨_, rfl⟩
  obtain ⟨gx, hgx⟩ : ∃ q, x7.heap.size = q := ⟨_, rfl⟩
  have H_lu : Hid (Nd lu u) := F_lu
  have V1 : Hid (Below w.heap.size w x9 ∧ Blk x9 (w.heap.size + 1 + 1) 140 (i64s (List.replicate 16 0)) ∧ Blk x9 (w.heap.size + 1 + 1 + 1) 140 (i64s (List.replicate 16 0)) ∧ Blk x9 gn 58 (u8s ns) ∧ Blk x9 gx 140 (i64s lu) ∧ (x9.heap.size ≤ x9.heap.size ∧ w.heap.size + 1 + 1 + 1 < gn ∧ gn < gx ∧ gx < x9.heap.size)) := by
    have q4 := l4.size
    have q7 := l7.size
    have q8 := z9.lt
    rw [hgn] at z6 k6 s5
    rw [hgx] at z9 k9 s8
    exact ⟨below_kept (below_chain (below_chain (below_kept (below_chain (below_chain (below_chain (below_chain (below_chain l0 l1 (by omega)) l2 (by omega)) l3 (by omega)) l4 (by omega)) l5 (by omega)) k6 (by omega) (fun j hj => by omega)) l7 (by omega)) l8 (by omega)) k9 (by omega) (fun j hj => by omega), (((((a2.later l4 (by omega)).later l5 (by omega)).kept k6 (by omega)).later l7 (by omega)).later l8 (by omega)).kept k9 (by omega), (((((z3.later l4 (by omega)).later l5 (by omega)).kept k6 (by omega)).later l7 (by omega)).later l8 (by omega)).kept k9 (by omega), ((z6.later l7 (by omega)).later l8 (by omega)).kept k9 (by omega), z9, by omega⟩
  simp only [Act.put, List.setIfInBounds_toArray, List.set_cons_zero, List.set_cons_succ, s0, s1, s2, hgn, hgx]
  clear z0 s0 l0 z1 s1 l1 z2 s2 l2 z3 s3 l3 a0 a1 a2 l4 z5 s5 l5 z6 s6 k6 c1 l7 z8 s8 l8 z9 s9 k9 hgn hgx F_lu HC HO
  refine region_invH 8 2 rfl ((.any (isNd 1) (isNd_later 1)) :: (.any (isNd 0) (isNd_later 0)) :: (.val (.agg (i64s lu).toArray)) :: (.any (isNd 1) (isNd_later 1)) :: (.blk 140 (i64s (List.replicate 16 0))) :: (.blk 140 (i64s (List.replicate 16 0))) :: (.blk 140 (i64s (List.replicate 16 0))) :: (.blk 140 (i64s (List.replicate 16 0))) :: []) (by kernel_rfl) (by kernel_rfl) (by kernel_rfl) (by kernel_rfl) (by kernel_rfl) (.agg (i64s lu).toArray) rfl (yieldsIf_load_mid (by rfl) 140 (.tmp 7) rfl gx 0 rfl (i64s lu) _ (fun _ h => ((V1.out.2.2.2.2.1).later h V1.out.2.2.2.2.1.lt).whole) Try.underlying140 rfl (LN.out _ (H_lu.out).len)) (by kernel_rfl) [8, 9, 10, 11] ⟨.inl rfl, .inl rfl, .inl rfl, .inl rfl, .inr ⟨140, _, 16, rfl, rfl, zeroNm⟩, .inr ⟨140, _, 16, rfl, rfl, zeroNm⟩, .inr ⟨140, _, 16, rfl, rfl, zeroNm⟩, .inr ⟨140, _, 16, rfl, rfl, zeroNm⟩, trivial⟩ (by kernel_rfl) ?_ ?_
  · refine Steps'.cons ?_ (Steps'.cons ?_ (Steps'.cons ?_ (Steps'.cons ?_ (Steps'.cons ?_ (Steps'.cons ?_ (Steps'.cons ?_ (Steps'.cons ?_ (Steps'.one _ _ _ _ _ _ _))))))))
    · intro ax wx hb hs hd
      refine Does.call 123 #[(.int .i64 1)] (by clear hs hd; go_simp) ?_
      refine (qsmallN 1 (by decide) _).mono ?_
      rintro z w' ⟨r, rfl, fr, l⟩
      exact ⟨_, rfl, ⟨r, rfl, fr⟩, l⟩
    · intro ax wx hb hs hd
      refine Does.call 123 #[(.int .i64 0)] (by clear hs hd; go_simp) ?_
      refine (qsmallN 0 (by decide) _).mono ?_
      rintro z w' ⟨r, rfl, fr, l⟩
      exact ⟨_, rfl, ⟨r, rfl, fr⟩, l⟩
    · intro ax wx hb hs hd
      have h7 : ax.tmps.getD 7 undef = (.pointer (some ⟨gx, 0, none⟩)) := hs 7 (by kernel_rfl)
      exact Does.load 140 (.tmp 7) rfl gx 0 h7 (i64s lu) _ ((Blk.later V1.out.2.2.2.2.1 hb (Blk.lt V1.out.2.2.2.2.1)).whole) Try.underlying140 rfl (LN.out _ (H_lu.out).len)
    · intro ax wx hb hs hd
      refine Does.call 123 #[(.int .i64 1)] (by clear hs hd; go_simp) ?_
      refine (qsmallN 1 (by decide) _).mono ?_
      rintro z w' ⟨r, rfl, fr, l⟩
      exact ⟨_, rfl, ⟨r, rfl, fr⟩, l⟩
    · intro ax wx hb hs hd
      exact Does.alloc 140 rfl 16 _ zeroNm hb.size
    · intro ax wx hb hs hd
      exact Does.alloc 140 rfl 16 _ zeroNm hb.size
    · intro ax wx hb hs hd
      exact Does.alloc 140 rfl 16 _ zeroNm hb.size
    · intro ax wx hb hs hd
      exact Does.alloc 140 rfl 16 _ zeroNm hb.size
  · intro wx hb
    refine @EndsP.any _ _ _ _ _ _ _ _ (isNd 1) (isNd_later 1) rfl ?_
    intro v0 p0
    refine @EndsP.any _ _ _ _ _ _ _ _ (isNd 0) (isNd_later 0) rfl ?_
    intro v1 p1
    refine @EndsP.val _ _ _ _ _ _ _ _ (.agg (i64s lu).toArray) rfl ?_
    refine @EndsP.any _ _ _ _ _ _ _ _ (isNd 1) (isNd_later 1) rfl ?_
    intro v3 p3
    refine @EndsP.blk _ _ _ _ _ _ _ _ 140 (i64s (List.replicate 16 0)) rfl ?_
    intro g4 hg4 bg4
    refine @EndsP.blk _ _ _ _ _ _ _ _ 140 (i64s (List.replicate 16 0)) rfl ?_
    intro g5 hg5 bg5
    refine @EndsP.blk _ _ _ _ _ _ _ _ 140 (i64s (List.replicate 16 0)) rfl ?_
    intro g6 hg6 bg6
    refine @EndsP.blk _ _ _ _ _ _ _ _ 140 (i64s (List.replicate 16 0)) rfl ?_
    intro g7 hg7 bg7
    intro hD nf hn
    obtain ⟨mf, rfl⟩ : ∃ mf, nf = mf + 4 := ⟨nf - 4, by have h3 : 4 ≤ nf := hn; omega⟩
    obtain ⟨la, rfl, F_la⟩ := p0
    obtain ⟨lb, rfl, F_lb⟩ := p1
    obtain ⟨ld, rfl, F_ld⟩ := p3
    have d01 : g4 ≠ g5 := fun e => hD 8 (by simp) 9 (by simp) (by decide) (by subst e; kernel_rfl)
    have d02 : g4 ≠ g6 := fun e => hD 8 (by simp) 10 (by simp) (by decide) (by subst e; kernel_rfl)
    have d03 : g4 ≠ g7 := fun e => hD 8 (by simp) 11 (by simp) (by decide) (by subst e; kernel_rfl)
    have d12 : g5 ≠ g6 := fun e => hD 9 (by simp) 10 (by simp) (by decide) (by subst e; kernel_rfl)
    have d13 : g5 ≠ g7 := fun e => hD 9 (by simp) 11 (by simp) (by decide) (by subst e; kernel_rfl)
    have d23 : g6 ≠ g7 := fun e => hD 10 (by simp) 11 (by simp) (by decide) (by subst e; kernel_rfl)
    have H_la : Hid (Nd la 1) := F_la
    clear F_la
    have H_lb : Hid (Nd lb 0) := F_lb
    clear F_lb
    have H_ld : Hid (Nd ld 1) := F_ld
    clear F_ld
    clear hD hn
    simp only [Act.put, List.setIfInBounds_toArray, List.set_cons_zero, List.set_cons_succ]
    refine wpAnyH_ready (rs := [8]) (by kernel_rfl) (by simp) (AllReadyH.cons rfl (fun K hK => ?_) AllReadyH.nil)
    rw [if_pos (by rfl)]
    refine last_store 140 (.tmp 8) (.tmp 29) rfl rfl g4 rfl 140 _ (i64s la) rfl bg4 (by rw [i64s_length, (H_la.out).len]; rfl) (LN.out _ (H_la.out).len) (i64s_one _) ?_
    intro w0 b0 s0 k0
    refine hK.out _ _ (below_kept hb k0 (by have := hb.size; omega) (fun j hj => by omega)) (fun _ => ?_)
    clear hK K
    refine wpAnyH_ready (rs := [9]) (by kernel_rfl) (by simp) (AllReadyH.cons rfl (fun K hK => ?_) AllReadyH.nil)
    rw [if_pos (by rfl)]
    refine last_store 140 (.tmp 9) (.tmp 30) rfl rfl g5 rfl 140 _ (i64s lb) rfl (bg5.kept k0 (by omega)) (by rw [i64s_length, (H_lb.out).len]; rfl) (LN.out _ (H_lb.out).len) (i64s_one _) ?_
    intro w1 b1 s1 k1
    refine hK.out _ _ (below_kept (below_kept hb k0 (by have := hb.size; omega) (fun j hj => by omega)) k1 (by have := hb.size; omega) (fun j hj => by omega)) (fun _ => ?_)
    clear hK K
    refine wpAnyH_ready (rs := [10]) (by kernel_rfl) (by simp) (AllReadyH.cons rfl (fun K hK => ?_) AllReadyH.nil)
    rw [if_pos (by rfl)]
    refine last_store 140 (.tmp 10) (.tmp 31) rfl rfl g6 rfl 140 _ (i64s lu) rfl ((bg6.kept k0 (by omega)).kept k1 (by omega)) (by rw [i64s_length, (H_lu.out).len]; rfl) (LN.out _ (H_lu.out).len) (i64s_one _) ?_
    intro w2 b2 s2 k2
    refine hK.out _ _ (below_kept (below_kept (below_kept hb k0 (by have := hb.size; omega) (fun j hj => by omega)) k1 (by have := hb.size; omega) (fun j hj => by omega)) k2 (by have := hb.size; omega) (fun j hj => by omega)) (fun _ => ?_)
    clear hK K
    refine wpAnyH_ready (rs := [11]) (by kernel_rfl) (by simp) (AllReadyH.cons rfl (fun K hK => ?_) AllReadyH.nil)
    rw [if_pos (by rfl)]
    refine last_store 140 (.tmp 11) (.tmp 32) rfl rfl g7 rfl 140 _ (i64s ld) rfl (((bg7.kept k0 (by omega)).kept k1 (by omega)).kept k2 (by omega)) (by rw [i64s_length, (H_ld.out).len]; rfl) (LN.out _ (H_ld.out).len) (i64s_one _) ?_
    intro w3 b3 s3 k3
    refine hK.out _ _ (below_kept (below_kept (below_kept (below_kept hb k0 (by have := hb.size; omega) (fun j hj => by omega)) k1 (by have := hb.size; omega) (fun j hj => by omega)) k2 (by have := hb.size; omega) (fun j hj => by omega)) k3 (by have := hb.size; omega) (fun j hj => by omega)) (fun _ => ?_)
    clear hK K
    refine wpAnyH_done (by kernel_rfl) (NoPanic.normal ?_) _
    have V2 : Hid (Below w.heap.size w w3 ∧ Blk w3 (w.heap.size + 1 + 1) 140 (i64s (List.replicate 16 0)) ∧ Blk w3 (w.heap.size + 1 + 1 + 1) 140 (i64s (List.replicate 16 0)) ∧ Blk w3 gn 58 (u8s ns) ∧ Blk w3 gx 140 (i64s lu) ∧ Blk w3 g4 140 (i64s la) ∧ Blk w3 g5 140 (i64s lb) ∧ Blk w3 g6 140 (i64s lu) ∧ Blk w3 g7 140 (i64s ld) ∧ (x9.heap.size ≤ w3.heap.size ∧ w.heap.size + 1 + 1 + 1 < gn ∧ gn < gx ∧ gx < x9.heap.size ∧ x9.heap.size ≤ g4 ∧ x9.heap.size ≤ g5 ∧ x9.heap.size ≤ g6 ∧ x9.heap.size ≤ g7)) := by
      have qb := hb.size
      have qw := V1.out.1.size
      have qa := V1.out.2.2.2.2.2
      have qr1 := V1.out.2.1.lt
      have qr2 := V1.out.2.2.1.lt
      have q6 := V1.out.2.2.2.1.lt
      have q7 := V1.out.2.2.2.2.1.lt
      exact ⟨below_kept (below_kept (below_kept (below_kept (below_chain V1.out.1 hb (by omega)) k0 (by omega) (fun j hj => by omega)) k1 (by omega) (fun j hj => by omega)) k2 (by omega) (fun j hj => by omega)) k3 (by omega) (fun j hj => by omega), (((((V1.out.2.1.later hb qr1).kept k0 (by omega)).kept k1 (by omega)).kept k2 (by omega)).kept k3 (by omega)), (((((V1.out.2.2.1.later hb qr2).kept k0 (by omega)).kept k1 (by omega)).kept k2 (by omega)).kept k3 (by omega)), (((((V1.out.2.2.2.1.later hb q6).kept k0 (by omega)).kept k1 (by omega)).kept k2 (by omega)).kept k3 (by omega)), (((((V1.out.2.2.2.2.1.later hb q7).kept k0 (by omega)).kept k1 (by omega)).kept k2 (by omega)).kept k3 (by omega)), (((b0.kept k1 (by omega)).kept k2 (by omega)).kept k3 (by omega)), ((b1.kept k2 (by omega)).kept k3 (by omega)), (b2.kept k3 (by omega)), b3, by omega⟩
    have DS_V2 : Hid (g4 ≠ g5 ∧ g4 ≠ g6 ∧ g4 ≠ g7 ∧ g5 ≠ g6 ∧ g5 ≠ g7 ∧ g6 ≠ g7) := ⟨d01, d02, d03, d12, d13, d23⟩
    obtain ⟨G8, rfl⟩ : ∃ q, q = g4 := ⟨_, rfl⟩
    obtain ⟨G9, rfl⟩ : ∃ q, q = g5 := ⟨_, rfl⟩
    obtain ⟨G10, rfl⟩ : ∃ q, q = g6 := ⟨_, rfl⟩
    obtain ⟨G11, rfl⟩ : ∃ q, q = g7 := ⟨_, rfl⟩
    obtain ⟨yV2, rfl⟩ : ∃ q, q = w3 := ⟨_, rfl⟩
    clear hb b0 s0 k0 b1 s1 k1 b2 s2 k2 b3 s3 k3 bg4 hg4 bg5 hg5 bg6 hg6 bg7 hg7 d01 d02 d03 d12 d13 d23
    try simp only [Act.put, List.setIfInBounds_toArray, List.set_cons_zero, List.set_cons_succ]
    have OA : Hid (w.heap.size + 1 + 1 + 1 < gn ∧ gn < gx ∧ gx < G8 ∧ gx < G9 ∧ gx < G10 ∧ gx < G11 ∧ (G8 ≠ G9 ∧ G8 ≠ G10 ∧ G8 ≠ G11 ∧ G9 ≠ G10 ∧ G9 ≠ G11 ∧ G10 ≠ G11)) := by
      have qa := V2.out.2.2.2.2.2.2.2.2.2
      exact ⟨by omega, by omega, by omega, by omega, by omega, by omega, DS_V2.out⟩
    have VL : Hid (Below w.heap.size w yV2 ∧ Blk yV2 (w.heap.size + 1 + 1) 140 (i64s (List.replicate 16 0)) ∧ Blk yV2 (w.heap.size + 1 + 1 + 1) 140 (i64s (List.replicate 16 0)) ∧ Blk yV2 gn 58 (u8s ns) ∧ Blk yV2 gx 140 (i64s lu) ∧ Blk yV2 G8 140 (i64s la) ∧ Blk yV2 G9 140 (i64s lb) ∧ Blk yV2 G10 140 (i64s lu) ∧ Blk yV2 G11 140 (i64s ld)) := ⟨V2.out.1, V2.out.2.1, V2.out.2.2.1, V2.out.2.2.2.1, V2.out.2.2.2.2.1, V2.out.2.2.2.2.2.1, V2.out.2.2.2.2.2.2.1, V2.out.2.2.2.2.2.2.2.1, V2.out.2.2.2.2.2.2.2.2.1⟩
    clear V1 V2 DS_V2
    go_wp2_with fail
    go_loopw [12] (fun i wr => ∃ (m : Nat) (a b c d : List Int), m ≤ 255 ∧ i = .int .i64 ((m : Int) - 1) ∧ Nd4 a b c d (ladI u n (255 - m)) ∧ Hid (Below w.heap.size w wr ∧ Blk wr (w.heap.size + 1 + 1) 140 (i64s (List.replicate 16 0)) ∧ Blk wr (w.heap.size + 1 + 1 + 1) 140 (i64s (List.replicate 16 0)) ∧ Blk wr gn 58 (u8s ns) ∧ Blk wr gx 140 (i64s lu) ∧ Blk wr G8 140 (i64s a) ∧ Blk wr G9 140 (i64s b) ∧ Blk wr G10 140 (i64s c) ∧ Blk wr G11 140 (i64s d))) (fun i _ => ((intOf i) + 1).toNat)
    case atStart => exact ⟨255, la, lb, lu, ld, by omega, rfl, ⟨H_la.out, H_lb.out, H_lu.out, H_ld.out⟩, VL⟩
    case round =>
      obtain ⟨m, a, b, c, d, hm, rfl, hF, HV⟩ := hrel
      clear VL H_la H_lb H_ld
      by_cases hlt : 0 < m
      · obtain ⟨t, rfl⟩ : ∃ t, m = t + 1 := ⟨m - 1, by omega⟩
        have i0 : (((t + 1 : Nat) : Int) - 1) = (t : Int) := by omega
        rw [i0]
        obtain ⟨Q, hq⟩ : ∃ Q : Nat, t / 8 = Q := ⟨_, rfl⟩
        obtain ⟨f, hf⟩ : ∃ f : Nat, t % 8 = f := ⟨_, rfl⟩
        have ht : t < 255 := by omega
        have hq32 : Q < 32 := by omega
        have hf8 : f < 8 := by omega
        obtain ⟨X, hXX⟩ : ∃ z, ns.getD Q 0 = z := ⟨_, rfl⟩
        have hX : 0 ≤ X ∧ X < 256 := by have := HN.out.2.1.at Q (by rw [HN.out.1]; exact hq32); omega
        have cE : wr.cell? ⟨gn, Q, none⟩ = some (.int .u8 X) := by rw [u8s_cell HV.out.2.2.2.1 Q (by rw [HN.out.1]; exact hq32), hXX]
        have j2 : Int.tdiv (t : Int) 8 = (Q : Int) := by rw [Int.tdiv_eq_ediv_of_nonneg (by omega)]; omega
        have j3 : Int.tmod (t : Int) 8 = (f : Int) := by rw [Int.tmod_eq_emod_of_nonneg (by omega)]; omega
        have j4 : (Q : Int) < 32 := by omega
        have j5 : (0 : Int) ≤ (Q : Int) := by omega
        have j7 : (0 : Int) ≤ (f : Int) := by omega
        have j9 : (0 : Int) ≤ (t : Int) := by omega
        have hD : 0 ≤ X / 2 ^ f ∧ X / 2 ^ f < 256 := by
          have : f = 0 ∨ f = 1 ∨ f = 2 ∨ f = 3 ∨ f = 4 ∨ f = 5 ∨ f = 6 ∨ f = 7 := by omega
          rcases this with rfl | rfl | rfl | rfl | rfl | rfl | rfl | rfl <;> simp only [Int.reducePow] <;> omega
        have hpar : (X / 2 ^ f % 2 == 1) = n.testBit t := by
          have h := bit_of ns HN.out.1 HN.out.2.1 t (by omega)
          rw [hq, hf, hXX, HM.out] at h
          rw [h, tb_of]
        have hl1 : bstI u (n.testBit t) (ladI u n (255 - (t + 1))) = ladI u n (255 - t) := by
          rw [show 255 - t = 255 - (t + 1) + 1 by omega]
          show _ = bstI u (n.testBit (255 - 1 - (255 - (t + 1)))) (ladI u n (255 - (t + 1)))
          rw [show 255 - 1 - (255 - (t + 1)) = t by omega]
        obtain ⟨s, hs⟩ : ∃ z, ladI u n (255 - (t + 1)) = z := ⟨_, rfl⟩
        rw [hs] at hl1 hF
        have HF : Hid (Nd4 a b c d s) := hF
        have OL : Hid ((w.heap.size + 1 + 1 + 1 < gn ∧ gn < gx ∧ gx < G8 ∧ gx < G9 ∧ gx < G10 ∧ gx < G11 ∧ (G8 ≠ G9 ∧ G8 ≠ G10 ∧ G8 ≠ G11 ∧ G9 ≠ G10 ∧ G9 ≠ G11 ∧ G10 ≠ G11)) ∧ G8 < wr.heap.size ∧ G9 < wr.heap.size ∧ G10 < wr.heap.size ∧ G11 < wr.heap.size) := ⟨OA.out, HV.out.2.2.2.2.2.1.lt, HV.out.2.2.2.2.2.2.1.lt, HV.out.2.2.2.2.2.2.2.1.lt, HV.out.2.2.2.2.2.2.2.2.lt⟩
        have V3 : Hid (Below w.heap.size w wr ∧ Blk wr (w.heap.size + 1 + 1) 140 (i64s (List.replicate 16 0)) ∧ Blk wr (w.heap.size + 1 + 1 + 1) 140 (i64s (List.replicate 16 0)) ∧ Blk wr gn 58 (u8s ns) ∧ Blk wr gx 140 (i64s lu) ∧ Blk wr G8 140 (i64s a) ∧ Blk wr G9 140 (i64s b) ∧ Blk wr G10 140 (i64s c) ∧ Blk wr G11 140 (i64s d) ∧ (wr.heap.size ≤ wr.heap.size)) := ⟨HV.out.1, HV.out.2.1, HV.out.2.2.1, HV.out.2.2.2.1, HV.out.2.2.2.2.1, HV.out.2.2.2.2.2.1, HV.out.2.2.2.2.2.2.1, HV.out.2.2.2.2.2.2.2.1, HV.out.2.2.2.2.2.2.2.2, Nat.le_refl _⟩
        clear HV hF hs hXX hq hf hm hlt i0 hX
        cases hbit : n.testBit t
        · have j10 : X / 2 ^ f % 2 = 0 := by
            rw [hbit] at hpar; have := (beq_eq_false_iff_ne).1 hpar; omega
          have j11 : Int.tmod (X / 2 ^ f) 2 = 0 := by rw [Int.tmod_eq_emod_of_nonneg hD.1]; exact j10
          rw [hbit] at hl1
          have HL1 : Hid (bstI u false s = ladI u n (255 - t)) := hl1
          clear hpar hl1 hbit
          go_wp2_with fail
          try simp only [Act.put, List.setIfInBounds_toArray, List.set_cons_zero, List.set_cons_succ]
          refine region_invP 16 ((.val (.agg (i64s a).toArray)) :: (.val (.agg (i64s b).toArray)) :: (.any (isNw ((s.1 + s.2.1) % PR)) (isNw_later ((s.1 + s.2.1) % PR))) :: (.val (.agg (i64s a).toArray)) :: (.val (.agg (i64s b).toArray)) :: (.any (isNw ((s.1 - s.2.1) % PR)) (isNw_later ((s.1 - s.2.1) % PR))) :: (.val (.agg (i64s c).toArray)) :: (.val (.agg (i64s d).toArray)) :: (.any (isNw ((s.2.2.1 + s.2.2.2) % PR)) (isNw_later ((s.2.2.1 + s.2.2.2) % PR))) :: (.val (.agg (i64s c).toArray)) :: (.val (.agg (i64s d).toArray)) :: (.any (isNw ((s.2.2.1 - s.2.2.2) % PR)) (isNw_later ((s.2.2.1 - s.2.2.2) % PR))) :: (.blk 140 (i64s (List.replicate 16 0))) :: (.blk 140 (i64s (List.replicate 16 0))) :: (.blk 140 (i64s (List.replicate 16 0))) :: (.blk 140 (i64s (List.replicate 16 0))) :: []) (by kernel_rfl) (by kernel_rfl) (by kernel_rfl) [14, 15, 16, 17] ⟨.inl rfl, .inl rfl, .inl rfl, .inl rfl, .inl rfl, .inl rfl, .inl rfl, .inl rfl, .inl rfl, .inl rfl, .inl rfl, .inl rfl, .inr ⟨140, _, 16, rfl, rfl, zeroNm⟩, .inr ⟨140, _, 16, rfl, rfl, zeroNm⟩, .inr ⟨140, _, 16, rfl, rfl, zeroNm⟩, .inr ⟨140, _, 16, rfl, rfl, zeroNm⟩, trivial⟩ (by kernel_rfl) ?_ ?_
          · refine Steps'.cons ?_ (Steps'.cons ?_ (Steps'.cons ?_ (Steps'.cons ?_ (Steps'.cons ?_ (Steps'.cons ?_ (Steps'.cons ?_ (Steps'.cons ?_ (Steps'.cons ?_ (Steps'.cons ?_ (Steps'.cons ?_ (Steps'.cons ?_ (Steps'.cons ?_ (Steps'.cons ?_ (Steps'.cons ?_ (Steps'.cons ?_ (Steps'.one _ _ _ _ _ _ _))))))))))))))))
            · intro ax wx hb hs hd
              have h8 : ax.tmps.getD 8 undef = (.pointer (some ⟨G8, 0, none⟩)) := hs 8 (by kernel_rfl)
              exact Does.load 140 (.tmp 8) rfl G8 0 h8 (i64s a) _ ((Blk.later V3.out.2.2.2.2.2.1 hb (Blk.lt V3.out.2.2.2.2.2.1)).whole) Try.underlying140 rfl (LN.out _ (HF.out.a).len)
            · intro ax wx hb hs hd
              have h9 : ax.tmps.getD 9 undef = (.pointer (some ⟨G9, 0, none⟩)) := hs 9 (by kernel_rfl)
              exact Does.load 140 (.tmp 9) rfl G9 0 h9 (i64s b) _ ((Blk.later V3.out.2.2.2.2.2.2.1 hb (Blk.lt V3.out.2.2.2.2.2.2.1)).whole) Try.underlying140 rfl (LN.out _ (HF.out.b).len)
            · intro ax wx hb hs hd
              have h51 : ax.tmps.getD 51 undef = (.agg (i64s a).toArray) := hd 0 51 rfl (by kernel_rfl) (by decide)
              have h52 : ax.tmps.getD 52 undef = (.agg (i64s b).toArray) := hd 1 52 rfl (by kernel_rfl) (by decide)
              refine Does.call 124 #[(.agg (i64s a).toArray), (.agg (i64s b).toArray)] (by clear hs hd; go_simp) ?_
              refine (qplusN _ _ _ _ (HF.out.a) (HF.out.b) _).mono ?_
              rintro z w' ⟨r, rfl, fr, l⟩
              exact ⟨_, rfl, ⟨r, rfl, fr⟩, l⟩
            · intro ax wx hb hs hd
              have h8 : ax.tmps.getD 8 undef = (.pointer (some ⟨G8, 0, none⟩)) := hs 8 (by kernel_rfl)
              exact Does.load 140 (.tmp 8) rfl G8 0 h8 (i64s a) _ ((Blk.later V3.out.2.2.2.2.2.1 hb (Blk.lt V3.out.2.2.2.2.2.1)).whole) Try.underlying140 rfl (LN.out _ (HF.out.a).len)
            · intro ax wx hb hs hd
              have h9 : ax.tmps.getD 9 undef = (.pointer (some ⟨G9, 0, none⟩)) := hs 9 (by kernel_rfl)
              exact Does.load 140 (.tmp 9) rfl G9 0 h9 (i64s b) _ ((Blk.later V3.out.2.2.2.2.2.2.1 hb (Blk.lt V3.out.2.2.2.2.2.2.1)).whole) Try.underlying140 rfl (LN.out _ (HF.out.b).len)
            · intro ax wx hb hs hd
              have h54 : ax.tmps.getD 54 undef = (.agg (i64s a).toArray) := hd 3 54 rfl (by kernel_rfl) (by decide)
              have h55 : ax.tmps.getD 55 undef = (.agg (i64s b).toArray) := hd 4 55 rfl (by kernel_rfl) (by decide)
              refine Does.call 125 #[(.agg (i64s a).toArray), (.agg (i64s b).toArray)] (by clear hs hd; go_simp) ?_
              refine (qminusN _ _ _ _ (HF.out.a) (HF.out.b) _).mono ?_
              rintro z w' ⟨r, rfl, fr, l⟩
              exact ⟨_, rfl, ⟨r, rfl, fr⟩, l⟩
            · intro ax wx hb hs hd
              have h10 : ax.tmps.getD 10 undef = (.pointer (some ⟨G10, 0, none⟩)) := hs 10 (by kernel_rfl)
              exact Does.load 140 (.tmp 10) rfl G10 0 h10 (i64s c) _ ((Blk.later V3.out.2.2.2.2.2.2.2.1 hb (Blk.lt V3.out.2.2.2.2.2.2.2.1)).whole) Try.underlying140 rfl (LN.out _ (HF.out.c).len)
            · intro ax wx hb hs hd
              have h11 : ax.tmps.getD 11 undef = (.pointer (some ⟨G11, 0, none⟩)) := hs 11 (by kernel_rfl)
              exact Does.load 140 (.tmp 11) rfl G11 0 h11 (i64s d) _ ((Blk.later V3.out.2.2.2.2.2.2.2.2.1 hb (Blk.lt V3.out.2.2.2.2.2.2.2.2.1)).whole) Try.underlying140 rfl (LN.out _ (HF.out.d).len)
            · intro ax wx hb hs hd
              have h57 : ax.tmps.getD 57 undef = (.agg (i64s c).toArray) := hd 6 57 rfl (by kernel_rfl) (by decide)
              have h58 : ax.tmps.getD 58 undef = (.agg (i64s d).toArray) := hd 7 58 rfl (by kernel_rfl) (by decide)
              refine Does.call 124 #[(.agg (i64s c).toArray), (.agg (i64s d).toArray)] (by clear hs hd; go_simp) ?_
              refine (qplusN _ _ _ _ (HF.out.c) (HF.out.d) _).mono ?_
              rintro z w' ⟨r, rfl, fr, l⟩
              exact ⟨_, rfl, ⟨r, rfl, fr⟩, l⟩
            · intro ax wx hb hs hd
              have h10 : ax.tmps.getD 10 undef = (.pointer (some ⟨G10, 0, none⟩)) := hs 10 (by kernel_rfl)
              exact Does.load 140 (.tmp 10) rfl G10 0 h10 (i64s c) _ ((Blk.later V3.out.2.2.2.2.2.2.2.1 hb (Blk.lt V3.out.2.2.2.2.2.2.2.1)).whole) Try.underlying140 rfl (LN.out _ (HF.out.c).len)
            · intro ax wx hb hs hd
              have h11 : ax.tmps.getD 11 undef = (.pointer (some ⟨G11, 0, none⟩)) := hs 11 (by kernel_rfl)
              exact Does.load 140 (.tmp 11) rfl G11 0 h11 (i64s d) _ ((Blk.later V3.out.2.2.2.2.2.2.2.2.1 hb (Blk.lt V3.out.2.2.2.2.2.2.2.2.1)).whole) Try.underlying140 rfl (LN.out _ (HF.out.d).len)
            · intro ax wx hb hs hd
              have h60 : ax.tmps.getD 60 undef = (.agg (i64s c).toArray) := hd 9 60 rfl (by kernel_rfl) (by decide)
              have h61 : ax.tmps.getD 61 undef = (.agg (i64s d).toArray) := hd 10 61 rfl (by kernel_rfl) (by decide)
              refine Does.call 125 #[(.agg (i64s c).toArray), (.agg (i64s d).toArray)] (by clear hs hd; go_simp) ?_
              refine (qminusN _ _ _ _ (HF.out.c) (HF.out.d) _).mono ?_
              rintro z w' ⟨r, rfl, fr, l⟩
              exact ⟨_, rfl, ⟨r, rfl, fr⟩, l⟩
            · intro ax wx hb hs hd
              exact Does.alloc 140 rfl 16 _ zeroNm hb.size
            · intro ax wx hb hs hd
              exact Does.alloc 140 rfl 16 _ zeroNm hb.size
            · intro ax wx hb hs hd
              exact Does.alloc 140 rfl 16 _ zeroNm hb.size
            · intro ax wx hb hs hd
              exact Does.alloc 140 rfl 16 _ zeroNm hb.size
          · intro wx hb
            refine @EndsP.val _ _ _ _ _ _ _ _ (.agg (i64s a).toArray) rfl ?_
            refine @EndsP.val _ _ _ _ _ _ _ _ (.agg (i64s b).toArray) rfl ?_
            refine @EndsP.any _ _ _ _ _ _ _ _ (isNw ((s.1 + s.2.1) % PR)) (isNw_later ((s.1 + s.2.1) % PR)) rfl ?_
            intro v2 p2
            refine @EndsP.val _ _ _ _ _ _ _ _ (.agg (i64s a).toArray) rfl ?_
            refine @EndsP.val _ _ _ _ _ _ _ _ (.agg (i64s b).toArray) rfl ?_
            refine @EndsP.any _ _ _ _ _ _ _ _ (isNw ((s.1 - s.2.1) % PR)) (isNw_later ((s.1 - s.2.1) % PR)) rfl ?_
            intro v5 p5
            refine @EndsP.val _ _ _ _ _ _ _ _ (.agg (i64s c).toArray) rfl ?_
            refine @EndsP.val _ _ _ _ _ _ _ _ (.agg (i64s d).toArray) rfl ?_
            refine @EndsP.any _ _ _ _ _ _ _ _ (isNw ((s.2.2.1 + s.2.2.2) % PR)) (isNw_later ((s.2.2.1 + s.2.2.2) % PR)) rfl ?_
            intro v8 p8
            refine @EndsP.val _ _ _ _ _ _ _ _ (.agg (i64s c).toArray) rfl ?_
            refine @EndsP.val _ _ _ _ _ _ _ _ (.agg (i64s d).toArray) rfl ?_
            refine @EndsP.any _ _ _ _ _ _ _ _ (isNw ((s.2.2.1 - s.2.2.2) % PR)) (isNw_later ((s.2.2.1 - s.2.2.2) % PR)) rfl ?_
            intro v11 p11
            refine @EndsP.blk _ _ _ _ _ _ _ _ 140 (i64s (List.replicate 16 0)) rfl ?_
            intro g12 hg12 bg12
            refine @EndsP.blk _ _ _ _ _ _ _ _ 140 (i64s (List.replicate 16 0)) rfl ?_
            intro g13 hg13 bg13
            refine @EndsP.blk _ _ _ _ _ _ _ _ 140 (i64s (List.replicate 16 0)) rfl ?_
            intro g14 hg14 bg14
            refine @EndsP.blk _ _ _ _ _ _ _ _ 140 (i64s (List.replicate 16 0)) rfl ?_
            intro g15 hg15 bg15
            intro hD nf hn
            obtain ⟨mf, rfl⟩ : ∃ mf, nf = mf + 4 := ⟨nf - 4, by have h3 : 4 ≤ nf := hn; omega⟩
            obtain ⟨p14, rfl, F_p14⟩ := p2
            obtain ⟨p15, rfl, F_p15⟩ := p5
            obtain ⟨p16, rfl, F_p16⟩ := p8
            obtain ⟨p17, rfl, F_p17⟩ := p11
            have d01 : g12 ≠ g13 := fun e => hD 14 (by simp) 15 (by simp) (by decide) (by subst e; kernel_rfl)
            have d02 : g12 ≠ g14 := fun e => hD 14 (by simp) 16 (by simp) (by decide) (by subst e; kernel_rfl)
            have d03 : g12 ≠ g15 := fun e => hD 14 (by simp) 17 (by simp) (by decide) (by subst e; kernel_rfl)
            have d12 : g13 ≠ g14 := fun e => hD 15 (by simp) 16 (by simp) (by decide) (by subst e; kernel_rfl)
            have d13 : g13 ≠ g15 := fun e => hD 15 (by simp) 17 (by simp) (by decide) (by subst e; kernel_rfl)
            have d23 : g14 ≠ g15 := fun e => hD 16 (by simp) 17 (by simp) (by decide) (by subst e; kernel_rfl)
            have H_p14 : Hid (Nw p14 ((s.1 + s.2.1) % PR)) := F_p14
            clear F_p14
            have H_p15 : Hid (Nw p15 ((s.1 - s.2.1) % PR)) := F_p15
            clear F_p15
            have H_p16 : Hid (Nw p16 ((s.2.2.1 + s.2.2.2) % PR)) := F_p16
            clear F_p16
            have H_p17 : Hid (Nw p17 ((s.2.2.1 - s.2.2.2) % PR)) := F_p17
            clear F_p17
            clear hD hn
            simp only [Act.put, List.setIfInBounds_toArray, List.set_cons_zero, List.set_cons_succ]
            refine wpAny_ready (rs := [16]) (by kernel_rfl) (by simp) (AllReady.cons rfl (fun K hK => ?_) AllReady.nil)
            rw [if_pos (by rfl)]
            refine last_store 140 (.tmp 14) (.tmp 53) rfl rfl g12 rfl 140 _ (i64s p14) rfl bg12 (by rw [i64s_length, (H_p14.out).len]; rfl) (LN.out _ (H_p14.out).len) (i64s_one _) ?_
            intro w0 b0 s0 k0
            refine hK _ _ ?_
            refine wpAny_ready (rs := [17]) (by kernel_rfl) (by simp) (AllReady.cons rfl (fun K hK => ?_) AllReady.nil)
            rw [if_pos (by rfl)]
            refine last_store 140 (.tmp 15) (.tmp 56) rfl rfl g13 rfl 140 _ (i64s p15) rfl (bg13.kept k0 (by omega)) (by rw [i64s_length, (H_p15.out).len]; rfl) (LN.out _ (H_p15.out).len) (i64s_one _) ?_
            intro w1 b1 s1 k1
            refine hK _ _ ?_
            refine wpAny_ready (rs := [18]) (by kernel_rfl) (by simp) (AllReady.cons rfl (fun K hK => ?_) AllReady.nil)
            rw [if_pos (by rfl)]
            refine last_store 140 (.tmp 16) (.tmp 59) rfl rfl g14 rfl 140 _ (i64s p16) rfl ((bg14.kept k0 (by omega)).kept k1 (by omega)) (by rw [i64s_length, (H_p16.out).len]; rfl) (LN.out _ (H_p16.out).len) (i64s_one _) ?_
            intro w2 b2 s2 k2
            refine hK _ _ ?_
            refine wpAny_ready (rs := [19]) (by kernel_rfl) (by simp) (AllReady.cons rfl (fun K hK => ?_) AllReady.nil)
            rw [if_pos (by rfl)]
            refine last_store 140 (.tmp 17) (.tmp 62) rfl rfl g15 rfl 140 _ (i64s p17) rfl (((bg15.kept k0 (by omega)).kept k1 (by omega)).kept k2 (by omega)) (by rw [i64s_length, (H_p17.out).len]; rfl) (LN.out _ (H_p17.out).len) (i64s_one _) ?_
            intro w3 b3 s3 k3
            refine hK _ _ ?_
            refine wpAny_done (by kernel_rfl) (NoPanic.normal ?_) _
            have V5 : Hid (Below w.heap.size w w3 ∧ Blk w3 (w.heap.size + 1 + 1) 140 (i64s (List.replicate 16 0)) ∧ Blk w3 (w.heap.size + 1 + 1 + 1) 140 (i64s (List.replicate 16 0)) ∧ Blk w3 gn 58 (u8s ns) ∧ Blk w3 gx 140 (i64s lu) ∧ Blk w3 G8 140 (i64s a) ∧ Blk w3 G9 140 (i64s b) ∧ Blk w3 G10 140 (i64s c) ∧ Blk w3 G11 140 (i64s d) ∧ Blk w3 g12 140 (i64s p14) ∧ Blk w3 g13 140 (i64s p15) ∧ Blk w3 g14 140 (i64s p16) ∧ Blk w3 g15 140 (i64s p17) ∧ (wr.heap.size ≤ w3.heap.size ∧ wr.heap.size ≤ g12 ∧ wr.heap.size ≤ g13 ∧ wr.heap.size ≤ g14 ∧ wr.heap.size ≤ g15)) := by
              have qb := hb.size
              have qw := V3.out.1.size
              have qa := V3.out.2.2.2.2.2.2.2.2.2
              have qr1 := V3.out.2.1.lt
              have qr2 := V3.out.2.2.1.lt
              have q6 := V3.out.2.2.2.1.lt
              have q7 := V3.out.2.2.2.2.1.lt
              have q8 := V3.out.2.2.2.2.2.1.lt
              have q9 := V3.out.2.2.2.2.2.2.1.lt
              have q10 := V3.out.2.2.2.2.2.2.2.1.lt
              have q11 := V3.out.2.2.2.2.2.2.2.2.1.lt
              exact ⟨below_kept (below_kept (below_kept (below_kept (below_chain V3.out.1 hb (by omega)) k0 (by omega) (fun j hj => by omega)) k1 (by omega) (fun j hj => by omega)) k2 (by omega) (fun j hj => by omega)) k3 (by omega) (fun j hj => by omega), (((((V3.out.2.1.later hb qr1).kept k0 (by omega)).kept k1 (by omega)).kept k2 (by omega)).kept k3 (by omega)), (((((V3.out.2.2.1.later hb qr2).kept k0 (by omega)).kept k1 (by omega)).kept k2 (by omega)).kept k3 (by omega)), (((((V3.out.2.2.2.1.later hb q6).kept k0 (by omega)).kept k1 (by omega)).kept k2 (by omega)).kept k3 (by omega)), (((((V3.out.2.2.2.2.1.later hb q7).kept k0 (by omega)).kept k1 (by omega)).kept k2 (by omega)).kept k3 (by omega)), (((((V3.out.2.2.2.2.2.1.later hb q8).kept k0 (by omega)).kept k1 (by omega)).kept k2 (by omega)).kept k3 (by omega)), (((((V3.out.2.2.2.2.2.2.1.later hb q9).kept k0 (by omega)).kept k1 (by omega)).kept k2 (by omega)).kept k3 (by omega)), (((((V3.out.2.2.2.2.2.2.2.1.later hb q10).kept k0 (by omega)).kept k1 (by omega)).kept k2 (by omega)).kept k3 (by omega)), (((((V3.out.2.2.2.2.2.2.2.2.1.later hb q11).kept k0 (by omega)).kept k1 (by omega)).kept k2 (by omega)).kept k3 (by omega)), (((b0.kept k1 (by omega)).kept k2 (by omega)).kept k3 (by omega)), ((b1.kept k2 (by omega)).kept k3 (by omega)), (b2.kept k3 (by omega)), b3, by omega⟩
            have DS_V5 : Hid (g12 ≠ g13 ∧ g12 ≠ g14 ∧ g12 ≠ g15 ∧ g13 ≠ g14 ∧ g13 ≠ g15 ∧ g14 ≠ g15) := ⟨d01, d02, d03, d12, d13, d23⟩
            obtain ⟨G14, rfl⟩ : ∃ q, q = g12 := ⟨_, rfl⟩
            obtain ⟨G15, rfl⟩ : ∃ q, q = g13 := ⟨_, rfl⟩
            obtain ⟨G16, rfl⟩ : ∃ q, q = g14 := ⟨_, rfl⟩
            obtain ⟨G17, rfl⟩ : ∃ q, q = g15 := ⟨_, rfl⟩
            obtain ⟨yV5, rfl⟩ : ∃ q, q = w3 := ⟨_, rfl⟩
            clear hb hK b0 s0 k0 b1 s1 k1 b2 s2 k2 b3 s3 k3 bg12 hg12 bg13 hg13 bg14 hg14 bg15 hg15 d01 d02 d03 d12 d13 d23
            try simp only [Act.put, List.setIfInBounds_toArray, List.set_cons_zero, List.set_cons_succ]
            go_wp2_with fail
            try simp only [Act.put, List.setIfInBounds_toArray, List.set_cons_zero, List.set_cons_succ]
            refine region_invP 16 ((.val (.agg (i64s p14).toArray)) :: (.val (.agg (i64s p14).toArray)) :: (.any (isNd (((s.1 + s.2.1) % PR) * ((s.1 + s.2.1) % PR) % PR)) (isNd_later (((s.1 + s.2.1) % PR) * ((s.1 + s.2.1) % PR) % PR))) :: (.val (.agg (i64s p15).toArray)) :: (.val (.agg (i64s p15).toArray)) :: (.any (isNd (((s.1 - s.2.1) % PR) * ((s.1 - s.2.1) % PR) % PR)) (isNd_later (((s.1 - s.2.1) % PR) * ((s.1 - s.2.1) % PR) % PR))) :: (.val (.agg (i64s p17).toArray)) :: (.val (.agg (i64s p14).toArray)) :: (.any (isNd (((s.2.2.1 - s.2.2.2) % PR) * ((s.1 + s.2.1) % PR) % PR)) (isNd_later (((s.2.2.1 - s.2.2.2) % PR) * ((s.1 + s.2.1) % PR) % PR))) :: (.val (.agg (i64s p16).toArray)) :: (.val (.agg (i64s p15).toArray)) :: (.any (isNd (((s.2.2.1 + s.2.2.2) % PR) * ((s.1 - s.2.1) % PR) % PR)) (isNd_later (((s.2.2.1 + s.2.2.2) % PR) * ((s.1 - s.2.1) % PR) % PR))) :: (.blk 140 (i64s (List.replicate 16 0))) :: (.blk 140 (i64s (List.replicate 16 0))) :: (.blk 140 (i64s (List.replicate 16 0))) :: (.blk 140 (i64s (List.replicate 16 0))) :: []) (by kernel_rfl) (by kernel_rfl) (by kernel_rfl) [18, 19, 20, 21] ⟨.inl rfl, .inl rfl, .inl rfl, .inl rfl, .inl rfl, .inl rfl, .inl rfl, .inl rfl, .inl rfl, .inl rfl, .inl rfl, .inl rfl, .inr ⟨140, _, 16, rfl, rfl, zeroNm⟩, .inr ⟨140, _, 16, rfl, rfl, zeroNm⟩, .inr ⟨140, _, 16, rfl, rfl, zeroNm⟩, .inr ⟨140, _, 16, rfl, rfl, zeroNm⟩, trivial⟩ (by kernel_rfl) ?_ ?_
            · refine Steps'.cons ?_ (Steps'.cons ?_ (Steps'.cons ?_ (Steps'.cons ?_ (Steps'.cons ?_ (Steps'.cons ?_ (Steps'.cons ?_ (Steps'.cons ?_ (Steps'.cons ?_ (Steps'.cons ?_ (Steps'.cons ?_ (Steps'.cons ?_ (Steps'.cons ?_ (Steps'.cons ?_ (Steps'.cons ?_ (Steps'.cons ?_ (Steps'.one _ _ _ _ _ _ _))))))))))))))))
              · intro ax wx hb hs hd
                have h14 : ax.tmps.getD 14 undef = (.pointer (some ⟨G14, 0, none⟩)) := hs 14 (by kernel_rfl)
                exact Does.load 140 (.tmp 14) rfl G14 0 h14 (i64s p14) _ ((Blk.later V5.out.2.2.2.2.2.2.2.2.2.1 hb (Blk.lt V5.out.2.2.2.2.2.2.2.2.2.1)).whole) Try.underlying140 rfl (LN.out _ (H_p14.out).len)
              · intro ax wx hb hs hd
                have h14 : ax.tmps.getD 14 undef = (.pointer (some ⟨G14, 0, none⟩)) := hs 14 (by kernel_rfl)
                exact Does.load 140 (.tmp 14) rfl G14 0 h14 (i64s p14) _ ((Blk.later V5.out.2.2.2.2.2.2.2.2.2.1 hb (Blk.lt V5.out.2.2.2.2.2.2.2.2.2.1)).whole) Try.underlying140 rfl (LN.out _ (H_p14.out).len)
              · intro ax wx hb hs hd
                have h63 : ax.tmps.getD 63 undef = (.agg (i64s p14).toArray) := hd 0 63 rfl (by kernel_rfl) (by decide)
                have h64 : ax.tmps.getD 64 undef = (.agg (i64s p14).toArray) := hd 1 64 rfl (by kernel_rfl) (by decide)
                refine Does.call 114 #[(.agg (i64s p14).toArray), (.agg (i64s p14).toArray)] (by clear hs hd; go_simp) ?_
                refine (qtimes_any _ _ _ _ (H_p14.out) (H_p14.out) _).mono ?_
                rintro z w' ⟨r, rfl, fr, l⟩
                exact ⟨_, rfl, ⟨r, rfl, fr⟩, l⟩
              · intro ax wx hb hs hd
                have h15 : ax.tmps.getD 15 undef = (.pointer (some ⟨G15, 0, none⟩)) := hs 15 (by kernel_rfl)
                exact Does.load 140 (.tmp 15) rfl G15 0 h15 (i64s p15) _ ((Blk.later V5.out.2.2.2.2.2.2.2.2.2.2.1 hb (Blk.lt V5.out.2.2.2.2.2.2.2.2.2.2.1)).whole) Try.underlying140 rfl (LN.out _ (H_p15.out).len)
              · intro ax wx hb hs hd
                have h15 : ax.tmps.getD 15 undef = (.pointer (some ⟨G15, 0, none⟩)) := hs 15 (by kernel_rfl)
                exact Does.load 140 (.tmp 15) rfl G15 0 h15 (i64s p15) _ ((Blk.later V5.out.2.2.2.2.2.2.2.2.2.2.1 hb (Blk.lt V5.out.2.2.2.2.2.2.2.2.2.2.1)).whole) Try.underlying140 rfl (LN.out _ (H_p15.out).len)
              · intro ax wx hb hs hd
                have h66 : ax.tmps.getD 66 undef = (.agg (i64s p15).toArray) := hd 3 66 rfl (by kernel_rfl) (by decide)
                have h67 : ax.tmps.getD 67 undef = (.agg (i64s p15).toArray) := hd 4 67 rfl (by kernel_rfl) (by decide)
                refine Does.call 114 #[(.agg (i64s p15).toArray), (.agg (i64s p15).toArray)] (by clear hs hd; go_simp) ?_
                refine (qtimes_any _ _ _ _ (H_p15.out) (H_p15.out) _).mono ?_
                rintro z w' ⟨r, rfl, fr, l⟩
                exact ⟨_, rfl, ⟨r, rfl, fr⟩, l⟩
              · intro ax wx hb hs hd
                have h17 : ax.tmps.getD 17 undef = (.pointer (some ⟨G17, 0, none⟩)) := hs 17 (by kernel_rfl)
                exact Does.load 140 (.tmp 17) rfl G17 0 h17 (i64s p17) _ ((Blk.later V5.out.2.2.2.2.2.2.2.2.2.2.2.2.1 hb (Blk.lt V5.out.2.2.2.2.2.2.2.2.2.2.2.2.1)).whole) Try.underlying140 rfl (LN.out _ (H_p17.out).len)
              · intro ax wx hb hs hd
                have h14 : ax.tmps.getD 14 undef = (.pointer (some ⟨G14, 0, none⟩)) := hs 14 (by kernel_rfl)
                exact Does.load 140 (.tmp 14) rfl G14 0 h14 (i64s p14) _ ((Blk.later V5.out.2.2.2.2.2.2.2.2.2.1 hb (Blk.lt V5.out.2.2.2.2.2.2.2.2.2.1)).whole) Try.underlying140 rfl (LN.out _ (H_p14.out).len)
              · intro ax wx hb hs hd
                have h69 : ax.tmps.getD 69 undef = (.agg (i64s p17).toArray) := hd 6 69 rfl (by kernel_rfl) (by decide)
                have h70 : ax.tmps.getD 70 undef = (.agg (i64s p14).toArray) := hd 7 70 rfl (by kernel_rfl) (by decide)
                refine Does.call 114 #[(.agg (i64s p17).toArray), (.agg (i64s p14).toArray)] (by clear hs hd; go_simp) ?_
                refine (qtimes_any _ _ _ _ (H_p17.out) (H_p14.out) _).mono ?_
                rintro z w' ⟨r, rfl, fr, l⟩
                exact ⟨_, rfl, ⟨r, rfl, fr⟩, l⟩
              · intro ax wx hb hs hd
                have h16 : ax.tmps.getD 16 undef = (.pointer (some ⟨G16, 0, none⟩)) := hs 16 (by kernel_rfl)
                exact Does.load 140 (.tmp 16) rfl G16 0 h16 (i64s p16) _ ((Blk.later V5.out.2.2.2.2.2.2.2.2.2.2.2.1 hb (Blk.lt V5.out.2.2.2.2.2.2.2.2.2.2.2.1)).whole) Try.underlying140 rfl (LN.out _ (H_p16.out).len)
              · intro ax wx hb hs hd
                have h15 : ax.tmps.getD 15 undef = (.pointer (some ⟨G15, 0, none⟩)) := hs 15 (by kernel_rfl)
                exact Does.load 140 (.tmp 15) rfl G15 0 h15 (i64s p15) _ ((Blk.later V5.out.2.2.2.2.2.2.2.2.2.2.1 hb (Blk.lt V5.out.2.2.2.2.2.2.2.2.2.2.1)).whole) Try.underlying140 rfl (LN.out _ (H_p15.out).len)
              · intro ax wx hb hs hd
                have h72 : ax.tmps.getD 72 undef = (.agg (i64s p16).toArray) := hd 9 72 rfl (by kernel_rfl) (by decide)
                have h73 : ax.tmps.getD 73 undef = (.agg (i64s p15).toArray) := hd 10 73 rfl (by kernel_rfl) (by decide)
                refine Does.call 114 #[(.agg (i64s p16).toArray), (.agg (i64s p15).toArray)] (by clear hs hd; go_simp) ?_
                refine (qtimes_any _ _ _ _ (H_p16.out) (H_p15.out) _).mono ?_
                rintro z w' ⟨r, rfl, fr, l⟩
                exact ⟨_, rfl, ⟨r, rfl, fr⟩, l⟩
              · intro ax wx hb hs hd
                exact Does.alloc 140 rfl 16 _ zeroNm hb.size
              · intro ax wx hb hs hd
                exact Does.alloc 140 rfl 16 _ zeroNm hb.size
              · intro ax wx hb hs hd
                exact Does.alloc 140 rfl 16 _ zeroNm hb.size
              · intro ax wx hb hs hd
                exact Does.alloc 140 rfl 16 _ zeroNm hb.size
            · intro wx hb
              refine @EndsP.val _ _ _ _ _ _ _ _ (.agg (i64s p14).toArray) rfl ?_
              refine @EndsP.val _ _ _ _ _ _ _ _ (.agg (i64s p14).toArray) rfl ?_
              refine @EndsP.any _ _ _ _ _ _ _ _ (isNd (((s.1 + s.2.1) % PR) * ((s.1 + s.2.1) % PR) % PR)) (isNd_later (((s.1 + s.2.1) % PR) * ((s.1 + s.2.1) % PR) % PR)) rfl ?_
              intro v2 p2
              refine @EndsP.val _ _ _ _ _ _ _ _ (.agg (i64s p15).toArray) rfl ?_
              refine @EndsP.val _ _ _ _ _ _ _ _ (.agg (i64s p15).toArray) rfl ?_
              refine @EndsP.any _ _ _ _ _ _ _ _ (isNd (((s.1 - s.2.1) % PR) * ((s.1 - s.2.1) % PR) % PR)) (isNd_later (((s.1 - s.2.1) % PR) * ((s.1 - s.2.1) % PR) % PR)) rfl ?_
              intro v5 p5
              refine @EndsP.val _ _ _ _ _ _ _ _ (.agg (i64s p17).toArray) rfl ?_
              refine @EndsP.val _ _ _ _ _ _ _ _ (.agg (i64s p14).toArray) rfl ?_
              refine @EndsP.any _ _ _ _ _ _ _ _ (isNd (((s.2.2.1 - s.2.2.2) % PR) * ((s.1 + s.2.1) % PR) % PR)) (isNd_later (((s.2.2.1 - s.2.2.2) % PR) * ((s.1 + s.2.1) % PR) % PR)) rfl ?_
              intro v8 p8
              refine @EndsP.val _ _ _ _ _ _ _ _ (.agg (i64s p16).toArray) rfl ?_
              refine @EndsP.val _ _ _ _ _ _ _ _ (.agg (i64s p15).toArray) rfl ?_
              refine @EndsP.any _ _ _ _ _ _ _ _ (isNd (((s.2.2.1 + s.2.2.2) % PR) * ((s.1 - s.2.1) % PR) % PR)) (isNd_later (((s.2.2.1 + s.2.2.2) % PR) * ((s.1 - s.2.1) % PR) % PR)) rfl ?_
              intro v11 p11
              refine @EndsP.blk _ _ _ _ _ _ _ _ 140 (i64s (List.replicate 16 0)) rfl ?_
              intro g12 hg12 bg12
              refine @EndsP.blk _ _ _ _ _ _ _ _ 140 (i64s (List.replicate 16 0)) rfl ?_
              intro g13 hg13 bg13
              refine @EndsP.blk _ _ _ _ _ _ _ _ 140 (i64s (List.replicate 16 0)) rfl ?_
              intro g14 hg14 bg14
              refine @EndsP.blk _ _ _ _ _ _ _ _ 140 (i64s (List.replicate 16 0)) rfl ?_
              intro g15 hg15 bg15
              intro hD nf hn
              obtain ⟨mf, rfl⟩ : ∃ mf, nf = mf + 4 := ⟨nf - 4, by have h3 : 4 ≤ nf := hn; omega⟩
              obtain ⟨p18, rfl, F_p18⟩ := p2
              obtain ⟨p19, rfl, F_p19⟩ := p5
              obtain ⟨p20, rfl, F_p20⟩ := p8
              obtain ⟨p21, rfl, F_p21⟩ := p11
              have d01 : g12 ≠ g13 := fun e => hD 18 (by simp) 19 (by simp) (by decide) (by subst e; kernel_rfl)
              have d02 : g12 ≠ g14 := fun e => hD 18 (by simp) 20 (by simp) (by decide) (by subst e; kernel_rfl)
              have d03 : g12 ≠ g15 := fun e => hD 18 (by simp) 21 (by simp) (by decide) (by subst e; kernel_rfl)
              have d12 : g13 ≠ g14 := fun e => hD 19 (by simp) 20 (by simp) (by decide) (by subst e; kernel_rfl)
              have d13 : g13 ≠ g15 := fun e => hD 19 (by simp) 21 (by simp) (by decide) (by subst e; kernel_rfl)
              have d23 : g14 ≠ g15 := fun e => hD 20 (by simp) 21 (by simp) (by decide) (by subst e; kernel_rfl)
              have H_p18 : Hid (Nd p18 (((s.1 + s.2.1) % PR) * ((s.1 + s.2.1) % PR) % PR)) := F_p18
              clear F_p18
              have H_p19 : Hid (Nd p19 (((s.1 - s.2.1) % PR) * ((s.1 - s.2.1) % PR) % PR)) := F_p19
              clear F_p19
              have H_p20 : Hid (Nd p20 (((s.2.2.1 - s.2.2.2) % PR) * ((s.1 + s.2.1) % PR) % PR)) := F_p20
              clear F_p20
              have H_p21 : Hid (Nd p21 (((s.2.2.1 + s.2.2.2) % PR) * ((s.1 - s.2.1) % PR) % PR)) := F_p21
              clear F_p21
              clear hD hn
              simp only [Act.put, List.setIfInBounds_toArray, List.set_cons_zero, List.set_cons_succ]
              refine wpAny_ready (rs := [16]) (by kernel_rfl) (by simp) (AllReady.cons rfl (fun K hK => ?_) AllReady.nil)
              rw [if_pos (by rfl)]
              refine last_store 140 (.tmp 18) (.tmp 65) rfl rfl g12 rfl 140 _ (i64s p18) rfl bg12 (by rw [i64s_length, (H_p18.out).len]; rfl) (LN.out _ (H_p18.out).len) (i64s_one _) ?_
              intro w0 b0 s0 k0
              refine hK _ _ ?_
              refine wpAny_ready (rs := [17]) (by kernel_rfl) (by simp) (AllReady.cons rfl (fun K hK => ?_) AllReady.nil)
              rw [if_pos (by rfl)]
              refine last_store 140 (.tmp 19) (.tmp 68) rfl rfl g13 rfl 140 _ (i64s p19) rfl (bg13.kept k0 (by omega)) (by rw [i64s_length, (H_p19.out).len]; rfl) (LN.out _ (H_p19.out).len) (i64s_one _) ?_
              intro w1 b1 s1 k1
              refine hK _ _ ?_
              refine wpAny_ready (rs := [18]) (by kernel_rfl) (by simp) (AllReady.cons rfl (fun K hK => ?_) AllReady.nil)
              rw [if_pos (by rfl)]
              refine last_store 140 (.tmp 20) (.tmp 71) rfl rfl g14 rfl 140 _ (i64s p20) rfl ((bg14.kept k0 (by omega)).kept k1 (by omega)) (by rw [i64s_length, (H_p20.out).len]; rfl) (LN.out _ (H_p20.out).len) (i64s_one _) ?_
              intro w2 b2 s2 k2
              refine hK _ _ ?_
              refine wpAny_ready (rs := [19]) (by kernel_rfl) (by simp) (AllReady.cons rfl (fun K hK => ?_) AllReady.nil)
              rw [if_pos (by rfl)]
              refine last_store 140 (.tmp 21) (.tmp 74) rfl rfl g15 rfl 140 _ (i64s p21) rfl (((bg15.kept k0 (by omega)).kept k1 (by omega)).kept k2 (by omega)) (by rw [i64s_length, (H_p21.out).len]; rfl) (LN.out _ (H_p21.out).len) (i64s_one _) ?_
              intro w3 b3 s3 k3
              refine hK _ _ ?_
              refine wpAny_done (by kernel_rfl) (NoPanic.normal ?_) _
              have V6 : Hid (Below w.heap.size w w3 ∧ Blk w3 (w.heap.size + 1 + 1) 140 (i64s (List.replicate 16 0)) ∧ Blk w3 (w.heap.size + 1 + 1 + 1) 140 (i64s (List.replicate 16 0)) ∧ Blk w3 gn 58 (u8s ns) ∧ Blk w3 gx 140 (i64s lu) ∧ Blk w3 G8 140 (i64s a) ∧ Blk w3 G9 140 (i64s b) ∧ Blk w3 G10 140 (i64s c) ∧ Blk w3 G11 140 (i64s d) ∧ Blk w3 G14 140 (i64s p14) ∧ Blk w3 G15 140 (i64s p15) ∧ Blk w3 G16 140 (i64s p16) ∧ Blk w3 G17 140 (i64s p17) ∧ Blk w3 g12 140 (i64s p18) ∧ Blk w3 g13 140 (i64s p19) ∧ Blk w3 g14 140 (i64s p20) ∧ Blk w3 g15 140 (i64s p21) ∧ (wr.heap.size ≤ w3.heap.size ∧ wr.heap.size ≤ G14 ∧ wr.heap.size ≤ G15 ∧ wr.heap.size ≤ G16 ∧ wr.heap.size ≤ G17 ∧ wr.heap.size ≤ g12 ∧ wr.heap.size ≤ g13 ∧ wr.heap.size ≤ g14 ∧ wr.heap.size ≤ g15)) := by
                have qb := hb.size
                have qw := V5.out.1.size
                have qa := V5.out.2.2.2.2.2.2.2.2.2.2.2.2.2
                have qr1 := V5.out.2.1.lt
                have qr2 := V5.out.2.2.1.lt
                have q6 := V5.out.2.2.2.1.lt
                have q7 := V5.out.2.2.2.2.1.lt
                have q8 := V5.out.2.2.2.2.2.1.lt
                have q9 := V5.out.2.2.2.2.2.2.1.lt
                have q10 := V5.out.2.2.2.2.2.2.2.1.lt
                have q11 := V5.out.2.2.2.2.2.2.2.2.1.lt
                have q14 := V5.out.2.2.2.2.2.2.2.2.2.1.lt
                have q15 := V5.out.2.2.2.2.2.2.2.2.2.2.1.lt
                have q16 := V5.out.2.2.2.2.2.2.2.2.2.2.2.1.lt
                have q17 := V5.out.2.2.2.2.2.2.2.2.2.2.2.2.1.lt
                exact ⟨below_kept (below_kept (below_kept (below_kept (below_chain V5.out.1 hb (by omega)) k0 (by omega) (fun j hj => by omega)) k1 (by omega) (fun j hj => by omega)) k2 (by omega) (fun j hj => by omega)) k3 (by omega) (fun j hj => by omega), (((((V5.out.2.1.later hb qr1).kept k0 (by omega)).kept k1 (by omega)).kept k2 (by omega)).kept k3 (by omega)), (((((V5.out.2.2.1.later hb qr2).kept k0 (by omega)).kept k1 (by omega)).kept k2 (by omega)).kept k3 (by omega)), (((((V5.out.2.2.2.1.later hb q6).kept k0 (by omega)).kept k1 (by omega)).kept k2 (by omega)).kept k3 (by omega)), (((((V5.out.2.2.2.2.1.later hb q7).kept k0 (by omega)).kept k1 (by omega)).kept k2 (by omega)).kept k3 (by omega)), (((((V5.out.2.2.2.2.2.1.later hb q8).kept k0 (by omega)).kept k1 (by omega)).kept k2 (by omega)).kept k3 (by omega)), (((((V5.out.2.2.2.2.2.2.1.later hb q9).kept k0 (by omega)).kept k1 (by omega)).kept k2 (by omega)).kept k3 (by omega)), (((((V5.out.2.2.2.2.2.2.2.1.later hb q10).kept k0 (by omega)).kept k1 (by omega)).kept k2 (by omega)).kept k3 (by omega)), (((((V5.out.2.2.2.2.2.2.2.2.1.later hb q11).kept k0 (by omega)).kept k1 (by omega)).kept k2 (by omega)).kept k3 (by omega)), (((((V5.out.2.2.2.2.2.2.2.2.2.1.later hb q14).kept k0 (by omega)).kept k1 (by omega)).kept k2 (by omega)).kept k3 (by omega)), (((((V5.out.2.2.2.2.2.2.2.2.2.2.1.later hb q15).kept k0 (by omega)).kept k1 (by omega)).kept k2 (by omega)).kept k3 (by omega)), (((((V5.out.2.2.2.2.2.2.2.2.2.2.2.1.later hb q16).kept k0 (by omega)).kept k1 (by omega)).kept k2 (by omega)).kept k3 (by omega)), (((((V5.out.2.2.2.2.2.2.2.2.2.2.2.2.1.later hb q17).kept k0 (by omega)).kept k1 (by omega)).kept k2 (by omega)).kept k3 (by omega)), (((b0.kept k1 (by omega)).kept k2 (by omega)).kept k3 (by omega)), ((b1.kept k2 (by omega)).kept k3 (by omega)), (b2.kept k3 (by omega)), b3, by omega⟩
              have DS_V6 : Hid (g12 ≠ g13 ∧ g12 ≠ g14 ∧ g12 ≠ g15 ∧ g13 ≠ g14 ∧ g13 ≠ g15 ∧ g14 ≠ g15) := ⟨d01, d02, d03, d12, d13, d23⟩
              obtain ⟨G18, rfl⟩ : ∃ q, q = g12 := ⟨_, rfl⟩
              obtain ⟨G19, rfl⟩ : ∃ q, q = g13 := ⟨_, rfl⟩
              obtain ⟨G20, rfl⟩ : ∃ q, q = g14 := ⟨_, rfl⟩
              obtain ⟨G21, rfl⟩ : ∃ q, q = g15 := ⟨_, rfl⟩
              obtain ⟨yV6, rfl⟩ : ∃ q, q = w3 := ⟨_, rfl⟩
              clear hb hK b0 s0 k0 b1 s1 k1 b2 s2 k2 b3 s3 k3 bg12 hg12 bg13 hg13 bg14 hg14 bg15 hg15 d01 d02 d03 d12 d13 d23
              try simp only [Act.put, List.setIfInBounds_toArray, List.set_cons_zero, List.set_cons_succ]
              go_wp2_with (first | ((with_reducible show wpList _ _ _ (({ dst := some 75, op := _, type := _, pos := _, after := _, guard := _ } : Oper) :: _) _ _); refine wpList_load_blk rfl 140 _ rfl G18 rfl (i64s p18) _ V6.out.2.2.2.2.2.2.2.2.2.2.2.2.2.1 Try.underlying140 rfl (LN.out _ (H_p18.out).len) ?_) | ((with_reducible show wpList _ _ _ (({ dst := some 76, op := _, type := _, pos := _, after := _, guard := _ } : Oper) :: _) _ _); refine wpList_load_blk rfl 140 _ rfl G19 rfl (i64s p19) _ V6.out.2.2.2.2.2.2.2.2.2.2.2.2.2.2.1 Try.underlying140 rfl (LN.out _ (H_p19.out).len) ?_) | ((with_reducible show Calls _ _ #[.agg (i64s p18).toArray, .agg (i64s p19).toArray] _ _); refine (qminusN _ _ _ _ H_p18.out H_p19.out _).mono ?_; rintro e cV7 ⟨p22, rfl, F_p22, uV7⟩) | ((with_reducible show wpList _ _ _ (({ dst := some 22, op := _, type := _, pos := _, after := _, guard := _ } : Oper) :: _) _ _); refine wpList_alloc_new rfl 140 rfl 16 _ zeroNm ?_; intro nV7 zV7 tV7 mV7) | ((with_reducible show wpList _ _ _ (({ dst := none, op := .store _ (.tmp 22) (.tmp 77), type := _, pos := _, after := _, guard := _ } : Oper) :: _) _ _); refine wpList_store_blk rfl 140 140 _ _ rfl _ rfl _ (i64s p22) rfl zV7 (by rw [i64s_length, F_p22.len]; rfl) (LN.out _ F_p22.len) (i64s_one _) ?_; intro yV7 bV7 sV7 kV7))
              have H_p22 : Hid (Nw p22 (((((s.1 + s.2.1) % PR) * ((s.1 + s.2.1) % PR) % PR) - (((s.1 - s.2.1) % PR) * ((s.1 - s.2.1) % PR) % PR)) % PR)) := F_p22
              obtain ⟨G22, h22⟩ : ∃ q, cV7.heap.size = q := ⟨_, rfl⟩
              rw [h22] at bV7 kV7 tV7 zV7 ⊢
              have V7 : Hid (Below w.heap.size w yV7 ∧ Blk yV7 (w.heap.size + 1 + 1) 140 (i64s (List.replicate 16 0)) ∧ Blk yV7 (w.heap.size + 1 + 1 + 1) 140 (i64s (List.replicate 16 0)) ∧ Blk yV7 gn 58 (u8s ns) ∧ Blk yV7 gx 140 (i64s lu) ∧ Blk yV7 G8 140 (i64s a) ∧ Blk yV7 G9 140 (i64s b) ∧ Blk yV7 G10 140 (i64s c) ∧ Blk yV7 G11 140 (i64s d) ∧ Blk yV7 G14 140 (i64s p14) ∧ Blk yV7 G15 140 (i64s p15) ∧ Blk yV7 G16 140 (i64s p16) ∧ Blk yV7 G17 140 (i64s p17) ∧ Blk yV7 G18 140 (i64s p18) ∧ Blk yV7 G19 140 (i64s p19) ∧ Blk yV7 G20 140 (i64s p20) ∧ Blk yV7 G21 140 (i64s p21) ∧ Blk yV7 G22 140 (i64s p22) ∧ (wr.heap.size ≤ yV7.heap.size ∧ wr.heap.size ≤ G14 ∧ wr.heap.size ≤ G15 ∧ wr.heap.size ≤ G16 ∧ wr.heap.size ≤ G17 ∧ wr.heap.size ≤ G18 ∧ wr.heap.size ≤ G19 ∧ wr.heap.size ≤ G20 ∧ wr.heap.size ≤ G21 ∧ wr.heap.size ≤ G22)) := by
                have qb := uV7.size
                have qw := V6.out.1.size
                have qa := V6.out.2.2.2.2.2.2.2.2.2.2.2.2.2.2.2.2.2
                have ol := OL.out
                have qr1 := V6.out.2.1.lt
                have qr2 := V6.out.2.2.1.lt
                have q6 := V6.out.2.2.2.1.lt
                have q7 := V6.out.2.2.2.2.1.lt
                have q8 := V6.out.2.2.2.2.2.1.lt
                have q9 := V6.out.2.2.2.2.2.2.1.lt
                have q10 := V6.out.2.2.2.2.2.2.2.1.lt
                have q11 := V6.out.2.2.2.2.2.2.2.2.1.lt
                have q14 := V6.out.2.2.2.2.2.2.2.2.2.1.lt
                have q15 := V6.out.2.2.2.2.2.2.2.2.2.2.1.lt
                have q16 := V6.out.2.2.2.2.2.2.2.2.2.2.2.1.lt
                have q17 := V6.out.2.2.2.2.2.2.2.2.2.2.2.2.1.lt
                have q18 := V6.out.2.2.2.2.2.2.2.2.2.2.2.2.2.1.lt
                have q19 := V6.out.2.2.2.2.2.2.2.2.2.2.2.2.2.2.1.lt
                have q20 := V6.out.2.2.2.2.2.2.2.2.2.2.2.2.2.2.2.1.lt
                have q21 := V6.out.2.2.2.2.2.2.2.2.2.2.2.2.2.2.2.2.1.lt
                exact ⟨below_kept (below_chain (below_chain V6.out.1 uV7 (by omega)) mV7 (by omega)) kV7 (by omega) (fun j hj => by omega), ((V6.out.2.1.later uV7 qr1).later mV7 (by omega)).kept kV7 (by omega), ((V6.out.2.2.1.later uV7 qr2).later mV7 (by omega)).kept kV7 (by omega), ((V6.out.2.2.2.1.later uV7 q6).later mV7 (by omega)).kept kV7 (by omega), ((V6.out.2.2.2.2.1.later uV7 q7).later mV7 (by omega)).kept kV7 (by omega), ((V6.out.2.2.2.2.2.1.later uV7 q8).later mV7 (by omega)).kept kV7 (by omega), ((V6.out.2.2.2.2.2.2.1.later uV7 q9).later mV7 (by omega)).kept kV7 (by omega), ((V6.out.2.2.2.2.2.2.2.1.later uV7 q10).later mV7 (by omega)).kept kV7 (by omega), ((V6.out.2.2.2.2.2.2.2.2.1.later uV7 q11).later mV7 (by omega)).kept kV7 (by omega), ((V6.out.2.2.2.2.2.2.2.2.2.1.later uV7 q14).later mV7 (by omega)).kept kV7 (by omega), ((V6.out.2.2.2.2.2.2.2.2.2.2.1.later uV7 q15).later mV7 (by omega)).kept kV7 (by omega), ((V6.out.2.2.2.2.2.2.2.2.2.2.2.1.later uV7 q16).later mV7 (by omega)).kept kV7 (by omega), ((V6.out.2.2.2.2.2.2.2.2.2.2.2.2.1.later uV7 q17).later mV7 (by omega)).kept kV7 (by omega), ((V6.out.2.2.2.2.2.2.2.2.2.2.2.2.2.1.later uV7 q18).later mV7 (by omega)).kept kV7 (by omega), ((V6.out.2.2.2.2.2.2.2.2.2.2.2.2.2.2.1.later uV7 q19).later mV7 (by omega)).kept kV7 (by omega), ((V6.out.2.2.2.2.2.2.2.2.2.2.2.2.2.2.2.1.later uV7 q20).later mV7 (by omega)).kept kV7 (by omega), ((V6.out.2.2.2.2.2.2.2.2.2.2.2.2.2.2.2.2.1.later uV7 q21).later mV7 (by omega)).kept kV7 (by omega), bV7, by omega⟩
              clear uV7 zV7 tV7 mV7 bV7 sV7 kV7 h22 F_p22
              try simp only [Act.put, List.setIfInBounds_toArray, List.set_cons_zero, List.set_cons_succ]
              refine region_invP 8 ((.val (.agg (i64s p20).toArray)) :: (.val (.agg (i64s p21).toArray)) :: (.any (isNw (((((s.2.2.1 - s.2.2.2) % PR) * ((s.1 + s.2.1) % PR) % PR) + (((s.2.2.1 + s.2.2.2) % PR) * ((s.1 - s.2.1) % PR) % PR)) % PR)) (isNw_later (((((s.2.2.1 - s.2.2.2) % PR) * ((s.1 + s.2.1) % PR) % PR) + (((s.2.2.1 + s.2.2.2) % PR) * ((s.1 - s.2.1) % PR) % PR)) % PR))) :: (.val (.agg (i64s p20).toArray)) :: (.val (.agg (i64s p21).toArray)) :: (.any (isNw (((((s.2.2.1 - s.2.2.2) % PR) * ((s.1 + s.2.1) % PR) % PR) - (((s.2.2.1 + s.2.2.2) % PR) * ((s.1 - s.2.1) % PR) % PR)) % PR)) (isNw_later (((((s.2.2.1 - s.2.2.2) % PR) * ((s.1 + s.2.1) % PR) % PR) - (((s.2.2.1 + s.2.2.2) % PR) * ((s.1 - s.2.1) % PR) % PR)) % PR))) :: (.blk 140 (i64s (List.replicate 16 0))) :: (.blk 140 (i64s (List.replicate 16 0))) :: []) (by kernel_rfl) (by kernel_rfl) (by kernel_rfl) [23, 24] ⟨.inl rfl, .inl rfl, .inl rfl, .inl rfl, .inl rfl, .inl rfl, .inr ⟨140, _, 16, rfl, rfl, zeroNm⟩, .inr ⟨140, _, 16, rfl, rfl, zeroNm⟩, trivial⟩ (by kernel_rfl) ?_ ?_
              · refine Steps'.cons ?_ (Steps'.cons ?_ (Steps'.cons ?_ (Steps'.cons ?_ (Steps'.cons ?_ (Steps'.cons ?_ (Steps'.cons ?_ (Steps'.cons ?_ (Steps'.one _ _ _ _ _ _ _))))))))
                · intro ax wx hb hs hd
                  have h20 : ax.tmps.getD 20 undef = (.pointer (some ⟨G20, 0, none⟩)) := hs 20 (by kernel_rfl)
                  exact Does.load 140 (.tmp 20) rfl G20 0 h20 (i64s p20) _ ((Blk.later V7.out.2.2.2.2.2.2.2.2.2.2.2.2.2.2.2.1 hb (Blk.lt V7.out.2.2.2.2.2.2.2.2.2.2.2.2.2.2.2.1)).whole) Try.underlying140 rfl (LN.out _ (H_p20.out).len)
                · intro ax wx hb hs hd
                  have h21 : ax.tmps.getD 21 undef = (.pointer (some ⟨G21, 0, none⟩)) := hs 21 (by kernel_rfl)
                  exact Does.load 140 (.tmp 21) rfl G21 0 h21 (i64s p21) _ ((Blk.later V7.out.2.2.2.2.2.2.2.2.2.2.2.2.2.2.2.2.1 hb (Blk.lt V7.out.2.2.2.2.2.2.2.2.2.2.2.2.2.2.2.2.1)).whole) Try.underlying140 rfl (LN.out _ (H_p21.out).len)
                · intro ax wx hb hs hd
                  have h78 : ax.tmps.getD 78 undef = (.agg (i64s p20).toArray) := hd 0 78 rfl (by kernel_rfl) (by decide)
                  have h79 : ax.tmps.getD 79 undef = (.agg (i64s p21).toArray) := hd 1 79 rfl (by kernel_rfl) (by decide)
                  refine Does.call 124 #[(.agg (i64s p20).toArray), (.agg (i64s p21).toArray)] (by clear hs hd; go_simp) ?_
                  refine (qplusN _ _ _ _ (H_p20.out) (H_p21.out) _).mono ?_
                  rintro z w' ⟨r, rfl, fr, l⟩
                  exact ⟨_, rfl, ⟨r, rfl, fr⟩, l⟩
                · intro ax wx hb hs hd
                  have h20 : ax.tmps.getD 20 undef = (.pointer (some ⟨G20, 0, none⟩)) := hs 20 (by kernel_rfl)
                  exact Does.load 140 (.tmp 20) rfl G20 0 h20 (i64s p20) _ ((Blk.later V7.out.2.2.2.2.2.2.2.2.2.2.2.2.2.2.2.1 hb (Blk.lt V7.out.2.2.2.2.2.2.2.2.2.2.2.2.2.2.2.1)).whole) Try.underlying140 rfl (LN.out _ (H_p20.out).len)
                · intro ax wx hb hs hd
                  have h21 : ax.tmps.getD 21 undef = (.pointer (some ⟨G21, 0, none⟩)) := hs 21 (by kernel_rfl)
                  exact Does.load 140 (.tmp 21) rfl G21 0 h21 (i64s p21) _ ((Blk.later V7.out.2.2.2.2.2.2.2.2.2.2.2.2.2.2.2.2.1 hb (Blk.lt V7.out.2.2.2.2.2.2.2.2.2.2.2.2.2.2.2.2.1)).whole) Try.underlying140 rfl (LN.out _ (H_p21.out).len)
                · intro ax wx hb hs hd
                  have h81 : ax.tmps.getD 81 undef = (.agg (i64s p20).toArray) := hd 3 81 rfl (by kernel_rfl) (by decide)
                  have h82 : ax.tmps.getD 82 undef = (.agg (i64s p21).toArray) := hd 4 82 rfl (by kernel_rfl) (by decide)
                  refine Does.call 125 #[(.agg (i64s p20).toArray), (.agg (i64s p21).toArray)] (by clear hs hd; go_simp) ?_
                  refine (qminusN _ _ _ _ (H_p20.out) (H_p21.out) _).mono ?_
                  rintro z w' ⟨r, rfl, fr, l⟩
                  exact ⟨_, rfl, ⟨r, rfl, fr⟩, l⟩
                · intro ax wx hb hs hd
                  exact Does.alloc 140 rfl 16 _ zeroNm hb.size
                · intro ax wx hb hs hd
                  exact Does.alloc 140 rfl 16 _ zeroNm hb.size
              · intro wx hb
                refine @EndsP.val _ _ _ _ _ _ _ _ (.agg (i64s p20).toArray) rfl ?_
                refine @EndsP.val _ _ _ _ _ _ _ _ (.agg (i64s p21).toArray) rfl ?_
                refine @EndsP.any _ _ _ _ _ _ _ _ (isNw (((((s.2.2.1 - s.2.2.2) % PR) * ((s.1 + s.2.1) % PR) % PR) + (((s.2.2.1 + s.2.2.2) % PR) * ((s.1 - s.2.1) % PR) % PR)) % PR)) (isNw_later (((((s.2.2.1 - s.2.2.2) % PR) * ((s.1 + s.2.1) % PR) % PR) + (((s.2.2.1 + s.2.2.2) % PR) * ((s.1 - s.2.1) % PR) % PR)) % PR)) rfl ?_
                intro v2 p2
                refine @EndsP.val _ _ _ _ _ _ _ _ (.agg (i64s p20).toArray) rfl ?_
                refine @EndsP.val _ _ _ _ _ _ _ _ (.agg (i64s p21).toArray) rfl ?_
                refine @EndsP.any _ _ _ _ _ _ _ _ (isNw (((((s.2.2.1 - s.2.2.2) % PR) * ((s.1 + s.2.1) % PR) % PR) - (((s.2.2.1 + s.2.2.2) % PR) * ((s.1 - s.2.1) % PR) % PR)) % PR)) (isNw_later (((((s.2.2.1 - s.2.2.2) % PR) * ((s.1 + s.2.1) % PR) % PR) - (((s.2.2.1 + s.2.2.2) % PR) * ((s.1 - s.2.1) % PR) % PR)) % PR)) rfl ?_
                intro v5 p5
                refine @EndsP.blk _ _ _ _ _ _ _ _ 140 (i64s (List.replicate 16 0)) rfl ?_
                intro g6 hg6 bg6
                refine @EndsP.blk _ _ _ _ _ _ _ _ 140 (i64s (List.replicate 16 0)) rfl ?_
                intro g7 hg7 bg7
                intro hD nf hn
                obtain ⟨mf, rfl⟩ : ∃ mf, nf = mf + 2 := ⟨nf - 2, by have h3 : 2 ≤ nf := hn; omega⟩
                obtain ⟨p23, rfl, F_p23⟩ := p2
                obtain ⟨p24, rfl, F_p24⟩ := p5
                have d01 : g6 ≠ g7 := fun e => hD 23 (by simp) 24 (by simp) (by decide) (by subst e; kernel_rfl)
                have H_p23 : Hid (Nw p23 (((((s.2.2.1 - s.2.2.2) % PR) * ((s.1 + s.2.1) % PR) % PR) + (((s.2.2.1 + s.2.2.2) % PR) * ((s.1 - s.2.1) % PR) % PR)) % PR)) := F_p23
                clear F_p23
                have H_p24 : Hid (Nw p24 (((((s.2.2.1 - s.2.2.2) % PR) * ((s.1 + s.2.1) % PR) % PR) - (((s.2.2.1 + s.2.2.2) % PR) * ((s.1 - s.2.1) % PR) % PR)) % PR)) := F_p24
                clear F_p24
                clear hD hn
                simp only [Act.put, List.setIfInBounds_toArray, List.set_cons_zero, List.set_cons_succ]
                refine wpAny_ready (rs := [8]) (by kernel_rfl) (by simp) (AllReady.cons rfl (fun K hK => ?_) AllReady.nil)
                rw [if_pos (by rfl)]
                refine last_store 140 (.tmp 23) (.tmp 80) rfl rfl g6 rfl 140 _ (i64s p23) rfl bg6 (by rw [i64s_length, (H_p23.out).len]; rfl) (LN.out _ (H_p23.out).len) (i64s_one _) ?_
                intro w0 b0 s0 k0
                refine hK _ _ ?_
                refine wpAny_ready (rs := [9]) (by kernel_rfl) (by simp) (AllReady.cons rfl (fun K hK => ?_) AllReady.nil)
                rw [if_pos (by rfl)]
                refine last_store 140 (.tmp 24) (.tmp 83) rfl rfl g7 rfl 140 _ (i64s p24) rfl (bg7.kept k0 (by omega)) (by rw [i64s_length, (H_p24.out).len]; rfl) (LN.out _ (H_p24.out).len) (i64s_one _) ?_
                intro w1 b1 s1 k1
                refine hK _ _ ?_
                refine wpAny_done (by kernel_rfl) (NoPanic.normal ?_) _
                have V8 : Hid (Below w.heap.size w w1 ∧ Blk w1 (w.heap.size + 1 + 1) 140 (i64s (List.replicate 16 0)) ∧ Blk w1 (w.heap.size + 1 + 1 + 1) 140 (i64s (List.replicate 16 0)) ∧ Blk w1 gn 58 (u8s ns) ∧ Blk w1 gx 140 (i64s lu) ∧ Blk w1 G8 140 (i64s a) ∧ Blk w1 G9 140 (i64s b) ∧ Blk w1 G10 140 (i64s c) ∧ Blk w1 G11 140 (i64s d) ∧ Blk w1 G14 140 (i64s p14) ∧ Blk w1 G15 140 (i64s p15) ∧ Blk w1 G16 140 (i64s p16) ∧ Blk w1 G17 140 (i64s p17) ∧ Blk w1 G18 140 (i64s p18) ∧ Blk w1 G19 140 (i64s p19) ∧ Blk w1 G20 140 (i64s p20) ∧ Blk w1 G21 140 (i64s p21) ∧ Blk w1 G22 140 (i64s p22) ∧ Blk w1 g6 140 (i64s p23) ∧ Blk w1 g7 140 (i64s p24) ∧ (wr.heap.size ≤ w1.heap.size ∧ wr.heap.size ≤ G14 ∧ wr.heap.size ≤ G15 ∧ wr.heap.size ≤ G16 ∧ wr.heap.size ≤ G17 ∧ wr.heap.size ≤ G18 ∧ wr.heap.size ≤ G19 ∧ wr.heap.size ≤ G20 ∧ wr.heap.size ≤ G21 ∧ wr.heap.size ≤ G22 ∧ wr.heap.size ≤ g6 ∧ wr.heap.size ≤ g7)) := by
                  have qb := hb.size
                  have qw := V7.out.1.size
                  have qa := V7.out.2.2.2.2.2.2.2.2.2.2.2.2.2.2.2.2.2.2
                  have qr1 := V7.out.2.1.lt
                  have qr2 := V7.out.2.2.1.lt
                  have q6 := V7.out.2.2.2.1.lt
                  have q7 := V7.out.2.2.2.2.1.lt
                  have q8 := V7.out.2.2.2.2.2.1.lt
                  have q9 := V7.out.2.2.2.2.2.2.1.lt
                  have q10 := V7.out.2.2.2.2.2.2.2.1.lt
                  have q11 := V7.out.2.2.2.2.2.2.2.2.1.lt
                  have q14 := V7.out.2.2.2.2.2.2.2.2.2.1.lt
                  have q15 := V7.out.2.2.2.2.2.2.2.2.2.2.1.lt
                  have q16 := V7.out.2.2.2.2.2.2.2.2.2.2.2.1.lt
                  have q17 := V7.out.2.2.2.2.2.2.2.2.2.2.2.2.1.lt
                  have q18 := V7.out.2.2.2.2.2.2.2.2.2.2.2.2.2.1.lt
                  have q19 := V7.out.2.2.2.2.2.2.2.2.2.2.2.2.2.2.1.lt
                  have q20 := V7.out.2.2.2.2.2.2.2.2.2.2.2.2.2.2.2.1.lt
                  have q21 := V7.out.2.2.2.2.2.2.2.2.2.2.2.2.2.2.2.2.1.lt
                  have q22 := V7.out.2.2.2.2.2.2.2.2.2.2.2.2.2.2.2.2.2.1.lt
                  exact ⟨below_kept (below_kept (below_chain V7.out.1 hb (by omega)) k0 (by omega) (fun j hj => by omega)) k1 (by omega) (fun j hj => by omega), (((V7.out.2.1.later hb qr1).kept k0 (by omega)).kept k1 (by omega)), (((V7.out.2.2.1.later hb qr2).kept k0 (by omega)).kept k1 (by omega)), (((V7.out.2.2.2.1.later hb q6).kept k0 (by omega)).kept k1 (by omega)), (((V7.out.2.2.2.2.1.later hb q7).kept k0 (by omega)).kept k1 (by omega)), (((V7.out.2.2.2.2.2.1.later hb q8).kept k0 (by omega)).kept k1 (by omega)), (((V7.out.2.2.2.2.2.2.1.later hb q9).kept k0 (by omega)).kept k1 (by omega)), (((V7.out.2.2.2.2.2.2.2.1.later hb q10).kept k0 (by omega)).kept k1 (by omega)), (((V7.out.2.2.2.2.2.2.2.2.1.later hb q11).kept k0 (by omega)).kept k1 (by omega)), (((V7.out.2.2.2.2.2.2.2.2.2.1.later hb q14).kept k0 (by omega)).kept k1 (by omega)), (((V7.out.2.2.2.2.2.2.2.2.2.2.1.later hb q15).kept k0 (by omega)).kept k1 (by omega)), (((V7.out.2.2.2.2.2.2.2.2.2.2.2.1.later hb q16).kept k0 (by omega)).kept k1 (by omega)), (((V7.out.2.2.2.2.2.2.2.2.2.2.2.2.1.later hb q17).kept k0 (by omega)).kept k1 (by omega)), (((V7.out.2.2.2.2.2.2.2.2.2.2.2.2.2.1.later hb q18).kept k0 (by omega)).kept k1 (by omega)), (((V7.out.2.2.2.2.2.2.2.2.2.2.2.2.2.2.1.later hb q19).kept k0 (by omega)).kept k1 (by omega)), (((V7.out.2.2.2.2.2.2.2.2.2.2.2.2.2.2.2.1.later hb q20).kept k0 (by omega)).kept k1 (by omega)), (((V7.out.2.2.2.2.2.2.2.2.2.2.2.2.2.2.2.2.1.later hb q21).kept k0 (by omega)).kept k1 (by omega)), (((V7.out.2.2.2.2.2.2.2.2.2.2.2.2.2.2.2.2.2.1.later hb q22).kept k0 (by omega)).kept k1 (by omega)), (b0.kept k1 (by omega)), b1, by omega⟩
                have DS_V8 : Hid (g6 ≠ g7) := d01
                obtain ⟨G23, rfl⟩ : ∃ q, q = g6 := ⟨_, rfl⟩
                obtain ⟨G24, rfl⟩ : ∃ q, q = g7 := ⟨_, rfl⟩
                obtain ⟨yV8, rfl⟩ : ∃ q, q = w1 := ⟨_, rfl⟩
                clear hb hK b0 s0 k0 b1 s1 k1 bg6 hg6 bg7 hg7 d01
                try simp only [Act.put, List.setIfInBounds_toArray, List.set_cons_zero, List.set_cons_succ]
                go_wp2_with (first | ((with_reducible show wpList _ _ _ (({ dst := some 84, op := _, type := _, pos := _, after := _, guard := _ } : Oper) :: _) _ _); refine wpList_load_blk rfl 140 _ rfl G23 rfl (i64s p23) _ V8.out.2.2.2.2.2.2.2.2.2.2.2.2.2.2.2.2.2.2.1 Try.underlying140 rfl (LN.out _ (H_p23.out).len) ?_) | ((with_reducible show wpList _ _ _ (({ dst := some 85, op := _, type := _, pos := _, after := _, guard := _ } : Oper) :: _) _ _); refine wpList_load_blk rfl 140 _ rfl G23 rfl (i64s p23) _ V8.out.2.2.2.2.2.2.2.2.2.2.2.2.2.2.2.2.2.2.1 Try.underlying140 rfl (LN.out _ (H_p23.out).len) ?_) | ((with_reducible show Calls _ _ #[.agg (i64s p23).toArray, .agg (i64s p23).toArray] _ _); refine (qtimes_any _ _ _ _ H_p23.out H_p23.out _).mono ?_; rintro e cV9 ⟨q10, rfl, F_q10, uV9⟩) | ((with_reducible show wpList _ _ _ (({ dst := none, op := .store _ (.tmp 10) (.tmp 86), type := _, pos := _, after := _, guard := _ } : Oper) :: _) _ _); refine wpList_store_blk rfl 140 140 _ _ rfl G10 rfl _ (i64s q10) rfl (V8.out.2.2.2.2.2.2.2.1.later uV9 V8.out.2.2.2.2.2.2.2.1.lt) (by rw [i64s_length, i64s_length, F_q10.len, (HF.out.c).len]) (LN.out _ F_q10.len) (i64s_one _) ?_; intro yV9 bV9 sV9 kV9))
                have H_q10 : Hid (Nd q10 ((((((s.2.2.1 - s.2.2.2) % PR) * ((s.1 + s.2.1) % PR) % PR) + (((s.2.2.1 + s.2.2.2) % PR) * ((s.1 - s.2.1) % PR) % PR)) % PR) * (((((s.2.2.1 - s.2.2.2) % PR) * ((s.1 + s.2.1) % PR) % PR) + (((s.2.2.1 + s.2.2.2) % PR) * ((s.1 - s.2.1) % PR) % PR)) % PR) % PR)) := F_q10
                have V9 : Hid (Below w.heap.size w yV9 ∧ Blk yV9 (w.heap.size + 1 + 1) 140 (i64s (List.replicate 16 0)) ∧ Blk yV9 (w.heap.size + 1 + 1 + 1) 140 (i64s (List.replicate 16 0)) ∧ Blk yV9 gn 58 (u8s ns) ∧ Blk yV9 gx 140 (i64s lu) ∧ Blk yV9 G8 140 (i64s a) ∧ Blk yV9 G9 140 (i64s b) ∧ Blk yV9 G10 140 (i64s q10) ∧ Blk yV9 G11 140 (i64s d) ∧ Blk yV9 G14 140 (i64s p14) ∧ Blk yV9 G15 140 (i64s p15) ∧ Blk yV9 G16 140 (i64s p16) ∧ Blk yV9 G17 140 (i64s p17) ∧ Blk yV9 G18 140 (i64s p18) ∧ Blk yV9 G19 140 (i64s p19) ∧ Blk yV9 G20 140 (i64s p20) ∧ Blk yV9 G21 140 (i64s p21) ∧ Blk yV9 G22 140 (i64s p22) ∧ Blk yV9 G23 140 (i64s p23) ∧ Blk yV9 G24 140 (i64s p24) ∧ (wr.heap.size ≤ yV9.heap.size ∧ wr.heap.size ≤ G14 ∧ wr.heap.size ≤ G15 ∧ wr.heap.size ≤ G16 ∧ wr.heap.size ≤ G17 ∧ wr.heap.size ≤ G18 ∧ wr.heap.size ≤ G19 ∧ wr.heap.size ≤ G20 ∧ wr.heap.size ≤ G21 ∧ wr.heap.size ≤ G22 ∧ wr.heap.size ≤ G23 ∧ wr.heap.size ≤ G24)) := by
                  have qb := uV9.size
                  have qw := V8.out.1.size
                  have qa := V8.out.2.2.2.2.2.2.2.2.2.2.2.2.2.2.2.2.2.2.2.2
                  have ol := OL.out
                  have qr1 := V8.out.2.1.lt
                  have qr2 := V8.out.2.2.1.lt
                  have q6 := V8.out.2.2.2.1.lt
                  have q7 := V8.out.2.2.2.2.1.lt
                  have q8 := V8.out.2.2.2.2.2.1.lt
                  have q9 := V8.out.2.2.2.2.2.2.1.lt
                  have q10 := V8.out.2.2.2.2.2.2.2.1.lt
                  have q11 := V8.out.2.2.2.2.2.2.2.2.1.lt
                  have q14 := V8.out.2.2.2.2.2.2.2.2.2.1.lt
                  have q15 := V8.out.2.2.2.2.2.2.2.2.2.2.1.lt
                  have q16 := V8.out.2.2.2.2.2.2.2.2.2.2.2.1.lt
                  have q17 := V8.out.2.2.2.2.2.2.2.2.2.2.2.2.1.lt
                  have q18 := V8.out.2.2.2.2.2.2.2.2.2.2.2.2.2.1.lt
                  have q19 := V8.out.2.2.2.2.2.2.2.2.2.2.2.2.2.2.1.lt
                  have q20 := V8.out.2.2.2.2.2.2.2.2.2.2.2.2.2.2.2.1.lt
                  have q21 := V8.out.2.2.2.2.2.2.2.2.2.2.2.2.2.2.2.2.1.lt
                  have q22 := V8.out.2.2.2.2.2.2.2.2.2.2.2.2.2.2.2.2.2.1.lt
                  have q23 := V8.out.2.2.2.2.2.2.2.2.2.2.2.2.2.2.2.2.2.2.1.lt
                  have q24 := V8.out.2.2.2.2.2.2.2.2.2.2.2.2.2.2.2.2.2.2.2.1.lt
                  exact ⟨below_kept (below_chain V8.out.1 uV9 (by omega)) kV9 (by omega) (fun j hj => by omega), (V8.out.2.1.later uV9 qr1).kept kV9 (by omega), (V8.out.2.2.1.later uV9 qr2).kept kV9 (by omega), (V8.out.2.2.2.1.later uV9 q6).kept kV9 (by omega), (V8.out.2.2.2.2.1.later uV9 q7).kept kV9 (by omega), (V8.out.2.2.2.2.2.1.later uV9 q8).kept kV9 (by omega), (V8.out.2.2.2.2.2.2.1.later uV9 q9).kept kV9 (by omega), bV9, (V8.out.2.2.2.2.2.2.2.2.1.later uV9 q11).kept kV9 (by omega), (V8.out.2.2.2.2.2.2.2.2.2.1.later uV9 q14).kept kV9 (by omega), (V8.out.2.2.2.2.2.2.2.2.2.2.1.later uV9 q15).kept kV9 (by omega), (V8.out.2.2.2.2.2.2.2.2.2.2.2.1.later uV9 q16).kept kV9 (by omega), (V8.out.2.2.2.2.2.2.2.2.2.2.2.2.1.later uV9 q17).kept kV9 (by omega), (V8.out.2.2.2.2.2.2.2.2.2.2.2.2.2.1.later uV9 q18).kept kV9 (by omega), (V8.out.2.2.2.2.2.2.2.2.2.2.2.2.2.2.1.later uV9 q19).kept kV9 (by omega), (V8.out.2.2.2.2.2.2.2.2.2.2.2.2.2.2.2.1.later uV9 q20).kept kV9 (by omega), (V8.out.2.2.2.2.2.2.2.2.2.2.2.2.2.2.2.2.1.later uV9 q21).kept kV9 (by omega), (V8.out.2.2.2.2.2.2.2.2.2.2.2.2.2.2.2.2.2.1.later uV9 q22).kept kV9 (by omega), (V8.out.2.2.2.2.2.2.2.2.2.2.2.2.2.2.2.2.2.2.1.later uV9 q23).kept kV9 (by omega), (V8.out.2.2.2.2.2.2.2.2.2.2.2.2.2.2.2.2.2.2.2.1.later uV9 q24).kept kV9 (by omega), by omega⟩
                clear uV9 bV9 sV9 kV9 F_q10
                try simp only [Act.put, List.setIfInBounds_toArray, List.set_cons_zero, List.set_cons_succ]
                refine region_invP 5 ((.val (.agg (i64s lu).toArray)) :: (.val (.agg (i64s p24).toArray)) :: (.val (.agg (i64s p24).toArray)) :: (.any (isNd ((((((s.2.2.1 - s.2.2.2) % PR) * ((s.1 + s.2.1) % PR) % PR) - (((s.2.2.1 + s.2.2.2) % PR) * ((s.1 - s.2.1) % PR) % PR)) % PR) * (((((s.2.2.1 - s.2.2.2) % PR) * ((s.1 + s.2.1) % PR) % PR) - (((s.2.2.1 + s.2.2.2) % PR) * ((s.1 - s.2.1) % PR) % PR)) % PR) % PR)) (isNd_later ((((((s.2.2.1 - s.2.2.2) % PR) * ((s.1 + s.2.1) % PR) % PR) - (((s.2.2.1 + s.2.2.2) % PR) * ((s.1 - s.2.1) % PR) % PR)) % PR) * (((((s.2.2.1 - s.2.2.2) % PR) * ((s.1 + s.2.1) % PR) % PR) - (((s.2.2.1 + s.2.2.2) % PR) * ((s.1 - s.2.1) % PR) % PR)) % PR) % PR))) :: (.any (isNd (u * ((((((s.2.2.1 - s.2.2.2) % PR) * ((s.1 + s.2.1) % PR) % PR) - (((s.2.2.1 + s.2.2.2) % PR) * ((s.1 - s.2.1) % PR) % PR)) % PR) * (((((s.2.2.1 - s.2.2.2) % PR) * ((s.1 + s.2.1) % PR) % PR) - (((s.2.2.1 + s.2.2.2) % PR) * ((s.1 - s.2.1) % PR) % PR)) % PR) % PR) % PR)) (isNd_later (u * ((((((s.2.2.1 - s.2.2.2) % PR) * ((s.1 + s.2.1) % PR) % PR) - (((s.2.2.1 + s.2.2.2) % PR) * ((s.1 - s.2.1) % PR) % PR)) % PR) * (((((s.2.2.1 - s.2.2.2) % PR) * ((s.1 + s.2.1) % PR) % PR) - (((s.2.2.1 + s.2.2.2) % PR) * ((s.1 - s.2.1) % PR) % PR)) % PR) % PR) % PR))) :: []) (by kernel_rfl) (by kernel_rfl) (by kernel_rfl) [] ⟨.inl rfl, .inl rfl, .inl rfl, .inl rfl, .inl rfl, trivial⟩ (by kernel_rfl) ?_ ?_
                · refine Steps'.cons ?_ (Steps'.cons ?_ (Steps'.cons ?_ (Steps'.cons ?_ (Steps'.cons ?_ (Steps'.one _ _ _ _ _ _ _)))))
                  · intro ax wx hb hs hd
                    have h7 : ax.tmps.getD 7 undef = (.pointer (some ⟨gx, 0, none⟩)) := hs 7 (by kernel_rfl)
                    exact Does.load 140 (.tmp 7) rfl gx 0 h7 (i64s lu) _ ((Blk.later V9.out.2.2.2.2.1 hb (Blk.lt V9.out.2.2.2.2.1)).whole) Try.underlying140 rfl (LN.out _ (H_lu.out).len)
                  · intro ax wx hb hs hd
                    have h24 : ax.tmps.getD 24 undef = (.pointer (some ⟨G24, 0, none⟩)) := hs 24 (by kernel_rfl)
                    exact Does.load 140 (.tmp 24) rfl G24 0 h24 (i64s p24) _ ((Blk.later V9.out.2.2.2.2.2.2.2.2.2.2.2.2.2.2.2.2.2.2.2.1 hb (Blk.lt V9.out.2.2.2.2.2.2.2.2.2.2.2.2.2.2.2.2.2.2.2.1)).whole) Try.underlying140 rfl (LN.out _ (H_p24.out).len)
                  · intro ax wx hb hs hd
                    have h24 : ax.tmps.getD 24 undef = (.pointer (some ⟨G24, 0, none⟩)) := hs 24 (by kernel_rfl)
                    exact Does.load 140 (.tmp 24) rfl G24 0 h24 (i64s p24) _ ((Blk.later V9.out.2.2.2.2.2.2.2.2.2.2.2.2.2.2.2.2.2.2.2.1 hb (Blk.lt V9.out.2.2.2.2.2.2.2.2.2.2.2.2.2.2.2.2.2.2.2.1)).whole) Try.underlying140 rfl (LN.out _ (H_p24.out).len)
                  · intro ax wx hb hs hd
                    have h88 : ax.tmps.getD 88 undef = (.agg (i64s p24).toArray) := hd 1 88 rfl (by kernel_rfl) (by decide)
                    have h89 : ax.tmps.getD 89 undef = (.agg (i64s p24).toArray) := hd 2 89 rfl (by kernel_rfl) (by decide)
                    refine Does.call 114 #[(.agg (i64s p24).toArray), (.agg (i64s p24).toArray)] (by clear hs hd; go_simp) ?_
                    refine (qtimes_any _ _ _ _ (H_p24.out) (H_p24.out) _).mono ?_
                    rintro z w' ⟨r, rfl, fr, l⟩
                    exact ⟨_, rfl, ⟨r, rfl, fr⟩, l⟩
                  · intro ax wx hb hs hd
                    have h87 : ax.tmps.getD 87 undef = (.agg (i64s lu).toArray) := hd 0 87 rfl (by kernel_rfl) (by decide)
                    obtain ⟨l90, h90, f90⟩ : isNd ((((((s.2.2.1 - s.2.2.2) % PR) * ((s.1 + s.2.1) % PR) % PR) - (((s.2.2.1 + s.2.2.2) % PR) * ((s.1 - s.2.1) % PR) % PR)) % PR) * (((((s.2.2.1 - s.2.2.2) % PR) * ((s.1 + s.2.1) % PR) % PR) - (((s.2.2.1 + s.2.2.2) % PR) * ((s.1 - s.2.1) % PR) % PR)) % PR) % PR) (ax.tmps.getD 90 undef) wx := hd 3 90 rfl (by kernel_rfl) (by decide)
                    refine Does.call 114 #[(.agg (i64s lu).toArray), (.agg (i64s l90).toArray)] (by clear hs hd; go_simp) ?_
                    refine (qtimes_any _ _ _ _ (H_lu.out).w (f90).w _).mono ?_
                    rintro z w' ⟨r, rfl, fr, l⟩
                    exact ⟨_, rfl, ⟨r, rfl, fr⟩, l⟩
                · intro wx hb
                  refine @EndsP.val _ _ _ _ _ _ _ _ (.agg (i64s lu).toArray) rfl ?_
                  refine @EndsP.val _ _ _ _ _ _ _ _ (.agg (i64s p24).toArray) rfl ?_
                  refine @EndsP.val _ _ _ _ _ _ _ _ (.agg (i64s p24).toArray) rfl ?_
                  refine @EndsP.any _ _ _ _ _ _ _ _ (isNd ((((((s.2.2.1 - s.2.2.2) % PR) * ((s.1 + s.2.1) % PR) % PR) - (((s.2.2.1 + s.2.2.2) % PR) * ((s.1 - s.2.1) % PR) % PR)) % PR) * (((((s.2.2.1 - s.2.2.2) % PR) * ((s.1 + s.2.1) % PR) % PR) - (((s.2.2.1 + s.2.2.2) % PR) * ((s.1 - s.2.1) % PR) % PR)) % PR) % PR)) (isNd_later ((((((s.2.2.1 - s.2.2.2) % PR) * ((s.1 + s.2.1) % PR) % PR) - (((s.2.2.1 + s.2.2.2) % PR) * ((s.1 - s.2.1) % PR) % PR)) % PR) * (((((s.2.2.1 - s.2.2.2) % PR) * ((s.1 + s.2.1) % PR) % PR) - (((s.2.2.1 + s.2.2.2) % PR) * ((s.1 - s.2.1) % PR) % PR)) % PR) % PR)) rfl ?_
                  intro v3 p3
                  refine @EndsP.any _ _ _ _ _ _ _ _ (isNd (u * ((((((s.2.2.1 - s.2.2.2) % PR) * ((s.1 + s.2.1) % PR) % PR) - (((s.2.2.1 + s.2.2.2) % PR) * ((s.1 - s.2.1) % PR) % PR)) % PR) * (((((s.2.2.1 - s.2.2.2) % PR) * ((s.1 + s.2.1) % PR) % PR) - (((s.2.2.1 + s.2.2.2) % PR) * ((s.1 - s.2.1) % PR) % PR)) % PR) % PR) % PR)) (isNd_later (u * ((((((s.2.2.1 - s.2.2.2) % PR) * ((s.1 + s.2.1) % PR) % PR) - (((s.2.2.1 + s.2.2.2) % PR) * ((s.1 - s.2.1) % PR) % PR)) % PR) * (((((s.2.2.1 - s.2.2.2) % PR) * ((s.1 + s.2.1) % PR) % PR) - (((s.2.2.1 + s.2.2.2) % PR) * ((s.1 - s.2.1) % PR) % PR)) % PR) % PR) % PR)) rfl ?_
                  intro v4 p4
                  intro hD nf hn
                  obtain ⟨mf, rfl⟩ : ∃ mf, nf = mf + 1 := ⟨nf - 1, by have h3 : 1 ≤ nf := hn; omega⟩
                  obtain ⟨q11, rfl, F_q11⟩ := p4
                  have H_q11 : Hid (Nd q11 (u * ((((((s.2.2.1 - s.2.2.2) % PR) * ((s.1 + s.2.1) % PR) % PR) - (((s.2.2.1 + s.2.2.2) % PR) * ((s.1 - s.2.1) % PR) % PR)) % PR) * (((((s.2.2.1 - s.2.2.2) % PR) * ((s.1 + s.2.1) % PR) % PR) - (((s.2.2.1 + s.2.2.2) % PR) * ((s.1 - s.2.1) % PR) % PR)) % PR) % PR) % PR)) := F_q11
                  clear F_q11 hD hn
                  simp only [Act.put, List.setIfInBounds_toArray, List.set_cons_zero, List.set_cons_succ]
                  refine wpAny_ready (rs := [5]) (by kernel_rfl) (by simp) (AllReady.cons rfl (fun K hK => ?_) AllReady.nil)
                  rw [if_pos (by rfl)]
                  refine last_store 140 (.tmp 11) (.tmp 91) rfl rfl G11 rfl 140 _ (i64s q11) rfl ((V9.out.2.2.2.2.2.2.2.2.1).later hb V9.out.2.2.2.2.2.2.2.2.1.lt) (by rw [i64s_length, i64s_length, H_q11.out.len, (HF.out.d).len]) (LN.out _ H_q11.out.len) (i64s_one _) ?_
                  intro yV10 bV10 sV10 kV10
                  refine hK _ _ ?_
                  clear hK K
                  refine wpAny_done (by kernel_rfl) (NoPanic.normal ?_) _
                  have V10 : Hid (Below w.heap.size w yV10 ∧ Blk yV10 (w.heap.size + 1 + 1) 140 (i64s (List.replicate 16 0)) ∧ Blk yV10 (w.heap.size + 1 + 1 + 1) 140 (i64s (List.replicate 16 0)) ∧ Blk yV10 gn 58 (u8s ns) ∧ Blk yV10 gx 140 (i64s lu) ∧ Blk yV10 G8 140 (i64s a) ∧ Blk yV10 G9 140 (i64s b) ∧ Blk yV10 G10 140 (i64s q10) ∧ Blk yV10 G11 140 (i64s q11) ∧ Blk yV10 G14 140 (i64s p14) ∧ Blk yV10 G15 140 (i64s p15) ∧ Blk yV10 G16 140 (i64s p16) ∧ Blk yV10 G17 140 (i64s p17) ∧ Blk yV10 G18 140 (i64s p18) ∧ Blk yV10 G19 140 (i64s p19) ∧ Blk yV10 G20 140 (i64s p20) ∧ Blk yV10 G21 140 (i64s p21) ∧ Blk yV10 G22 140 (i64s p22) ∧ Blk yV10 G23 140 (i64s p23) ∧ Blk yV10 G24 140 (i64s p24) ∧ (wr.heap.size ≤ yV10.heap.size ∧ wr.heap.size ≤ G14 ∧ wr.heap.size ≤ G15 ∧ wr.heap.size ≤ G16 ∧ wr.heap.size ≤ G17 ∧ wr.heap.size ≤ G18 ∧ wr.heap.size ≤ G19 ∧ wr.heap.size ≤ G20 ∧ wr.heap.size ≤ G21 ∧ wr.heap.size ≤ G22 ∧ wr.heap.size ≤ G23 ∧ wr.heap.size ≤ G24)) := by
                    have qb := hb.size
                    have qw := V9.out.1.size
                    have qa := V9.out.2.2.2.2.2.2.2.2.2.2.2.2.2.2.2.2.2.2.2.2
                    have ol := OL.out
                    have qr1 := V9.out.2.1.lt
                    have qr2 := V9.out.2.2.1.lt
                    have q6 := V9.out.2.2.2.1.lt
                    have q7 := V9.out.2.2.2.2.1.lt
                    have q8 := V9.out.2.2.2.2.2.1.lt
                    have q9 := V9.out.2.2.2.2.2.2.1.lt
                    have q10 := V9.out.2.2.2.2.2.2.2.1.lt
                    have q11 := V9.out.2.2.2.2.2.2.2.2.1.lt
                    have q14 := V9.out.2.2.2.2.2.2.2.2.2.1.lt
                    have q15 := V9.out.2.2.2.2.2.2.2.2.2.2.1.lt
                    have q16 := V9.out.2.2.2.2.2.2.2.2.2.2.2.1.lt
                    have q17 := V9.out.2.2.2.2.2.2.2.2.2.2.2.2.1.lt
                    have q18 := V9.out.2.2.2.2.2.2.2.2.2.2.2.2.2.1.lt
                    have q19 := V9.out.2.2.2.2.2.2.2.2.2.2.2.2.2.2.1.lt
                    have q20 := V9.out.2.2.2.2.2.2.2.2.2.2.2.2.2.2.2.1.lt
                    have q21 := V9.out.2.2.2.2.2.2.2.2.2.2.2.2.2.2.2.2.1.lt
                    have q22 := V9.out.2.2.2.2.2.2.2.2.2.2.2.2.2.2.2.2.2.1.lt
                    have q23 := V9.out.2.2.2.2.2.2.2.2.2.2.2.2.2.2.2.2.2.2.1.lt
                    have q24 := V9.out.2.2.2.2.2.2.2.2.2.2.2.2.2.2.2.2.2.2.2.1.lt
                    exact ⟨below_kept (below_chain V9.out.1 hb (by omega)) kV10 (by omega) (fun j hj => by omega), (V9.out.2.1.later hb qr1).kept kV10 (by omega), (V9.out.2.2.1.later hb qr2).kept kV10 (by omega), (V9.out.2.2.2.1.later hb q6).kept kV10 (by omega), (V9.out.2.2.2.2.1.later hb q7).kept kV10 (by omega), (V9.out.2.2.2.2.2.1.later hb q8).kept kV10 (by omega), (V9.out.2.2.2.2.2.2.1.later hb q9).kept kV10 (by omega), (V9.out.2.2.2.2.2.2.2.1.later hb q10).kept kV10 (by omega), bV10, (V9.out.2.2.2.2.2.2.2.2.2.1.later hb q14).kept kV10 (by omega), (V9.out.2.2.2.2.2.2.2.2.2.2.1.later hb q15).kept kV10 (by omega), (V9.out.2.2.2.2.2.2.2.2.2.2.2.1.later hb q16).kept kV10 (by omega), (V9.out.2.2.2.2.2.2.2.2.2.2.2.2.1.later hb q17).kept kV10 (by omega), (V9.out.2.2.2.2.2.2.2.2.2.2.2.2.2.1.later hb q18).kept kV10 (by omega), (V9.out.2.2.2.2.2.2.2.2.2.2.2.2.2.2.1.later hb q19).kept kV10 (by omega), (V9.out.2.2.2.2.2.2.2.2.2.2.2.2.2.2.2.1.later hb q20).kept kV10 (by omega), (V9.out.2.2.2.2.2.2.2.2.2.2.2.2.2.2.2.2.1.later hb q21).kept kV10 (by omega), (V9.out.2.2.2.2.2.2.2.2.2.2.2.2.2.2.2.2.2.1.later hb q22).kept kV10 (by omega), (V9.out.2.2.2.2.2.2.2.2.2.2.2.2.2.2.2.2.2.2.1.later hb q23).kept kV10 (by omega), (V9.out.2.2.2.2.2.2.2.2.2.2.2.2.2.2.2.2.2.2.2.1.later hb q24).kept kV10 (by omega), by omega⟩
                  clear hb bV10 sV10 kV10
                  go_wp2_with (first | ((with_reducible show wpList _ _ _ (({ dst := some 92, op := _, type := _, pos := _, after := _, guard := _ } : Oper) :: _) _ _); refine wpList_load_blk rfl 140 _ rfl G18 rfl (i64s p18) _ V10.out.2.2.2.2.2.2.2.2.2.2.2.2.2.1 Try.underlying140 rfl (LN.out _ (H_p18.out).len) ?_) | ((with_reducible show wpList _ _ _ (({ dst := some 93, op := _, type := _, pos := _, after := _, guard := _ } : Oper) :: _) _ _); refine wpList_load_blk rfl 140 _ rfl G19 rfl (i64s p19) _ V10.out.2.2.2.2.2.2.2.2.2.2.2.2.2.2.1 Try.underlying140 rfl (LN.out _ (H_p19.out).len) ?_) | ((with_reducible show Calls _ _ #[.agg (i64s p18).toArray, .agg (i64s p19).toArray] _ _); refine (qtimes_any _ _ _ _ H_p18.out.w H_p19.out.w _).mono ?_; rintro e cV11 ⟨q8, rfl, F_q8, uV11⟩) | ((with_reducible show wpList _ _ _ (({ dst := none, op := .store _ (.tmp 8) (.tmp 94), type := _, pos := _, after := _, guard := _ } : Oper) :: _) _ _); refine wpList_store_blk rfl 140 140 _ _ rfl G8 rfl _ (i64s q8) rfl (V10.out.2.2.2.2.2.1.later uV11 V10.out.2.2.2.2.2.1.lt) (by rw [i64s_length, i64s_length, F_q8.len, (HF.out.a).len]) (LN.out _ F_q8.len) (i64s_one _) ?_; intro yV11 bV11 sV11 kV11))
                  have H_q8 : Hid (Nd q8 ((((s.1 + s.2.1) % PR) * ((s.1 + s.2.1) % PR) % PR) * (((s.1 - s.2.1) % PR) * ((s.1 - s.2.1) % PR) % PR) % PR)) := F_q8
                  have V11 : Hid (Below w.heap.size w yV11 ∧ Blk yV11 (w.heap.size + 1 + 1) 140 (i64s (List.replicate 16 0)) ∧ Blk yV11 (w.heap.size + 1 + 1 + 1) 140 (i64s (List.replicate 16 0)) ∧ Blk yV11 gn 58 (u8s ns) ∧ Blk yV11 gx 140 (i64s lu) ∧ Blk yV11 G8 140 (i64s q8) ∧ Blk yV11 G9 140 (i64s b) ∧ Blk yV11 G10 140 (i64s q10) ∧ Blk yV11 G11 140 (i64s q11) ∧ Blk yV11 G14 140 (i64s p14) ∧ Blk yV11 G15 140 (i64s p15) ∧ Blk yV11 G16 140 (i64s p16) ∧ Blk yV11 G17 140 (i64s p17) ∧ Blk yV11 G18 140 (i64s p18) ∧ Blk yV11 G19 140 (i64s p19) ∧ Blk yV11 G20 140 (i64s p20) ∧ Blk yV11 G21 140 (i64s p21) ∧ Blk yV11 G22 140 (i64s p22) ∧ Blk yV11 G23 140 (i64s p23) ∧ Blk yV11 G24 140 (i64s p24) ∧ (wr.heap.size ≤ yV11.heap.size ∧ wr.heap.size ≤ G14 ∧ wr.heap.size ≤ G15 ∧ wr.heap.size ≤ G16 ∧ wr.heap.size ≤ G17 ∧ wr.heap.size ≤ G18 ∧ wr.heap.size ≤ G19 ∧ wr.heap.size ≤ G20 ∧ wr.heap.size ≤ G21 ∧ wr.heap.size ≤ G22 ∧ wr.heap.size ≤ G23 ∧ wr.heap.size ≤ G24)) := by
                    have qb := uV11.size
                    have qw := V10.out.1.size
                    have qa := V10.out.2.2.2.2.2.2.2.2.2.2.2.2.2.2.2.2.2.2.2.2
                    have ol := OL.out
                    have qr1 := V10.out.2.1.lt
                    have qr2 := V10.out.2.2.1.lt
                    have q6 := V10.out.2.2.2.1.lt
                    have q7 := V10.out.2.2.2.2.1.lt
                    have q8 := V10.out.2.2.2.2.2.1.lt
                    have q9 := V10.out.2.2.2.2.2.2.1.lt
                    have q10 := V10.out.2.2.2.2.2.2.2.1.lt
                    have q11 := V10.out.2.2.2.2.2.2.2.2.1.lt
                    have q14 := V10.out.2.2.2.2.2.2.2.2.2.1.lt
                    have q15 := V10.out.2.2.2.2.2.2.2.2.2.2.1.lt
                    have q16 := V10.out.2.2.2.2.2.2.2.2.2.2.2.1.lt
                    have q17 := V10.out.2.2.2.2.2.2.2.2.2.2.2.2.1.lt
                    have q18 := V10.out.2.2.2.2.2.2.2.2.2.2.2.2.2.1.lt
                    have q19 := V10.out.2.2.2.2.2.2.2.2.2.2.2.2.2.2.1.lt
                    have q20 := V10.out.2.2.2.2.2.2.2.2.2.2.2.2.2.2.2.1.lt
                    have q21 := V10.out.2.2.2.2.2.2.2.2.2.2.2.2.2.2.2.2.1.lt
                    have q22 := V10.out.2.2.2.2.2.2.2.2.2.2.2.2.2.2.2.2.2.1.lt
                    have q23 := V10.out.2.2.2.2.2.2.2.2.2.2.2.2.2.2.2.2.2.2.1.lt
                    have q24 := V10.out.2.2.2.2.2.2.2.2.2.2.2.2.2.2.2.2.2.2.2.1.lt
                    exact ⟨below_kept (below_chain V10.out.1 uV11 (by omega)) kV11 (by omega) (fun j hj => by omega), (V10.out.2.1.later uV11 qr1).kept kV11 (by omega), (V10.out.2.2.1.later uV11 qr2).kept kV11 (by omega), (V10.out.2.2.2.1.later uV11 q6).kept kV11 (by omega), (V10.out.2.2.2.2.1.later uV11 q7).kept kV11 (by omega), bV11, (V10.out.2.2.2.2.2.2.1.later uV11 q9).kept kV11 (by omega), (V10.out.2.2.2.2.2.2.2.1.later uV11 q10).kept kV11 (by omega), (V10.out.2.2.2.2.2.2.2.2.1.later uV11 q11).kept kV11 (by omega), (V10.out.2.2.2.2.2.2.2.2.2.1.later uV11 q14).kept kV11 (by omega), (V10.out.2.2.2.2.2.2.2.2.2.2.1.later uV11 q15).kept kV11 (by omega), (V10.out.2.2.2.2.2.2.2.2.2.2.2.1.later uV11 q16).kept kV11 (by omega), (V10.out.2.2.2.2.2.2.2.2.2.2.2.2.1.later uV11 q17).kept kV11 (by omega), (V10.out.2.2.2.2.2.2.2.2.2.2.2.2.2.1.later uV11 q18).kept kV11 (by omega), (V10.out.2.2.2.2.2.2.2.2.2.2.2.2.2.2.1.later uV11 q19).kept kV11 (by omega), (V10.out.2.2.2.2.2.2.2.2.2.2.2.2.2.2.2.1.later uV11 q20).kept kV11 (by omega), (V10.out.2.2.2.2.2.2.2.2.2.2.2.2.2.2.2.2.1.later uV11 q21).kept kV11 (by omega), (V10.out.2.2.2.2.2.2.2.2.2.2.2.2.2.2.2.2.2.1.later uV11 q22).kept kV11 (by omega), (V10.out.2.2.2.2.2.2.2.2.2.2.2.2.2.2.2.2.2.2.1.later uV11 q23).kept kV11 (by omega), (V10.out.2.2.2.2.2.2.2.2.2.2.2.2.2.2.2.2.2.2.2.1.later uV11 q24).kept kV11 (by omega), by omega⟩
                  clear uV11 bV11 sV11 kV11 F_q8
                  try simp only [Act.put, List.setIfInBounds_toArray, List.set_cons_zero, List.set_cons_succ]
                  refine region_invP 7 ((.val (.agg (i64s p22).toArray)) :: (.val (.agg (i64s p18).toArray)) :: (.any (isNw 121665) (isNw_later 121665)) :: (.val (.agg (i64s p22).toArray)) :: (.any (isNd ((((((s.1 + s.2.1) % PR) * ((s.1 + s.2.1) % PR) % PR) - (((s.1 - s.2.1) % PR) * ((s.1 - s.2.1) % PR) % PR)) % PR) * 121665 % PR)) (isNd_later ((((((s.1 + s.2.1) % PR) * ((s.1 + s.2.1) % PR) % PR) - (((s.1 - s.2.1) % PR) * ((s.1 - s.2.1) % PR) % PR)) % PR) * 121665 % PR))) :: (.any (isNw (((((s.1 + s.2.1) % PR) * ((s.1 + s.2.1) % PR) % PR) + ((((((s.1 + s.2.1) % PR) * ((s.1 + s.2.1) % PR) % PR) - (((s.1 - s.2.1) % PR) * ((s.1 - s.2.1) % PR) % PR)) % PR) * 121665 % PR)) % PR)) (isNw_later (((((s.1 + s.2.1) % PR) * ((s.1 + s.2.1) % PR) % PR) + ((((((s.1 + s.2.1) % PR) * ((s.1 + s.2.1) % PR) % PR) - (((s.1 - s.2.1) % PR) * ((s.1 - s.2.1) % PR) % PR)) % PR) * 121665 % PR)) % PR))) :: (.any (isNd ((((((s.1 + s.2.1) % PR) * ((s.1 + s.2.1) % PR) % PR) - (((s.1 - s.2.1) % PR) * ((s.1 - s.2.1) % PR) % PR)) % PR) * (((((s.1 + s.2.1) % PR) * ((s.1 + s.2.1) % PR) % PR) + ((((((s.1 + s.2.1) % PR) * ((s.1 + s.2.1) % PR) % PR) - (((s.1 - s.2.1) % PR) * ((s.1 - s.2.1) % PR) % PR)) % PR) * 121665 % PR)) % PR) % PR)) (isNd_later ((((((s.1 + s.2.1) % PR) * ((s.1 + s.2.1) % PR) % PR) - (((s.1 - s.2.1) % PR) * ((s.1 - s.2.1) % PR) % PR)) % PR) * (((((s.1 + s.2.1) % PR) * ((s.1 + s.2.1) % PR) % PR) + ((((((s.1 + s.2.1) % PR) * ((s.1 + s.2.1) % PR) % PR) - (((s.1 - s.2.1) % PR) * ((s.1 - s.2.1) % PR) % PR)) % PR) * 121665 % PR)) % PR) % PR))) :: []) (by kernel_rfl) (by kernel_rfl) (by kernel_rfl) [] ⟨.inl rfl, .inl rfl, .inl rfl, .inl rfl, .inl rfl, .inl rfl, .inl rfl, trivial⟩ (by kernel_rfl) ?_ ?_
                  · refine Steps'.cons ?_ (Steps'.cons ?_ (Steps'.cons ?_ (Steps'.cons ?_ (Steps'.cons ?_ (Steps'.cons ?_ (Steps'.cons ?_ (Steps'.one _ _ _ _ _ _ _)))))))
                    · intro ax wx hb hs hd
                      have h22 : ax.tmps.getD 22 undef = (.pointer (some ⟨G22, 0, none⟩)) := hs 22 (by kernel_rfl)
                      exact Does.load 140 (.tmp 22) rfl G22 0 h22 (i64s p22) _ ((Blk.later V11.out.2.2.2.2.2.2.2.2.2.2.2.2.2.2.2.2.2.1 hb (Blk.lt V11.out.2.2.2.2.2.2.2.2.2.2.2.2.2.2.2.2.2.1)).whole) Try.underlying140 rfl (LN.out _ (H_p22.out).len)
                    · intro ax wx hb hs hd
                      have h18 : ax.tmps.getD 18 undef = (.pointer (some ⟨G18, 0, none⟩)) := hs 18 (by kernel_rfl)
                      exact Does.load 140 (.tmp 18) rfl G18 0 h18 (i64s p18) _ ((Blk.later V11.out.2.2.2.2.2.2.2.2.2.2.2.2.2.1 hb (Blk.lt V11.out.2.2.2.2.2.2.2.2.2.2.2.2.2.1)).whole) Try.underlying140 rfl (LN.out _ (H_p18.out).len)
                    · intro ax wx hb hs hd
                      refine Does.call 123 #[(.int .i64 121665)] (by clear hs hd; go_simp) ?_
                      refine (qsmallW 121665 (by decide) _).mono ?_
                      rintro z w' ⟨r, rfl, fr, l⟩
                      exact ⟨_, rfl, ⟨r, rfl, fr⟩, l⟩
                    · intro ax wx hb hs hd
                      have h22 : ax.tmps.getD 22 undef = (.pointer (some ⟨G22, 0, none⟩)) := hs 22 (by kernel_rfl)
                      exact Does.load 140 (.tmp 22) rfl G22 0 h22 (i64s p22) _ ((Blk.later V11.out.2.2.2.2.2.2.2.2.2.2.2.2.2.2.2.2.2.1 hb (Blk.lt V11.out.2.2.2.2.2.2.2.2.2.2.2.2.2.2.2.2.2.1)).whole) Try.underlying140 rfl (LN.out _ (H_p22.out).len)
                    · intro ax wx hb hs hd
                      obtain ⟨l97, h97, f97⟩ : isNw 121665 (ax.tmps.getD 97 undef) wx := hd 2 97 rfl (by kernel_rfl) (by decide)
                      have h98 : ax.tmps.getD 98 undef = (.agg (i64s p22).toArray) := hd 3 98 rfl (by kernel_rfl) (by decide)
                      refine Does.call 114 #[(.agg (i64s l97).toArray), (.agg (i64s p22).toArray)] (by clear hs hd; go_simp) ?_
                      refine (qtimesC _ _ _ _ (f97) (H_p22.out) _).mono ?_
                      rintro z w' ⟨r, rfl, fr, l⟩
                      exact ⟨_, rfl, ⟨r, rfl, fr⟩, l⟩
                    · intro ax wx hb hs hd
                      have h96 : ax.tmps.getD 96 undef = (.agg (i64s p18).toArray) := hd 1 96 rfl (by kernel_rfl) (by decide)
                      obtain ⟨l99, h99, f99⟩ : isNd ((((((s.1 + s.2.1) % PR) * ((s.1 + s.2.1) % PR) % PR) - (((s.1 - s.2.1) % PR) * ((s.1 - s.2.1) % PR) % PR)) % PR) * 121665 % PR) (ax.tmps.getD 99 undef) wx := hd 4 99 rfl (by kernel_rfl) (by decide)
                      refine Does.call 124 #[(.agg (i64s p18).toArray), (.agg (i64s l99).toArray)] (by clear hs hd; go_simp) ?_
                      refine (qplusN _ _ _ _ (H_p18.out) (f99) _).mono ?_
                      rintro z w' ⟨r, rfl, fr, l⟩
                      exact ⟨_, rfl, ⟨r, rfl, fr⟩, l⟩
                    · intro ax wx hb hs hd
                      have h95 : ax.tmps.getD 95 undef = (.agg (i64s p22).toArray) := hd 0 95 rfl (by kernel_rfl) (by decide)
                      obtain ⟨l100, h100, f100⟩ : isNw (((((s.1 + s.2.1) % PR) * ((s.1 + s.2.1) % PR) % PR) + ((((((s.1 + s.2.1) % PR) * ((s.1 + s.2.1) % PR) % PR) - (((s.1 - s.2.1) % PR) * ((s.1 - s.2.1) % PR) % PR)) % PR) * 121665 % PR)) % PR) (ax.tmps.getD 100 undef) wx := hd 5 100 rfl (by kernel_rfl) (by decide)
                      refine Does.call 114 #[(.agg (i64s p22).toArray), (.agg (i64s l100).toArray)] (by clear hs hd; go_simp) ?_
                      refine (qtimes_any _ _ _ _ (H_p22.out) (f100) _).mono ?_
                      rintro z w' ⟨r, rfl, fr, l⟩
                      exact ⟨_, rfl, ⟨r, rfl, fr⟩, l⟩
                  · intro wx hb
                    refine @EndsP.val _ _ _ _ _ _ _ _ (.agg (i64s p22).toArray) rfl ?_
                    refine @EndsP.val _ _ _ _ _ _ _ _ (.agg (i64s p18).toArray) rfl ?_
                    refine @EndsP.any _ _ _ _ _ _ _ _ (isNw 121665) (isNw_later 121665) rfl ?_
                    intro v2 p2
                    refine @EndsP.val _ _ _ _ _ _ _ _ (.agg (i64s p22).toArray) rfl ?_
                    refine @EndsP.any _ _ _ _ _ _ _ _ (isNd ((((((s.1 + s.2.1) % PR) * ((s.1 + s.2.1) % PR) % PR) - (((s.1 - s.2.1) % PR) * ((s.1 - s.2.1) % PR) % PR)) % PR) * 121665 % PR)) (isNd_later ((((((s.1 + s.2.1) % PR) * ((s.1 + s.2.1) % PR) % PR) - (((s.1 - s.2.1) % PR) * ((s.1 - s.2.1) % PR) % PR)) % PR) * 121665 % PR)) rfl ?_
                    intro v4 p4
                    refine @EndsP.any _ _ _ _ _ _ _ _ (isNw (((((s.1 + s.2.1) % PR) * ((s.1 + s.2.1) % PR) % PR) + ((((((s.1 + s.2.1) % PR) * ((s.1 + s.2.1) % PR) % PR) - (((s.1 - s.2.1) % PR) * ((s.1 - s.2.1) % PR) % PR)) % PR) * 121665 % PR)) % PR)) (isNw_later (((((s.1 + s.2.1) % PR) * ((s.1 + s.2.1) % PR) % PR) + ((((((s.1 + s.2.1) % PR) * ((s.1 + s.2.1) % PR) % PR) - (((s.1 - s.2.1) % PR) * ((s.1 - s.2.1) % PR) % PR)) % PR) * 121665 % PR)) % PR)) rfl ?_
                    intro v5 p5
                    refine @EndsP.any _ _ _ _ _ _ _ _ (isNd ((((((s.1 + s.2.1) % PR) * ((s.1 + s.2.1) % PR) % PR) - (((s.1 - s.2.1) % PR) * ((s.1 - s.2.1) % PR) % PR)) % PR) * (((((s.1 + s.2.1) % PR) * ((s.1 + s.2.1) % PR) % PR) + ((((((s.1 + s.2.1) % PR) * ((s.1 + s.2.1) % PR) % PR) - (((s.1 - s.2.1) % PR) * ((s.1 - s.2.1) % PR) % PR)) % PR) * 121665 % PR)) % PR) % PR)) (isNd_later ((((((s.1 + s.2.1) % PR) * ((s.1 + s.2.1) % PR) % PR) - (((s.1 - s.2.1) % PR) * ((s.1 - s.2.1) % PR) % PR)) % PR) * (((((s.1 + s.2.1) % PR) * ((s.1 + s.2.1) % PR) % PR) + ((((((s.1 + s.2.1) % PR) * ((s.1 + s.2.1) % PR) % PR) - (((s.1 - s.2.1) % PR) * ((s.1 - s.2.1) % PR) % PR)) % PR) * 121665 % PR)) % PR) % PR)) rfl ?_
                    intro v6 p6
                    intro hD nf hn
                    obtain ⟨mf, rfl⟩ : ∃ mf, nf = mf + 1 := ⟨nf - 1, by have h3 : 1 ≤ nf := hn; omega⟩
                    obtain ⟨q9, rfl, F_q9⟩ := p6
                    have H_q9 : Hid (Nd q9 ((((((s.1 + s.2.1) % PR) * ((s.1 + s.2.1) % PR) % PR) - (((s.1 - s.2.1) % PR) * ((s.1 - s.2.1) % PR) % PR)) % PR) * (((((s.1 + s.2.1) % PR) * ((s.1 + s.2.1) % PR) % PR) + ((((((s.1 + s.2.1) % PR) * ((s.1 + s.2.1) % PR) % PR) - (((s.1 - s.2.1) % PR) * ((s.1 - s.2.1) % PR) % PR)) % PR) * 121665 % PR)) % PR) % PR)) := F_q9
                    clear F_q9 hD hn
                    simp only [Act.put, List.setIfInBounds_toArray, List.set_cons_zero, List.set_cons_succ]
                    refine wpAny_ready (rs := [7]) (by kernel_rfl) (by simp) (AllReady.cons rfl (fun K hK => ?_) AllReady.nil)
                    rw [if_pos (by rfl)]
                    refine last_store 140 (.tmp 9) (.tmp 101) rfl rfl G9 rfl 140 _ (i64s q9) rfl ((V11.out.2.2.2.2.2.2.1).later hb V11.out.2.2.2.2.2.2.1.lt) (by rw [i64s_length, i64s_length, H_q9.out.len, (HF.out.b).len]) (LN.out _ H_q9.out.len) (i64s_one _) ?_
                    intro yV12 bV12 sV12 kV12
                    refine hK _ _ ?_
                    clear hK K
                    refine wpAny_done (by kernel_rfl) (NoPanic.normal ?_) _
                    have V12 : Hid (Below w.heap.size w yV12 ∧ Blk yV12 (w.heap.size + 1 + 1) 140 (i64s (List.replicate 16 0)) ∧ Blk yV12 (w.heap.size + 1 + 1 + 1) 140 (i64s (List.replicate 16 0)) ∧ Blk yV12 gn 58 (u8s ns) ∧ Blk yV12 gx 140 (i64s lu) ∧ Blk yV12 G8 140 (i64s q8) ∧ Blk yV12 G9 140 (i64s q9) ∧ Blk yV12 G10 140 (i64s q10) ∧ Blk yV12 G11 140 (i64s q11) ∧ Blk yV12 G14 140 (i64s p14) ∧ Blk yV12 G15 140 (i64s p15) ∧ Blk yV12 G16 140 (i64s p16) ∧ Blk yV12 G17 140 (i64s p17) ∧ Blk yV12 G18 140 (i64s p18) ∧ Blk yV12 G19 140 (i64s p19) ∧ Blk yV12 G20 140 (i64s p20) ∧ Blk yV12 G21 140 (i64s p21) ∧ Blk yV12 G22 140 (i64s p22) ∧ Blk yV12 G23 140 (i64s p23) ∧ Blk yV12 G24 140 (i64s p24) ∧ (wr.heap.size ≤ yV12.heap.size ∧ wr.heap.size ≤ G14 ∧ wr.heap.size ≤ G15 ∧ wr.heap.size ≤ G16 ∧ wr.heap.size ≤ G17 ∧ wr.heap.size ≤ G18 ∧ wr.heap.size ≤ G19 ∧ wr.heap.size ≤ G20 ∧ wr.heap.size ≤ G21 ∧ wr.heap.size ≤ G22 ∧ wr.heap.size ≤ G23 ∧ wr.heap.size ≤ G24)) := by
                      have qb := hb.size
                      have qw := V11.out.1.size
                      have qa := V11.out.2.2.2.2.2.2.2.2.2.2.2.2.2.2.2.2.2.2.2.2
                      have ol := OL.out
                      have qr1 := V11.out.2.1.lt
                      have qr2 := V11.out.2.2.1.lt
                      have q6 := V11.out.2.2.2.1.lt
                      have q7 := V11.out.2.2.2.2.1.lt
                      have q8 := V11.out.2.2.2.2.2.1.lt
                      have q9 := V11.out.2.2.2.2.2.2.1.lt
                      have q10 := V11.out.2.2.2.2.2.2.2.1.lt
                      have q11 := V11.out.2.2.2.2.2.2.2.2.1.lt
                      have q14 := V11.out.2.2.2.2.2.2.2.2.2.1.lt
                      have q15 := V11.out.2.2.2.2.2.2.2.2.2.2.1.lt
                      have q16 := V11.out.2.2.2.2.2.2.2.2.2.2.2.1.lt
                      have q17 := V11.out.2.2.2.2.2.2.2.2.2.2.2.2.1.lt
                      have q18 := V11.out.2.2.2.2.2.2.2.2.2.2.2.2.2.1.lt
                      have q19 := V11.out.2.2.2.2.2.2.2.2.2.2.2.2.2.2.1.lt
                      have q20 := V11.out.2.2.2.2.2.2.2.2.2.2.2.2.2.2.2.1.lt
                      have q21 := V11.out.2.2.2.2.2.2.2.2.2.2.2.2.2.2.2.2.1.lt
                      have q22 := V11.out.2.2.2.2.2.2.2.2.2.2.2.2.2.2.2.2.2.1.lt
                      have q23 := V11.out.2.2.2.2.2.2.2.2.2.2.2.2.2.2.2.2.2.2.1.lt
                      have q24 := V11.out.2.2.2.2.2.2.2.2.2.2.2.2.2.2.2.2.2.2.2.1.lt
                      exact ⟨below_kept (below_chain V11.out.1 hb (by omega)) kV12 (by omega) (fun j hj => by omega), (V11.out.2.1.later hb qr1).kept kV12 (by omega), (V11.out.2.2.1.later hb qr2).kept kV12 (by omega), (V11.out.2.2.2.1.later hb q6).kept kV12 (by omega), (V11.out.2.2.2.2.1.later hb q7).kept kV12 (by omega), (V11.out.2.2.2.2.2.1.later hb q8).kept kV12 (by omega), bV12, (V11.out.2.2.2.2.2.2.2.1.later hb q10).kept kV12 (by omega), (V11.out.2.2.2.2.2.2.2.2.1.later hb q11).kept kV12 (by omega), (V11.out.2.2.2.2.2.2.2.2.2.1.later hb q14).kept kV12 (by omega), (V11.out.2.2.2.2.2.2.2.2.2.2.1.later hb q15).kept kV12 (by omega), (V11.out.2.2.2.2.2.2.2.2.2.2.2.1.later hb q16).kept kV12 (by omega), (V11.out.2.2.2.2.2.2.2.2.2.2.2.2.1.later hb q17).kept kV12 (by omega), (V11.out.2.2.2.2.2.2.2.2.2.2.2.2.2.1.later hb q18).kept kV12 (by omega), (V11.out.2.2.2.2.2.2.2.2.2.2.2.2.2.2.1.later hb q19).kept kV12 (by omega), (V11.out.2.2.2.2.2.2.2.2.2.2.2.2.2.2.2.1.later hb q20).kept kV12 (by omega), (V11.out.2.2.2.2.2.2.2.2.2.2.2.2.2.2.2.2.1.later hb q21).kept kV12 (by omega), (V11.out.2.2.2.2.2.2.2.2.2.2.2.2.2.2.2.2.2.1.later hb q22).kept kV12 (by omega), (V11.out.2.2.2.2.2.2.2.2.2.2.2.2.2.2.2.2.2.2.1.later hb q23).kept kV12 (by omega), (V11.out.2.2.2.2.2.2.2.2.2.2.2.2.2.2.2.2.2.2.2.1.later hb q24).kept kV12 (by omega), by omega⟩
                    clear hb bV12 sV12 kV12
                    go_wp2_with fail
                    go_roundw
                    case rel => exact ⟨t, q8, q9, q10, q11, by omega, by go_num, (by rw [← HL1.out]; exact ⟨H_q8.out, H_q9.out, H_q10.out, H_q11.out⟩), ⟨V12.out.1, V12.out.2.1, V12.out.2.2.1, V12.out.2.2.2.1, V12.out.2.2.2.2.1, V12.out.2.2.2.2.2.1, V12.out.2.2.2.2.2.2.1, V12.out.2.2.2.2.2.2.2.1, V12.out.2.2.2.2.2.2.2.2.1⟩⟩
                    case measure => show (_ : Nat) < _; simp only [intOf]; omega
        · have j10 : X / 2 ^ f % 2 = 1 := by
            rw [hbit] at hpar; exact eq_of_beq hpar
          have j11 : Int.tmod (X / 2 ^ f) 2 = 1 := by rw [Int.tmod_eq_emod_of_nonneg hD.1]; exact j10
          rw [hbit] at hl1
          have HL1 : Hid (bstI u true s = ladI u n (255 - t)) := hl1
          clear hpar hl1 hbit
          go_wp2_with (first | ((with_reducible show wpList _ _ _ (({ dst := some 47, op := _, type := _, pos := _, after := _, guard := _ } : Oper) :: _) _ _); refine wpList_load_blk rfl 140 _ rfl G10 rfl (i64s c) _ V3.out.2.2.2.2.2.2.2.1 Try.underlying140 rfl (LN.out _ (HF.out.c).len) ?_) | ((with_reducible show wpList _ _ _ (({ dst := some 48, op := _, type := _, pos := _, after := _, guard := _ } : Oper) :: _) _ _); refine wpList_load_blk rfl 140 _ rfl G8 rfl (i64s a) _ V3.out.2.2.2.2.2.1 Try.underlying140 rfl (LN.out _ (HF.out.a).len) ?_) | ((with_reducible show wpList _ _ _ (({ dst := none, op := .store _ (.tmp 8) (.tmp 47), type := _, pos := _, after := _, guard := _ } : Oper) :: _) _ _); refine wpList_store_blk rfl 140 140 _ _ rfl G8 rfl _ (i64s c) rfl V3.out.2.2.2.2.2.1 (by rw [i64s_length, i64s_length, (HF.out.c).len, (HF.out.a).len]) (LN.out _ (HF.out.c).len) (i64s_one _) ?_; intro yf1 bf1 sf1 kf1) | ((with_reducible show wpList _ _ _ (({ dst := none, op := .store _ (.tmp 10) (.tmp 48), type := _, pos := _, after := _, guard := _ } : Oper) :: _) _ _); refine wpList_store_blk rfl 140 140 _ _ rfl G10 rfl _ (i64s a) rfl (V3.out.2.2.2.2.2.2.2.1.kept kf1 (by have ol := OL.out; omega)) (by rw [i64s_length, i64s_length, (HF.out.a).len, (HF.out.c).len]) (LN.out _ (HF.out.a).len) (i64s_one _) ?_; intro yf2 bf2 sf2 kf2) | ((with_reducible show wpList _ _ _ (({ dst := some 49, op := _, type := _, pos := _, after := _, guard := _ } : Oper) :: _) _ _); refine wpList_load_blk rfl 140 _ rfl G11 rfl (i64s d) _ ((V3.out.2.2.2.2.2.2.2.2.1.kept kf1 (by have ol := OL.out; omega)).kept kf2 (by have ol := OL.out; omega)) Try.underlying140 rfl (LN.out _ (HF.out.d).len) ?_) | ((with_reducible show wpList _ _ _ (({ dst := some 50, op := _, type := _, pos := _, after := _, guard := _ } : Oper) :: _) _ _); refine wpList_load_blk rfl 140 _ rfl G9 rfl (i64s b) _ ((V3.out.2.2.2.2.2.2.1.kept kf1 (by have ol := OL.out; omega)).kept kf2 (by have ol := OL.out; omega)) Try.underlying140 rfl (LN.out _ (HF.out.b).len) ?_) | ((with_reducible show wpList _ _ _ (({ dst := none, op := .store _ (.tmp 9) (.tmp 49), type := _, pos := _, after := _, guard := _ } : Oper) :: _) _ _); refine wpList_store_blk rfl 140 140 _ _ rfl G9 rfl _ (i64s d) rfl ((V3.out.2.2.2.2.2.2.1.kept kf1 (by have ol := OL.out; omega)).kept kf2 (by have ol := OL.out; omega)) (by rw [i64s_length, i64s_length, (HF.out.d).len, (HF.out.b).len]) (LN.out _ (HF.out.d).len) (i64s_one _) ?_; intro yf3 bf3 sf3 kf3) | ((with_reducible show wpList _ _ _ (({ dst := none, op := .store _ (.tmp 11) (.tmp 50), type := _, pos := _, after := _, guard := _ } : Oper) :: _) _ _); refine wpList_store_blk rfl 140 140 _ _ rfl G11 rfl _ (i64s b) rfl (((V3.out.2.2.2.2.2.2.2.2.1.kept kf1 (by have ol := OL.out; omega)).kept kf2 (by have ol := OL.out; omega)).kept kf3 (by have ol := OL.out; omega)) (by rw [i64s_length, i64s_length, (HF.out.b).len, (HF.out.d).len]) (LN.out _ (HF.out.b).len) (i64s_one _) ?_; intro yf4 bf4 sf4 kf4))
          have V4 : Hid (Below w.heap.size w yf4 ∧ Blk yf4 (w.heap.size + 1 + 1) 140 (i64s (List.replicate 16 0)) ∧ Blk yf4 (w.heap.size + 1 + 1 + 1) 140 (i64s (List.replicate 16 0)) ∧ Blk yf4 gn 58 (u8s ns) ∧ Blk yf4 gx 140 (i64s lu) ∧ Blk yf4 G8 140 (i64s c) ∧ Blk yf4 G9 140 (i64s d) ∧ Blk yf4 G10 140 (i64s a) ∧ Blk yf4 G11 140 (i64s b) ∧ (wr.heap.size ≤ yf4.heap.size)) := by
            have qw := V3.out.1.size
            have qa := V3.out.2.2.2.2.2.2.2.2.2
            have ol := OL.out
            have qr1 := V3.out.2.1.lt
            have qr2 := V3.out.2.2.1.lt
            have q6 := V3.out.2.2.2.1.lt
            have q7 := V3.out.2.2.2.2.1.lt
            have q8 := V3.out.2.2.2.2.2.1.lt
            have q9 := V3.out.2.2.2.2.2.2.1.lt
            have q10 := V3.out.2.2.2.2.2.2.2.1.lt
            have q11 := V3.out.2.2.2.2.2.2.2.2.1.lt
            exact ⟨(below_kept (below_kept (below_kept (below_kept V3.out.1 kf1 (by omega) (fun j hj => by omega)) kf2 (by omega) (fun j hj => by omega)) kf3 (by omega) (fun j hj => by omega)) kf4 (by omega) (fun j hj => by omega)), ((((V3.out.2.1.kept kf1 (by omega)).kept kf2 (by omega)).kept kf3 (by omega)).kept kf4 (by omega)), ((((V3.out.2.2.1.kept kf1 (by omega)).kept kf2 (by omega)).kept kf3 (by omega)).kept kf4 (by omega)), ((((V3.out.2.2.2.1.kept kf1 (by omega)).kept kf2 (by omega)).kept kf3 (by omega)).kept kf4 (by omega)), ((((V3.out.2.2.2.2.1.kept kf1 (by omega)).kept kf2 (by omega)).kept kf3 (by omega)).kept kf4 (by omega)), (((bf1.kept kf2 (by omega)).kept kf3 (by omega)).kept kf4 (by omega)), (bf3.kept kf4 (by omega)), ((bf2.kept kf3 (by omega)).kept kf4 (by omega)), bf4, by omega⟩
          clear bf1 sf1 kf1 bf2 sf2 kf2 bf3 sf3 kf3 bf4 sf4 kf4
          try simp only [Act.put, List.setIfInBounds_toArray, List.set_cons_zero, List.set_cons_succ]
          refine region_invP 16 ((.val (.agg (i64s c).toArray)) :: (.val (.agg (i64s d).toArray)) :: (.any (isNw ((s.2.2.1 + s.2.2.2) % PR)) (isNw_later ((s.2.2.1 + s.2.2.2) % PR))) :: (.val (.agg (i64s c).toArray)) :: (.val (.agg (i64s d).toArray)) :: (.any (isNw ((s.2.2.1 - s.2.2.2) % PR)) (isNw_later ((s.2.2.1 - s.2.2.2) % PR))) :: (.val (.agg (i64s a).toArray)) :: (.val (.agg (i64s b).toArray)) :: (.any (isNw ((s.1 + s.2.1) % PR)) (isNw_later ((s.1 + s.2.1) % PR))) :: (.val (.agg (i64s a).toArray)) :: (.val (.agg (i64s b).toArray)) :: (.any (isNw ((s.1 - s.2.1) % PR)) (isNw_later ((s.1 - s.2.1) % PR))) :: (.blk 140 (i64s (List.replicate 16 0))) :: (.blk 140 (i64s (List.replicate 16 0))) :: (.blk 140 (i64s (List.replicate 16 0))) :: (.blk 140 (i64s (List.replicate 16 0))) :: []) (by kernel_rfl) (by kernel_rfl) (by kernel_rfl) [14, 15, 16, 17] ⟨.inl rfl, .inl rfl, .inl rfl, .inl rfl, .inl rfl, .inl rfl, .inl rfl, .inl rfl, .inl rfl, .inl rfl, .inl rfl, .inl rfl, .inr ⟨140, _, 16, rfl, rfl, zeroNm⟩, .inr ⟨140, _, 16, rfl, rfl, zeroNm⟩, .inr ⟨140, _, 16, rfl, rfl, zeroNm⟩, .inr ⟨140, _, 16, rfl, rfl, zeroNm⟩, trivial⟩ (by kernel_rfl) ?_ ?_
          · refine Steps'.cons ?_ (Steps'.cons ?_ (Steps'.cons ?_ (Steps'.cons ?_ (Steps'.cons ?_ (Steps'.cons ?_ (Steps'.cons ?_ (Steps'.cons ?_ (Steps'.cons ?_ (Steps'.cons ?_ (Steps'.cons ?_ (Steps'.cons ?_ (Steps'.cons ?_ (Steps'.cons ?_ (Steps'.cons ?_ (Steps'.cons ?_ (Steps'.one _ _ _ _ _ _ _))))))))))))))))
            · intro ax wx hb hs hd
              have h8 : ax.tmps.getD 8 undef = (.pointer (some ⟨G8, 0, none⟩)) := hs 8 (by kernel_rfl)
              exact Does.load 140 (.tmp 8) rfl G8 0 h8 (i64s c) _ ((Blk.later V4.out.2.2.2.2.2.1 hb (Blk.lt V4.out.2.2.2.2.2.1)).whole) Try.underlying140 rfl (LN.out _ (HF.out.c).len)
            · intro ax wx hb hs hd
              have h9 : ax.tmps.getD 9 undef = (.pointer (some ⟨G9, 0, none⟩)) := hs 9 (by kernel_rfl)
              exact Does.load 140 (.tmp 9) rfl G9 0 h9 (i64s d) _ ((Blk.later V4.out.2.2.2.2.2.2.1 hb (Blk.lt V4.out.2.2.2.2.2.2.1)).whole) Try.underlying140 rfl (LN.out _ (HF.out.d).len)
            · intro ax wx hb hs hd
              have h51 : ax.tmps.getD 51 undef = (.agg (i64s c).toArray) := hd 0 51 rfl (by kernel_rfl) (by decide)
              have h52 : ax.tmps.getD 52 undef = (.agg (i64s d).toArray) := hd 1 52 rfl (by kernel_rfl) (by decide)
              refine Does.call 124 #[(.agg (i64s c).toArray), (.agg (i64s d).toArray)] (by clear hs hd; go_simp) ?_
              refine (qplusN _ _ _ _ (HF.out.c) (HF.out.d) _).mono ?_
              rintro z w' ⟨r, rfl, fr, l⟩
              exact ⟨_, rfl, ⟨r, rfl, fr⟩, l⟩
            · intro ax wx hb hs hd
              have h8 : ax.tmps.getD 8 undef = (.pointer (some ⟨G8, 0, none⟩)) := hs 8 (by kernel_rfl)
              exact Does.load 140 (.tmp 8) rfl G8 0 h8 (i64s c) _ ((Blk.later V4.out.2.2.2.2.2.1 hb (Blk.lt V4.out.2.2.2.2.2.1)).whole) Try.underlying140 rfl (LN.out _ (HF.out.c).len)
            · intro ax wx hb hs hd
              have h9 : ax.tmps.getD 9 undef = (.pointer (some ⟨G9, 0, none⟩)) := hs 9 (by kernel_rfl)
              exact Does.load 140 (.tmp 9) rfl G9 0 h9 (i64s d) _ ((Blk.later V4.out.2.2.2.2.2.2.1 hb (Blk.lt V4.out.2.2.2.2.2.2.1)).whole) Try.underlying140 rfl (LN.out _ (HF.out.d).len)
            · intro ax wx hb hs hd
              have h54 : ax.tmps.getD 54 undef = (.agg (i64s c).toArray) := hd 3 54 rfl (by kernel_rfl) (by decide)
              have h55 : ax.tmps.getD 55 undef = (.agg (i64s d).toArray) := hd 4 55 rfl (by kernel_rfl) (by decide)
              refine Does.call 125 #[(.agg (i64s c).toArray), (.agg (i64s d).toArray)] (by clear hs hd; go_simp) ?_
              refine (qminusN _ _ _ _ (HF.out.c) (HF.out.d) _).mono ?_
              rintro z w' ⟨r, rfl, fr, l⟩
              exact ⟨_, rfl, ⟨r, rfl, fr⟩, l⟩
            · intro ax wx hb hs hd
              have h10 : ax.tmps.getD 10 undef = (.pointer (some ⟨G10, 0, none⟩)) := hs 10 (by kernel_rfl)
              exact Does.load 140 (.tmp 10) rfl G10 0 h10 (i64s a) _ ((Blk.later V4.out.2.2.2.2.2.2.2.1 hb (Blk.lt V4.out.2.2.2.2.2.2.2.1)).whole) Try.underlying140 rfl (LN.out _ (HF.out.a).len)
            · intro ax wx hb hs hd
              have h11 : ax.tmps.getD 11 undef = (.pointer (some ⟨G11, 0, none⟩)) := hs 11 (by kernel_rfl)
              exact Does.load 140 (.tmp 11) rfl G11 0 h11 (i64s b) _ ((Blk.later V4.out.2.2.2.2.2.2.2.2.1 hb (Blk.lt V4.out.2.2.2.2.2.2.2.2.1)).whole) Try.underlying140 rfl (LN.out _ (HF.out.b).len)
            · intro ax wx hb hs hd
              have h57 : ax.tmps.getD 57 undef = (.agg (i64s a).toArray) := hd 6 57 rfl (by kernel_rfl) (by decide)
              have h58 : ax.tmps.getD 58 undef = (.agg (i64s b).toArray) := hd 7 58 rfl (by kernel_rfl) (by decide)
              refine Does.call 124 #[(.agg (i64s a).toArray), (.agg (i64s b).toArray)] (by clear hs hd; go_simp) ?_
              refine (qplusN _ _ _ _ (HF.out.a) (HF.out.b) _).mono ?_
              rintro z w' ⟨r, rfl, fr, l⟩
              exact ⟨_, rfl, ⟨r, rfl, fr⟩, l⟩
            · intro ax wx hb hs hd
              have h10 : ax.tmps.getD 10 undef = (.pointer (some ⟨G10, 0, none⟩)) := hs 10 (by kernel_rfl)
              exact Does.load 140 (.tmp 10) rfl G10 0 h10 (i64s a) _ ((Blk.later V4.out.2.2.2.2.2.2.2.1 hb (Blk.lt V4.out.2.2.2.2.2.2.2.1)).whole) Try.underlying140 rfl (LN.out _ (HF.out.a).len)
            · intro ax wx hb hs hd
              have h11 : ax.tmps.getD 11 undef = (.pointer (some ⟨G11, 0, none⟩)) := hs 11 (by kernel_rfl)
              exact Does.load 140 (.tmp 11) rfl G11 0 h11 (i64s b) _ ((Blk.later V4.out.2.2.2.2.2.2.2.2.1 hb (Blk.lt V4.out.2.2.2.2.2.2.2.2.1)).whole) Try.underlying140 rfl (LN.out _ (HF.out.b).len)
            · intro ax wx hb hs hd
              have h60 : ax.tmps.getD 60 undef = (.agg (i64s a).toArray) := hd 9 60 rfl (by kernel_rfl) (by decide)
              have h61 : ax.tmps.getD 61 undef = (.agg (i64s b).toArray) := hd 10 61 rfl (by kernel_rfl) (by decide)
              refine Does.call 125 #[(.agg (i64s a).toArray), (.agg (i64s b).toArray)] (by clear hs hd; go_simp) ?_
              refine (qminusN _ _ _ _ (HF.out.a) (HF.out.b) _).mono ?_
              rintro z w' ⟨r, rfl, fr, l⟩
              exact ⟨_, rfl, ⟨r, rfl, fr⟩, l⟩
            · intro ax wx hb hs hd
              exact Does.alloc 140 rfl 16 _ zeroNm hb.size
            · intro ax wx hb hs hd
              exact Does.alloc 140 rfl 16 _ zeroNm hb.size
            · intro ax wx hb hs hd
              exact Does.alloc 140 rfl 16 _ zeroNm hb.size
            · intro ax wx hb hs hd
              exact Does.alloc 140 rfl 16 _ zeroNm hb.size
          · intro wx hb
            refine @EndsP.val _ _ _ _ _ _ _ _ (.agg (i64s c).toArray) rfl ?_
            refine @EndsP.val _ _ _ _ _ _ _ _ (.agg (i64s d).toArray) rfl ?_
            refine @EndsP.any _ _ _ _ _ _ _ _ (isNw ((s.2.2.1 + s.2.2.2) % PR)) (isNw_later ((s.2.2.1 + s.2.2.2) % PR)) rfl ?_
            intro v2 p2
            refine @EndsP.val _ _ _ _ _ _ _ _ (.agg (i64s c).toArray) rfl ?_
            refine @EndsP.val _ _ _ _ _ _ _ _ (.agg (i64s d).toArray) rfl ?_
            refine @EndsP.any _ _ _ _ _ _ _ _ (isNw ((s.2.2.1 - s.2.2.2) % PR)) (isNw_later ((s.2.2.1 - s.2.2.2) % PR)) rfl ?_
            intro v5 p5
            refine @EndsP.val _ _ _ _ _ _ _ _ (.agg (i64s a).toArray) rfl ?_
            refine @EndsP.val _ _ _ _ _ _ _ _ (.agg (i64s b).toArray) rfl ?_
            refine @EndsP.any _ _ _ _ _ _ _ _ (isNw ((s.1 + s.2.1) % PR)) (isNw_later ((s.1 + s.2.1) % PR)) rfl ?_
            intro v8 p8
            refine @EndsP.val _ _ _ _ _ _ _ _ (.agg (i64s a).toArray) rfl ?_
            refine @EndsP.val _ _ _ _ _ _ _ _ (.agg (i64s b).toArray) rfl ?_
            refine @EndsP.any _ _ _ _ _ _ _ _ (isNw ((s.1 - s.2.1) % PR)) (isNw_later ((s.1 - s.2.1) % PR)) rfl ?_
            intro v11 p11
            refine @EndsP.blk _ _ _ _ _ _ _ _ 140 (i64s (List.replicate 16 0)) rfl ?_
            intro g12 hg12 bg12
            refine @EndsP.blk _ _ _ _ _ _ _ _ 140 (i64s (List.replicate 16 0)) rfl ?_
            intro g13 hg13 bg13
            refine @EndsP.blk _ _ _ _ _ _ _ _ 140 (i64s (List.replicate 16 0)) rfl ?_
            intro g14 hg14 bg14
            refine @EndsP.blk _ _ _ _ _ _ _ _ 140 (i64s (List.replicate 16 0)) rfl ?_
            intro g15 hg15 bg15
            intro hD nf hn
            obtain ⟨mf, rfl⟩ : ∃ mf, nf = mf + 4 := ⟨nf - 4, by have h3 : 4 ≤ nf := hn; omega⟩
            obtain ⟨p14, rfl, F_p14⟩ := p2
            obtain ⟨p15, rfl, F_p15⟩ := p5
            obtain ⟨p16, rfl, F_p16⟩ := p8
            obtain ⟨p17, rfl, F_p17⟩ := p11
            have d01 : g12 ≠ g13 := fun e => hD 14 (by simp) 15 (by simp) (by decide) (by subst e; kernel_rfl)
            have d02 : g12 ≠ g14 := fun e => hD 14 (by simp) 16 (by simp) (by decide) (by subst e; kernel_rfl)
            have d03 : g12 ≠ g15 := fun e => hD 14 (by simp) 17 (by simp) (by decide) (by subst e; kernel_rfl)
            have d12 : g13 ≠ g14 := fun e => hD 15 (by simp) 16 (by simp) (by decide) (by subst e; kernel_rfl)
            have d13 : g13 ≠ g15 := fun e => hD 15 (by simp) 17 (by simp) (by decide) (by subst e; kernel_rfl)
            have d23 : g14 ≠ g15 := fun e => hD 16 (by simp) 17 (by simp) (by decide) (by subst e; kernel_rfl)
            have H_p14 : Hid (Nw p14 ((s.2.2.1 + s.2.2.2) % PR)) := F_p14
            clear F_p14
            have H_p15 : Hid (Nw p15 ((s.2.2.1 - s.2.2.2) % PR)) := F_p15
            clear F_p15
            have H_p16 : Hid (Nw p16 ((s.1 + s.2.1) % PR)) := F_p16
            clear F_p16
            have H_p17 : Hid (Nw p17 ((s.1 - s.2.1) % PR)) := F_p17
            clear F_p17
            clear hD hn
            simp only [Act.put, List.setIfInBounds_toArray, List.set_cons_zero, List.set_cons_succ]
            refine wpAny_ready (rs := [16]) (by kernel_rfl) (by simp) (AllReady.cons rfl (fun K hK => ?_) AllReady.nil)
            rw [if_pos (by rfl)]
            refine last_store 140 (.tmp 14) (.tmp 53) rfl rfl g12 rfl 140 _ (i64s p14) rfl bg12 (by rw [i64s_length, (H_p14.out).len]; rfl) (LN.out _ (H_p14.out).len) (i64s_one _) ?_
            intro w0 b0 s0 k0
            refine hK _ _ ?_
            refine wpAny_ready (rs := [17]) (by kernel_rfl) (by simp) (AllReady.cons rfl (fun K hK => ?_) AllReady.nil)
            rw [if_pos (by rfl)]
            refine last_store 140 (.tmp 15) (.tmp 56) rfl rfl g13 rfl 140 _ (i64s p15) rfl (bg13.kept k0 (by omega)) (by rw [i64s_length, (H_p15.out).len]; rfl) (LN.out _ (H_p15.out).len) (i64s_one _) ?_
            intro w1 b1 s1 k1
            refine hK _ _ ?_
            refine wpAny_ready (rs := [18]) (by kernel_rfl) (by simp) (AllReady.cons rfl (fun K hK => ?_) AllReady.nil)
            rw [if_pos (by rfl)]
            refine last_store 140 (.tmp 16) (.tmp 59) rfl rfl g14 rfl 140 _ (i64s p16) rfl ((bg14.kept k0 (by omega)).kept k1 (by omega)) (by rw [i64s_length, (H_p16.out).len]; rfl) (LN.out _ (H_p16.out).len) (i64s_one _) ?_
            intro w2 b2 s2 k2
            refine hK _ _ ?_
            refine wpAny_ready (rs := [19]) (by kernel_rfl) (by simp) (AllReady.cons rfl (fun K hK => ?_) AllReady.nil)
            rw [if_pos (by rfl)]
            refine last_store 140 (.tmp 17) (.tmp 62) rfl rfl g15 rfl 140 _ (i64s p17) rfl (((bg15.kept k0 (by omega)).kept k1 (by omega)).kept k2 (by omega)) (by rw [i64s_length, (H_p17.out).len]; rfl) (LN.out _ (H_p17.out).len) (i64s_one _) ?_
            intro w3 b3 s3 k3
            refine hK _ _ ?_
            refine wpAny_done (by kernel_rfl) (NoPanic.normal ?_) _
            have V5 : Hid (Below w.heap.size w w3 ∧ Blk w3 (w.heap.size + 1 + 1) 140 (i64s (List.replicate 16 0)) ∧ Blk w3 (w.heap.size + 1 + 1 + 1) 140 (i64s (List.replicate 16 0)) ∧ Blk w3 gn 58 (u8s ns) ∧ Blk w3 gx 140 (i64s lu) ∧ Blk w3 G8 140 (i64s c) ∧ Blk w3 G9 140 (i64s d) ∧ Blk w3 G10 140 (i64s a) ∧ Blk w3 G11 140 (i64s b) ∧ Blk w3 g12 140 (i64s p14) ∧ Blk w3 g13 140 (i64s p15) ∧ Blk w3 g14 140 (i64s p16) ∧ Blk w3 g15 140 (i64s p17) ∧ (wr.heap.size ≤ w3.heap.size ∧ wr.heap.size ≤ g12 ∧ wr.heap.size ≤ g13 ∧ wr.heap.size ≤ g14 ∧ wr.heap.size ≤ g15)) := by
              have qb := hb.size
              have qw := V4.out.1.size
              have qa := V4.out.2.2.2.2.2.2.2.2.2
              have qr1 := V4.out.2.1.lt
              have qr2 := V4.out.2.2.1.lt
              have q6 := V4.out.2.2.2.1.lt
              have q7 := V4.out.2.2.2.2.1.lt
              have q8 := V4.out.2.2.2.2.2.1.lt
              have q9 := V4.out.2.2.2.2.2.2.1.lt
              have q10 := V4.out.2.2.2.2.2.2.2.1.lt
              have q11 := V4.out.2.2.2.2.2.2.2.2.1.lt
              exact ⟨below_kept (below_kept (below_kept (below_kept (below_chain V4.out.1 hb (by omega)) k0 (by omega) (fun j hj => by omega)) k1 (by omega) (fun j hj => by omega)) k2 (by omega) (fun j hj => by omega)) k3 (by omega) (fun j hj => by omega), (((((V4.out.2.1.later hb qr1).kept k0 (by omega)).kept k1 (by omega)).kept k2 (by omega)).kept k3 (by omega)), (((((V4.out.2.2.1.later hb qr2).kept k0 (by omega)).kept k1 (by omega)).kept k2 (by omega)).kept k3 (by omega)), (((((V4.out.2.2.2.1.later hb q6).kept k0 (by omega)).kept k1 (by omega)).kept k2 (by omega)).kept k3 (by omega)), (((((V4.out.2.2.2.2.1.later hb q7).kept k0 (by omega)).kept k1 (by omega)).kept k2 (by omega)).kept k3 (by omega)), (((((V4.out.2.2.2.2.2.1.later hb q8).kept k0 (by omega)).kept k1 (by omega)).kept k2 (by omega)).kept k3 (by omega)), (((((V4.out.2.2.2.2.2.2.1.later hb q9).kept k0 (by omega)).kept k1 (by omega)).kept k2 (by omega)).kept k3 (by omega)), (((((V4.out.2.2.2.2.2.2.2.1.later hb q10).kept k0 (by omega)).kept k1 (by omega)).kept k2 (by omega)).kept k3 (by omega)), (((((V4.out.2.2.2.2.2.2.2.2.1.later hb q11).kept k0 (by omega)).kept k1 (by omega)).kept k2 (by omega)).kept k3 (by omega)), (((b0.kept k1 (by omega)).kept k2 (by omega)).kept k3 (by omega)), ((b1.kept k2 (by omega)).kept k3 (by omega)), (b2.kept k3 (by omega)), b3, by omega⟩
            have DS_V5 : Hid (g12 ≠ g13 ∧ g12 ≠ g14 ∧ g12 ≠ g15 ∧ g13 ≠ g14 ∧ g13 ≠ g15 ∧ g14 ≠ g15) := ⟨d01, d02, d03, d12, d13, d23⟩
            obtain ⟨G14, rfl⟩ : ∃ q, q = g12 := ⟨_, rfl⟩
            obtain ⟨G15, rfl⟩ : ∃ q, q = g13 := ⟨_, rfl⟩
            obtain ⟨G16, rfl⟩ : ∃ q, q = g14 := ⟨_, rfl⟩
            obtain ⟨G17, rfl⟩ : ∃ q, q = g15 := ⟨_, rfl⟩
            obtain ⟨yV5, rfl⟩ : ∃ q, q = w3 := ⟨_, rfl⟩
            clear hb hK b0 s0 k0 b1 s1 k1 b2 s2 k2 b3 s3 k3 bg12 hg12 bg13 hg13 bg14 hg14 bg15 hg15 d01 d02 d03 d12 d13 d23
            try simp only [Act.put, List.setIfInBounds_toArray, List.set_cons_zero, List.set_cons_succ]
            go_wp2_with fail
            try simp only [Act.put, List.setIfInBounds_toArray, List.set_cons_zero, List.set_cons_succ]
            refine region_invP 16 ((.val (.agg (i64s p14).toArray)) :: (.val (.agg (i64s p14).toArray)) :: (.any (isNd (((s.2.2.1 + s.2.2.2) % PR) * ((s.2.2.1 + s.2.2.2) % PR) % PR)) (isNd_later (((s.2.2.1 + s.2.2.2) % PR) * ((s.2.2.1 + s.2.2.2) % PR) % PR))) :: (.val (.agg (i64s p15).toArray)) :: (.val (.agg (i64s p15).toArray)) :: (.any (isNd (((s.2.2.1 - s.2.2.2) % PR) * ((s.2.2.1 - s.2.2.2) % PR) % PR)) (isNd_later (((s.2.2.1 - s.2.2.2) % PR) * ((s.2.2.1 - s.2.2.2) % PR) % PR))) :: (.val (.agg (i64s p17).toArray)) :: (.val (.agg (i64s p14).toArray)) :: (.any (isNd (((s.1 - s.2.1) % PR) * ((s.2.2.1 + s.2.2.2) % PR) % PR)) (isNd_later (((s.1 - s.2.1) % PR) * ((s.2.2.1 + s.2.2.2) % PR) % PR))) :: (.val (.agg (i64s p16).toArray)) :: (.val (.agg (i64s p15).toArray)) :: (.any (isNd (((s.1 + s.2.1) % PR) * ((s.2.2.1 - s.2.2.2) % PR) % PR)) (isNd_later (((s.1 + s.2.1) % PR) * ((s.2.2.1 - s.2.2.2) % PR) % PR))) :: (.blk 140 (i64s (List.replicate 16 0))) :: (.blk 140 (i64s (List.replicate 16 0))) :: (.blk 140 (i64s (List.replicate 16 0))) :: (.blk 140 (i64s (List.replicate 16 0))) :: []) (by kernel_rfl) (by kernel_rfl) (by kernel_rfl) [18, 19, 20, 21] ⟨.inl rfl, .inl rfl, .inl rfl, .inl rfl, .inl rfl, .inl rfl, .inl rfl, .inl rfl, .inl rfl, .inl rfl, .inl rfl, .inl rfl, .inr ⟨140, _, 16, rfl, rfl, zeroNm⟩, .inr ⟨140, _, 16, rfl, rfl, zeroNm⟩, .inr ⟨140, _, 16, rfl, rfl, zeroNm⟩, .inr ⟨140, _, 16, rfl, rfl, zeroNm⟩, trivial⟩ (by kernel_rfl) ?_ ?_
            · refine Steps'.cons ?_ (Steps'.cons ?_ (Steps'.cons ?_ (Steps'.cons ?_ (Steps'.cons ?_ (Steps'.cons ?_ (Steps'.cons ?_ (Steps'.cons ?_ (Steps'.cons ?_ (Steps'.cons ?_ (Steps'.cons ?_ (Steps'.cons ?_ (Steps'.cons ?_ (Steps'.cons ?_ (Steps'.cons ?_ (Steps'.cons ?_ (Steps'.one _ _ _ _ _ _ _))))))))))))))))
              · intro ax wx hb hs hd
                have h14 : ax.tmps.getD 14 undef = (.pointer (some ⟨G14, 0, none⟩)) := hs 14 (by kernel_rfl)
                exact Does.load 140 (.tmp 14) rfl G14 0 h14 (i64s p14) _ ((Blk.later V5.out.2.2.2.2.2.2.2.2.2.1 hb (Blk.lt V5.out.2.2.2.2.2.2.2.2.2.1)).whole) Try.underlying140 rfl (LN.out _ (H_p14.out).len)
              · intro ax wx hb hs hd
                have h14 : ax.tmps.getD 14 undef = (.pointer (some ⟨G14, 0, none⟩)) := hs 14 (by kernel_rfl)
                exact Does.load 140 (.tmp 14) rfl G14 0 h14 (i64s p14) _ ((Blk.later V5.out.2.2.2.2.2.2.2.2.2.1 hb (Blk.lt V5.out.2.2.2.2.2.2.2.2.2.1)).whole) Try.underlying140 rfl (LN.out _ (H_p14.out).len)
              · intro ax wx hb hs hd
                have h63 : ax.tmps.getD 63 undef = (.agg (i64s p14).toArray) := hd 0 63 rfl (by kernel_rfl) (by decide)
                have h64 : ax.tmps.getD 64 undef = (.agg (i64s p14).toArray) := hd 1 64 rfl (by kernel_rfl) (by decide)
                refine Does.call 114 #[(.agg (i64s p14).toArray), (.agg (i64s p14).toArray)] (by clear hs hd; go_simp) ?_
                refine (qtimes_any _ _ _ _ (H_p14.out) (H_p14.out) _).mono ?_
                rintro z w' ⟨r, rfl, fr, l⟩
                exact ⟨_, rfl, ⟨r, rfl, fr⟩, l⟩
              · intro ax wx hb hs hd
                have h15 : ax.tmps.getD 15 undef = (.pointer (some ⟨G15, 0, none⟩)) := hs 15 (by kernel_rfl)
                exact Does.load 140 (.tmp 15) rfl G15 0 h15 (i64s p15) _ ((Blk.later V5.out.2.2.2.2.2.2.2.2.2.2.1 hb (Blk.lt V5.out.2.2.2.2.2.2.2.2.2.2.1)).whole) Try.underlying140 rfl (LN.out _ (H_p15.out).len)
              · intro ax wx hb hs hd
                have h15 : ax.tmps.getD 15 undef = (.pointer (some ⟨G15, 0, none⟩)) := hs 15 (by kernel_rfl)
                exact Does.load 140 (.tmp 15) rfl G15 0 h15 (i64s p15) _ ((Blk.later V5.out.2.2.2.2.2.2.2.2.2.2.1 hb (Blk.lt V5.out.2.2.2.2.2.2.2.2.2.2.1)).whole) Try.underlying140 rfl (LN.out _ (H_p15.out).len)
              · intro ax wx hb hs hd
                have h66 : ax.tmps.getD 66 undef = (.agg (i64s p15).toArray) := hd 3 66 rfl (by kernel_rfl) (by decide)
                have h67 : ax.tmps.getD 67 undef = (.agg (i64s p15).toArray) := hd 4 67 rfl (by kernel_rfl) (by decide)
                refine Does.call 114 #[(.agg (i64s p15).toArray), (.agg (i64s p15).toArray)] (by clear hs hd; go_simp) ?_
                refine (qtimes_any _ _ _ _ (H_p15.out) (H_p15.out) _).mono ?_
                rintro z w' ⟨r, rfl, fr, l⟩
                exact ⟨_, rfl, ⟨r, rfl, fr⟩, l⟩
              · intro ax wx hb hs hd
                have h17 : ax.tmps.getD 17 undef = (.pointer (some ⟨G17, 0, none⟩)) := hs 17 (by kernel_rfl)
                exact Does.load 140 (.tmp 17) rfl G17 0 h17 (i64s p17) _ ((Blk.later V5.out.2.2.2.2.2.2.2.2.2.2.2.2.1 hb (Blk.lt V5.out.2.2.2.2.2.2.2.2.2.2.2.2.1)).whole) Try.underlying140 rfl (LN.out _ (H_p17.out).len)
              · intro ax wx hb hs hd
                have h14 : ax.tmps.getD 14 undef = (.pointer (some ⟨G14, 0, none⟩)) := hs 14 (by kernel_rfl)
                exact Does.load 140 (.tmp 14) rfl G14 0 h14 (i64s p14) _ ((Blk.later V5.out.2.2.2.2.2.2.2.2.2.1 hb (Blk.lt V5.out.2.2.2.2.2.2.2.2.2.1)).whole) Try.underlying140 rfl (LN.out _ (H_p14.out).len)
              · intro ax wx hb hs hd
                have h69 : ax.tmps.getD 69 undef = (.agg (i64s p17).toArray) := hd 6 69 rfl (by kernel_rfl) (by decide)
                have h70 : ax.tmps.getD 70 undef = (.agg (i64s p14).toArray) := hd 7 70 rfl (by kernel_rfl) (by decide)
                refine Does.call 114 #[(.agg (i64s p17).toArray), (.agg (i64s p14).toArray)] (by clear hs hd; go_simp) ?_
                refine (qtimes_any _ _ _ _ (H_p17.out) (H_p14.out) _).mono ?_
                rintro z w' ⟨r, rfl, fr, l⟩
                exact ⟨_, rfl, ⟨r, rfl, fr⟩, l⟩
              · intro ax wx hb hs hd
                have h16 : ax.tmps.getD 16 undef = (.pointer (some ⟨G16, 0, none⟩)) := hs 16 (by kernel_rfl)
                exact Does.load 140 (.tmp 16) rfl G16 0 h16 (i64s p16) _ ((Blk.later V5.out.2.2.2.2.2.2.2.2.2.2.2.1 hb (Blk.lt V5.out.2.2.2.2.2.2.2.2.2.2.2.1)).whole) Try.underlying140 rfl (LN.out _ (H_p16.out).len)
              · intro ax wx hb hs hd
                have h15 : ax.tmps.getD 15 undef = (.pointer (some ⟨G15, 0, none⟩)) := hs 15 (by kernel_rfl)
                exact Does.load 140 (.tmp 15) rfl G15 0 h15 (i64s p15) _ ((Blk.later V5.out.2.2.2.2.2.2.2.2.2.2.1 hb (Blk.lt V5.out.2.2.2.2.2.2.2.2.2.2.1)).whole) Try.underlying140 rfl (LN.out _ (H_p15.out).len)
              · intro ax wx hb hs hd
                have h72 : ax.tmps.getD 72 undef = (.agg (i64s p16).toArray) := hd 9 72 rfl (by kernel_rfl) (by decide)
                have h73 : ax.tmps.getD 73 undef = (.agg (i64s p15).toArray) := hd 10 73 rfl (by kernel_rfl) (by decide)
                refine Does.call 114 #[(.agg (i64s p16).toArray), (.agg (i64s p15).toArray)] (by clear hs hd; go_simp) ?_
                refine (qtimes_any _ _ _ _ (H_p16.out) (H_p15.out) _).mono ?_
                rintro z w' ⟨r, rfl, fr, l⟩
                exact ⟨_, rfl, ⟨r, rfl, fr⟩, l⟩
              · intro ax wx hb hs hd
                exact Does.alloc 140 rfl 16 _ zeroNm hb.size
              · intro ax wx hb hs hd
                exact Does.alloc 140 rfl 16 _ zeroNm hb.size
              · intro ax wx hb hs hd
                exact Does.alloc 140 rfl 16 _ zeroNm hb.size
              · intro ax wx hb hs hd
                exact Does.alloc 140 rfl 16 _ zeroNm hb.size
            · intro wx hb
              refine @EndsP.val _ _ _ _ _ _ _ _ (.agg (i64s p14).toArray) rfl ?_
              refine @EndsP.val _ _ _ _ _ _ _ _ (.agg (i64s p14).toArray) rfl ?_
              refine @EndsP.any _ _ _ _ _ _ _ _ (isNd (((s.2.2.1 + s.2.2.2) % PR) * ((s.2.2.1 + s.2.2.2) % PR) % PR)) (isNd_later (((s.2.2.1 + s.2.2.2) % PR) * ((s.2.2.1 + s.2.2.2) % PR) % PR)) rfl ?_
              intro v2 p2
              refine @EndsP.val _ _ _ _ _ _ _ _ (.agg (i64s p15).toArray) rfl ?_
              refine @EndsP.val _ _ _ _ _ _ _ _ (.agg (i64s p15).toArray) rfl ?_
              refine @EndsP.any _ _ _ _ _ _ _ _ (isNd (((s.2.2.1 - s.2.2.2) % PR) * ((s.2.2.1 - s.2.2.2) % PR) % PR)) (isNd_later (((s.2.2.1 - s.2.2.2) % PR) * ((s.2.2.1 - s.2.2.2) % PR) % PR)) rfl ?_
              intro v5 p5
              refine @EndsP.val _ _ _ _ _ _ _ _ (.agg (i64s p17).toArray) rfl ?_
              refine @EndsP.val _ _ _ _ _ _ _ _ (.agg (i64s p14).toArray) rfl ?_
              refine @EndsP.any _ _ _ _ _ _ _ _ (isNd (((s.1 - s.2.1) % PR) * ((s.2.2.1 + s.2.2.2) % PR) % PR)) (isNd_later (((s.1 - s.2.1) % PR) * ((s.2.2.1 + s.2.2.2) % PR) % PR)) rfl ?_
              intro v8 p8
              refine @EndsP.val _ _ _ _ _ _ _ _ (.agg (i64s p16).toArray) rfl ?_
              refine @EndsP.val _ _ _ _ _ _ _ _ (.agg (i64s p15).toArray) rfl ?_
              refine @EndsP.any _ _ _ _ _ _ _ _ (isNd (((s.1 + s.2.1) % PR) * ((s.2.2.1 - s.2.2.2) % PR) % PR)) (isNd_later (((s.1 + s.2.1) % PR) * ((s.2.2.1 - s.2.2.2) % PR) % PR)) rfl ?_
              intro v11 p11
              refine @EndsP.blk _ _ _ _ _ _ _ _ 140 (i64s (List.replicate 16 0)) rfl ?_
              intro g12 hg12 bg12
              refine @EndsP.blk _ _ _ _ _ _ _ _ 140 (i64s (List.replicate 16 0)) rfl ?_
              intro g13 hg13 bg13
              refine @EndsP.blk _ _ _ _ _ _ _ _ 140 (i64s (List.replicate 16 0)) rfl ?_
              intro g14 hg14 bg14
              refine @EndsP.blk _ _ _ _ _ _ _ _ 140 (i64s (List.replicate 16 0)) rfl ?_
              intro g15 hg15 bg15
              intro hD nf hn
              obtain ⟨mf, rfl⟩ : ∃ mf, nf = mf + 4 := ⟨nf - 4, by have h3 : 4 ≤ nf := hn; omega⟩
              obtain ⟨p18, rfl, F_p18⟩ := p2
              obtain ⟨p19, rfl, F_p19⟩ := p5
              obtain ⟨p20, rfl, F_p20⟩ := p8
              obtain ⟨p21, rfl, F_p21⟩ := p11
              have d01 : g12 ≠ g13 := fun e => hD 18 (by simp) 19 (by simp) (by decide) (by subst e; kernel_rfl)
              have d02 : g12 ≠ g14 := fun e => hD 18 (by simp) 20 (by simp) (by decide) (by subst e; kernel_rfl)
              have d03 : g12 ≠ g15 := fun e => hD 18 (by simp) 21 (by simp) (by decide) (by subst e; kernel_rfl)
              have d12 : g13 ≠ g14 := fun e => hD 19 (by simp) 20 (by simp) (by decide) (by subst e; kernel_rfl)
              have d13 : g13 ≠ g15 := fun e => hD 19 (by simp) 21 (by simp) (by decide) (by subst e; kernel_rfl)
              have d23 : g14 ≠ g15 := fun e => hD 20 (by simp) 21 (by simp) (by decide) (by subst e; kernel_rfl)
              have H_p18 : Hid (Nd p18 (((s.2.2.1 + s.2.2.2) % PR) * ((s.2.2.1 + s.2.2.2) % PR) % PR)) := F_p18
              clear F_p18
              have H_p19 : Hid (Nd p19 (((s.2.2.1 - s.2.2.2) % PR) * ((s.2.2.1 - s.2.2.2) % PR) % PR)) := F_p19
              clear F_p19
              have H_p20 : Hid (Nd p20 (((s.1 - s.2.1) % PR) * ((s.2.2.1 + s.2.2.2) % PR) % PR)) := F_p20
              clear F_p20
              have H_p21 : Hid (Nd p21 (((s.1 + s.2.1) % PR) * ((s.2.2.1 - s.2.2.2) % PR) % PR)) := F_p21
              clear F_p21
              clear hD hn
              simp only [Act.put, List.setIfInBounds_toArray, List.set_cons_zero, List.set_cons_succ]
              refine wpAny_ready (rs := [16]) (by kernel_rfl) (by simp) (AllReady.cons rfl (fun K hK => ?_) AllReady.nil)
              rw [if_pos (by rfl)]
              refine last_store 140 (.tmp 18) (.tmp 65) rfl rfl g12 rfl 140 _ (i64s p18) rfl bg12 (by rw [i64s_length, (H_p18.out).len]; rfl) (LN.out _ (H_p18.out).len) (i64s_one _) ?_
              intro w0 b0 s0 k0
              refine hK _ _ ?_
              refine wpAny_ready (rs := [17]) (by kernel_rfl) (by simp) (AllReady.cons rfl (fun K hK => ?_) AllReady.nil)
              rw [if_pos (by rfl)]
              refine last_store 140 (.tmp 19) (.tmp 68) rfl rfl g13 rfl 140 _ (i64s p19) rfl (bg13.kept k0 (by omega)) (by rw [i64s_length, (H_p19.out).len]; rfl) (LN.out _ (H_p19.out).len) (i64s_one _) ?_
              intro w1 b1 s1 k1
              refine hK _ _ ?_
              refine wpAny_ready (rs := [18]) (by kernel_rfl) (by simp) (AllReady.cons rfl (fun K hK => ?_) AllReady.nil)
              rw [if_pos (by rfl)]
              refine last_store 140 (.tmp 20) (.tmp 71) rfl rfl g14 rfl 140 _ (i64s p20) rfl ((bg14.kept k0 (by omega)).kept k1 (by omega)) (by rw [i64s_length, (H_p20.out).len]; rfl) (LN.out _ (H_p20.out).len) (i64s_one _) ?_
              intro w2 b2 s2 k2
              refine hK _ _ ?_
              refine wpAny_ready (rs := [19]) (by kernel_rfl) (by simp) (AllReady.cons rfl (fun K hK => ?_) AllReady.nil)
              rw [if_pos (by rfl)]
              refine last_store 140 (.tmp 21) (.tmp 74) rfl rfl g15 rfl 140 _ (i64s p21) rfl (((bg15.kept k0 (by omega)).kept k1 (by omega)).kept k2 (by omega)) (by rw [i64s_length, (H_p21.out).len]; rfl) (LN.out _ (H_p21.out).len) (i64s_one _) ?_
              intro w3 b3 s3 k3
              refine hK _ _ ?_
              refine wpAny_done (by kernel_rfl) (NoPanic.normal ?_) _
              have V6 : Hid (Below w.heap.size w w3 ∧ Blk w3 (w.heap.size + 1 + 1) 140 (i64s (List.replicate 16 0)) ∧ Blk w3 (w.heap.size + 1 + 1 + 1) 140 (i64s (List.replicate 16 0)) ∧ Blk w3 gn 58 (u8s ns) ∧ Blk w3 gx 140 (i64s lu) ∧ Blk w3 G8 140 (i64s c) ∧ Blk w3 G9 140 (i64s d) ∧ Blk w3 G10 140 (i64s a) ∧ Blk w3 G11 140 (i64s b) ∧ Blk w3 G14 140 (i64s p14) ∧ Blk w3 G15 140 (i64s p15) ∧ Blk w3 G16 140 (i64s p16) ∧ Blk w3 G17 140 (i64s p17) ∧ Blk w3 g12 140 (i64s p18) ∧ Blk w3 g13 140 (i64s p19) ∧ Blk w3 g14 140 (i64s p20) ∧ Blk w3 g15 140 (i64s p21) ∧ (wr.heap.size ≤ w3.heap.size ∧ wr.heap.size ≤ G14 ∧ wr.heap.size ≤ G15 ∧ wr.heap.size ≤ G16 ∧ wr.heap.size ≤ G17 ∧ wr.heap.size ≤ g12 ∧ wr.heap.size ≤ g13 ∧ wr.heap.size ≤ g14 ∧ wr.heap.size ≤ g15)) := by
                have qb := hb.size
                have qw := V5.out.1.size
                have qa := V5.out.2.2.2.2.2.2.2.2.2.2.2.2.2
                have qr1 := V5.out.2.1.lt
                have qr2 := V5.out.2.2.1.lt
                have q6 := V5.out.2.2.2.1.lt
                have q7 := V5.out.2.2.2.2.1.lt
                have q8 := V5.out.2.2.2.2.2.1.lt
                have q9 := V5.out.2.2.2.2.2.2.1.lt
                have q10 := V5.out.2.2.2.2.2.2.2.1.lt
                have q11 := V5.out.2.2.2.2.2.2.2.2.1.lt
                have q14 := V5.out.2.2.2.2.2.2.2.2.2.1.lt
                have q15 := V5.out.2.2.2.2.2.2.2.2.2.2.1.lt
                have q16 := V5.out.2.2.2.2.2.2.2.2.2.2.2.1.lt
                have q17 := V5.out.2.2.2.2.2.2.2.2.2.2.2.2.1.lt
                exact ⟨below_kept (below_kept (below_kept (below_kept (below_chain V5.out.1 hb (by omega)) k0 (by omega) (fun j hj => by omega)) k1 (by omega) (fun j hj => by omega)) k2 (by omega) (fun j hj => by omega)) k3 (by omega) (fun j hj => by omega), (((((V5.out.2.1.later hb qr1).kept k0 (by omega)).kept k1 (by omega)).kept k2 (by omega)).kept k3 (by omega)), (((((V5.out.2.2.1.later hb qr2).kept k0 (by omega)).kept k1 (by omega)).kept k2 (by omega)).kept k3 (by omega)), (((((V5.out.2.2.2.1.later hb q6).kept k0 (by omega)).kept k1 (by omega)).kept k2 (by omega)).kept k3 (by omega)), (((((V5.out.2.2.2.2.1.later hb q7).kept k0 (by omega)).kept k1 (by omega)).kept k2 (by omega)).kept k3 (by omega)), (((((V5.out.2.2.2.2.2.1.later hb q8).kept k0 (by omega)).kept k1 (by omega)).kept k2 (by omega)).kept k3 (by omega)), (((((V5.out.2.2.2.2.2.2.1.later hb q9).kept k0 (by omega)).kept k1 (by omega)).kept k2 (by omega)).kept k3 (by omega)), (((((V5.out.2.2.2.2.2.2.2.1.later hb q10).kept k0 (by omega)).kept k1 (by omega)).kept k2 (by omega)).kept k3 (by omega)), (((((V5.out.2.2.2.2.2.2.2.2.1.later hb q11).kept k0 (by omega)).kept k1 (by omega)).kept k2 (by omega)).kept k3 (by omega)), (((((V5.out.2.2.2.2.2.2.2.2.2.1.later hb q14).kept k0 (by omega)).kept k1 (by omega)).kept k2 (by omega)).kept k3 (by omega)), (((((V5.out.2.2.2.2.2.2.2.2.2.2.1.later hb q15).kept k0 (by omega)).kept k1 (by omega)).kept k2 (by omega)).kept k3 (by omega)), (((((V5.out.2.2.2.2.2.2.2.2.2.2.2.1.later hb q16).kept k0 (by omega)).kept k1 (by omega)).kept k2 (by omega)).kept k3 (by omega)), (((((V5.out.2.2.2.2.2.2.2.2.2.2.2.2.1.later hb q17).kept k0 (by omega)).kept k1 (by omega)).kept k2 (by omega)).kept k3 (by omega)), (((b0.kept k1 (by omega)).kept k2 (by omega)).kept k3 (by omega)), ((b1.kept k2 (by omega)).kept k3 (by omega)), (b2.kept k3 (by omega)), b3, by omega⟩
              have DS_V6 : Hid (g12 ≠ g13 ∧ g12 ≠ g14 ∧ g12 ≠ g15 ∧ g13 ≠ g14 ∧ g13 ≠ g15 ∧ g14 ≠ g15) := ⟨d01, d02, d03, d12, d13, d23⟩
              obtain ⟨G18, rfl⟩ : ∃ q, q = g12 := ⟨_, rfl⟩
              obtain ⟨G19, rfl⟩ : ∃ q, q = g13 := ⟨_, rfl⟩
              obtain ⟨G20, rfl⟩ : ∃ q, q = g14 := ⟨_, rfl⟩
              obtain ⟨G21, rfl⟩ : ∃ q, q = g15 := ⟨_, rfl⟩
              obtain ⟨yV6, rfl⟩ : ∃ q, q = w3 := ⟨_, rfl⟩
              clear hb hK b0 s0 k0 b1 s1 k1 b2 s2 k2 b3 s3 k3 bg12 hg12 bg13 hg13 bg14 hg14 bg15 hg15 d01 d02 d03 d12 d13 d23
              try simp only [Act.put, List.setIfInBounds_toArray, List.set_cons_zero, List.set_cons_succ]
              go_wp2_with (first | ((with_reducible show wpList _ _ _ (({ dst := some 75, op := _, type := _, pos := _, after := _, guard := _ } : Oper) :: _) _ _); refine wpList_load_blk rfl 140 _ rfl G18 rfl (i64s p18) _ V6.out.2.2.2.2.2.2.2.2.2.2.2.2.2.1 Try.underlying140 rfl (LN.out _ (H_p18.out).len) ?_) | ((with_reducible show wpList _ _ _ (({ dst := some 76, op := _, type := _, pos := _, after := _, guard := _ } : Oper) :: _) _ _); refine wpList_load_blk rfl 140 _ rfl G19 rfl (i64s p19) _ V6.out.2.2.2.2.2.2.2.2.2.2.2.2.2.2.1 Try.underlying140 rfl (LN.out _ (H_p19.out).len) ?_) | ((with_reducible show Calls _ _ #[.agg (i64s p18).toArray, .agg (i64s p19).toArray] _ _); refine (qminusN _ _ _ _ H_p18.out H_p19.out _).mono ?_; rintro e cV7 ⟨p22, rfl, F_p22, uV7⟩) | ((with_reducible show wpList _ _ _ (({ dst := some 22, op := _, type := _, pos := _, after := _, guard := _ } : Oper) :: _) _ _); refine wpList_alloc_new rfl 140 rfl 16 _ zeroNm ?_; intro nV7 zV7 tV7 mV7) | ((with_reducible show wpList _ _ _ (({ dst := none, op := .store _ (.tmp 22) (.tmp 77), type := _, pos := _, after := _, guard := _ } : Oper) :: _) _ _); refine wpList_store_blk rfl 140 140 _ _ rfl _ rfl _ (i64s p22) rfl zV7 (by rw [i64s_length, F_p22.len]; rfl) (LN.out _ F_p22.len) (i64s_one _) ?_; intro yV7 bV7 sV7 kV7))
              have H_p22 : Hid (Nw p22 (((((s.2.2.1 + s.2.2.2) % PR) * ((s.2.2.1 + s.2.2.2) % PR) % PR) - (((s.2.2.1 - s.2.2.2) % PR) * ((s.2.2.1 - s.2.2.2) % PR) % PR)) % PR)) := F_p22
              obtain ⟨G22, h22⟩ : ∃ q, cV7.heap.size = q := ⟨_, rfl⟩
              rw [h22] at bV7 kV7 tV7 zV7 ⊢
              have V7 : Hid (Below w.heap.size w yV7 ∧ Blk yV7 (w.heap.size + 1 + 1) 140 (i64s (List.replicate 16 0)) ∧ Blk yV7 (w.heap.size + 1 + 1 + 1) 140 (i64s (List.replicate 16 0)) ∧ Blk yV7 gn 58 (u8s ns) ∧ Blk yV7 gx 140 (i64s lu) ∧ Blk yV7 G8 140 (i64s c) ∧ Blk yV7 G9 140 (i64s d) ∧ Blk yV7 G10 140 (i64s a) ∧ Blk yV7 G11 140 (i64s b) ∧ Blk yV7 G14 140 (i64s p14) ∧ Blk yV7 G15 140 (i64s p15) ∧ Blk yV7 G16 140 (i64s p16) ∧ Blk yV7 G17 140 (i64s p17) ∧ Blk yV7 G18 140 (i64s p18) ∧ Blk yV7 G19 140 (i64s p19) ∧ Blk yV7 G20 140 (i64s p20) ∧ Blk yV7 G21 140 (i64s p21) ∧ Blk yV7 G22 140 (i64s p22) ∧ (wr.heap.size ≤ yV7.heap.size ∧ wr.heap.size ≤ G14 ∧ wr.heap.size ≤ G15 ∧ wr.heap.size ≤ G16 ∧ wr.heap.size ≤ G17 ∧ wr.heap.size ≤ G18 ∧ wr.heap.size ≤ G19 ∧ wr.heap.size ≤ G20 ∧ wr.heap.size ≤ G21 ∧ wr.heap.size ≤ G22)) := by
                have qb := uV7.size
                have qw := V6.out.1.size
                have qa := V6.out.2.2.2.2.2.2.2.2.2.2.2.2.2.2.2.2.2
                have ol := OL.out
                have qr1 := V6.out.2.1.lt
                have qr2 := V6.out.2.2.1.lt
                have q6 := V6.out.2.2.2.1.lt
                have q7 := V6.out.2.2.2.2.1.lt
                have q8 := V6.out.2.2.2.2.2.1.lt
                have q9 := V6.out.2.2.2.2.2.2.1.lt
                have q10 := V6.out.2.2.2.2.2.2.2.1.lt
                have q11 := V6.out.2.2.2.2.2.2.2.2.1.lt
                have q14 := V6.out.2.2.2.2.2.2.2.2.2.1.lt
                have q15 := V6.out.2.2.2.2.2.2.2.2.2.2.1.lt
                have q16 := V6.out.2.2.2.2.2.2.2.2.2.2.2.1.lt
                have q17 := V6.out.2.2.2.2.2.2.2.2.2.2.2.2.1.lt
                have q18 := V6.out.2.2.2.2.2.2.2.2.2.2.2.2.2.1.lt
                have q19 := V6.out.2.2.2.2.2.2.2.2.2.2.2.2.2.2.1.lt
                have q20 := V6.out.2.2.2.2.2.2.2.2.2.2.2.2.2.2.2.1.lt
                have q21 := V6.out.2.2.2.2.2.2.2.2.2.2.2.2.2.2.2.2.1.lt
                exact ⟨below_kept (below_chain (below_chain V6.out.1 uV7 (by omega)) mV7 (by omega)) kV7 (by omega) (fun j hj => by omega), ((V6.out.2.1.later uV7 qr1).later mV7 (by omega)).kept kV7 (by omega), ((V6.out.2.2.1.later uV7 qr2).later mV7 (by omega)).kept kV7 (by omega), ((V6.out.2.2.2.1.later uV7 q6).later mV7 (by omega)).kept kV7 (by omega), ((V6.out.2.2.2.2.1.later uV7 q7).later mV7 (by omega)).kept kV7 (by omega), ((V6.out.2.2.2.2.2.1.later uV7 q8).later mV7 (by omega)).kept kV7 (by omega), ((V6.out.2.2.2.2.2.2.1.later uV7 q9).later mV7 (by omega)).kept kV7 (by omega), ((V6.out.2.2.2.2.2.2.2.1.later uV7 q10).later mV7 (by omega)).kept kV7 (by omega), ((V6.out.2.2.2.2.2.2.2.2.1.later uV7 q11).later mV7 (by omega)).kept kV7 (by omega), ((V6.out.2.2.2.2.2.2.2.2.2.1.later uV7 q14).later mV7 (by omega)).kept kV7 (by omega), ((V6.out.2.2.2.2.2.2.2.2.2.2.1.later uV7 q15).later mV7 (by omega)).kept kV7 (by omega), ((V6.out.2.2.2.2.2.2.2.2.2.2.2.1.later uV7 q16).later mV7 (by omega)).kept kV7 (by omega), ((V6.out.2.2.2.2.2.2.2.2.2.2.2.2.1.later uV7 q17).later mV7 (by omega)).kept kV7 (by omega), ((V6.out.2.2.2.2.2.2.2.2.2.2.2.2.2.1.later uV7 q18).later mV7 (by omega)).kept kV7 (by omega), ((V6.out.2.2.2.2.2.2.2.2.2.2.2.2.2.2.1.later uV7 q19).later mV7 (by omega)).kept kV7 (by omega), ((V6.out.2.2.2.2.2.2.2.2.2.2.2.2.2.2.2.1.later uV7 q20).later mV7 (by omega)).kept kV7 (by omega), ((V6.out.2.2.2.2.2.2.2.2.2.2.2.2.2.2.2.2.1.later uV7 q21).later mV7 (by omega)).kept kV7 (by omega), bV7, by omega⟩
              clear uV7 zV7 tV7 mV7 bV7 sV7 kV7 h22 F_p22
              try simp only [Act.put, List.setIfInBounds_toArray, List.set_cons_zero, List.set_cons_succ]
              refine region_invP 8 ((.val (.agg (i64s p20).toArray)) :: (.val (.agg (i64s p21).toArray)) :: (.any (isNw (((((s.1 - s.2.1) % PR) * ((s.2.2.1 + s.2.2.2) % PR) % PR) + (((s.1 + s.2.1) % PR) * ((s.2.2.1 - s.2.2.2) % PR) % PR)) % PR)) (isNw_later (((((s.1 - s.2.1) % PR) * ((s.2.2.1 + s.2.2.2) % PR) % PR) + (((s.1 + s.2.1) % PR) * ((s.2.2.1 - s.2.2.2) % PR) % PR)) % PR))) :: (.val (.agg (i64s p20).toArray)) :: (.val (.agg (i64s p21).toArray)) :: (.any (isNw (((((s.1 - s.2.1) % PR) * ((s.2.2.1 + s.2.2.2) % PR) % PR) - (((s.1 + s.2.1) % PR) * ((s.2.2.1 - s.2.2.2) % PR) % PR)) % PR)) (isNw_later (((((s.1 - s.2.1) % PR) * ((s.2.2.1 + s.2.2.2) % PR) % PR) - (((s.1 + s.2.1) % PR) * ((s.2.2.1 - s.2.2.2) % PR) % PR)) % PR))) :: (.blk 140 (i64s (List.replicate 16 0))) :: (.blk 140 (i64s (List.replicate 16 0))) :: []) (by kernel_rfl) (by kernel_rfl) (by kernel_rfl) [23, 24] ⟨.inl rfl, .inl rfl, .inl rfl, .inl rfl, .inl rfl, .inl rfl, .inr ⟨140, _, 16, rfl, rfl, zeroNm⟩, .inr ⟨140, _, 16, rfl, rfl, zeroNm⟩, trivial⟩ (by kernel_rfl) ?_ ?_
              · refine Steps'.cons ?_ (Steps'.cons ?_ (Steps'.cons ?_ (Steps'.cons ?_ (Steps'.cons ?_ (Steps'.cons ?_ (Steps'.cons ?_ (Steps'.cons ?_ (Steps'.one _ _ _ _ _ _ _))))))))
                · intro ax wx hb hs hd
                  have h20 : ax.tmps.getD 20 undef = (.pointer (some ⟨G20, 0, none⟩)) := hs 20 (by kernel_rfl)
                  exact Does.load 140 (.tmp 20) rfl G20 0 h20 (i64s p20) _ ((Blk.later V7.out.2.2.2.2.2.2.2.2.2.2.2.2.2.2.2.1 hb (Blk.lt V7.out.2.2.2.2.2.2.2.2.2.2.2.2.2.2.2.1)).whole) Try.underlying140 rfl (LN.out _ (H_p20.out).len)
                · intro ax wx hb hs hd
                  have h21 : ax.tmps.getD 21 undef = (.pointer (some ⟨G21, 0, none⟩)) := hs 21 (by kernel_rfl)
                  exact Does.load 140 (.tmp 21) rfl G21 0 h21 (i64s p21) _ ((Blk.later V7.out.2.2.2.2.2.2.2.2.2.2.2.2.2.2.2.2.1 hb (Blk.lt V7.out.2.2.2.2.2.2.2.2.2.2.2.2.2.2.2.2.1)).whole) Try.underlying140 rfl (LN.out _ (H_p21.out).len)
                · intro ax wx hb hs hd
                  have h78 : ax.tmps.getD 78 undef = (.agg (i64s p20).toArray) := hd 0 78 rfl (by kernel_rfl) (by decide)
                  have h79 : ax.tmps.getD 79 undef = (.agg (i64s p21).toArray) := hd 1 79 rfl (by kernel_rfl) (by decide)
                  refine Does.call 124 #[(.agg (i64s p20).toArray), (.agg (i64s p21).toArray)] (by clear hs hd; go_simp) ?_
                  refine (qplusN _ _ _ _ (H_p20.out) (H_p21.out) _).mono ?_
                  rintro z w' ⟨r, rfl, fr, l⟩
                  exact ⟨_, rfl, ⟨r, rfl, fr⟩, l⟩
                · intro ax wx hb hs hd
                  have h20 : ax.tmps.getD 20 undef = (.pointer (some ⟨G20, 0, none⟩)) := hs 20 (by kernel_rfl)
                  exact Does.load 140 (.tmp 20) rfl G20 0 h20 (i64s p20) _ ((Blk.later V7.out.2.2.2.2.2.2.2.2.2.2.2.2.2.2.2.1 hb (Blk.lt V7.out.2.2.2.2.2.2.2.2.2.2.2.2.2.2.2.1)).whole) Try.underlying140 rfl (LN.out _ (H_p20.out).len)
                · intro ax wx hb hs hd
                  have h21 : ax.tmps.getD 21 undef = (.pointer (some ⟨G21, 0, none⟩)) := hs 21 (by kernel_rfl)
                  exact Does.load 140 (.tmp 21) rfl G21 0 h21 (i64s p21) _ ((Blk.later V7.out.2.2.2.2.2.2.2.2.2.2.2.2.2.2.2.2.1 hb (Blk.lt V7.out.2.2.2.2.2.2.2.2.2.2.2.2.2.2.2.2.1)).whole) Try.underlying140 rfl (LN.out _ (H_p21.out).len)
                · intro ax wx hb hs hd
                  have h81 : ax.tmps.getD 81 undef = (.agg (i64s p20).toArray) := hd 3 81 rfl (by kernel_rfl) (by decide)
                  have h82 : ax.tmps.getD 82 undef = (.agg (i64s p21).toArray) := hd 4 82 rfl (by kernel_rfl) (by decide)
                  refine Does.call 125 #[(.agg (i64s p20).toArray), (.agg (i64s p21).toArray)] (by clear hs hd; go_simp) ?_
                  refine (qminusN _ _ _ _ (H_p20.out) (H_p21.out) _).mono ?_
                  rintro z w' ⟨r, rfl, fr, l⟩
                  exact ⟨_, rfl, ⟨r, rfl, fr⟩, l⟩
                · intro ax wx hb hs hd
                  exact Does.alloc 140 rfl 16 _ zeroNm hb.size
                · intro ax wx hb hs hd
                  exact Does.alloc 140 rfl 16 _ zeroNm hb.size
              · intro wx hb
                refine @EndsP.val _ _ _ _ _ _ _ _ (.agg (i64s p20).toArray) rfl ?_
                refine @EndsP.val _ _ _ _ _ _ _ _ (.agg (i64s p21).toArray) rfl ?_
                refine @EndsP.any _ _ _ _ _ _ _ _ (isNw (((((s.1 - s.2.1) % PR) * ((s.2.2.1 + s.2.2.2) % PR) % PR) + (((s.1 + s.2.1) % PR) * ((s.2.2.1 - s.2.2.2) % PR) % PR)) % PR)) (isNw_later (((((s.1 - s.2.1) % PR) * ((s.2.2.1 + s.2.2.2) % PR) % PR) + (((s.1 + s.2.1) % PR) * ((s.2.2.1 - s.2.2.2) % PR) % PR)) % PR)) rfl ?_
                intro v2 p2
                refine @EndsP.val _ _ _ _ _ _ _ _ (.agg (i64s p20).toArray) rfl ?_
                refine @EndsP.val _ _ _ _ _ _ _ _ (.agg (i64s p21).toArray) rfl ?_
                refine @EndsP.any _ _ _ _ _ _ _ _ (isNw (((((s.1 - s.2.1) % PR) * ((s.2.2.1 + s.2.2.2) % PR) % PR) - (((s.1 + s.2.1) % PR) * ((s.2.2.1 - s.2.2.2) % PR) % PR)) % PR)) (isNw_later (((((s.1 - s.2.1) % PR) * ((s.2.2.1 + s.2.2.2) % PR) % PR) - (((s.1 + s.2.1) % PR) * ((s.2.2.1 - s.2.2.2) % PR) % PR)) % PR)) rfl ?_
                intro v5 p5
                refine @EndsP.blk _ _ _ _ _ _ _ _ 140 (i64s (List.replicate 16 0)) rfl ?_
                intro g6 hg6 bg6
                refine @EndsP.blk _ _ _ _ _ _ _ _ 140 (i64s (List.replicate 16 0)) rfl ?_
                intro g7 hg7 bg7
                intro hD nf hn
                obtain ⟨mf, rfl⟩ : ∃ mf, nf = mf + 2 := ⟨nf - 2, by have h3 : 2 ≤ nf := hn; omega⟩
                obtain ⟨p23, rfl, F_p23⟩ := p2
                obtain ⟨p24, rfl, F_p24⟩ := p5
                have d01 : g6 ≠ g7 := fun e => hD 23 (by simp) 24 (by simp) (by decide) (by subst e; kernel_rfl)
                have H_p23 : Hid (Nw p23 (((((s.1 - s.2.1) % PR) * ((s.2.2.1 + s.2.2.2) % PR) % PR) + (((s.1 + s.2.1) % PR) * ((s.2.2.1 - s.2.2.2) % PR) % PR)) % PR)) := F_p23
                clear F_p23
                have H_p24 : Hid (Nw p24 (((((s.1 - s.2.1) % PR) * ((s.2.2.1 + s.2.2.2) % PR) % PR) - (((s.1 + s.2.1) % PR) * ((s.2.2.1 - s.2.2.2) % PR) % PR)) % PR)) := F_p24
                clear F_p24
                clear hD hn
                simp only [Act.put, List.setIfInBounds_toArray, List.set_cons_zero, List.set_cons_succ]
                refine wpAny_ready (rs := [8]) (by kernel_rfl) (by simp) (AllReady.cons rfl (fun K hK => ?_) AllReady.nil)
                rw [if_pos (by rfl)]
                refine last_store 140 (.tmp 23) (.tmp 80) rfl rfl g6 rfl 140 _ (i64s p23) rfl bg6 (by rw [i64s_length, (H_p23.out).len]; rfl) (LN.out _ (H_p23.out).len) (i64s_one _) ?_
                intro w0 b0 s0 k0
                refine hK _ _ ?_
                refine wpAny_ready (rs := [9]) (by kernel_rfl) (by simp) (AllReady.cons rfl (fun K hK => ?_) AllReady.nil)
                rw [if_pos (by rfl)]
                refine last_store 140 (.tmp 24) (.tmp 83) rfl rfl g7 rfl 140 _ (i64s p24) rfl (bg7.kept k0 (by omega)) (by rw [i64s_length, (H_p24.out).len]; rfl) (LN.out _ (H_p24.out).len) (i64s_one _) ?_
                intro w1 b1 s1 k1
                refine hK _ _ ?_
                refine wpAny_done (by kernel_rfl) (NoPanic.normal ?_) _
                have V8 : Hid (Below w.heap.size w w1 ∧ Blk w1 (w.heap.size + 1 + 1) 140 (i64s (List.replicate 16 0)) ∧ Blk w1 (w.heap.size + 1 + 1 + 1) 140 (i64s (List.replicate 16 0)) ∧ Blk w1 gn 58 (u8s ns) ∧ Blk w1 gx 140 (i64s lu) ∧ Blk w1 G8 140 (i64s c) ∧ Blk w1 G9 140 (i64s d) ∧ Blk w1 G10 140 (i64s a) ∧ Blk w1 G11 140 (i64s b) ∧ Blk w1 G14 140 (i64s p14) ∧ Blk w1 G15 140 (i64s p15) ∧ Blk w1 G16 140 (i64s p16) ∧ Blk w1 G17 140 (i64s p17) ∧ Blk w1 G18 140 (i64s p18) ∧ Blk w1 G19 140 (i64s p19) ∧ Blk w1 G20 140 (i64s p20) ∧ Blk w1 G21 140 (i64s p21) ∧ Blk w1 G22 140 (i64s p22) ∧ Blk w1 g6 140 (i64s p23) ∧ Blk w1 g7 140 (i64s p24) ∧ (wr.heap.size ≤ w1.heap.size ∧ wr.heap.size ≤ G14 ∧ wr.heap.size ≤ G15 ∧ wr.heap.size ≤ G16 ∧ wr.heap.size ≤ G17 ∧ wr.heap.size ≤ G18 ∧ wr.heap.size ≤ G19 ∧ wr.heap.size ≤ G20 ∧ wr.heap.size ≤ G21 ∧ wr.heap.size ≤ G22 ∧ wr.heap.size ≤ g6 ∧ wr.heap.size ≤ g7)) := by
                  have qb := hb.size
                  have qw := V7.out.1.size
                  have qa := V7.out.2.2.2.2.2.2.2.2.2.2.2.2.2.2.2.2.2.2
                  have qr1 := V7.out.2.1.lt
                  have qr2 := V7.out.2.2.1.lt
                  have q6 := V7.out.2.2.2.1.lt
                  have q7 := V7.out.2.2.2.2.1.lt
                  have q8 := V7.out.2.2.2.2.2.1.lt
                  have q9 := V7.out.2.2.2.2.2.2.1.lt
                  have q10 := V7.out.2.2.2.2.2.2.2.1.lt
                  have q11 := V7.out.2.2.2.2.2.2.2.2.1.lt
                  have q14 := V7.out.2.2.2.2.2.2.2.2.2.1.lt
                  have q15 := V7.out.2.2.2.2.2.2.2.2.2.2.1.lt
                  have q16 := V7.out.2.2.2.2.2.2.2.2.2.2.2.1.lt
                  have q17 := V7.out.2.2.2.2.2.2.2.2.2.2.2.2.1.lt
                  have q18 := V7.out.2.2.2.2.2.2.2.2.2.2.2.2.2.1.lt
                  have q19 := V7.out.2.2.2.2.2.2.2.2.2.2.2.2.2.2.1.lt
                  have q20 := V7.out.2.2.2.2.2.2.2.2.2.2.2.2.2.2.2.1.lt
                  have q21 := V7.out.2.2.2.2.2.2.2.2.2.2.2.2.2.2.2.2.1.lt
                  have q22 := V7.out.2.2.2.2.2.2.2.2.2.2.2.2.2.2.2.2.2.1.lt
                  exact ⟨below_kept (below_kept (below_chain V7.out.1 hb (by omega)) k0 (by omega) (fun j hj => by omega)) k1 (by omega) (fun j hj => by omega), (((V7.out.2.1.later hb qr1).kept k0 (by omega)).kept k1 (by omega)), (((V7.out.2.2.1.later hb qr2).kept k0 (by omega)).kept k1 (by omega)), (((V7.out.2.2.2.1.later hb q6).kept k0 (by omega)).kept k1 (by omega)), (((V7.out.2.2.2.2.1.later hb q7).kept k0 (by omega)).kept k1 (by omega)), (((V7.out.2.2.2.2.2.1.later hb q8).kept k0 (by omega)).kept k1 (by omega)), (((V7.out.2.2.2.2.2.2.1.later hb q9).kept k0 (by omega)).kept k1 (by omega)), (((V7.out.2.2.2.2.2.2.2.1.later hb q10).kept k0 (by omega)).kept k1 (by omega)), (((V7.out.2.2.2.2.2.2.2.2.1.later hb q11).kept k0 (by omega)).kept k1 (by omega)), (((V7.out.2.2.2.2.2.2.2.2.2.1.later hb q14).kept k0 (by omega)).kept k1 (by omega)), (((V7.out.2.2.2.2.2.2.2.2.2.2.1.later hb q15).kept k0 (by omega)).kept k1 (by omega)), (((V7.out.2.2.2.2.2.2.2.2.2.2.2.1.later hb q16).kept k0 (by omega)).kept k1 (by omega)), (((V7.out.2.2.2.2.2.2.2.2.2.2.2.2.1.later hb q17).kept k0 (by omega)).kept k1 (by omega)), (((V7.out.2.2.2.2.2.2.2.2.2.2.2.2.2.1.later hb q18).kept k0 (by omega)).kept k1 (by omega)), (((V7.out.2.2.2.2.2.2.2.2.2.2.2.2.2.2.1.later hb q19).kept k0 (by omega)).kept k1 (by omega)), (((V7.out.2.2.2.2.2.2.2.2.2.2.2.2.2.2.2.1.later hb q20).kept k0 (by omega)).kept k1 (by omega)), (((V7.out.2.2.2.2.2.2.2.2.2.2.2.2.2.2.2.2.1.later hb q21).kept k0 (by omega)).kept k1 (by omega)), (((V7.out.2.2.2.2.2.2.2.2.2.2.2.2.2.2.2.2.2.1.later hb q22).kept k0 (by omega)).kept k1 (by omega)), (b0.kept k1 (by omega)), b1, by omega⟩
                have DS_V8 : Hid (g6 ≠ g7) := d01
                obtain ⟨G23, rfl⟩ : ∃ q, q = g6 := ⟨_, rfl⟩
                obtain ⟨G24, rfl⟩ : ∃ q, q = g7 := ⟨_, rfl⟩
                obtain ⟨yV8, rfl⟩ : ∃ q, q = w1 := ⟨_, rfl⟩
                clear hb hK b0 s0 k0 b1 s1 k1 bg6 hg6 bg7 hg7 d01
                try simp only [Act.put, List.setIfInBounds_toArray, List.set_cons_zero, List.set_cons_succ]
                go_wp2_with (first | ((with_reducible show wpList _ _ _ (({ dst := some 84, op := _, type := _, pos := _, after := _, guard := _ } : Oper) :: _) _ _); refine wpList_load_blk rfl 140 _ rfl G23 rfl (i64s p23) _ V8.out.2.2.2.2.2.2.2.2.2.2.2.2.2.2.2.2.2.2.1 Try.underlying140 rfl (LN.out _ (H_p23.out).len) ?_) | ((with_reducible show wpList _ _ _ (({ dst := some 85, op := _, type := _, pos := _, after := _, guard := _ } : Oper) :: _) _ _); refine wpList_load_blk rfl 140 _ rfl G23 rfl (i64s p23) _ V8.out.2.2.2.2.2.2.2.2.2.2.2.2.2.2.2.2.2.2.1 Try.underlying140 rfl (LN.out _ (H_p23.out).len) ?_) | ((with_reducible show Calls _ _ #[.agg (i64s p23).toArray, .agg (i64s p23).toArray] _ _); refine (qtimes_any _ _ _ _ H_p23.out H_p23.out _).mono ?_; rintro e cV9 ⟨q10, rfl, F_q10, uV9⟩) | ((with_reducible show wpList _ _ _ (({ dst := none, op := .store _ (.tmp 10) (.tmp 86), type := _, pos := _, after := _, guard := _ } : Oper) :: _) _ _); refine wpList_store_blk rfl 140 140 _ _ rfl G10 rfl _ (i64s q10) rfl (V8.out.2.2.2.2.2.2.2.1.later uV9 V8.out.2.2.2.2.2.2.2.1.lt) (by rw [i64s_length, i64s_length, F_q10.len, (HF.out.a).len]) (LN.out _ F_q10.len) (i64s_one _) ?_; intro yV9 bV9 sV9 kV9))
                have H_q10 : Hid (Nd q10 ((((((s.1 - s.2.1) % PR) * ((s.2.2.1 + s.2.2.2) % PR) % PR) + (((s.1 + s.2.1) % PR) * ((s.2.2.1 - s.2.2.2) % PR) % PR)) % PR) * (((((s.1 - s.2.1) % PR) * ((s.2.2.1 + s.2.2.2) % PR) % PR) + (((s.1 + s.2.1) % PR) * ((s.2.2.1 - s.2.2.2) % PR) % PR)) % PR) % PR)) := F_q10
                have V9 : Hid (Below w.heap.size w yV9 ∧ Blk yV9 (w.heap.size + 1 + 1) 140 (i64s (List.replicate 16 0)) ∧ Blk yV9 (w.heap.size + 1 + 1 + 1) 140 (i64s (List.replicate 16 0)) ∧ Blk yV9 gn 58 (u8s ns) ∧ Blk yV9 gx 140 (i64s lu) ∧ Blk yV9 G8 140 (i64s c) ∧ Blk yV9 G9 140 (i64s d) ∧ Blk yV9 G10 140 (i64s q10) ∧ Blk yV9 G11 140 (i64s b) ∧ Blk yV9 G14 140 (i64s p14) ∧ Blk yV9 G15 140 (i64s p15) ∧ Blk yV9 G16 140 (i64s p16) ∧ Blk yV9 G17 140 (i64s p17) ∧ Blk yV9 G18 140 (i64s p18) ∧ Blk yV9 G19 140 (i64s p19) ∧ Blk yV9 G20 140 (i64s p20) ∧ Blk yV9 G21 140 (i64s p21) ∧ Blk yV9 G22 140 (i64s p22) ∧ Blk yV9 G23 140 (i64s p23) ∧ Blk yV9 G24 140 (i64s p24) ∧ (wr.heap.size ≤ yV9.heap.size ∧ wr.heap.size ≤ G14 ∧ wr.heap.size ≤ G15 ∧ wr.heap.size ≤ G16 ∧ wr.heap.size ≤ G17 ∧ wr.heap.size ≤ G18 ∧ wr.heap.size ≤ G19 ∧ wr.heap.size ≤ G20 ∧ wr.heap.size ≤ G21 ∧ wr.heap.size ≤ G22 ∧ wr.heap.size ≤ G23 ∧ wr.heap.size ≤ G24)) := by
                  have qb := uV9.size
                  have qw := V8.out.1.size
                  have qa := V8.out.2.2.2.2.2.2.2.2.2.2.2.2.2.2.2.2.2.2.2.2
                  have ol := OL.out
                  have qr1 := V8.out.2.1.lt
                  have qr2 := V8.out.2.2.1.lt
                  have q6 := V8.out.2.2.2.1.lt
                  have q7 := V8.out.2.2.2.2.1.lt
                  have q8 := V8.out.2.2.2.2.2.1.lt
                  have q9 := V8.out.2.2.2.2.2.2.1.lt
                  have q10 := V8.out.2.2.2.2.2.2.2.1.lt
                  have q11 := V8.out.2.2.2.2.2.2.2.2.1.lt
                  have q14 := V8.out.2.2.2.2.2.2.2.2.2.1.lt
                  have q15 := V8.out.2.2.2.2.2.2.2.2.2.2.1.lt
                  have q16 := V8.out.2.2.2.2.2.2.2.2.2.2.2.1.lt
                  have q17 := V8.out.2.2.2.2.2.2.2.2.2.2.2.2.1.lt
                  have q18 := V8.out.2.2.2.2.2.2.2.2.2.2.2.2.2.1.lt
                  have q19 := V8.out.2.2.2.2.2.2.2.2.2.2.2.2.2.2.1.lt
                  have q20 := V8.out.2.2.2.2.2.2.2.2.2.2.2.2.2.2.2.1.lt
                  have q21 := V8.out.2.2.2.2.2.2.2.2.2.2.2.2.2.2.2.2.1.lt
                  have q22 := V8.out.2.2.2.2.2.2.2.2.2.2.2.2.2.2.2.2.2.1.lt
                  have q23 := V8.out.2.2.2.2.2.2.2.2.2.2.2.2.2.2.2.2.2.2.1.lt
                  have q24 := V8.out.2.2.2.2.2.2.2.2.2.2.2.2.2.2.2.2.2.2.2.1.lt
                  exact ⟨below_kept (below_chain V8.out.1 uV9 (by omega)) kV9 (by omega) (fun j hj => by omega), (V8.out.2.1.later uV9 qr1).kept kV9 (by omega), (V8.out.2.2.1.later uV9 qr2).kept kV9 (by omega), (V8.out.2.2.2.1.later uV9 q6).kept kV9 (by omega), (V8.out.2.2.2.2.1.later uV9 q7).kept kV9 (by omega), (V8.out.2.2.2.2.2.1.later uV9 q8).kept kV9 (by omega), (V8.out.2.2.2.2.2.2.1.later uV9 q9).kept kV9 (by omega), bV9, (V8.out.2.2.2.2.2.2.2.2.1.later uV9 q11).kept kV9 (by omega), (V8.out.2.2.2.2.2.2.2.2.2.1.later uV9 q14).kept kV9 (by omega), (V8.out.2.2.2.2.2.2.2.2.2.2.1.later uV9 q15).kept kV9 (by omega), (V8.out.2.2.2.2.2.2.2.2.2.2.2.1.later uV9 q16).kept kV9 (by omega), (V8.out.2.2.2.2.2.2.2.2.2.2.2.2.1.later uV9 q17).kept kV9 (by omega), (V8.out.2.2.2.2.2.2.2.2.2.2.2.2.2.1.later uV9 q18).kept kV9 (by omega), (V8.out.2.2.2.2.2.2.2.2.2.2.2.2.2.2.1.later uV9 q19).kept kV9 (by omega), (V8.out.2.2.2.2.2.2.2.2.2.2.2.2.2.2.2.1.later uV9 q20).kept kV9 (by omega), (V8.out.2.2.2.2.2.2.2.2.2.2.2.2.2.2.2.2.1.later uV9 q21).kept kV9 (by omega), (V8.out.2.2.2.2.2.2.2.2.2.2.2.2.2.2.2.2.2.1.later uV9 q22).kept kV9 (by omega), (V8.out.2.2.2.2.2.2.2.2.2.2.2.2.2.2.2.2.2.2.1.later uV9 q23).kept kV9 (by omega), (V8.out.2.2.2.2.2.2.2.2.2.2.2.2.2.2.2.2.2.2.2.1.later uV9 q24).kept kV9 (by omega), by omega⟩
                clear uV9 bV9 sV9 kV9 F_q10
                try simp only [Act.put, List.setIfInBounds_toArray, List.set_cons_zero, List.set_cons_succ]
                refine region_invP 5 ((.val (.agg (i64s lu).toArray)) :: (.val (.agg (i64s p24).toArray)) :: (.val (.agg (i64s p24).toArray)) :: (.any (isNd ((((((s.1 - s.2.1) % PR) * ((s.2.2.1 + s.2.2.2) % PR) % PR) - (((s.1 + s.2.1) % PR) * ((s.2.2.1 - s.2.2.2) % PR) % PR)) % PR) * (((((s.1 - s.2.1) % PR) * ((s.2.2.1 + s.2.2.2) % PR) % PR) - (((s.1 + s.2.1) % PR) * ((s.2.2.1 - s.2.2.2) % PR) % PR)) % PR) % PR)) (isNd_later ((((((s.1 - s.2.1) % PR) * ((s.2.2.1 + s.2.2.2) % PR) % PR) - (((s.1 + s.2.1) % PR) * ((s.2.2.1 - s.2.2.2) % PR) % PR)) % PR) * (((((s.1 - s.2.1) % PR) * ((s.2.2.1 + s.2.2.2) % PR) % PR) - (((s.1 + s.2.1) % PR) * ((s.2.2.1 - s.2.2.2) % PR) % PR)) % PR) % PR))) :: (.any (isNd (u * ((((((s.1 - s.2.1) % PR) * ((s.2.2.1 + s.2.2.2) % PR) % PR) - (((s.1 + s.2.1) % PR) * ((s.2.2.1 - s.2.2.2) % PR) % PR)) % PR) * (((((s.1 - s.2.1) % PR) * ((s.2.2.1 + s.2.2.2) % PR) % PR) - (((s.1 + s.2.1) % PR) * ((s.2.2.1 - s.2.2.2) % PR) % PR)) % PR) % PR) % PR)) (isNd_later (u * ((((((s.1 - s.2.1) % PR) * ((s.2.2.1 + s.2.2.2) % PR) % PR) - (((s.1 + s.2.1) % PR) * ((s.2.2.1 - s.2.2.2) % PR) % PR)) % PR) * (((((s.1 - s.2.1) % PR) * ((s.2.2.1 + s.2.2.2) % PR) % PR) - (((s.1 + s.2.1) % PR) * ((s.2.2.1 - s.2.2.2) % PR) % PR)) % PR) % PR) % PR))) :: []) (by kernel_rfl) (by kernel_rfl) (by kernel_rfl) [] ⟨.inl rfl, .inl rfl, .inl rfl, .inl rfl, .inl rfl, trivial⟩ (by kernel_rfl) ?_ ?_
                · refine Steps'.cons ?_ (Steps'.cons ?_ (Steps'.cons ?_ (Steps'.cons ?_ (Steps'.cons ?_ (Steps'.one _ _ _ _ _ _ _)))))
                  · intro ax wx hb hs hd
                    have h7 : ax.tmps.getD 7 undef = (.pointer (some ⟨gx, 0, none⟩)) := hs 7 (by kernel_rfl)
                    exact Does.load 140 (.tmp 7) rfl gx 0 h7 (i64s lu) _ ((Blk.later V9.out.2.2.2.2.1 hb (Blk.lt V9.out.2.2.2.2.1)).whole) Try.underlying140 rfl (LN.out _ (H_lu.out).len)
                  · intro ax wx hb hs hd
                    have h24 : ax.tmps.getD 24 undef = (.pointer (some ⟨G24, 0, none⟩)) := hs 24 (by kernel_rfl)
                    exact Does.load 140 (.tmp 24) rfl G24 0 h24 (i64s p24) _ ((Blk.later V9.out.2.2.2.2.2.2.2.2.2.2.2.2.2.2.2.2.2.2.2.1 hb (Blk.lt V9.out.2.2.2.2.2.2.2.2.2.2.2.2.2.2.2.2.2.2.2.1)).whole) Try.underlying140 rfl (LN.out _ (H_p24.out).len)
                  · intro ax wx hb hs hd
                    have h24 : ax.tmps.getD 24 undef = (.pointer (some ⟨G24, 0, none⟩)) := hs 24 (by kernel_rfl)
                    exact Does.load 140 (.tmp 24) rfl G24 0 h24 (i64s p24) _ ((Blk.later V9.out.2.2.2.2.2.2.2.2.2.2.2.2.2.2.2.2.2.2.2.1 hb (Blk.lt V9.out.2.2.2.2.2.2.2.2.2.2.2.2.2.2.2.2.2.2.2.1)).whole) Try.underlying140 rfl (LN.out _ (H_p24.out).len)
                  · intro ax wx hb hs hd
                    have h88 : ax.tmps.getD 88 undef = (.agg (i64s p24).toArray) := hd 1 88 rfl (by kernel_rfl) (by decide)
                    have h89 : ax.tmps.getD 89 undef = (.agg (i64s p24).toArray) := hd 2 89 rfl (by kernel_rfl) (by decide)
                    refine Does.call 114 #[(.agg (i64s p24).toArray), (.agg (i64s p24).toArray)] (by clear hs hd; go_simp) ?_
                    refine (qtimes_any _ _ _ _ (H_p24.out) (H_p24.out) _).mono ?_
                    rintro z w' ⟨r, rfl, fr, l⟩
                    exact ⟨_, rfl, ⟨r, rfl, fr⟩, l⟩
                  · intro ax wx hb hs hd
                    have h87 : ax.tmps.getD 87 undef = (.agg (i64s lu).toArray) := hd 0 87 rfl (by kernel_rfl) (by decide)
                    obtain ⟨l90, h90, f90⟩ : isNd ((((((s.1 - s.2.1) % PR) * ((s.2.2.1 + s.2.2.2) % PR) % PR) - (((s.1 + s.2.1) % PR) * ((s.2.2.1 - s.2.2.2) % PR) % PR)) % PR) * (((((s.1 - s.2.1) % PR) * ((s.2.2.1 + s.2.2.2) % PR) % PR) - (((s.1 + s.2.1) % PR) * ((s.2.2.1 - s.2.2.2) % PR) % PR)) % PR) % PR) (ax.tmps.getD 90 undef) wx := hd 3 90 rfl (by kernel_rfl) (by decide)
                    refine Does.call 114 #[(.agg (i64s lu).toArray), (.agg (i64s l90).toArray)] (by clear hs hd; go_simp) ?_
                    refine (qtimes_any _ _ _ _ (H_lu.out).w (f90).w _).mono ?_
                    rintro z w' ⟨r, rfl, fr, l⟩
                    exact ⟨_, rfl, ⟨r, rfl, fr⟩, l⟩
                · intro wx hb
                  refine @EndsP.val _ _ _ _ _ _ _ _ (.agg (i64s lu).toArray) rfl ?_
                  refine @EndsP.val _ _ _ _ _ _ _ _ (.agg (i64s p24).toArray) rfl ?_
                  refine @EndsP.val _ _ _ _ _ _ _ _ (.agg (i64s p24).toArray) rfl ?_
                  refine @EndsP.any _ _ _ _ _ _ _ _ (isNd ((((((s.1 - s.2.1) % PR) * ((s.2.2.1 + s.2.2.2) % PR) % PR) - (((s.1 + s.2.1) % PR) * ((s.2.2.1 - s.2.2.2) % PR) % PR)) % PR) * (((((s.1 - s.2.1) % PR) * ((s.2.2.1 + s.2.2.2) % PR) % PR) - (((s.1 + s.2.1) % PR) * ((s.2.2.1 - s.2.2.2) % PR) % PR)) % PR) % PR)) (isNd_later ((((((s.1 - s.2.1) % PR) * ((s.2.2.1 + s.2.2.2) % PR) % PR) - (((s.1 + s.2.1) % PR) * ((s.2.2.1 - s.2.2.2) % PR) % PR)) % PR) * (((((s.1 - s.2.1) % PR) * ((s.2.2.1 + s.2.2.2) % PR) % PR) - (((s.1 + s.2.1) % PR) * ((s.2.2.1 - s.2.2.2) % PR) % PR)) % PR) % PR)) rfl ?_
                  intro v3 p3
                  refine @EndsP.any _ _ _ _ _ _ _ _ (isNd (u * ((((((s.1 - s.2.1) % PR) * ((s.2.2.1 + s.2.2.2) % PR) % PR) - (((s.1 + s.2.1) % PR) * ((s.2.2.1 - s.2.2.2) % PR) % PR)) % PR) * (((((s.1 - s.2.1) % PR) * ((s.2.2.1 + s.2.2.2) % PR) % PR) - (((s.1 + s.2.1) % PR) * ((s.2.2.1 - s.2.2.2) % PR) % PR)) % PR) % PR) % PR)) (isNd_later (u * ((((((s.1 - s.2.1) % PR) * ((s.2.2.1 + s.2.2.2) % PR) % PR) - (((s.1 + s.2.1) % PR) * ((s.2.2.1 - s.2.2.2) % PR) % PR)) % PR) * (((((s.1 - s.2.1) % PR) * ((s.2.2.1 + s.2.2.2) % PR) % PR) - (((s.1 + s.2.1) % PR) * ((s.2.2.1 - s.2.2.2) % PR) % PR)) % PR) % PR) % PR)) rfl ?_
                  intro v4 p4
                  intro hD nf hn
                  obtain ⟨mf, rfl⟩ : ∃ mf, nf = mf + 1 := ⟨nf - 1, by have h3 : 1 ≤ nf := hn; omega⟩
                  obtain ⟨q11, rfl, F_q11⟩ := p4
                  have H_q11 : Hid (Nd q11 (u * ((((((s.1 - s.2.1) % PR) * ((s.2.2.1 + s.2.2.2) % PR) % PR) - (((s.1 + s.2.1) % PR) * ((s.2.2.1 - s.2.2.2) % PR) % PR)) % PR) * (((((s.1 - s.2.1) % PR) * ((s.2.2.1 + s.2.2.2) % PR) % PR) - (((s.1 + s.2.1) % PR) * ((s.2.2.1 - s.2.2.2) % PR) % PR)) % PR) % PR) % PR)) := F_q11
                  clear F_q11 hD hn
                  simp only [Act.put, List.setIfInBounds_toArray, List.set_cons_zero, List.set_cons_succ]
                  refine wpAny_ready (rs := [5]) (by kernel_rfl) (by simp) (AllReady.cons rfl (fun K hK => ?_) AllReady.nil)
                  rw [if_pos (by rfl)]
                  refine last_store 140 (.tmp 11) (.tmp 91) rfl rfl G11 rfl 140 _ (i64s q11) rfl ((V9.out.2.2.2.2.2.2.2.2.1).later hb V9.out.2.2.2.2.2.2.2.2.1.lt) (by rw [i64s_length, i64s_length, H_q11.out.len, (HF.out.b).len]) (LN.out _ H_q11.out.len) (i64s_one _) ?_
                  intro yV10 bV10 sV10 kV10
                  refine hK _ _ ?_
                  clear hK K
                  refine wpAny_done (by kernel_rfl) (NoPanic.normal ?_) _
                  have V10 : Hid (Below w.heap.size w yV10 ∧ Blk yV10 (w.heap.size + 1 + 1) 140 (i64s (List.replicate 16 0)) ∧ Blk yV10 (w.heap.size + 1 + 1 + 1) 140 (i64s (List.replicate 16 0)) ∧ Blk yV10 gn 58 (u8s ns) ∧ Blk yV10 gx 140 (i64s lu) ∧ Blk yV10 G8 140 (i64s c) ∧ Blk yV10 G9 140 (i64s d) ∧ Blk yV10 G10 140 (i64s q10) ∧ Blk yV10 G11 140 (i64s q11) ∧ Blk yV10 G14 140 (i64s p14) ∧ Blk yV10 G15 140 (i64s p15) ∧ Blk yV10 G16 140 (i64s p16) ∧ Blk yV10 G17 140 (i64s p17) ∧ Blk yV10 G18 140 (i64s p18) ∧ Blk yV10 G19 140 (i64s p19) ∧ Blk yV10 G20 140 (i64s p20) ∧ Blk yV10 G21 140 (i64s p21) ∧ Blk yV10 G22 140 (i64s p22) ∧ Blk yV10 G23 140 (i64s p23) ∧ Blk yV10 G24 140 (i64s p24) ∧ (wr.heap.size ≤ yV10.heap.size ∧ wr.heap.size ≤ G14 ∧ wr.heap.size ≤ G15 ∧ wr.heap.size ≤ G16 ∧ wr.heap.size ≤ G17 ∧ wr.heap.size ≤ G18 ∧ wr.heap.size ≤ G19 ∧ wr.heap.size ≤ G20 ∧ wr.heap.size ≤ G21 ∧ wr.heap.size ≤ G22 ∧ wr.heap.size ≤ G23 ∧ wr.heap.size ≤ G24)) := by
                    have qb := hb.size
                    have qw := V9.out.1.size
                    have qa := V9.out.2.2.2.2.2.2.2.2.2.2.2.2.2.2.2.2.2.2.2.2
                    have ol := OL.out
                    have qr1 := V9.out.2.1.lt
                    have qr2 := V9.out.2.2.1.lt
                    have q6 := V9.out.2.2.2.1.lt
                    have q7 := V9.out.2.2.2.2.1.lt
                    have q8 := V9.out.2.2.2.2.2.1.lt
                    have q9 := V9.out.2.2.2.2.2.2.1.lt
                    have q10 := V9.out.2.2.2.2.2.2.2.1.lt
                    have q11 := V9.out.2.2.2.2.2.2.2.2.1.lt
                    have q14 := V9.out.2.2.2.2.2.2.2.2.2.1.lt
                    have q15 := V9.out.2.2.2.2.2.2.2.2.2.2.1.lt
                    have q16 := V9.out.2.2.2.2.2.2.2.2.2.2.2.1.lt
                    have q17 := V9.out.2.2.2.2.2.2.2.2.2.2.2.2.1.lt
                    have q18 := V9.out.2.2.2.2.2.2.2.2.2.2.2.2.2.1.lt
                    have q19 := V9.out.2.2.2.2.2.2.2.2.2.2.2.2.2.2.1.lt
                    have q20 := V9.out.2.2.2.2.2.2.2.2.2.2.2.2.2.2.2.1.lt
                    have q21 := V9.out.2.2.2.2.2.2.2.2.2.2.2.2.2.2.2.2.1.lt
                    have q22 := V9.out.2.2.2.2.2.2.2.2.2.2.2.2.2.2.2.2.2.1.lt
                    have q23 := V9.out.2.2.2.2.2.2.2.2.2.2.2.2.2.2.2.2.2.2.1.lt
                    have q24 := V9.out.2.2.2.2.2.2.2.2.2.2.2.2.2.2.2.2.2.2.2.1.lt
                    exact ⟨below_kept (below_chain V9.out.1 hb (by omega)) kV10 (by omega) (fun j hj => by omega), (V9.out.2.1.later hb qr1).kept kV10 (by omega), (V9.out.2.2.1.later hb qr2).kept kV10 (by omega), (V9.out.2.2.2.1.later hb q6).kept kV10 (by omega), (V9.out.2.2.2.2.1.later hb q7).kept kV10 (by omega), (V9.out.2.2.2.2.2.1.later hb q8).kept kV10 (by omega), (V9.out.2.2.2.2.2.2.1.later hb q9).kept kV10 (by omega), (V9.out.2.2.2.2.2.2.2.1.later hb q10).kept kV10 (by omega), bV10, (V9.out.2.2.2.2.2.2.2.2.2.1.later hb q14).kept kV10 (by omega), (V9.out.2.2.2.2.2.2.2.2.2.2.1.later hb q15).kept kV10 (by omega), (V9.out.2.2.2.2.2.2.2.2.2.2.2.1.later hb q16).kept kV10 (by omega), (V9.out.2.2.2.2.2.2.2.2.2.2.2.2.1.later hb q17).kept kV10 (by omega), (V9.out.2.2.2.2.2.2.2.2.2.2.2.2.2.1.later hb q18).kept kV10 (by omega), (V9.out.2.2.2.2.2.2.2.2.2.2.2.2.2.2.1.later hb q19).kept kV10 (by omega), (V9.out.2.2.2.2.2.2.2.2.2.2.2.2.2.2.2.1.later hb q20).kept kV10 (by omega), (V9.out.2.2.2.2.2.2.2.2.2.2.2.2.2.2.2.2.1.later hb q21).kept kV10 (by omega), (V9.out.2.2.2.2.2.2.2.2.2.2.2.2.2.2.2.2.2.1.later hb q22).kept kV10 (by omega), (V9.out.2.2.2.2.2.2.2.2.2.2.2.2.2.2.2.2.2.2.1.later hb q23).kept kV10 (by omega), (V9.out.2.2.2.2.2.2.2.2.2.2.2.2.2.2.2.2.2.2.2.1.later hb q24).kept kV10 (by omega), by omega⟩
                  clear hb bV10 sV10 kV10
                  go_wp2_with (first | ((with_reducible show wpList _ _ _ (({ dst := some 92, op := _, type := _, pos := _, after := _, guard := _ } : Oper) :: _) _ _); refine wpList_load_blk rfl 140 _ rfl G18 rfl (i64s p18) _ V10.out.2.2.2.2.2.2.2.2.2.2.2.2.2.1 Try.underlying140 rfl (LN.out _ (H_p18.out).len) ?_) | ((with_reducible show wpList _ _ _ (({ dst := some 93, op := _, type := _, pos := _, after := _, guard := _ } : Oper) :: _) _ _); refine wpList_load_blk rfl 140 _ rfl G19 rfl (i64s p19) _ V10.out.2.2.2.2.2.2.2.2.2.2.2.2.2.2.1 Try.underlying140 rfl (LN.out _ (H_p19.out).len) ?_) | ((with_reducible show Calls _ _ #[.agg (i64s p18).toArray, .agg (i64s p19).toArray] _ _); refine (qtimes_any _ _ _ _ H_p18.out.w H_p19.out.w _).mono ?_; rintro e cV11 ⟨q8, rfl, F_q8, uV11⟩) | ((with_reducible show wpList _ _ _ (({ dst := none, op := .store _ (.tmp 8) (.tmp 94), type := _, pos := _, after := _, guard := _ } : Oper) :: _) _ _); refine wpList_store_blk rfl 140 140 _ _ rfl G8 rfl _ (i64s q8) rfl (V10.out.2.2.2.2.2.1.later uV11 V10.out.2.2.2.2.2.1.lt) (by rw [i64s_length, i64s_length, F_q8.len, (HF.out.c).len]) (LN.out _ F_q8.len) (i64s_one _) ?_; intro yV11 bV11 sV11 kV11))
                  have H_q8 : Hid (Nd q8 ((((s.2.2.1 + s.2.2.2) % PR) * ((s.2.2.1 + s.2.2.2) % PR) % PR) * (((s.2.2.1 - s.2.2.2) % PR) * ((s.2.2.1 - s.2.2.2) % PR) % PR) % PR)) := F_q8
                  have V11 : Hid (Below w.heap.size w yV11 ∧ Blk yV11 (w.heap.size + 1 + 1) 140 (i64s (List.replicate 16 0)) ∧ Blk yV11 (w.heap.size + 1 + 1 + 1) 140 (i64s (List.replicate 16 0)) ∧ Blk yV11 gn 58 (u8s ns) ∧ Blk yV11 gx 140 (i64s lu) ∧ Blk yV11 G8 140 (i64s q8) ∧ Blk yV11 G9 140 (i64s d) ∧ Blk yV11 G10 140 (i64s q10) ∧ Blk yV11 G11 140 (i64s q11) ∧ Blk yV11 G14 140 (i64s p14) ∧ Blk yV11 G15 140 (i64s p15) ∧ Blk yV11 G16 140 (i64s p16) ∧ Blk yV11 G17 140 (i64s p17) ∧ Blk yV11 G18 140 (i64s p18) ∧ Blk yV11 G19 140 (i64s p19) ∧ Blk yV11 G20 140 (i64s p20) ∧ Blk yV11 G21 140 (i64s p21) ∧ Blk yV11 G22 140 (i64s p22) ∧ Blk yV11 G23 140 (i64s p23) ∧ Blk yV11 G24 140 (i64s p24) ∧ (wr.heap.size ≤ yV11.heap.size ∧ wr.heap.size ≤ G14 ∧ wr.heap.size ≤ G15 ∧ wr.heap.size ≤ G16 ∧ wr.heap.size ≤ G17 ∧ wr.heap.size ≤ G18 ∧ wr.heap.size ≤ G19 ∧ wr.heap.size ≤ G20 ∧ wr.heap.size ≤ G21 ∧ wr.heap.size ≤ G22 ∧ wr.heap.size ≤ G23 ∧ wr.heap.size ≤ G24)) := by
                    have qb := uV11.size
                    have qw := V10.out.1.size
                    have qa := V10.out.2.2.2.2.2.2.2.2.2.2.2.2.2.2.2.2.2.2.2.2
                    have ol := OL.out
                    have qr1 := V10.out.2.1.lt
                    have qr2 := V10.out.2.2.1.lt
                    have q6 := V10.out.2.2.2.1.lt
                    have q7 := V10.out.2.2.2.2.1.lt
                    have q8 := V10.out.2.2.2.2.2.1.lt
                    have q9 := V10.out.2.2.2.2.2.2.1.lt
                    have q10 := V10.out.2.2.2.2.2.2.2.1.lt
                    have q11 := V10.out.2.2.2.2.2.2.2.2.1.lt
                    have q14 := V10.out.2.2.2.2.2.2.2.2.2.1.lt
                    have q15 := V10.out.2.2.2.2.2.2.2.2.2.2.1.lt
                    have q16 := V10.out.2.2.2.2.2.2.2.2.2.2.2.1.lt
                    have q17 := V10.out.2.2.2.2.2.2.2.2.2.2.2.2.1.lt
                    have q18 := V10.out.2.2.2.2.2.2.2.2.2.2.2.2.2.1.lt
                    have q19 := V10.out.2.2.2.2.2.2.2.2.2.2.2.2.2.2.1.lt
                    have q20 := V10.out.2.2.2.2.2.2.2.2.2.2.2.2.2.2.2.1.lt
                    have q21 := V10.out.2.2.2.2.2.2.2.2.2.2.2.2.2.2.2.2.1.lt
                    have q22 := V10.out.2.2.2.2.2.2.2.2.2.2.2.2.2.2.2.2.2.1.lt
                    have q23 := V10.out.2.2.2.2.2.2.2.2.2.2.2.2.2.2.2.2.2.2.1.lt
                    have q24 := V10.out.2.2.2.2.2.2.2.2.2.2.2.2.2.2.2.2.2.2.2.1.lt
                    exact ⟨below_kept (below_chain V10.out.1 uV11 (by omega)) kV11 (by omega) (fun j hj => by omega), (V10.out.2.1.later uV11 qr1).kept kV11 (by omega), (V10.out.2.2.1.later uV11 qr2).kept kV11 (by omega), (V10.out.2.2.2.1.later uV11 q6).kept kV11 (by omega), (V10.out.2.2.2.2.1.later uV11 q7).kept kV11 (by omega), bV11, (V10.out.2.2.2.2.2.2.1.later uV11 q9).kept kV11 (by omega), (V10.out.2.2.2.2.2.2.2.1.later uV11 q10).kept kV11 (by omega), (V10.out.2.2.2.2.2.2.2.2.1.later uV11 q11).kept kV11 (by omega), (V10.out.2.2.2.2.2.2.2.2.2.1.later uV11 q14).kept kV11 (by omega), (V10.out.2.2.2.2.2.2.2.2.2.2.1.later uV11 q15).kept kV11 (by omega), (V10.out.2.2.2.2.2.2.2.2.2.2.2.1.later uV11 q16).kept kV11 (by omega), (V10.out.2.2.2.2.2.2.2.2.2.2.2.2.1.later uV11 q17).kept kV11 (by omega), (V10.out.2.2.2.2.2.2.2.2.2.2.2.2.2.1.later uV11 q18).kept kV11 (by omega), (V10.out.2.2.2.2.2.2.2.2.2.2.2.2.2.2.1.later uV11 q19).kept kV11 (by omega), (V10.out.2.2.2.2.2.2.2.2.2.2.2.2.2.2.2.1.later uV11 q20).kept kV11 (by omega), (V10.out.2.2.2.2.2.2.2.2.2.2.2.2.2.2.2.2.1.later uV11 q21).kept kV11 (by omega), (V10.out.2.2.2.2.2.2.2.2.2.2.2.2.2.2.2.2.2.1.later uV11 q22).kept kV11 (by omega), (V10.out.2.2.2.2.2.2.2.2.2.2.2.2.2.2.2.2.2.2.1.later uV11 q23).kept kV11 (by omega), (V10.out.2.2.2.2.2.2.2.2.2.2.2.2.2.2.2.2.2.2.2.1.later uV11 q24).kept kV11 (by omega), by omega⟩
                  clear uV11 bV11 sV11 kV11 F_q8
                  try simp only [Act.put, List.setIfInBounds_toArray, List.set_cons_zero, List.set_cons_succ]
                  refine region_invP 7 ((.val (.agg (i64s p22).toArray)) :: (.val (.agg (i64s p18).toArray)) :: (.any (isNw 121665) (isNw_later 121665)) :: (.val (.agg (i64s p22).toArray)) :: (.any (isNd ((((((s.2.2.1 + s.2.2.2) % PR) * ((s.2.2.1 + s.2.2.2) % PR) % PR) - (((s.2.2.1 - s.2.2.2) % PR) * ((s.2.2.1 - s.2.2.2) % PR) % PR)) % PR) * 121665 % PR)) (isNd_later ((((((s.2.2.1 + s.2.2.2) % PR) * ((s.2.2.1 + s.2.2.2) % PR) % PR) - (((s.2.2.1 - s.2.2.2) % PR) * ((s.2.2.1 - s.2.2.2) % PR) % PR)) % PR) * 121665 % PR))) :: (.any (isNw (((((s.2.2.1 + s.2.2.2) % PR) * ((s.2.2.1 + s.2.2.2) % PR) % PR) + ((((((s.2.2.1 + s.2.2.2) % PR) * ((s.2.2.1 + s.2.2.2) % PR) % PR) - (((s.2.2.1 - s.2.2.2) % PR) * ((s.2.2.1 - s.2.2.2) % PR) % PR)) % PR) * 121665 % PR)) % PR)) (isNw_later (((((s.2.2.1 + s.2.2.2) % PR) * ((s.2.2.1 + s.2.2.2) % PR) % PR) + ((((((s.2.2.1 + s.2.2.2) % PR) * ((s.2.2.1 + s.2.2.2) % PR) % PR) - (((s.2.2.1 - s.2.2.2) % PR) * ((s.2.2.1 - s.2.2.2) % PR) % PR)) % PR) * 121665 % PR)) % PR))) :: (.any (isNd ((((((s.2.2.1 + s.2.2.2) % PR) * ((s.2.2.1 + s.2.2.2) % PR) % PR) - (((s.2.2.1 - s.2.2.2) % PR) * ((s.2.2.1 - s.2.2.2) % PR) % PR)) % PR) * (((((s.2.2.1 + s.2.2.2) % PR) * ((s.2.2.1 + s.2.2.2) % PR) % PR) + ((((((s.2.2.1 + s.2.2.2) % PR) * ((s.2.2.1 + s.2.2.2) % PR) % PR) - (((s.2.2.1 - s.2.2.2) % PR) * ((s.2.2.1 - s.2.2.2) % PR) % PR)) % PR) * 121665 % PR)) % PR) % PR)) (isNd_later ((((((s.2.2.1 + s.2.2.2) % PR) * ((s.2.2.1 + s.2.2.2) % PR) % PR) - (((s.2.2.1 - s.2.2.2) % PR) * ((s.2.2.1 - s.2.2.2) % PR) % PR)) % PR) * (((((s.2.2.1 + s.2.2.2) % PR) * ((s.2.2.1 + s.2.2.2) % PR) % PR) + ((((((s.2.2.1 + s.2.2.2) % PR) * ((s.2.2.1 + s.2.2.2) % PR) % PR) - (((s.2.2.1 - s.2.2.2) % PR) * ((s.2.2.1 - s.2.2.2) % PR) % PR)) % PR) * 121665 % PR)) % PR) % PR))) :: []) (by kernel_rfl) (by kernel_rfl) (by kernel_rfl) [] ⟨.inl rfl, .inl rfl, .inl rfl, .inl rfl, .inl rfl, .inl rfl, .inl rfl, trivial⟩ (by kernel_rfl) ?_ ?_
                  · refine Steps'.cons ?_ (Steps'.cons ?_ (Steps'.cons ?_ (Steps'.cons ?_ (Steps'.cons ?_ (Steps'.cons ?_ (Steps'.cons ?_ (Steps'.one _ _ _ _ _ _ _)))))))
                    · intro ax wx hb hs hd
                      have h22 : ax.tmps.getD 22 undef = (.pointer (some ⟨G22, 0, none⟩)) := hs 22 (by kernel_rfl)
                      exact Does.load 140 (.tmp 22) rfl G22 0 h22 (i64s p22) _ ((Blk.later V11.out.2.2.2.2.2.2.2.2.2.2.2.2.2.2.2.2.2.1 hb (Blk.lt V11.out.2.2.2.2.2.2.2.2.2.2.2.2.2.2.2.2.2.1)).whole) Try.underlying140 rfl (LN.out _ (H_p22.out).len)
                    · intro ax wx hb hs hd
                      have h18 : ax.tmps.getD 18 undef = (.pointer (some ⟨G18, 0, none⟩)) := hs 18 (by kernel_rfl)
                      exact Does.load 140 (.tmp 18) rfl G18 0 h18 (i64s p18) _ ((Blk.later V11.out.2.2.2.2.2.2.2.2.2.2.2.2.2.1 hb (Blk.lt V11.out.2.2.2.2.2.2.2.2.2.2.2.2.2.1)).whole) Try.underlying140 rfl (LN.out _ (H_p18.out).len)
                    · intro ax wx hb hs hd
                      refine Does.call 123 #[(.int .i64 121665)] (by clear hs hd; go_simp) ?_
                      refine (qsmallW 121665 (by decide) _).mono ?_
                      rintro z w' ⟨r, rfl, fr, l⟩
                      exact ⟨_, rfl, ⟨r, rfl, fr⟩, l⟩
                    · intro ax wx hb hs hd
                      have h22 : ax.tmps.getD 22 undef = (.pointer (some ⟨G22, 0, none⟩)) := hs 22 (by kernel_rfl)
                      exact Does.load 140 (.tmp 22) rfl G22 0 h22 (i64s p22) _ ((Blk.later V11.out.2.2.2.2.2.2.2.2.2.2.2.2.2.2.2.2.2.1 hb (Blk.lt V11.out.2.2.2.2.2.2.2.2.2.2.2.2.2.2.2.2.2.1)).whole) Try.underlying140 rfl (LN.out _ (H_p22.out).len)
                    · intro ax wx hb hs hd
                      obtain ⟨l97, h97, f97⟩ : isNw 121665 (ax.tmps.getD 97 undef) wx := hd 2 97 rfl (by kernel_rfl) (by decide)
                      have h98 : ax.tmps.getD 98 undef = (.agg (i64s p22).toArray) := hd 3 98 rfl (by kernel_rfl) (by decide)
                      refine Does.call 114 #[(.agg (i64s l97).toArray), (.agg (i64s p22).toArray)] (by clear hs hd; go_simp) ?_
                      refine (qtimesC _ _ _ _ (f97) (H_p22.out) _).mono ?_
                      rintro z w' ⟨r, rfl, fr, l⟩
                      exact ⟨_, rfl, ⟨r, rfl, fr⟩, l⟩
                    · intro ax wx hb hs hd
                      have h96 : ax.tmps.getD 96 undef = (.agg (i64s p18).toArray) := hd 1 96 rfl (by kernel_rfl) (by decide)
                      obtain ⟨l99, h99, f99⟩ : isNd ((((((s.2.2.1 + s.2.2.2) % PR) * ((s.2.2.1 + s.2.2.2) % PR) % PR) - (((s.2.2.1 - s.2.2.2) % PR) * ((s.2.2.1 - s.2.2.2) % PR) % PR)) % PR) * 121665 % PR) (ax.tmps.getD 99 undef) wx := hd 4 99 rfl (by kernel_rfl) (by decide)
                      refine Does.call 124 #[(.agg (i64s p18).toArray), (.agg (i64s l99).toArray)] (by clear hs hd; go_simp) ?_
                      refine (qplusN _ _ _ _ (H_p18.out) (f99) _).mono ?_
                      rintro z w' ⟨r, rfl, fr, l⟩
                      exact ⟨_, rfl, ⟨r, rfl, fr⟩, l⟩
                    · intro ax wx hb hs hd
                      have h95 : ax.tmps.getD 95 undef = (.agg (i64s p22).toArray) := hd 0 95 rfl (by kernel_rfl) (by decide)
                      obtain ⟨l100, h100, f100⟩ : isNw (((((s.2.2.1 + s.2.2.2) % PR) * ((s.2.2.1 + s.2.2.2) % PR) % PR) + ((((((s.2.2.1 + s.2.2.2) % PR) * ((s.2.2.1 + s.2.2.2) % PR) % PR) - (((s.2.2.1 - s.2.2.2) % PR) * ((s.2.2.1 - s.2.2.2) % PR) % PR)) % PR) * 121665 % PR)) % PR) (ax.tmps.getD 100 undef) wx := hd 5 100 rfl (by kernel_rfl) (by decide)
                      refine Does.call 114 #[(.agg (i64s p22).toArray), (.agg (i64s l100).toArray)] (by clear hs hd; go_simp) ?_
                      refine (qtimes_any _ _ _ _ (H_p22.out) (f100) _).mono ?_
                      rintro z w' ⟨r, rfl, fr, l⟩
                      exact ⟨_, rfl, ⟨r, rfl, fr⟩, l⟩
                  · intro wx hb
                    refine @EndsP.val _ _ _ _ _ _ _ _ (.agg (i64s p22).toArray) rfl ?_
                    refine @EndsP.val _ _ _ _ _ _ _ _ (.agg (i64s p18).toArray) rfl ?_
                    refine @EndsP.any _ _ _ _ _ _ _ _ (isNw 121665) (isNw_later 121665) rfl ?_
                    intro v2 p2
                    refine @EndsP.val _ _ _ _ _ _ _ _ (.agg (i64s p22).toArray) rfl ?_
                    refine @EndsP.any _ _ _ _ _ _ _ _ (isNd ((((((s.2.2.1 + s.2.2.2) % PR) * ((s.2.2.1 + s.2.2.2) % PR) % PR) - (((s.2.2.1 - s.2.2.2) % PR) * ((s.2.2.1 - s.2.2.2) % PR) % PR)) % PR) * 121665 % PR)) (isNd_later ((((((s.2.2.1 + s.2.2.2) % PR) * ((s.2.2.1 + s.2.2.2) % PR) % PR) - (((s.2.2.1 - s.2.2.2) % PR) * ((s.2.2.1 - s.2.2.2) % PR) % PR)) % PR) * 121665 % PR)) rfl ?_
                    intro v4 p4
                    refine @EndsP.any _ _ _ _ _ _ _ _ (isNw (((((s.2.2.1 + s.2.2.2) % PR) * ((s.2.2.1 + s.2.2.2) % PR) % PR) + ((((((s.2.2.1 + s.2.2.2) % PR) * ((s.2.2.1 + s.2.2.2) % PR) % PR) - (((s.2.2.1 - s.2.2.2) % PR) * ((s.2.2.1 - s.2.2.2) % PR) % PR)) % PR) * 121665 % PR)) % PR)) (isNw_later (((((s.2.2.1 + s.2.2.2) % PR) * ((s.2.2.1 + s.2.2.2) % PR) % PR) + ((((((s.2.2.1 + s.2.2.2) % PR) * ((s.2.2.1 + s.2.2.2) % PR) % PR) - (((s.2.2.1 - s.2.2.2) % PR) * ((s.2.2.1 - s.2.2.2) % PR) % PR)) % PR) * 121665 % PR)) % PR)) rfl ?_
                    intro v5 p5
                    refine @EndsP.any _ _ _ _ _ _ _ _ (isNd ((((((s.2.2.1 + s.2.2.2) % PR) * ((s.2.2.1 + s.2.2.2) % PR) % PR) - (((s.2.2.1 - s.2.2.2) % PR) * ((s.2.2.1 - s.2.2.2) % PR) % PR)) % PR) * (((((s.2.2.1 + s.2.2.2) % PR) * ((s.2.2.1 + s.2.2.2) % PR) % PR) + ((((((s.2.2.1 + s.2.2.2) % PR) * ((s.2.2.1 + s.2.2.2) % PR) % PR) - (((s.2.2.1 - s.2.2.2) % PR) * ((s.2.2.1 - s.2.2.2) % PR) % PR)) % PR) * 121665 % PR)) % PR) % PR)) (isNd_later ((((((s.2.2.1 + s.2.2.2) % PR) * ((s.2.2.1 + s.2.2.2) % PR) % PR) - (((s.2.2.1 - s.2.2.2) % PR) * ((s.2.2.1 - s.2.2.2) % PR) % PR)) % PR) * (((((s.2.2.1 + s.2.2.2) % PR) * ((s.2.2.1 + s.2.2.2) % PR) % PR) + ((((((s.2.2.1 + s.2.2.2) % PR) * ((s.2.2.1 + s.2.2.2) % PR) % PR) - (((s.2.2.1 - s.2.2.2) % PR) * ((s.2.2.1 - s.2.2.2) % PR) % PR)) % PR) * 121665 % PR)) % PR) % PR)) rfl ?_
                    intro v6 p6
                    intro hD nf hn
                    obtain ⟨mf, rfl⟩ : ∃ mf, nf = mf + 1 := ⟨nf - 1, by have h3 : 1 ≤ nf := hn; omega⟩
                    obtain ⟨q9, rfl, F_q9⟩ := p6
                    have H_q9 : Hid (Nd q9 ((((((s.2.2.1 + s.2.2.2) % PR) * ((s.2.2.1 + s.2.2.2) % PR) % PR) - (((s.2.2.1 - s.2.2.2) % PR) * ((s.2.2.1 - s.2.2.2) % PR) % PR)) % PR) * (((((s.2.2.1 + s.2.2.2) % PR) * ((s.2.2.1 + s.2.2.2) % PR) % PR) + ((((((s.2.2.1 + s.2.2.2) % PR) * ((s.2.2.1 + s.2.2.2) % PR) % PR) - (((s.2.2.1 - s.2.2.2) % PR) * ((s.2.2.1 - s.2.2.2) % PR) % PR)) % PR) * 121665 % PR)) % PR) % PR)) := F_q9
                    clear F_q9 hD hn
                    simp only [Act.put, List.setIfInBounds_toArray, List.set_cons_zero, List.set_cons_succ]
                    refine wpAny_ready (rs := [7]) (by kernel_rfl) (by simp) (AllReady.cons rfl (fun K hK => ?_) AllReady.nil)
                    rw [if_pos (by rfl)]
                    refine last_store 140 (.tmp 9) (.tmp 101) rfl rfl G9 rfl 140 _ (i64s q9) rfl ((V11.out.2.2.2.2.2.2.1).later hb V11.out.2.2.2.2.2.2.1.lt) (by rw [i64s_length, i64s_length, H_q9.out.len, (HF.out.d).len]) (LN.out _ H_q9.out.len) (i64s_one _) ?_
                    intro yV12 bV12 sV12 kV12
                    refine hK _ _ ?_
                    clear hK K
                    refine wpAny_done (by kernel_rfl) (NoPanic.normal ?_) _
                    have V12 : Hid (Below w.heap.size w yV12 ∧ Blk yV12 (w.heap.size + 1 + 1) 140 (i64s (List.replicate 16 0)) ∧ Blk yV12 (w.heap.size + 1 + 1 + 1) 140 (i64s (List.replicate 16 0)) ∧ Blk yV12 gn 58 (u8s ns) ∧ Blk yV12 gx 140 (i64s lu) ∧ Blk yV12 G8 140 (i64s q8) ∧ Blk yV12 G9 140 (i64s q9) ∧ Blk yV12 G10 140 (i64s q10) ∧ Blk yV12 G11 140 (i64s q11) ∧ Blk yV12 G14 140 (i64s p14) ∧ Blk yV12 G15 140 (i64s p15) ∧ Blk yV12 G16 140 (i64s p16) ∧ Blk yV12 G17 140 (i64s p17) ∧ Blk yV12 G18 140 (i64s p18) ∧ Blk yV12 G19 140 (i64s p19) ∧ Blk yV12 G20 140 (i64s p20) ∧ Blk yV12 G21 140 (i64s p21) ∧ Blk yV12 G22 140 (i64s p22) ∧ Blk yV12 G23 140 (i64s p23) ∧ Blk yV12 G24 140 (i64s p24) ∧ (wr.heap.size ≤ yV12.heap.size ∧ wr.heap.size ≤ G14 ∧ wr.heap.size ≤ G15 ∧ wr.heap.size ≤ G16 ∧ wr.heap.size ≤ G17 ∧ wr.heap.size ≤ G18 ∧ wr.heap.size ≤ G19 ∧ wr.heap.size ≤ G20 ∧ wr.heap.size ≤ G21 ∧ wr.heap.size ≤ G22 ∧ wr.heap.size ≤ G23 ∧ wr.heap.size ≤ G24)) := by
                      have qb := hb.size
                      have qw := V11.out.1.size
                      have qa := V11.out.2.2.2.2.2.2.2.2.2.2.2.2.2.2.2.2.2.2.2.2
                      have ol := OL.out
                      have qr1 := V11.out.2.1.lt
                      have qr2 := V11.out.2.2.1.lt
                      have q6 := V11.out.2.2.2.1.lt
                      have q7 := V11.out.2.2.2.2.1.lt
                      have q8 := V11.out.2.2.2.2.2.1.lt
                      have q9 := V11.out.2.2.2.2.2.2.1.lt
                      have q10 := V11.out.2.2.2.2.2.2.2.1.lt
                      have q11 := V11.out.2.2.2.2.2.2.2.2.1.lt
                      have q14 := V11.out.2.2.2.2.2.2.2.2.2.1.lt
                      have q15 := V11.out.2.2.2.2.2.2.2.2.2.2.1.lt
                      have q16 := V11.out.2.2.2.2.2.2.2.2.2.2.2.1.lt
                      have q17 := V11.out.2.2.2.2.2.2.2.2.2.2.2.2.1.lt
                      have q18 := V11.out.2.2.2.2.2.2.2.2.2.2.2.2.2.1.lt
                      have q19 := V11.out.2.2.2.2.2.2.2.2.2.2.2.2.2.2.1.lt
                      have q20 := V11.out.2.2.2.2.2.2.2.2.2.2.2.2.2.2.2.1.lt
                      have q21 := V11.out.2.2.2.2.2.2.2.2.2.2.2.2.2.2.2.2.1.lt
                      have q22 := V11.out.2.2.2.2.2.2.2.2.2.2.2.2.2.2.2.2.2.1.lt
                      have q23 := V11.out.2.2.2.2.2.2.2.2.2.2.2.2.2.2.2.2.2.2.1.lt
                      have q24 := V11.out.2.2.2.2.2.2.2.2.2.2.2.2.2.2.2.2.2.2.2.1.lt
                      exact ⟨below_kept (below_chain V11.out.1 hb (by omega)) kV12 (by omega) (fun j hj => by omega), (V11.out.2.1.later hb qr1).kept kV12 (by omega), (V11.out.2.2.1.later hb qr2).kept kV12 (by omega), (V11.out.2.2.2.1.later hb q6).kept kV12 (by omega), (V11.out.2.2.2.2.1.later hb q7).kept kV12 (by omega), (V11.out.2.2.2.2.2.1.later hb q8).kept kV12 (by omega), bV12, (V11.out.2.2.2.2.2.2.2.1.later hb q10).kept kV12 (by omega), (V11.out.2.2.2.2.2.2.2.2.1.later hb q11).kept kV12 (by omega), (V11.out.2.2.2.2.2.2.2.2.2.1.later hb q14).kept kV12 (by omega), (V11.out.2.2.2.2.2.2.2.2.2.2.1.later hb q15).kept kV12 (by omega), (V11.out.2.2.2.2.2.2.2.2.2.2.2.1.later hb q16).kept kV12 (by omega), (V11.out.2.2.2.2.2.2.2.2.2.2.2.2.1.later hb q17).kept kV12 (by omega), (V11.out.2.2.2.2.2.2.2.2.2.2.2.2.2.1.later hb q18).kept kV12 (by omega), (V11.out.2.2.2.2.2.2.2.2.2.2.2.2.2.2.1.later hb q19).kept kV12 (by omega), (V11.out.2.2.2.2.2.2.2.2.2.2.2.2.2.2.2.1.later hb q20).kept kV12 (by omega), (V11.out.2.2.2.2.2.2.2.2.2.2.2.2.2.2.2.2.1.later hb q21).kept kV12 (by omega), (V11.out.2.2.2.2.2.2.2.2.2.2.2.2.2.2.2.2.2.1.later hb q22).kept kV12 (by omega), (V11.out.2.2.2.2.2.2.2.2.2.2.2.2.2.2.2.2.2.2.1.later hb q23).kept kV12 (by omega), (V11.out.2.2.2.2.2.2.2.2.2.2.2.2.2.2.2.2.2.2.2.1.later hb q24).kept kV12 (by omega), by omega⟩
                    clear hb bV12 sV12 kV12
                    go_wp2_with (first | ((with_reducible show wpList _ _ _ (({ dst := some 104, op := _, type := _, pos := _, after := _, guard := _ } : Oper) :: _) _ _); refine wpList_load_blk rfl 140 _ rfl G10 rfl (i64s q10) _ V12.out.2.2.2.2.2.2.2.1 Try.underlying140 rfl (LN.out _ (H_q10.out).len) ?_) | ((with_reducible show wpList _ _ _ (({ dst := some 105, op := _, type := _, pos := _, after := _, guard := _ } : Oper) :: _) _ _); refine wpList_load_blk rfl 140 _ rfl G8 rfl (i64s q8) _ V12.out.2.2.2.2.2.1 Try.underlying140 rfl (LN.out _ (H_q8.out).len) ?_) | ((with_reducible show wpList _ _ _ (({ dst := none, op := .store _ (.tmp 8) (.tmp 104), type := _, pos := _, after := _, guard := _ } : Oper) :: _) _ _); refine wpList_store_blk rfl 140 140 _ _ rfl G8 rfl _ (i64s q10) rfl V12.out.2.2.2.2.2.1 (by rw [i64s_length, i64s_length, (H_q10.out).len, (H_q8.out).len]) (LN.out _ (H_q10.out).len) (i64s_one _) ?_; intro yh1 bh1 sh1 kh1) | ((with_reducible show wpList _ _ _ (({ dst := none, op := .store _ (.tmp 10) (.tmp 105), type := _, pos := _, after := _, guard := _ } : Oper) :: _) _ _); refine wpList_store_blk rfl 140 140 _ _ rfl G10 rfl _ (i64s q8) rfl (V12.out.2.2.2.2.2.2.2.1.kept kh1 (by have ol := OL.out; omega)) (by rw [i64s_length, i64s_length, (H_q8.out).len, (H_q10.out).len]) (LN.out _ (H_q8.out).len) (i64s_one _) ?_; intro yh2 bh2 sh2 kh2) | ((with_reducible show wpList _ _ _ (({ dst := some 106, op := _, type := _, pos := _, after := _, guard := _ } : Oper) :: _) _ _); refine wpList_load_blk rfl 140 _ rfl G11 rfl (i64s q11) _ ((V12.out.2.2.2.2.2.2.2.2.1.kept kh1 (by have ol := OL.out; omega)).kept kh2 (by have ol := OL.out; omega)) Try.underlying140 rfl (LN.out _ (H_q11.out).len) ?_) | ((with_reducible show wpList _ _ _ (({ dst := some 107, op := _, type := _, pos := _, after := _, guard := _ } : Oper) :: _) _ _); refine wpList_load_blk rfl 140 _ rfl G9 rfl (i64s q9) _ ((V12.out.2.2.2.2.2.2.1.kept kh1 (by have ol := OL.out; omega)).kept kh2 (by have ol := OL.out; omega)) Try.underlying140 rfl (LN.out _ (H_q9.out).len) ?_) | ((with_reducible show wpList _ _ _ (({ dst := none, op := .store _ (.tmp 9) (.tmp 106), type := _, pos := _, after := _, guard := _ } : Oper) :: _) _ _); refine wpList_store_blk rfl 140 140 _ _ rfl G9 rfl _ (i64s q11) rfl ((V12.out.2.2.2.2.2.2.1.kept kh1 (by have ol := OL.out; omega)).kept kh2 (by have ol := OL.out; omega)) (by rw [i64s_length, i64s_length, (H_q11.out).len, (H_q9.out).len]) (LN.out _ (H_q11.out).len) (i64s_one _) ?_; intro yh3 bh3 sh3 kh3) | ((with_reducible show wpList _ _ _ (({ dst := none, op := .store _ (.tmp 11) (.tmp 107), type := _, pos := _, after := _, guard := _ } : Oper) :: _) _ _); refine wpList_store_blk rfl 140 140 _ _ rfl G11 rfl _ (i64s q9) rfl (((V12.out.2.2.2.2.2.2.2.2.1.kept kh1 (by have ol := OL.out; omega)).kept kh2 (by have ol := OL.out; omega)).kept kh3 (by have ol := OL.out; omega)) (by rw [i64s_length, i64s_length, (H_q9.out).len, (H_q11.out).len]) (LN.out _ (H_q9.out).len) (i64s_one _) ?_; intro yh4 bh4 sh4 kh4))
                    have V13 : Hid (Below w.heap.size w yh4 ∧ Blk yh4 (w.heap.size + 1 + 1) 140 (i64s (List.replicate 16 0)) ∧ Blk yh4 (w.heap.size + 1 + 1 + 1) 140 (i64s (List.replicate 16 0)) ∧ Blk yh4 gn 58 (u8s ns) ∧ Blk yh4 gx 140 (i64s lu) ∧ Blk yh4 G8 140 (i64s q10) ∧ Blk yh4 G9 140 (i64s q11) ∧ Blk yh4 G10 140 (i64s q8) ∧ Blk yh4 G11 140 (i64s q9) ∧ Blk yh4 G14 140 (i64s p14) ∧ Blk yh4 G15 140 (i64s p15) ∧ Blk yh4 G16 140 (i64s p16) ∧ Blk yh4 G17 140 (i64s p17) ∧ Blk yh4 G18 140 (i64s p18) ∧ Blk yh4 G19 140 (i64s p19) ∧ Blk yh4 G20 140 (i64s p20) ∧ Blk yh4 G21 140 (i64s p21) ∧ Blk yh4 G22 140 (i64s p22) ∧ Blk yh4 G23 140 (i64s p23) ∧ Blk yh4 G24 140 (i64s p24) ∧ (wr.heap.size ≤ yh4.heap.size ∧ wr.heap.size ≤ G14 ∧ wr.heap.size ≤ G15 ∧ wr.heap.size ≤ G16 ∧ wr.heap.size ≤ G17 ∧ wr.heap.size ≤ G18 ∧ wr.heap.size ≤ G19 ∧ wr.heap.size ≤ G20 ∧ wr.heap.size ≤ G21 ∧ wr.heap.size ≤ G22 ∧ wr.heap.size ≤ G23 ∧ wr.heap.size ≤ G24)) := by
                      have qw := V12.out.1.size
                      have qa := V12.out.2.2.2.2.2.2.2.2.2.2.2.2.2.2.2.2.2.2.2.2
                      have ol := OL.out
                      have qr1 := V12.out.2.1.lt
                      have qr2 := V12.out.2.2.1.lt
                      have q6 := V12.out.2.2.2.1.lt
                      have q7 := V12.out.2.2.2.2.1.lt
                      have q8 := V12.out.2.2.2.2.2.1.lt
                      have q9 := V12.out.2.2.2.2.2.2.1.lt
                      have q10 := V12.out.2.2.2.2.2.2.2.1.lt
                      have q11 := V12.out.2.2.2.2.2.2.2.2.1.lt
                      have q14 := V12.out.2.2.2.2.2.2.2.2.2.1.lt
                      have q15 := V12.out.2.2.2.2.2.2.2.2.2.2.1.lt
                      have q16 := V12.out.2.2.2.2.2.2.2.2.2.2.2.1.lt
                      have q17 := V12.out.2.2.2.2.2.2.2.2.2.2.2.2.1.lt
                      have q18 := V12.out.2.2.2.2.2.2.2.2.2.2.2.2.2.1.lt
                      have q19 := V12.out.2.2.2.2.2.2.2.2.2.2.2.2.2.2.1.lt
                      have q20 := V12.out.2.2.2.2.2.2.2.2.2.2.2.2.2.2.2.1.lt
                      have q21 := V12.out.2.2.2.2.2.2.2.2.2.2.2.2.2.2.2.2.1.lt
                      have q22 := V12.out.2.2.2.2.2.2.2.2.2.2.2.2.2.2.2.2.2.1.lt
                      have q23 := V12.out.2.2.2.2.2.2.2.2.2.2.2.2.2.2.2.2.2.2.1.lt
                      have q24 := V12.out.2.2.2.2.2.2.2.2.2.2.2.2.2.2.2.2.2.2.2.1.lt
                      exact ⟨(below_kept (below_kept (below_kept (below_kept V12.out.1 kh1 (by omega) (fun j hj => by omega)) kh2 (by omega) (fun j hj => by omega)) kh3 (by omega) (fun j hj => by omega)) kh4 (by omega) (fun j hj => by omega)), ((((V12.out.2.1.kept kh1 (by omega)).kept kh2 (by omega)).kept kh3 (by omega)).kept kh4 (by omega)), ((((V12.out.2.2.1.kept kh1 (by omega)).kept kh2 (by omega)).kept kh3 (by omega)).kept kh4 (by omega)), ((((V12.out.2.2.2.1.kept kh1 (by omega)).kept kh2 (by omega)).kept kh3 (by omega)).kept kh4 (by omega)), ((((V12.out.2.2.2.2.1.kept kh1 (by omega)).kept kh2 (by omega)).kept kh3 (by omega)).kept kh4 (by omega)), (((bh1.kept kh2 (by omega)).kept kh3 (by omega)).kept kh4 (by omega)), (bh3.kept kh4 (by omega)), ((bh2.kept kh3 (by omega)).kept kh4 (by omega)), bh4, ((((V12.out.2.2.2.2.2.2.2.2.2.1.kept kh1 (by omega)).kept kh2 (by omega)).kept kh3 (by omega)).kept kh4 (by omega)), ((((V12.out.2.2.2.2.2.2.2.2.2.2.1.kept kh1 (by omega)).kept kh2 (by omega)).kept kh3 (by omega)).kept kh4 (by omega)), ((((V12.out.2.2.2.2.2.2.2.2.2.2.2.1.kept kh1 (by omega)).kept kh2 (by omega)).kept kh3 (by omega)).kept kh4 (by omega)), ((((V12.out.2.2.2.2.2.2.2.2.2.2.2.2.1.kept kh1 (by omega)).kept kh2 (by omega)).kept kh3 (by omega)).kept kh4 (by omega)), ((((V12.out.2.2.2.2.2.2.2.2.2.2.2.2.2.1.kept kh1 (by omega)).kept kh2 (by omega)).kept kh3 (by omega)).kept kh4 (by omega)), ((((V12.out.2.2.2.2.2.2.2.2.2.2.2.2.2.2.1.kept kh1 (by omega)).kept kh2 (by omega)).kept kh3 (by omega)).kept kh4 (by omega)), ((((V12.out.2.2.2.2.2.2.2.2.2.2.2.2.2.2.2.1.kept kh1 (by omega)).kept kh2 (by omega)).kept kh3 (by omega)).kept kh4 (by omega)), ((((V12.out.2.2.2.2.2.2.2.2.2.2.2.2.2.2.2.2.1.kept kh1 (by omega)).kept kh2 (by omega)).kept kh3 (by omega)).kept kh4 (by omega)), ((((V12.out.2.2.2.2.2.2.2.2.2.2.2.2.2.2.2.2.2.1.kept kh1 (by omega)).kept kh2 (by omega)).kept kh3 (by omega)).kept kh4 (by omega)), ((((V12.out.2.2.2.2.2.2.2.2.2.2.2.2.2.2.2.2.2.2.1.kept kh1 (by omega)).kept kh2 (by omega)).kept kh3 (by omega)).kept kh4 (by omega)), ((((V12.out.2.2.2.2.2.2.2.2.2.2.2.2.2.2.2.2.2.2.2.1.kept kh1 (by omega)).kept kh2 (by omega)).kept kh3 (by omega)).kept kh4 (by omega)), by omega⟩
                    clear bh1 sh1 kh1 bh2 sh2 kh2 bh3 sh3 kh3 bh4 sh4 kh4
                    try simp only [Act.put, List.setIfInBounds_toArray, List.set_cons_zero, List.set_cons_succ]
                    go_roundw
                    case rel => exact ⟨t, q10, q11, q8, q9, by omega, by go_num, (by rw [← HL1.out]; exact ⟨H_q10.out, H_q11.out, H_q8.out, H_q9.out⟩), ⟨V13.out.1, V13.out.2.1, V13.out.2.2.1, V13.out.2.2.2.1, V13.out.2.2.2.2.1, V13.out.2.2.2.2.2.1, V13.out.2.2.2.2.2.2.1, V13.out.2.2.2.2.2.2.2.1, V13.out.2.2.2.2.2.2.2.2.1⟩⟩
                    case measure => show (_ : Nat) < _; simp only [intOf]; omega
      · obtain rfl : m = 0 := by omega
        have i1 : ¬ (0 ≤ (((0 : Nat) : Int) - 1)) := by omega
        have HF : Hid (Nd4 a b c d (ladI u n 255)) := hF
        clear hF hm hlt
        go_wp2_with fail
        refine wp_region_noPanic (wp_region_held_drew (S := fun W => Blk W G8 140 (i64s a) ∧ Blk W G9 140 (i64s b)) (by kernel_rfl) ⟨(HV.out.2.2.2.2.2.1).drew, (HV.out.2.2.2.2.2.2.1).drew⟩ (fun hH => ?_))
        refine hLoad 0 (some 108) (i64s a) rfl rfl (by kernel_rfl) (by kernel_rfl) (by kernel_rfl) (fun _ _ _ h => h) (by rfl) 140 (.tmp 8) rfl G8 0 rfl _ (fun _ h => (h.1).whole) Try.underlying140 rfl (LN.out _ HF.out.a.len) hH ?_
        simp only [Act.put, List.setIfInBounds_toArray, List.set_cons_zero, List.set_cons_succ]
        refine hLoad 1 (some 109) (i64s b) rfl rfl (by kernel_rfl) (by kernel_rfl) (by kernel_rfl) (fun _ _ _ h => h) (by rfl) 140 (.tmp 9) rfl G9 0 rfl _ (fun _ h => (h.2).whole) Try.underlying140 rfl (LN.out _ HF.out.b.len) hH ?_
        simp only [Act.put, List.setIfInBounds_toArray, List.set_cons_zero, List.set_cons_succ]
        refine wpAnyH_ready (rs := [2]) (by kernel_rfl) (by simp) (AllReadyH.cons rfl (fun K hK => ?_) AllReadyH.nil)
        rw [if_pos (by rfl)]
        refine last_store 140 (.tmp 4) (.tmp 108) rfl rfl (w.heap.size + 1 + 1) rfl 140 _ (i64s a) rfl (HV.out.2.1).drew (by rw [i64s_length, HF.out.a.len]; rfl) (LN.out _ HF.out.a.len) (i64s_one _) ?_
        intro y0 b0 s0 k0
        refine hK.out _ _ ⟨(hH.1).kept k0 (by have oa := OA.out; omega), (hH.2).kept k0 (by have oa := OA.out; omega)⟩ (fun hH => ?_)
        clear hK K
        refine wpAnyH_ready (rs := [3]) (by kernel_rfl) (by simp) (AllReadyH.cons rfl (fun K hK => ?_) AllReadyH.nil)
        rw [if_pos (by rfl)]
        refine last_store 140 (.tmp 5) (.tmp 109) rfl rfl (w.heap.size + 1 + 1 + 1) rfl 140 _ (i64s b) rfl ((HV.out.2.2.1).drew.kept k0 (by have oa := OA.out; omega)) (by rw [i64s_length, HF.out.b.len]; rfl) (LN.out _ HF.out.b.len) (i64s_one _) ?_
        intro y1 b1 s1 k1
        refine hK.out _ _ ⟨(hH.1).kept k1 (by have oa := OA.out; omega), (hH.2).kept k1 (by have oa := OA.out; omega)⟩ (fun hH => ?_)
        clear hK K
        refine wpAnyH_done (by kernel_rfl) (NoPanic.normal ?_) _
        clear hH
        go_wp2_with fail
        exact ret_blk2 rfl (w.heap.size + 1 + 1) (w.heap.size + 1 + 1 + 1) (i64s a) (i64s b) _ _ rfl rfl (b0.kept k1 (by omega)) b1 Try.underlying140 Try.underlying140 rfl rfl (LN.out _ HF.out.a.len) (LN.out _ HF.out.b.len) rfl ⟨a, b, rfl, HF.out.a, HF.out.b, below_kept (below_kept (below_dn HV.out.1 1) k0 HV.out.1.size (fun j hj => by omega)) k1 (by rw [s0]; exact HV.out.1.size) (fun j hj => by omega)⟩
end Go.Proofs.Ytnifolefhelmcaa
