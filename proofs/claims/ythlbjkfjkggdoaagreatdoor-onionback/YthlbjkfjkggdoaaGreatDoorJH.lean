/- Joined by program: what the theorem reaches. -/
import Derived.Test.YthlbjkfjkggdoaaGreatDoorJA
import Derived.Test.YthlbjkfjkggdoaaGreatDoorJD
import Derived.Test.YthlbjkfjkggdoaaGreatDoorJF
import Derived.Test.YthlbjkfjkggdoaaGreatDoorJG
namespace Go.Proofs.YthlbjkfjkggdoaaGreatDoor
open Go.RowKit
set_option linter.unusedVariables false
set_option linter.unusedSimpArgs false
set_option maxRecDepth 20000
set_option maxHeartbeats 8000000
theorem key_any (px pz : List Int) (x z : Int) (h1 : Fe px x) (h2 : Fe pz z) (w : World) :
  Calls Tryz.prog 82 #[.agg (rt px pz).toArray] w fun e w' => e = .returned (.agg (u8s (leB 32 (x * (inv z) % PR))).toArray) ∧ Below w.heap.size w w' := by
 have HP : Hid (Fe px x ∧ Fe pz z) := ⟨h1, h2⟩
 have L5 : Hid (∀ l : List Int, l.length = 5 → (Tryz.prog.info? 116).map (·.size) = some (u64s l).length) := fun l h => by rw [u64s_length, h]; exact sizeElem
 clear h1 h2
 go_enter Tryz.func82, Tryz.ntmps82
 go_wp2_with (first | (refine wpList_box_new rfl 120 (.tmp 0) rfl (rt px pz) rfl ?_; intro w1 b1 s1 l1) | (refine wpList_alloc_new rfl 23 rfl 32 _ zeroKey ?_; intro w2 b2 s2 l2))
 have e1 : w1.heap.size = w.heap.size + 1 := s1
 rw [e1] at b2
 have V : Hid (Below w.heap.size w w2 ∧ Blk w2 w.heap.size 120 (rt px pz) ∧ Blk w2 (w.heap.size + 1) 23 (u8s (List.replicate 32 0))) := ⟨below_chain l1 l2 (by omega), b1.later l2 (by omega), b2⟩
 simp only [Act.put, sA, sB, sC, e1]
 clear b1 s1 l1 b2 s2 l2 e1
 refine region_invT ((.val (.pointer (some ⟨w.heap.size, 0, none⟩))) :: (.val (.agg (u64s px).toArray)) :: (.val (.pointer (some ⟨w.heap.size, 5, none⟩))) :: (.val (.agg (u64s pz).toArray)) :: (.any (isF (inv z)) (isF_later (inv z))) :: (.any (isF (x * (inv z) % PR)) (isF_later (x * (inv z) % PR))) :: (.val (.agg (u8s (leB 32 (x * (inv z) % PR))).toArray)) :: []) (by kernel_rfl) (by kernel_rfl) (by kernel_rfl) ?_ ?_
 ·refine Steps'.cons ?_ (Steps'.cons ?_ (Steps'.cons ?_ (Steps'.cons ?_ (Steps'.cons ?_ (Steps'.cons ?_ (Steps'.cons ?_ (Steps'.one _ _ _ _ _ _ _)))))))
  ·intro ax wx hb hs hd
   have h1 : ax.tmps.getD 1 undef = (.pointer (some ⟨w.heap.size, 0, none⟩)) := hs 1 (by kernel_rfl)
   exact Does.value _ (by clear hs hd; go_simp) rfl
  ·intro ax wx hb hs hd
   have h3 := vOf (hd 0 3 rfl (by kernel_rfl) (by decide))
   exact Does.load 116 (.tmp 3) rfl w.heap.size 0 h3 (u64s px) _ (((Blk.later V.out.2.1 hb (Blk.lt V.out.2.1))).fst) Tryz.underlying116 rfl (L5.out _ HP.out.1.len)
  ·intro ax wx hb hs hd
   have h1 : ax.tmps.getD 1 undef = (.pointer (some ⟨w.heap.size, 0, none⟩)) := hs 1 (by kernel_rfl)
   exact Does.value _ (by clear hs hd; go_simp) rfl
  ·intro ax wx hb hs hd
   have h5 := vOf (hd 2 5 rfl (by kernel_rfl) (by decide))
   exact Does.load 116 (.tmp 5) rfl w.heap.size 5 h5 (u64s pz) _ (((Blk.later V.out.2.1 hb (Blk.lt V.out.2.1))).snd HP.out.1.len) Tryz.underlying116 rfl (L5.out _ HP.out.2.len)
  ·intro ax wx hb hs hd
   have h6 := vOf (hd 3 6 rfl (by kernel_rfl) (by decide))
   refine Does.call 130 #[(.agg (u64s pz).toArray)] (by clear hs hd; go_simp) ?_
   refine (finv_any _ _ HP.out.2 _).mono ?_
   rintro z w' ⟨r, rfl, fr, l⟩
   exact ⟨_, rfl, ⟨r, rfl, fr⟩, l⟩
  ·intro ax wx hb hs hd
   have h4 := vOf (hd 1 4 rfl (by kernel_rfl) (by decide))
   obtain ⟨l7, h7, f7⟩ : isF (inv z) (ax.tmps.getD 7 undef) wx := hd 4 7 rfl (by kernel_rfl) (by decide)
   refine Does.call 127 #[(.agg (u64s px).toArray), (.agg (u64s l7).toArray)] (by clear hs hd; go_simp) ?_
   refine (mul_any _ _ _ _ HP.out.1 f7 _).mono ?_
   rintro z w' ⟨r, rfl, fr, l⟩
   exact ⟨_, rfl, ⟨r, rfl, fr⟩, l⟩
  ·intro ax wx hb hs hd
   obtain ⟨l8, h8, f8⟩ : isF (x * (inv z) % PR) (ax.tmps.getD 8 undef) wx := hd 5 8 rfl (by kernel_rfl) (by decide)
   refine Does.call 131 #[(.agg (u64s l8).toArray)] (by clear hs hd; go_simp) ?_
   refine (fbytes_any _ _ f8 _).mono ?_
   rintro z w' ⟨rfl, l⟩
   exact ⟨_, rfl, rfl, l⟩
 ·intro wx hb
  iterate 4 refine @Ends.val _ _ _ _ _ _ _ _ _ _ rfl ?_
  refine @Ends.any _ _ _ _ _ _ _ _ _ (isF (inv z)) (isF_later (inv z)) rfl ?_
  intro v4 p4
  refine @Ends.any _ _ _ _ _ _ _ _ _ (isF (x * (inv z) % PR)) (isF_later (x * (inv z) % PR)) rfl ?_
  intro v5 p5
  refine @Ends.val _ _ _ _ _ _ _ _ _ (.agg (u8s (leB 32 (x * (inv z) % PR))).toArray) rfl ?_
  refine @Ends.one _ _ _ _ _ _ _ ?_
  simp only [Act.put, sA, sB, sC]
  have HN : Hid ((u8s (leB 32 (x * (inv z) % PR))).length = 32) := by show (u8s (leB 32 (x * (inv z) % PR))).length = 32; rw [u8s_length, leB_length]
  refine last_store 23 (.tmp 2) (.tmp 9) rfl rfl (w.heap.size + 1) rfl 23 _ (u8s (leB 32 (x * (inv z) % PR))) rfl (V.out.2.2.later hb V.out.2.2.lt) (by rw [HN.out]; rfl) (by rw [HN.out]; exact ksizeKey) (u8s_one _) ?_
  intro y6 b6 s6 k6
  have q1 := V.out.1.size
  have q2 := hb.size
  go_wp2_with fail
  exact ret_blk rfl (w.heap.size + 1) (u8s (leB 32 (x * (inv z) % PR))) _ rfl b6 Tryz.underlying23 rfl (by rw [HN.out]; exact ksizeKey) rfl ⟨rfl, below_kept (below_chain V.out.1 hb q1) k6 (by omega) (fun j hj => by omega)⟩
theorem lmul_any (ks us : List Int) (hk : ks.length = 32) (bk : Bytes ks) (hu : us.length = 32) (bu : Bytes us) (w : World) :
  Calls Tryz.prog 40 #[.agg (u8s ks).toArray, .agg (u8s us).toArray] w fun e w' => e = .returned (.agg (u8s (prodL ks us)).toArray) ∧ Below w.heap.size w w' := by
 have HC := clamp_any ks hk bk
 have HO := fof_any us hu bu
 have HN : Hid ((clampL ks).length = 32 ∧ Bytes (clampL ks) ∧ EC.Cl (le (clampL ks)).toNat ∧ ks.length = 32 ∧ us.length = 32 ∧ pubN us = le us % 57896044618658097711785492504343953926634992332820282019728792003956564819968 % PR) := ⟨by rw [clampL_length]; exact hk, clampL_bytes ks bk hk, cl_of ks hk bk, hk, hu, rfl⟩
 have hpn : le us % 57896044618658097711785492504343953926634992332820282019728792003956564819968 % PR = pubN us := rfl
 rw [hpn] at HO
 unfold prodL prodN
 obtain ⟨u, hu2⟩ : ∃ z, pubN us = z := ⟨_, rfl⟩
 rw [hu2] at HO ⊢
 obtain ⟨n, hn⟩ : ∃ z, (le (clampL ks)).toNat = z := ⟨_, rfl⟩
 rw [hn] at HN ⊢
 obtain ⟨ns, hns⟩ : ∃ z, clampL ks = z := ⟨_, rfl⟩
 rw [hns] at HC HN hn
 have HM : Hid ((le ns).toNat = n) := hn
 have HCl : Hid (∀ w, Calls Tryz.prog 77 #[.agg (u8s ks).toArray] w fun e w' => e = .returned (.agg (u8s ns).toArray) ∧ Below w.heap.size w w') := HC
 have HOf : Hid (∀ w, Calls Tryz.prog 78 #[.agg (u8s us).toArray] w fun e w' => ∃ r, e = .returned (.agg (u64s r).toArray) ∧ Fe r u ∧ Below w.heap.size w w') := HO
 have L5 : Hid (∀ l : List Int, l.length = 5 → (Tryz.prog.info? 116).map (·.size) = some (u64s l).length) := fun l h => by rw [u64s_length, h]; exact sizeElem
 have L10 : Hid (∀ a b : List Int, a.length = 5 → b.length = 5 → (Tryz.prog.info? 120).map (·.size) = some (rt a b).length) := fun a b ha hb => by rw [rt_length ha hb]; exact sizeRatio
 have L32 : Hid (∀ l : List Int, l.length = 32 → (Tryz.prog.info? 23).map (·.size) = some (u8s l).length) := fun l h => by rw [u8s_length, h]; exact ksizeKey
 have HB : Hid ((u8s (leB 32 (mulI n u))).length = 32) := by show (u8s (leB 32 (mulI n u))).length = 32; rw [u8s_length, leB_length]
 clear hk bk hu bu hu2 hn hns HC HO hpn
 go_enter Tryz.func40, Tryz.ntmps40
 go_wp2_with (first | (refine wpList_box_new rfl 23 (.tmp 0) rfl (u8s ks) rfl ?_; intro w0 b0 s0 l0) | (refine wpList_box_new rfl 23 (.tmp 1) rfl (u8s us) rfl ?_; intro w1 b1 s1 l1) | (refine wpList_alloc_new rfl 23 rfl 32 _ zeroKey ?_; intro w2 b2 s2 l2))
 have e1 : w0.heap.size = w.heap.size + 1 := s0
 have e2 : w1.heap.size = w.heap.size + 1 + 1 := by omega
 rw [e1] at b1
 rw [e2] at b2
 have V0 : Hid (Below w.heap.size w w2 ∧ Blk w2 w.heap.size 23 (u8s ks) ∧ Blk w2 (w.heap.size + 1) 23 (u8s us) ∧ Blk w2 (w.heap.size + 1 + 1) 23 (u8s (List.replicate 32 0))) := ⟨below_chain (below_chain l0 l1 (by omega)) l2 (by omega), (b0.later l1 (by omega)).later l2 (by omega), b1.later l2 (by omega), b2⟩
 simp only [Act.put, sA, sB, sC, e1, e2]
 clear b0 s0 l0 b1 s1 l1 b2 s2 l2 e1 e2
 refine region_invP 6 ((.val (.agg (u8s ks).toArray)) :: (.val (.agg (u8s ns).toArray)) :: (.val (.agg (u8s us).toArray)) :: (.any (isF u) (isF_later u)) :: (.blk 23 (u8s (List.replicate 32 0))) :: (.blk 116 (u64s [0, 0, 0, 0, 0])) :: []) (by kernel_rfl) (by kernel_rfl) (by kernel_rfl) [5, 6] ⟨.inl rfl, .inl rfl, .inl rfl, .inl rfl, .inr ⟨23, _, 32, rfl, rfl, zeroKey⟩, .inr ⟨116, _, 5, rfl, rfl, zeroElem⟩, trivial⟩ (by kernel_rfl) ?_ ?_
 ·refine Steps'.cons ?_ (Steps'.cons ?_ (Steps'.cons ?_ (Steps'.cons ?_ (Steps'.cons ?_ (Steps'.cons ?_ (Steps'.one _ _ _ _ _ _ _))))))
  ·intro ax wx hb hs hd
   have h2 : ax.tmps.getD 2 undef = (.pointer (some ⟨w.heap.size, 0, none⟩)) := hs 2 (by kernel_rfl)
   exact Does.load 23 (.tmp 2) rfl w.heap.size 0 h2 (u8s ks) _ ((Blk.later V0.out.2.1 hb (Blk.lt V0.out.2.1)).whole) Tryz.underlying23 rfl (L32.out _ HN.out.2.2.2.1)
  ·intro ax wx hb hs hd
   have h12 := vOf (hd 0 12 rfl (by kernel_rfl) (by decide))
   refine Does.call 77 #[(.agg (u8s ks).toArray)] (by clear hs hd; go_simp) ?_
   refine (HCl.out _).mono ?_
   rintro z w' ⟨rfl, l⟩
   exact ⟨_, rfl, rfl, l⟩
  ·intro ax wx hb hs hd
   have h3 : ax.tmps.getD 3 undef = (.pointer (some ⟨(w.heap.size + 1), 0, none⟩)) := hs 3 (by kernel_rfl)
   exact Does.load 23 (.tmp 3) rfl (w.heap.size + 1) 0 h3 (u8s us) _ ((Blk.later V0.out.2.2.1 hb (Blk.lt V0.out.2.2.1)).whole) Tryz.underlying23 rfl (L32.out _ HN.out.2.2.2.2.1)
  ·intro ax wx hb hs hd
   have h14 := vOf (hd 2 14 rfl (by kernel_rfl) (by decide))
   refine Does.call 78 #[(.agg (u8s us).toArray)] (by clear hs hd; go_simp) ?_
   refine (HOf.out _).mono ?_
   rintro z w' ⟨r, rfl, fr, l⟩
   exact ⟨_, rfl, ⟨r, rfl, fr⟩, l⟩
  ·intro ax wx hb hs hd
   exact Does.alloc 23 rfl 32 _ zeroKey hb.size
  ·intro ax wx hb hs hd
   exact Does.alloc 116 rfl 5 _ zeroElem hb.size
 ·intro wx hb
  iterate 3 refine @EndsP.val _ _ _ _ _ _ _ _ _ rfl ?_
  refine @EndsP.any _ _ _ _ _ _ _ _ (isF u) (isF_later u) rfl ?_
  intro v3 p3
  refine @EndsP.blk _ _ _ _ _ _ _ _ 23 (u8s (List.replicate 32 0)) rfl ?_
  intro g4 hg4 bg4
  refine @EndsP.blk _ _ _ _ _ _ _ _ 116 (u64s [0, 0, 0, 0, 0]) rfl ?_
  intro g5 hg5 bg5
  intro hD nf hn
  obtain ⟨mf, rfl⟩ : ∃ mf, nf = mf + 2 := ⟨nf - 2, by have h3 : 2 ≤ nf := hn; omega⟩
  obtain ⟨lu, rfl, F_lu⟩ := p3
  have d01 : g4 ≠ g5 := fun e => hD 5 (by simp) 6 (by simp) (by decide) (by subst e; kernel_rfl)
  clear hD hn
  simp only [Act.put, sA, sB, sC]
  refine wpAny_ready (rs := [6]) (by kernel_rfl) (by simp) (AllReady.cons rfl (fun K hK => ?_) AllReady.nil)
  rw [if_pos (by rfl)]
  refine last_store 23 (.tmp 5) (.tmp 13) rfl rfl g4 rfl 23 _ (u8s ns) rfl bg4 (by rw [u8s_length, HN.out.1]; rfl) (L32.out _ HN.out.1) (u8s_one _) ?_
  intro w3 b3 s3 k3
  refine hK _ _ ?_
  refine wpAny_ready (rs := [7]) (by kernel_rfl) (by simp) (AllReady.cons rfl (fun K hK => ?_) AllReady.nil)
  rw [if_pos (by rfl)]
  refine last_store 116 (.tmp 6) (.tmp 15) rfl rfl g5 rfl 116 _ (u64s lu) rfl (bg5.kept k3 (by omega)) (by rw [u64s_length, F_lu.len]; rfl) (L5.out _ F_lu.len) (u64s_one _) ?_
  intro w4 b4 s4 k4
  refine hK _ _ ?_
  refine wpAny_done (by kernel_rfl) (NoPanic.normal ?_) _
  have V1 : Hid (Below w.heap.size w w4 ∧ Blk w4 (w.heap.size + 1 + 1) 23 (u8s (List.replicate 32 0)) ∧ Blk w4 g4 23 (u8s ns) ∧ Blk w4 g5 116 (u64s lu) ∧ w.heap.size + 1 + 1 < g4 ∧ w.heap.size + 1 + 1 < g5) := by
   have q0 := V0.out.1.size
   have q1 := V0.out.2.2.2.lt
   have q2 := hb.size
   exact ⟨below_kept (below_kept (below_chain V0.out.1 hb (by omega)) k3 (by omega) (fun j hj => by omega)) k4 (by omega) (fun j hj => by omega), ((V0.out.2.2.2.later hb V0.out.2.2.2.lt).kept k3 (by omega)).kept k4 (by omega), b3.kept k4 (by omega), b4, by omega, by omega⟩
  obtain ⟨gn, rfl⟩ : ∃ q, q = g4 := ⟨_, rfl⟩
  obtain ⟨gx, rfl⟩ : ∃ q, q = g5 := ⟨_, rfl⟩
  have H_lu : Hid (Fe lu u) := F_lu
  clear F_lu V0 hb b3 s3 k3 b4 s4 k4 d01 bg4 hg4 bg5 hg5
  try simp only [Act.put, sA, sB, sC]
  go_wp2_with (first | ((with_reducible show Calls _ _ #[.int .u64 1] _ _); refine (small_any 1 (by decide) (by decide) _).mono ?_; rintro e w5 ⟨o1, rfl, F_o1, l5⟩) | ((with_reducible show Calls _ _ #[.int .u64 0] _ _); refine (small_any 0 (by decide) (by decide) _).mono ?_; rintro e w6 ⟨o0, rfl, F_o0, l6⟩) | (refine wpList_build rfl 120 _ rfl #[(0, .agg (u64s o1).toArray), (1, .agg (u64s o0).toArray)] (by simp [Act.eval]) _ (build_rat o1 o0 F_o1.len F_o0.len _) ?_) | ((with_reducible show wpList _ _ _ (({ dst := some 7, op := _, type := _, pos := _, after := _, guard := _ } : Oper) :: _) _ _); refine wpList_alloc_new rfl 120 rfl 10 _ zeroRatio ?_; intro w7 b7 s7 l7) | (refine wpList_store_blk rfl 120 120 _ _ rfl _ rfl _ (rt o1 o0) rfl b7 (by rw [rt_length F_o1.len F_o0.len]; rfl) (L10.out _ _ F_o1.len F_o0.len) (rt_one _ _) ?_; intro w8 b8 s8 k8))
  obtain ⟨gl, hgl⟩ : ∃ q, w6.heap.size = q := ⟨_, rfl⟩
  rw [hgl] at b7 b8 k8 ⊢
  have V2 : Hid (Below w.heap.size w w8 ∧ Blk w8 (w.heap.size + 1 + 1) 23 (u8s (List.replicate 32 0)) ∧ Blk w8 gn 23 (u8s ns) ∧ Blk w8 gx 116 (u64s lu) ∧ Blk w8 gl 120 (rt o1 o0) ∧ w.heap.size + 1 + 1 < gn ∧ w.heap.size + 1 + 1 < gx ∧ w.heap.size + 1 + 1 < gl) := by
   obtain ⟨a1, a2, a3, a4, a5, a6⟩ := V1.out
   have q1 := l5.size
   have q2 := l6.size
   have q3 := a2.lt
   have q4 := a3.lt
   have q5 := a4.lt
   have q6 := a1.size
   have q7 := l7.size
   exact ⟨below_kept (below_chain (below_chain (below_chain a1 l5 (by omega)) l6 (by omega)) l7 (by omega)) k8 (by omega) (fun j hj => by omega), (((a2.later l5 (by omega)).later l6 (by omega)).later l7 (by omega)).kept k8 (by omega), (((a3.later l5 (by omega)).later l6 (by omega)).later l7 (by omega)).kept k8 (by omega), (((a4.later l5 (by omega)).later l6 (by omega)).later l7 (by omega)).kept k8 (by omega), b8, a5, a6, by omega⟩
  have H_o : Hid (Fe o1 1 ∧ Fe o0 0) := ⟨F_o1, F_o0⟩
  clear F_o1 F_o0 V1 l5 l6 b7 s7 l7 b8 s8 k8 hgl
  simp only [Act.put, sA, sB, sC]
  refine region_invP 4 ((.val (.agg (u64s lu).toArray)) :: (.any (isF 1) (isF_later 1)) :: (.any (isR u 1) (isR_later u 1)) :: (.blk 120 (rt [0, 0, 0, 0, 0] [0, 0, 0, 0, 0])) :: []) (by kernel_rfl) (by kernel_rfl) (by kernel_rfl) [] ⟨.inl rfl, .inl rfl, .inl rfl, .inl rfl, trivial⟩ (by kernel_rfl) ?_ ?_
  ·refine Steps'.cons ?_ (Steps'.cons ?_ (Steps'.cons ?_ (Steps'.cons ?_ (Steps'.one _ _ _ _ _ _ _))))
   ·intro ax wx hb hs hd
    have h6 : ax.tmps.getD 6 undef = (.pointer (some ⟨gx, 0, none⟩)) := hs 6 (by kernel_rfl)
    exact Does.load 116 (.tmp 6) rfl gx 0 h6 (u64s lu) _ (Blk.later V2.out.2.2.2.1 hb (Blk.lt V2.out.2.2.2.1)).whole Tryz.underlying116 rfl (L5.out _ H_lu.out.len)
   ·intro ax wx hb hs hd
    refine Does.call 79 #[(.int .u64 1)] (by clear hs hd; go_simp) ?_
    refine (small_any 1 (by decide) (by decide) _).mono ?_
    rintro z w' ⟨r, rfl, fr, l⟩
    exact ⟨_, rfl, ⟨r, rfl, fr⟩, l⟩
   ·intro ax wx hb hs hd
    have h19 := vOf (hd 0 19 rfl (by kernel_rfl) (by decide))
    obtain ⟨l20, h20, f20⟩ : isF 1 (ax.tmps.getD 20 undef) wx := hd 1 20 rfl (by kernel_rfl) (by decide)
    exact does_rat (.tmp 19) (.tmp 20) rfl lu l20 h19 h20 _ _ H_lu.out f20
   ·intro ax wx hb hs hd
    exact Does.alloc 120 rfl 10 _ zeroRatio hb.size
  ·intro wx hb
   refine @EndsP.val _ _ _ _ _ _ _ _ (.agg (u64s lu).toArray) rfl ?_
   refine @EndsP.any _ _ _ _ _ _ _ _ (isF 1) (isF_later 1) rfl ?_
   intro v1 p1
   refine @EndsP.any _ _ _ _ _ _ _ _ (isR u 1) (isR_later u 1) rfl ?_
   intro v2 p2
   refine @EndsP.blk _ _ _ _ _ _ _ _ 120 (rt [0, 0, 0, 0, 0] [0, 0, 0, 0, 0]) rfl ?_
   intro g3 hg3 bg3
   intro hD nf hn
   obtain ⟨mf, rfl⟩ : ∃ mf, nf = mf + 1 := ⟨nf - 1, by have h3 : 1 ≤ nf := hn; omega⟩
   clear hD hn
   obtain ⟨t1, t2, rfl, F_t1, F_t2⟩ := p2
   simp only [Act.put, sA, sB, sC]
   refine wpAny_ready (rs := [4]) (by kernel_rfl) (by simp) (AllReady.cons rfl (fun K hK => ?_) AllReady.nil)
   rw [if_pos (by rfl)]
   refine last_store 120 (.tmp 8) (.tmp 21) rfl rfl g3 rfl 120 _ (rt t1 t2) rfl bg3 (by rw [rt_length F_t1.len F_t2.len]; rfl) (L10.out _ _ F_t1.len F_t2.len) (rt_one _ _) ?_
   intro wz b9 s9 k9
   refine hK _ _ ?_
   refine wpAny_done (by kernel_rfl) (NoPanic.normal ?_) _
   clear hK
   have V3 : Hid (Below w.heap.size w wz ∧ Blk wz (w.heap.size + 1 + 1) 23 (u8s (List.replicate 32 0)) ∧ Blk wz gn 23 (u8s ns) ∧ Blk wz gx 116 (u64s lu) ∧ Blk wz gl 120 (rt o1 o0) ∧ Blk wz g3 120 (rt t1 t2) ∧ w.heap.size + 1 + 1 < gn ∧ w.heap.size + 1 + 1 < gx ∧ w.heap.size + 1 + 1 < gl ∧ gl < g3) := by
    obtain ⟨a1, a2, a3, a4, a5, a6, a7, a8⟩ := V2.out
    have q1 := hb.size
    have q3 := a2.lt
    have q4 := a3.lt
    have q5 := a4.lt
    have q8 := a5.lt
    have q6 := a1.size
    exact ⟨below_kept (below_chain a1 hb (by omega)) k9 (by omega) (fun j hj => by omega), (a2.later hb (by omega)).kept k9 (by omega), (a3.later hb (by omega)).kept k9 (by omega), (a4.later hb (by omega)).kept k9 (by omega), (a5.later hb (by omega)).kept k9 (by omega), b9, a6, a7, a8, by omega⟩
   obtain ⟨gu, rfl⟩ : ∃ q, q = g3 := ⟨_, rfl⟩
   have H_t : Hid (Fe t1 u ∧ Fe t2 1) := ⟨F_t1, F_t2⟩
   clear F_t1 F_t2 V2 b9 s9 k9 hb bg3 hg3 p1
   try simp only [Act.put, sA, sB, sC]
   go_wp2_with fail
   go_loopw [9, 10] (fun s i wr => ∃ (m : Nat) (S : Int) (q : Bool) (a b c d : List Int), m ≤ 255 ∧ i = .int .i64 ((m : Int) - 1) ∧ s = .int .u64 S ∧ (Word S ∧ (S % 2 == 1) = q ∧ (m < 255 → q = n.testBit m) ∧ (m = 255 → q = false)) ∧ Fe4 a b c d (swI q (ladI u n (255 - m))) ∧ Blk wr gl 120 (rt a b) ∧ Blk wr gu 120 (rt c d) ∧ Kept (fun k => k = gl ∨ k = gu) wz wr) (fun _ i _ => ((intOf i) + 1).toNat)
   case atStart => exact ⟨255, 0, false, o1, o0, t1, t2, by omega, rfl, rfl, ⟨⟨by decide, by decide⟩, rfl, by omega, fun _ => rfl⟩, ⟨H_o.out.1, H_o.out.2, H_t.out.1, H_t.out.2⟩, V3.out.2.2.2.2.1, V3.out.2.2.2.2.2.1, Kept.refl _ _⟩
   case round =>
    obtain ⟨m, S, q, a, b, c, d, hm, rfl, rfl, hS, hF, hbl, hbu, hkp⟩ := hrel
    by_cases hlt : 0 < m
    ·obtain ⟨t, rfl⟩ : ∃ t, m = t + 1 := ⟨m - 1, by omega⟩
     have i0 : (((t + 1 : Nat) : Int) - 1) = (t : Int) := by omega
     rw [i0]
     obtain ⟨Q, hq⟩ : ∃ Q : Nat, t / 8 = Q := ⟨_, rfl⟩
     obtain ⟨f, hf⟩ : ∃ f : Nat, t % 8 = f := ⟨_, rfl⟩
     have ht : t < 255 := by omega
     have hq32 : Q < 32 := by omega
     have hf8 : f < 8 := by omega
     obtain ⟨X, hXX⟩ : ∃ z, ns.getD Q 0 = z := ⟨_, rfl⟩
     have hX : 0 ≤ X ∧ X < 256 := by have := HN.out.2.1.at Q (by rw [HN.out.1]; exact hq32); omega
     have cE : wr.cell? ⟨gn, Q, none⟩ = some (.int .u8 X) := by
      have := V3.out.2.2.1.kept hkp (fun h => by rcases h with h | h; exact blk_ne V3.out.2.2.1 V3.out.2.2.2.2.1 (by decide) h; exact blk_ne V3.out.2.2.1 V3.out.2.2.2.2.2.1 (by decide) h)
      rw [u8s_cell this Q (by rw [HN.out.1]; exact hq32), hXX]
     have j2 : Int.tdiv (t : Int) 8 = (Q : Int) := by rw [Int.tdiv_eq_ediv_of_nonneg (by omega)]; omega
     have j3 : Int.tmod (t : Int) 8 = (f : Int) := by rw [Int.tmod_eq_emod_of_nonneg (by omega)]; omega
     have j4 : (Q : Int) < 32 := by omega
     have j5 : (0 : Int) ≤ (Q : Int) := by omega
     have j7 : (0 : Int) ≤ (f : Int) := by omega
     have j9 : (0 : Int) ≤ (t : Int) := by omega
     have hD : 0 ≤ X / 2 ^ f ∧ X / 2 ^ f < 256 := by
      have : f = 0 ∨ f = 1 ∨ f = 2 ∨ f = 3 ∨ f = 4 ∨ f = 5 ∨ f = 6 ∨ f = 7 := by omega
      rcases this with rfl | rfl | rfl | rfl | rfl | rfl | rfl | rfl <;> simp only [Int.reducePow] <;> omega
     have hpar : (X / 2 ^ f % 2 == 1) = n.testBit t := by
      have h := bit_of ns HN.out.1 HN.out.2.1 t (by omega)
      rw [hq, hf, hXX, HM.out] at h
      rw [h, tb_of]
     have j8 : IntKind.u64.wrap (X / 2 ^ f) = X / 2 ^ f := by rw [IntKind.wrap_u64]; omega
     obtain ⟨Y, hY⟩ : ∃ z, bits .xor .u64 S (X / 2 ^ f) = z := ⟨_, rfl⟩
     have hYp := xor_par S (X / 2 ^ f) hS.1 ⟨hD.1, by omega⟩
     rw [hY, hS.2.1, hpar] at hYp
     have HSW := lswap_any Y hYp.1 a b c d _ _ _ _ hF.a hF.b hF.c hF.d
     rw [hYp.2] at HSW
     obtain ⟨B, hB⟩ : ∃ z, X / 2 ^ f = z := ⟨_, rfl⟩
     have HR : Hid (∃ a' b' c' d', (bif (q != n.testBit t) then rt c d else rt a b) = rt a' b' ∧ (bif (q != n.testBit t) then rt a b else rt c d) = rt c' d' ∧ Fe4 a' b' c' d' (swI (n.testBit t) (ladI u n (255 - (t + 1))))) := by
      have e := swI_swI q (n.testBit t) (ladI u n (255 - (t + 1)))
      cases hx : (q != n.testBit t)
      ·rw [hx] at e
       exact ⟨a, b, c, d, rfl, rfl, by rw [← e]; exact hF⟩
      ·rw [hx] at e
       exact ⟨c, d, a, b, rfl, rfl, by rw [← e]; exact ⟨hF.c, hF.d, hF.a, hF.b⟩⟩
     obtain ⟨a', b', c', d', ha', hc', hF'⟩ := HR.out
     rw [ha', hc'] at HSW
     have HST := step_any lu a' b' c' d' u _ _ _ _ H_lu.out hF'.a hF'.b hF'.c hF'.d
     rw [swI_step] at HST
     have hl1 : bstI u (n.testBit t) (ladI u n (255 - (t + 1))) = ladI u n (255 - t) := by
      rw [show 255 - t = 255 - (t + 1) + 1 by omega]
      show _ = bstI u (n.testBit (255 - 1 - (255 - (t + 1)))) (ladI u n (255 - (t + 1)))
      rw [show 255 - 1 - (255 - (t + 1)) = t by omega]
     rw [hl1] at HST
     rw [hB] at hY j8 hD hpar
     have HQ : Hid (Blk wr gl 120 (rt a b) ∧ Blk wr gu 120 (rt c d) ∧ Kept (fun k => k = gl ∨ k = gu) wz wr ∧ (a.length = 5 ∧ b.length = 5 ∧ c.length = 5 ∧ d.length = 5) ∧ (a'.length = 5 ∧ b'.length = 5 ∧ c'.length = 5 ∧ d'.length = 5) ∧ Word B ∧ (B % 2 == 1) = n.testBit t ∧ gl < gu ∧ (gx ≠ gl ∧ gx ≠ gu)) := ⟨hbl, hbu, hkp, ⟨hF.a.len, hF.b.len, hF.c.len, hF.d.len⟩, ⟨hF'.a.len, hF'.b.len, hF'.c.len, hF'.d.len⟩, ⟨hD.1, by omega⟩, hpar, V3.out.2.2.2.2.2.2.2.2.2, blk_ne V3.out.2.2.2.1 V3.out.2.2.2.2.1 (by decide), blk_ne V3.out.2.2.2.1 V3.out.2.2.2.2.2.1 (by decide)⟩
     clear hbl hbu hkp hF hF' hS hpar hYp ha' hc' HR hXX hq hf hl1 hm hlt i0 hD hX
     go_wp2_with (first | ((with_reducible show wpList _ _ _ (({ dst := some 38, op := _, type := _, pos := _, after := _, guard := _ } : Oper) :: _) _ _); refine wpList_load_blk rfl 120 (.tmp 7) rfl gl rfl (rt a b) _ HQ.out.1 Tryz.underlying120 rfl (L10.out _ _ HQ.out.2.2.2.1.1 HQ.out.2.2.2.1.2.1) ?_) | ((with_reducible show wpList _ _ _ (({ dst := some 39, op := _, type := _, pos := _, after := _, guard := _ } : Oper) :: _) _ _); refine wpList_load_blk rfl 120 (.tmp 8) rfl gu rfl (rt c d) _ HQ.out.2.1 Tryz.underlying120 rfl (L10.out _ _ HQ.out.2.2.2.1.2.2.1 HQ.out.2.2.2.1.2.2.2) ?_) | (go_at_call 80; refine (HSW _).mono ?_; rintro e x1 ⟨rfl, l1⟩) | (refine wpList_store_blk rfl 120 120 (.tmp 7) (.tmp 41) rfl gl rfl _ (rt a' b') rfl (HQ.out.1.later l1 HQ.out.1.lt) (by rw [rt_length HQ.out.2.2.2.2.1.1 HQ.out.2.2.2.2.1.2.1, rt_length HQ.out.2.2.2.1.1 HQ.out.2.2.2.1.2.1]) (L10.out _ _ HQ.out.2.2.2.2.1.1 HQ.out.2.2.2.2.1.2.1) (rt_one _ _) ?_; intro x2 b2 s2 k2) | (refine wpList_store_blk rfl 120 120 (.tmp 8) (.tmp 42) rfl gu rfl _ (rt c' d') rfl ((HQ.out.2.1.later l1 HQ.out.2.1.lt).kept k2 (by have := HQ.out.2.2.2.2.2.2.2.1; omega)) (by rw [rt_length HQ.out.2.2.2.2.1.2.2.1 HQ.out.2.2.2.2.1.2.2.2, rt_length HQ.out.2.2.2.1.2.2.1 HQ.out.2.2.2.1.2.2.2]) (L10.out _ _ HQ.out.2.2.2.2.1.2.2.1 HQ.out.2.2.2.2.1.2.2.2) (rt_one _ _) ?_; intro x3 b3 s3 k3; have V5 : Hid (Blk x3 gl 120 (rt a' b') ∧ Blk x3 gu 120 (rt c' d') ∧ Blk x3 gx 116 (u64s lu) ∧ Kept (fun k => k = gl ∨ k = gu) wz x3) := ⟨b2.kept k3 (by have := HQ.out.2.2.2.2.2.2.2.1; omega), b3, (((V3.out.2.2.2.1.kept HQ.out.2.2.1 (by have := HQ.out.2.2.2.2.2.2.2.2; omega)).later l1 (by have := (V3.out.2.2.2.1.kept HQ.out.2.2.1 (by have := HQ.out.2.2.2.2.2.2.2.2; omega)).lt; omega)).kept k2 HQ.out.2.2.2.2.2.2.2.2.1).kept k3 HQ.out.2.2.2.2.2.2.2.2.2, ((HQ.out.2.2.1.trans (Kept.new _ l1)).trans (k2.mono (fun k h => .inl h))).trans (k3.mono (fun k h => .inr h))⟩; clear b2 s2 k2 b3 s3 k3 l1) | ((with_reducible show wpList _ _ _ (({ dst := some 45, op := _, type := _, pos := _, after := _, guard := _ } : Oper) :: _) _ _); refine wpList_load_blk rfl 116 (.tmp 6) rfl gx rfl (u64s lu) _ V5.out.2.2.1 Tryz.underlying116 rfl (L5.out _ H_lu.out.len) ?_) | ((with_reducible show wpList _ _ _ (({ dst := some 46, op := _, type := _, pos := _, after := _, guard := _ } : Oper) :: _) _ _); refine wpList_load_blk rfl 120 (.tmp 7) rfl gl rfl (rt a' b') _ V5.out.1 Tryz.underlying120 rfl (L10.out _ _ HQ.out.2.2.2.2.1.1 HQ.out.2.2.2.2.1.2.1) ?_) | ((with_reducible show wpList _ _ _ (({ dst := some 47, op := _, type := _, pos := _, after := _, guard := _ } : Oper) :: _) _ _); refine wpList_load_blk rfl 120 (.tmp 8) rfl gu rfl (rt c' d') _ V5.out.2.1 Tryz.underlying120 rfl (L10.out _ _ HQ.out.2.2.2.2.1.2.2.1 HQ.out.2.2.2.2.1.2.2.2) ?_) | (go_at_call 81; refine (HST _).mono ?_; rintro e x4 ⟨r1, r2, r3, r4, rfl, ⟨F1, F2, F3, F4⟩, l4⟩) | (refine wpList_store_blk rfl 120 120 (.tmp 7) (.tmp 49) rfl gl rfl _ (rt r1 r2) rfl (V5.out.1.later l4 V5.out.1.lt) (by rw [rt_length F1.len F2.len, rt_length HQ.out.2.2.2.2.1.1 HQ.out.2.2.2.2.1.2.1]) (L10.out _ _ F1.len F2.len) (rt_one _ _) ?_; intro x5 b5 s5 k5) | (refine wpList_store_blk rfl 120 120 (.tmp 8) (.tmp 50) rfl gu rfl _ (rt r3 r4) rfl ((V5.out.2.1.later l4 V5.out.2.1.lt).kept k5 (by have := HQ.out.2.2.2.2.2.2.2.1; omega)) (by rw [rt_length F3.len F4.len, rt_length HQ.out.2.2.2.2.1.2.2.1 HQ.out.2.2.2.2.1.2.2.2]) (L10.out _ _ F3.len F4.len) (rt_one _ _) ?_; intro x6 b6 s6 k6))
     go_roundw
     case rel => exact ⟨t, B, n.testBit t, r1, r2, r3, r4, by omega, by go_num, rfl, ⟨HQ.out.2.2.2.2.2.1, HQ.out.2.2.2.2.2.2.1, fun _ => rfl, fun h => by omega⟩, ⟨F1, F2, F3, F4⟩, b5.kept k6 (by have := HQ.out.2.2.2.2.2.2.2.1; omega), b6, ((V5.out.2.2.2.trans (Kept.new _ l4)).trans (k5.mono (fun k h => .inl h))).trans (k6.mono (fun k h => .inr h))⟩
     case measure => simp [intOf]
    ·have hm0 : m = 0 := by omega
     subst hm0
     have hq0 : q = false := by
      rw [hS.2.2.1 (by omega), Nat.testBit_zero]
      have := HN.out.2.2.1.by8
      exact decide_eq_false (by omega)
     subst hq0
     have i1 : ¬ (0 ≤ (((0 : Nat) : Int) - 1)) := by omega
     have HK := key_any a b _ _ hF.a hF.b
     have hmul : (swI false (ladI u n (255 - 0))).1 * inv (swI false (ladI u n (255 - 0))).2.1 % PR = mulI n u := rfl
     rw [hmul] at HK
     have HQ : Hid (Blk wr gl 120 (rt a b) ∧ Kept (fun k => k = gl ∨ k = gu) wz wr ∧ a.length = 5 ∧ b.length = 5) := ⟨hbl, hkp, hF.a.len, hF.b.len⟩
     clear hbl hbu hkp hF hS hmul hm hlt
     go_wp2_with (first | ((with_reducible show wpList _ _ _ (({ dst := some 51, op := _, type := _, pos := _, after := _, guard := _ } : Oper) :: _) _ _); refine wpList_load_blk rfl 120 (.tmp 7) rfl gl rfl (rt a b) _ HQ.out.1 Tryz.underlying120 rfl (L10.out _ _ HQ.out.2.2.1 HQ.out.2.2.2) ?_) | (go_at_call 82; refine (HK _).mono ?_; rintro e x1 ⟨rfl, l1⟩; have V6 : Hid (Below w.heap.size w x1 ∧ Blk x1 (w.heap.size + 1 + 1) 23 (u8s (List.replicate 32 0))) := (by obtain ⟨a1, a2, a3, a4, a5, a6, a7, a8, a9, a10⟩ := V3.out; have h1 := a2.kept HQ.out.2.1 (by omega); exact ⟨below_chain (below_kept a1 HQ.out.2.1 a1.size (fun j hj => by omega)) l1 (by have := HQ.out.2.1.size; have := a1.size; omega), h1.later l1 h1.lt⟩); clear l1) | (refine wpList_store_blk rfl 23 23 (.tmp 4) (.tmp 52) rfl _ rfl _ (u8s (leB 32 (mulI n u))) rfl V6.out.2 (by rw [HB.out]; rfl) (by rw [HB.out]; exact ksizeKey) (u8s_one _) ?_; intro y7 b7 s7 k7))
     exact ret_blk rfl (w.heap.size + 1 + 1) (u8s (leB 32 (mulI n u))) _ rfl b7 Tryz.underlying23 rfl (by rw [HB.out]; exact ksizeKey) rfl ⟨rfl, below_kept V6.out.1 k7 V6.out.1.size (fun j hj => by omega)⟩
def nineL : List Int := 9 :: List.replicate 31 0
theorem build_nine (w : World) : (Instr.build 23 #[(0, .int .u8 9)]).run Tryz.prog w = .ok (.agg (u8s nineL).toArray) w := by kernel_rfl
theorem nine_len : nineL.length = 32 := rfl
theorem nine_bytes : Bytes nineL := fun z hz => by
 simp only [nineL, List.mem_cons, List.mem_replicate] at hz
 omega
theorem nine_pub : pubN nineL = 9 := by decide +kernel
theorem base_any (ks : List Int) (hk : ks.length = 32) (bk : Bytes ks) (w : World) :
  Calls Tryz.prog 39 #[.agg (u8s ks).toArray] w fun e w' => e = .returned (.agg (u8s (prodL ks nineL)).toArray) ∧ Below w.heap.size w w' := by
 have HM := lmul_any ks nineL hk bk nine_len nine_bytes
 have HL : Hid ((u8s (prodL ks nineL)).length = 32 ∧ (Tryz.prog.info? 23).map (·.size) = some (u8s ks).length) := ⟨by rw [u8s_length, prodL_length], by rw [u8s_length, hk]; exact ksizeKey⟩
 obtain ⟨rs, hr⟩ : ∃ z, prodL ks nineL = z := ⟨_, rfl⟩
 rw [hr] at HM HL ⊢
 clear hk bk hr
 go_enter Tryz.func39, Tryz.ntmps39
 go_wp2_with (first | (refine wpList_box_new rfl 23 (.tmp 0) rfl (u8s ks) rfl ?_; intro w1 b1 s1 l1) | (refine wpList_alloc_new rfl 23 rfl 32 _ zeroKey ?_; intro w2 b2 s2 l2) | (refine wpList_load_blk rfl 23 (.tmp 1) rfl w.heap.size rfl (u8s ks) _ (b1.later l2 (by omega)) Tryz.underlying23 rfl HL.out.2 ?_) | (refine wpList_build rfl 23 _ rfl #[(0, .int .u8 9)] (by simp [Act.eval]) _ (build_nine _) ?_) | (go_at_call 40; refine (HM _).mono ?_; rintro e w3 ⟨rfl, l3⟩) | (refine wpList_store_blk rfl 23 23 _ _ rfl (w.heap.size + 1) rfl _ (u8s rs) rfl (by rw [s1] at b2; exact b2.later l3 (by omega)) (by rw [HL.out.1]; rfl) (by rw [HL.out.1]; exact ksizeKey) (u8s_one _) ?_; intro y7 b7 s7 k7))
 exact ret_blk rfl (w.heap.size + 1) (u8s rs) _ rfl b7 Tryz.underlying23 rfl (by rw [HL.out.1]; exact ksizeKey) rfl ⟨rfl, below_kept (below_chain (below_chain l1 l2 (by omega)) l3 (by omega)) k7 (by have := l3.size; omega) (fun j hj => by omega)⟩
def validN (ks us : List Int) : Int := mk (!(prodN ks us == 0))
theorem agree_any (ks us : List Int) (hk : ks.length = 32) (bk : Bytes ks) (hu : us.length = 32) (bu : Bytes us) (w : World) :
  Calls Tryz.prog 96 #[.agg (u8s ks).toArray, .agg (u8s us).toArray] w fun e w' => e = .returned (.tuple #[.agg (u8s (prodL ks us)).toArray, .int .u64 (validN ks us)]) ∧ Below w.heap.size w w' := by
 have HM := lmul_any ks us hk bk hu bu
 have HO := fof_any (prodL ks us) (prodL_length _ _) (prodL_bytes _ _)
 have hp : le (prodL ks us) % 57896044618658097711785492504343953926634992332820282019728792003956564819968 % PR = prodN ks us := pub_prod ks us
 rw [hp] at HO
 have HL : Hid ((u8s (prodL ks us)).length = 32 ∧ (Tryz.prog.info? 23).map (·.size) = some (u8s ks).length ∧ (Tryz.prog.info? 23).map (·.size) = some (u8s us).length) := ⟨by rw [u8s_length, prodL_length], by rw [u8s_length, hk]; exact ksizeKey, by rw [u8s_length, hu]; exact ksizeKey⟩
 have HZ := fun l hl => fzero_any l (prodN ks us) hl
 have hN := not_mk (prodN ks us == 0)
 unfold validN
 obtain ⟨rs, hr⟩ : ∃ z, prodL ks us = z := ⟨_, rfl⟩
 rw [hr] at HM HL HO ⊢
 obtain ⟨M, hM⟩ : ∃ z, mk (prodN ks us == 0) = z := ⟨_, rfl⟩
 obtain ⟨V, hV⟩ : ∃ z, mk (!(prodN ks us == 0)) = z := ⟨_, rfl⟩
 rw [hV] at hN ⊢
 rw [hM] at HZ hN
 obtain ⟨x, hx⟩ : ∃ z, prodN ks us = z := ⟨_, rfl⟩
 rw [hx] at HO HZ
 clear hk bk hr hp hM hV hu bu hx
 go_enter Tryz.func96, Tryz.ntmps96
 go_wp2_with (first | (refine wpList_box_new rfl 23 (.tmp 0) rfl (u8s ks) rfl ?_; intro w1 b1 s1 l1) | (refine wpList_box_new rfl 23 (.tmp 1) rfl (u8s us) rfl ?_; intro w2 b2 s2 l2) | ((with_reducible show wpList _ _ _ (({ dst := some 4, op := _, type := _, pos := _, after := _, guard := _ } : Oper) :: _) _ _); refine wpList_alloc_new rfl 23 rfl 32 _ zeroKey ?_; intro w3 b3 s3 l3; rw [s1] at b2; rw [s2, s1] at b3) | ((with_reducible show wpList _ _ _ (({ dst := some 7, op := _, type := _, pos := _, after := _, guard := _ } : Oper) :: _) _ _); refine wpList_load_blk rfl 23 (.tmp 2) rfl w.heap.size rfl (u8s ks) _ ((b1.later l2 (by omega)).later l3 (by omega)) Tryz.underlying23 rfl HL.out.2.1 ?_) | ((with_reducible show wpList _ _ _ (({ dst := some 8, op := _, type := _, pos := _, after := _, guard := _ } : Oper) :: _) _ _); refine wpList_load_blk rfl 23 (.tmp 3) rfl (w.heap.size + 1) rfl (u8s us) _ (b2.later l3 (by omega)) Tryz.underlying23 rfl HL.out.2.2 ?_) | (go_at_call 40; refine (HM _).mono ?_; rintro e w4 ⟨rfl, l4⟩) | ((with_reducible show wpList _ _ _ (({ dst := some 6, op := _, type := _, pos := _, after := _, guard := _ } : Oper) :: _) _ _); refine wpList_alloc_new rfl 23 rfl 32 _ zeroKey ?_; intro w5 b5 s5 l5) | (refine wpList_store_blk rfl 23 23 (.tmp 6) _ rfl _ rfl _ (u8s rs) rfl b5 (by rw [HL.out.1]; rfl) (by rw [HL.out.1]; exact ksizeKey) (u8s_one _) ?_; intro w6 b6 s6 k6))
 obtain ⟨gs, hgs⟩ : ∃ q, w4.heap.size = q := ⟨_, rfl⟩
 have hsz : w3.heap.size = w.heap.size + 1 + 1 + 1 := by omega
 have W : Hid (Below w.heap.size w w6 ∧ Blk w6 gs 23 (u8s rs) ∧ Blk w6 (w.heap.size + 1 + 1) 23 (u8s (List.replicate 32 0)) ∧ w.heap.size + 1 + 1 < gs) := by
  have q1 := l4.size
  have q2 := l5.size
  rw [hgs] at b6 k6
  exact ⟨below_kept (below_chain (below_chain (below_chain (below_chain l1 l2 (by omega)) l3 (by omega)) l4 (by omega)) l5 (by omega)) k6 (by omega) (fun j hj => by omega), b6, ((b3.later l4 (by omega)).later l5 (by omega)).kept k6 (by omega), by omega⟩
 rw [hgs]
 clear b1 s1 l1 b2 s2 l2 b3 s3 l3 l4 b5 s5 l5 b6 s6 k6 hgs hsz
 simp only [Act.put, sA, sB, sC]
 refine wp_region_noPanic (wp_region_held_drew (S := fun W => Blk W gs 23 (u8s rs)) (by kernel_rfl) (W.out.2.1.drew) (fun hH => ?_))
 refine hLoad 0 (some 10) (u8s rs) rfl rfl (by kernel_rfl) (by kernel_rfl) (by kernel_rfl) (fun _ _ _ h => h) (by rfl) 23 (.tmp 6) rfl gs 0 rfl _ (fun _ h => h.whole) Tryz.underlying23 rfl (by rw [HL.out.1]; exact ksizeKey) hH ?_
 simp only [Act.put, sA, sB, sC]
 refine hLoad 1 (some 11) (u8s rs) rfl rfl (by kernel_rfl) (by kernel_rfl) (by kernel_rfl) (fun _ _ _ h => h) (by rfl) 23 (.tmp 6) rfl gs 0 rfl _ (fun _ h => h.whole) Tryz.underlying23 rfl (by rw [HL.out.1]; exact ksizeKey) hH ?_
 simp only [Act.put, sA, sB, sC]
 refine wpAnyH_ready (rs := [2]) (by kernel_rfl) (by simp) (AllReadyH.cons rfl (fun K hK => ?_) AllReadyH.nil)
 go_simp
 go_wp2_with (go_at_call 78; refine (HO _).mono ?_; rintro e x1 ⟨lr, rfl, F1, l1⟩; have L1 : Hid (Below w6.drew.heap.size w6.drew x1) := l1; clear l1)
 refine hK.out _ _ (W.out.2.1.drew.later L1.out W.out.2.1.lt) (fun hH => ?_)
 clear hK K
 have HZ1 := HZ lr F1
 refine wpAnyH_ready (rs := [3]) (by kernel_rfl) (by simp) (AllReadyH.cons rfl (fun K hK => ?_) AllReadyH.nil)
 go_simp
 go_wp2_with (go_at_call 151; refine (HZ1 _).mono ?_; rintro e x2 ⟨rfl, l2⟩; have L2 : Hid (Below w6.drew.heap.size w6.drew x2) := below_chain L1.out l2 L1.out.size; clear l2)
 refine hK.out _ _ (W.out.2.1.drew.later L2.out W.out.2.1.lt) (fun hH => ?_)
 clear hK K
 refine hTake 4 (some 14) (.int .u64 V) rfl rfl (by kernel_rfl) (by kernel_rfl) (by kernel_rfl) (fun _ _ _ h => h) (by rfl) (fun W' hS' => by go_simp; exact hN) hH ?_
 simp only [Act.put, sA, sB, sC]
 refine wpAnyH_ready (rs := [5]) (by kernel_rfl) (by simp) (AllReadyH.cons rfl (fun K hK => ?_) AllReadyH.nil)
 rw [if_pos (by rfl)]
 have Y0 : Hid (Blk x2 (w.heap.size + 1 + 1) 23 (u8s (List.replicate 32 0)) ∧ Below w.heap.size w x2) := ⟨W.out.2.2.1.drew.later L2.out W.out.2.2.1.lt, below_chain (below_dn W.out.1 1) L2.out W.out.1.size⟩
 refine last_store 23 (.tmp 4) (.tmp 10) rfl rfl (w.heap.size + 1 + 1) rfl 23 _ (u8s rs) rfl Y0.out.1 (by rw [HL.out.1]; rfl) (by rw [HL.out.1]; exact ksizeKey) (u8s_one _) ?_
 intro y0 c0 t0 k0
 refine hK.out _ _ (hH.kept k0 (by have := W.out.2.2.2; omega)) (fun hH => ?_)
 clear hK K
 refine hTake 6 (some 5) (.int .u64 V) rfl rfl (by kernel_rfl) (by kernel_rfl) (by kernel_rfl) (fun _ _ _ h => h) (by rfl) (fun W' hS' => by rfl) hH ?_
 simp only [Act.put, sA, sB, sC]
 refine wpAnyH_done (by kernel_rfl) (NoPanic.normal ?_) _
 clear hH
 go_wp2_with fail
 exact ret_blkt rfl (w.heap.size + 1 + 1) (u8s rs) _ _ rfl rfl c0 Tryz.underlying23 rfl (by rw [HL.out.1]; exact ksizeKey) rfl ⟨rfl, below_kept Y0.out.2 k0 Y0.out.2.size (fun j hj => by omega)⟩
theorem prod_meet (ps bs us : List Int) (ha : ps.length = 32) (hab : Bytes ps) (hb : bs.length = 32) (hbb : Bytes bs) : prodL ps (prodL bs us) = prodL bs (prodL ps us) := by
 unfold prodL prodN
 rw [pub_leB _ (mulI_bd _ _), pub_leB _ (mulI_bd _ _), meetI _ _ _ (cl_of ps ha hab) (cl_of bs hb hbb)]
theorem prod_strong (ps bs : List Int) (ha : ps.length = 32) (hab : Bytes ps) (hb : bs.length = 32) (hbb : Bytes bs) : prodN ps (prodL bs nineL) ≠ 0 := by
 unfold prodN
 rw [pub_prod]
 unfold prodN
 rw [nine_pub]
 exact secretI _ _ (cl_of ps ha hab) (cl_of bs hb hbb)
theorem valid_yes {ks us : List Int} (h : prodN ks us ≠ 0) : validN ks us = 18446744073709551615 := by
 unfold validN
 rw [show (prodN ks us == 0) = false by simpa using h]; rfl
end Go.Proofs.YthlbjkfjkggdoaaGreatDoor
