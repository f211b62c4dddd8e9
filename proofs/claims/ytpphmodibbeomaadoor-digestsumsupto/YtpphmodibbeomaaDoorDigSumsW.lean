/- The walk of DigestSums. -/
import Derived.Test.YtpphmodibbeomaaDoorDSpareR
import Derived.Test.YtpphmodibbeomaaDoorRDSum
import Derived.Test.YtpphmodibbeomaaDoorDHeld
namespace Go.Proofs.YtpphmodibbeomaaDoor.digestSums
open Go.RowKit
set_option linter.unusedVariables false
set_option linter.unusedSimpArgs false

theorem xor8_bd (a b : Int) : 0 ≤ bits .xor .u8 a b ∧ bits .xor .u8 a b < 256 := by
  show 0 ≤ IntKind.u8.wrap _ ∧ IntKind.u8.wrap _ < 256
  simp only [IntKind.wrap, IntKind.bits, IntKind.signed]
  simp
  omega
theorem flat_sum (pss : List (List Int)) : pss.flatten.length = (pss.map List.length).sum := List.length_flatten
theorem set_flat (pss : List (List Int)) (i : Nat) (r : List Int) (hi : i < pss.length) (hr : r.length = (pss.getD i []).length) : (pss.set i r).flatten.length = pss.flatten.length := by
  rw [flat_sum, flat_sum, List.map_set]
  congr 1
  apply List.ext_getElem?
  intro j
  by_cases h : i = j
  · subst h
    simp [hi, hr, List.getD]
  · simp [h]
theorem spared_set (zs : List Int) (k : Nat) (hk : k < zs.length) (z : Int) : (spared zs).set k z = spared (zs.set k z) := by
  rw [spared, List.set_append_left _ _ hk, spared, List.length_set]
theorem getD_set_self (pss : List (List Int)) (i : Nat) (r : List Int) (hi : i < pss.length) : (pss.set i r).getD i [] = r := by simp [List.getD, hi]
theorem getD_set_ne (pss : List (List Int)) (i j : Nat) (r : List Int) (h : i ≠ j) : (pss.set i r).getD j [] = pss.getD j [] := by simp [List.getD, h]
theorem bytes_set (zs : List Int) (k : Nat) (z : Int) (h : Bytes zs) (hz : 0 ≤ z ∧ z < 256) : Bytes (zs.set k z) := fun y hy => by
  rcases List.mem_or_eq_of_mem_set hy with h1 | rfl
  · exact h y h1
  · exact hz
/-- One byte of one of the lists is written. -/
theorem spareL_set {w : World} {O n : Nat} {pss : List (List Int)} (h : SpareL w O n pss) (i k : Nat) (hi : i < n) (hk : k < (pss.getD i []).length) (z : Int) (hz : 0 ≤ z ∧ z < 256) :
    SpareL (w.setCell ⟨O + 1 + i, k, none⟩ (.int .u8 z)) O n (pss.set i ((pss.getD i []).set k z)) := by
  have hp : i < pss.length := by rw [h.len]; exact hi
  have hl : ∀ j, ((pss.set i ((pss.getD i []).set k z)).getD j []).length = (pss.getD j []).length := fun j => by
    by_cases e : i = j
    · subst e; rw [getD_set_self _ _ _ hp, List.length_set]
    · rw [getD_set_ne _ _ _ _ e]
  have hh : hdrs O n (pss.set i ((pss.getD i []).set k z)) (n + 3) = hdrs O n pss (n + 3) := by
    unfold hdrs
    congr 1
    funext j
    unfold hdrAt
    rw [hl]
  refine ⟨by rw [List.length_set, h.len], ?_, fun j hj => ?_, fun j hj => ?_⟩
  · rw [hh]; exact h.hd.other (by show O ≠ O + 1 + i; omega) _
  · by_cases e : i = j
    · subst e
      have hr := (h.row i hj).set k (.int .u8 z)
      rw [rowAt, if_pos hi, u8s_set, spared_set _ _ hk] at hr
      rw [rowAt, if_pos hi, getD_set_self _ _ _ hp]
      exact hr
    · have hr := (h.row j hj).other (p := ⟨O + 1 + i, k, none⟩) (by show O + 1 + j ≠ O + 1 + i; omega) (.int .u8 z)
      have e2 : rowAt n (pss.set i ((pss.getD i []).set k z)) j = rowAt n pss j := by unfold rowAt; rw [getD_set_ne _ _ _ _ e]
      rw [e2]; exact hr
  · by_cases e : i = j
    · subst e
      rw [getD_set_self _ _ _ hp, List.length_set]
      exact ⟨bytes_set _ _ _ (h.ok i hj).1 hz, (h.ok i hj).2⟩
    · rw [getD_set_ne _ _ _ _ e]; exact h.ok j hj
theorem seenP_flat {w : World} {ao : Option Addr} {n : Nat} {pss : List (List Int)} (hx : SeenP w ao n pss) : Bytes pss.flatten := by
  have := seenP_bytes hx n (Nat.le_refl _)
  rwa [List.take_of_length_le (by rw [hx.len]; exact Nat.le_refl _)] at this
theorem row_le (pss : List (List Int)) (i : Nat) (hi : i < pss.length) : (pss.getD i []).length ≤ pss.flatten.length := by
  have h1 := flat_succ pss i hi
  have h2 := flat_le pss (i + 1)
  rw [h1, List.length_append] at h2
  omega
set_option maxRecDepth 20000 in
set_option maxHeartbeats 4000000 in
theorem walk (ao : Option Addr) (n c : Nat) (pss : List (List Int)) (w : World) (hx : SeenP w ao n pss) (hn : n ≤ 1048576) (hm : pss.flatten.length ≤ 1048576) (hK : KTab w) :
    Calls Tryd.prog 4 #[.slice ao n c] w fun e w' => e = .returned (.bool true) ∧ Below w.heap.size w w' := by
  obtain ⟨m, hm0⟩ : ∃ m, pss.flatten = m := ⟨_, rfl⟩
  have HX : Hid (SeenP w ao n pss ∧ KTab w ∧ Bytes m) := ⟨hx, hK, by rw [← hm0]; exact seenP_flat hx⟩
  have HM : Hid (m.length ≤ 1048576 ∧ pss.length = n ∧ pss.flatten = m) := ⟨by rw [← hm0]; exact hm, hx.len, hm0⟩
  have q0 := hK.lt
  have heq : ∀ wx, (Op.equalIn 10000 26 (.agg (u8s (sha m)).toArray) (.agg (u8s (sha m)).toArray)).run Tryd.prog wx = .ok true wx := equal_self 9998 (sha m) (sha_length _)
  have HR : Hid (∀ i, i < n → (pss.getD i []).length ≤ 35184372088832) := fun i hi => by have := row_le pss i (by rw [hx.len]; exact hi); omega
  clear hx hm hK hm0
  go_enter Tryd.func4, Tryd.ntmps4
  go_wp2_with fail
  refine (spareR_any ao n c pss w HX.out.1 hn HR.out).mono ?_
  rintro e w1 ⟨rfl, x1, s1, l1⟩
  have X1 : Hid (SpareL w1 w.heap.size n pss ∧ Below w.heap.size w w1 ∧ KTab w1) := ⟨x1, l1, HX.out.2.1.below l1 q0⟩
  clear x1 l1
  go_wp2_with fail
  refine (dsum_any _ n (n + 3) pss w1 X1.out.1.data (by omega) (by rw [HM.out.2.2]; have := HM.out.1; omega) X1.out.2.2).mono ?_
  rintro e w2 ⟨rfl, l2⟩
  rw [HM.out.2.2]
  have X2 : Hid (SpareL w2 w.heap.size n pss ∧ Below w.heap.size w w2) := ⟨X1.out.1.later l2 (Nat.le_refl _), below_chain X1.out.2.1 l2 X1.out.2.1.size⟩
  clear l2
  go_wp2_with (first | (refine wpList_alloc_new rfl 26 rfl 32 _ zeroAH ?_; intro w3 b3 s3 l3) | (refine wpList_store_blk rfl 26 26 _ _ rfl _ rfl _ (u8s (sha m)) rfl b3 (by rw [u8s_length, sha_length, u8s_length, zer_length]) (by rw [u8s_length, sha_length]; exact sizeAH) (u8s_one _) ?_; intro w4 b4 s4 k4))
  have X4 : Hid (SpareL w4 w.heap.size n pss ∧ Below w.heap.size w w4 ∧ KTab w4 ∧ (∀ W, Below w4.heap.size w4 W → W.rangeAt w2.heap.size 0 (u8s (sha m)))) := by
    have k0 : Below w2.heap.size w2 w4 := below_kept l3 k4 (by omega) (fun j hj => by omega)
    have B4 : Below w.heap.size w w4 := below_chain X2.out.2 k0 X2.out.2.size
    exact ⟨X2.out.1.later k0 (Nat.le_refl _), B4, HX.out.2.1.below B4 q0, fun W hW j v hv => by rw [Nat.zero_add, (b4.later hW b4.lt).cell]; exact hv⟩
  have u2 : (Tryd.prog.info? 26).map (·.size) = some (u8s (sha m)).length := by rw [u8s_length, sha_length]; exact sizeAH
  clear b3 s3 l3 b4 s4 k4 s1
  refine wp_region_noPanic (wp_region_held_drew (S := fun W => W.rangeAt w2.heap.size 0 (u8s (sha m))) (by kernel_rfl) (X4.out.2.2.2 _ (below_dn (Below.refl _ _) 1)) (fun hH => ?_))
  refine hLoad 0 (some 12) (u8s (sha m)) rfl rfl (by kernel_rfl) (by kernel_rfl) (by kernel_rfl) (fun _ _ _ h => h) (by rfl) 26 (.tmp 4) rfl w2.heap.size 0 rfl _ (fun _ h => h) Tryd.underlying26 rfl u2 hH ?_
  simp only [Act.put, List.setIfInBounds_toArray, List.set_cons_zero, List.set_cons_succ]
  refine hTake 1 (some 13) (.slice ao n c) rfl rfl (by kernel_rfl) (by kernel_rfl) (by kernel_rfl) (fun _ _ _ h => h) (by rfl) (fun _ _ => by rfl) hH ?_
  simp only [Act.put, List.setIfInBounds_toArray, List.set_cons_zero, List.set_cons_succ]
  refine wpAnyH_ready (rs := [2]) (by kernel_rfl) (by simp) (AllReadyH.cons rfl (fun K hK => ?_) AllReadyH.nil)
  go_simp
  go_wp2_with (go_at_call 11; refine (join_any ao n c pss w4.drew (HX.out.1.later (below_dn X4.out.2.1 1) (Nat.le_refl _)) (by omega) (by rw [HM.out.2.2]; have := HM.out.1; omega)).mono ?_; rintro e wA ⟨vA, rfl, oA, lA⟩; rw [HM.out.2.2] at oA; obtain ⟨xA, cA, rfl, sA, rA, _, _, _⟩ := own_data HX.out.2.2 (by have := HM.out.1; omega) oA; have GA : Hid (Below w4.heap.size w4 wA ∧ Seen wA xA m.length m) := ⟨below_chain (below_dn (Below.refl w4.heap.size w4) 1) lA (Nat.le_refl _), sA⟩; clear oA lA sA)
  refine hK.out _ _ (X4.out.2.2.2 _ GA.out.1) (fun hH => ?_)
  clear hK K
  refine wpAnyH_ready (rs := [3]) (by kernel_rfl) (by simp) (AllReadyH.cons rfl (fun K hK => ?_) AllReadyH.nil)
  go_simp
  go_wp2_with (go_at_call 10; refine (rsum_any xA m.length cA m _ GA.out.2 (by have := HM.out.1; omega)).mono ?_; rintro e wB ⟨rfl, lB⟩; have GB : Hid (Below w4.heap.size w4 wB) := below_chain GA.out.1 lB GA.out.1.size; clear lB)
  refine hK.out _ _ (X4.out.2.2.2 _ GB.out) (fun hH => ?_)
  clear hK K
  refine hTake 4 (some 16) (.bool false) rfl rfl (by kernel_rfl) (by kernel_rfl) (by kernel_rfl) (fun _ _ _ h => h) (by rfl) (fun _ _ => by go_simp) hH ?_
  simp only [Act.put, List.setIfInBounds_toArray, List.set_cons_zero, List.set_cons_succ]
  refine hTake 5 (some 17) (.bool false) rfl rfl (by kernel_rfl) (by kernel_rfl) (by kernel_rfl) (fun _ _ _ h => h) (by rfl) (fun _ _ => by rfl) hH ?_
  simp only [Act.put, List.setIfInBounds_toArray, List.set_cons_zero, List.set_cons_succ]
  refine hTake 6 (some 18) (.slice (some ⟨w.heap.size, 0, none⟩) n (n + 3)) rfl rfl (by kernel_rfl) (by kernel_rfl) (by kernel_rfl) (fun _ _ _ h => h) (by rfl) (fun _ _ => by rfl) hH ?_
  simp only [Act.put, List.setIfInBounds_toArray, List.set_cons_zero, List.set_cons_succ]
  refine hTake 7 (some 19) (.slice ao n c) rfl rfl (by kernel_rfl) (by kernel_rfl) (by kernel_rfl) (fun _ _ _ h => h) (by rfl) (fun _ _ => by rfl) hH ?_
  simp only [Act.put, List.setIfInBounds_toArray, List.set_cons_zero, List.set_cons_succ]
  refine wpAnyH_ready (rs := [8]) (by kernel_rfl) (by simp) (AllReadyH.cons rfl (fun K hK => ?_) AllReadyH.nil)
  go_simp
  go_wp2_with (go_at_call 12; refine (keptR_yes w.heap.size ao n c pss _ (X4.out.1.later GB.out (Nat.le_refl _)) (HX.out.1.later (below_chain X4.out.2.1 GB.out X4.out.2.1.size) (Nat.le_refl _)) hn).mono ?_; rintro e wC ⟨rfl, qC, rfl⟩)
  refine hK.out _ _ (X4.out.2.2.2 _ (below_dn GB.out qC)) (fun hH => ?_)
  clear hK K
  refine hTake 9 (some 21) (.bool false) rfl rfl (by kernel_rfl) (by kernel_rfl) (by kernel_rfl) (fun _ _ _ h => h) (by rfl) (fun _ _ => by go_simp) hH ?_
  simp only [Act.put, List.setIfInBounds_toArray, List.set_cons_zero, List.set_cons_succ]
  refine hTake 10 (some 22) (.bool false) rfl rfl (by kernel_rfl) (by kernel_rfl) (by kernel_rfl) (fun _ _ _ h => h) (by rfl) (fun _ _ => by rfl) hH ?_
  simp only [Act.put, List.setIfInBounds_toArray, List.set_cons_zero, List.set_cons_succ]
  refine wpAnyH_done (by kernel_rfl) (NoPanic.normal ?_) _
  have X5 : Hid (SpareL (wB.drewN qC) w.heap.size n pss ∧ Below w.heap.size w (wB.drewN qC)) := ⟨(X4.out.1.later GB.out (Nat.le_refl _)).drewN qC, below_dn (below_chain X4.out.2.1 GB.out X4.out.2.1.size) qC⟩
  obtain ⟨w5, hw5⟩ : ∃ w5, wB.drewN qC = w5 := ⟨_, rfl⟩
  rw [hw5] at X5 ⊢
  clear hw5 hH
  go_wp2
  go_loopw [5] (fun i wr => ∃ (k : Nat) (ps : List (List Int)), k ≤ n ∧ i = .int .i64 k ∧ SpareL wr w.heap.size n ps ∧ ps.flatten.length ≤ 1048576 ∧ Below w.heap.size w wr) (fun i _ => n - (intOf i).toNat)
  case atStart => exact ⟨0, pss, Nat.zero_le _, rfl, X5.out.1, by rw [HM.out.2.2]; exact HM.out.1, X5.out.2⟩
  case round =>
    obtain ⟨k, ps, hk, rfl, hsp, hfl, hbel⟩ := hrel
    by_cases hlt : k < n
    · have Y0 : Hid (SpareL wr w.heap.size n ps ∧ ps.flatten.length ≤ 1048576 ∧ Below w.heap.size w wr) := ⟨hsp, hfl, hbel⟩
      have i1 : (0 : Int) ≤ (k : Int) := by omega
      have i2 : (k : Int) < (n : Int) := by omega
      have hL : (ps.getD k []).length ≤ 1048576 := by have := row_le ps k (by rw [hsp.len]; exact hlt); omega
      obtain ⟨L, hLL⟩ : ∃ L, (ps.getD k []).length = L := ⟨_, rfl⟩
      have HLL : Hid ((ps.getD k []).length = L) := hLL
      rw [hLL] at hL
      clear hsp hfl hbel hLL
      obtain ⟨w6, rfl⟩ : ∃ w6, w6 = wr := ⟨_, rfl⟩
      go_wp2
      go_loopw [6] (fun i wr => ∃ (j : Nat) (qs : List (List Int)), j ≤ L ∧ i = .int .i64 j ∧ SpareL wr w.heap.size n qs ∧ qs.flatten.length ≤ 1048576 ∧ (qs.getD k []).length = L ∧ Below w.heap.size w wr) (fun i _ => L - (intOf i).toNat)
      case atStart => exact ⟨0, ps, Nat.zero_le _, rfl, Y0.out.1, Y0.out.2.1, HLL.out, Y0.out.2.2⟩
      case round =>
        obtain ⟨j, qs, hj, rfl, hsp, hfl, hql, hbel⟩ := hrel
        have cO : wr.cell? ⟨w.heap.size, k, none⟩ = some (.slice (some ⟨w.heap.size + 1 + k, 0, none⟩) L (L + 80)) := by
          have := hsp.cell k (by omega)
          rw [hdrAt, if_pos hlt, hql] at this
          exact this
        by_cases hlt2 : j < L
        · have hr := hsp.row k (by omega)
          rw [rowAt, if_pos hlt] at hr
          have cR := u8s_cell hr j (by rw [spared_length]; omega)
          have fR := hr.frozen j
          obtain ⟨y, hy⟩ : ∃ y, (spared (qs.getD k [])).getD j 0 = y := ⟨_, rfl⟩
          rw [hy] at cR
          have j1 : (0 : Int) ≤ (j : Int) := by omega
          have j2 : (j : Int) < (L : Int) := by omega
          have Y1 : Hid (SpareL wr w.heap.size n qs ∧ qs.flatten.length ≤ 1048576 ∧ (qs.getD k []).length = L ∧ Below w.heap.size w wr) := ⟨hsp, hfl, hql, hbel⟩
          clear hsp hfl hql hbel hr hy
          go_wp2
          go_region
          go_wp2
          have hq : k < qs.length := by rw [Y1.out.1.len]; exact hlt
          refine ⟨⟨j + 1, _, by omega, by go_num, (spareL_set Y1.out.1 k j hlt (by rw [Y1.out.2.2.1]; exact hlt2) _ (xor8_bd _ _)).drewN 1, ?_, ?_, ?_⟩, by simp [intOf]; omega⟩
          · rw [set_flat _ _ _ hq (by rw [List.length_set])]; exact Y1.out.2.1
          · rw [getD_set_self _ _ _ hq, List.length_set]; exact Y1.out.2.2.1
          · exact below_kept Y1.out.2.2.2 (((Kept.refl _ _).setCell (S := fun b => b = w.heap.size + 1 + k) rfl _).drew) Y1.out.2.2.2.size (fun j hj => by omega)
        · obtain rfl : j = L := by omega
          have Y1 : Hid (SpareL wr w.heap.size n qs ∧ qs.flatten.length ≤ 1048576 ∧ Below w.heap.size w wr) := ⟨hsp, hfl, hbel⟩
          clear hsp hfl hql hbel
          go_wp2
          exact ⟨⟨k + 1, qs, by omega, by go_num, Y1.out.1, Y1.out.2.1, Y1.out.2.2⟩, by simp [intOf]; omega⟩
    · obtain rfl : k = n := by omega
      obtain ⟨m2, hm2⟩ : ∃ m2, ps.flatten = m2 := ⟨_, rfl⟩
      have Y0 : Hid (SpareL wr w.heap.size k ps ∧ ps.flatten = m2 ∧ m2.length ≤ 1048576 ∧ Below w.heap.size w wr ∧ KTab wr ∧ Bytes m2) := ⟨hsp, hm2, by rw [← hm2]; exact hfl, hbel, HX.out.2.1.below hbel q0, by rw [← hm2]; exact seenP_flat hsp.data⟩
      have heq2 : ∀ wx, (Op.equalIn 10000 26 (.agg (u8s (sha m2)).toArray) (.agg (u8s (sha m2)).toArray)).run Tryd.prog wx = .ok true wx := equal_self 9998 (sha m2) (sha_length _)
      clear hsp hfl hbel hm2
      go_wp2_with fail
      refine (copyR_any _ k (k + 3) ps wr Y0.out.1.data hn).mono ?_
      rintro e w7 ⟨xo, xc, rfl, s7, hxc, l7⟩
      have Y7 : Hid (SpareL w7 w.heap.size k ps ∧ SeenP w7 xo k ps ∧ Below w.heap.size w w7 ∧ KTab w7) := ⟨Y0.out.1.later l7 (Nat.le_refl _), s7, below_chain Y0.out.2.2.2.1 l7 Y0.out.2.2.2.1.size, Y0.out.2.2.2.2.1.below l7 Y0.out.2.2.2.2.1.lt⟩
      clear s7 hxc l7
      go_wp2_with fail
      refine (dsum_any _ k (k + 3) ps w7 Y7.out.1.data (by omega) (by rw [Y0.out.2.1]; have := Y0.out.2.2.1; omega) Y7.out.2.2.2).mono ?_
      rintro e w8 ⟨rfl, l8⟩
      rw [Y0.out.2.1]
      have Y8 : Hid (SeenP w8 xo k ps ∧ Below w.heap.size w w8) := ⟨Y7.out.2.1.later l8 (Nat.le_refl _), below_chain Y7.out.2.2.1 l8 Y7.out.2.2.1.size⟩
      clear l8
      go_wp2_with fail
      refine (join_any xo k xc ps w8 Y8.out.1 (by omega) (by rw [Y0.out.2.1]; have := Y0.out.2.2.1; omega)).mono ?_
      rintro e w9 ⟨v9, rfl, o9, l9⟩
      rw [Y0.out.2.1] at o9
      obtain ⟨x9, c9, rfl, s9, r9, _, _, _⟩ := own_data Y0.out.2.2.2.2.2 (by have := Y0.out.2.2.1; omega) o9
      have Y9 : Hid (Seen w9 x9 m2.length m2 ∧ Below w.heap.size w w9) := ⟨s9, below_chain Y8.out.2 l9 Y8.out.2.size⟩
      clear o9 s9 r9 l9
      go_wp2_with fail
      refine (rsum_any x9 m2.length c9 m2 w9 Y9.out.1 (by have := Y0.out.2.2.1; omega)).mono ?_
      rintro e wX ⟨rfl, lX⟩
      have YX : Hid (Below w.heap.size w wX ∧ KTab wX) := ⟨below_chain Y9.out.2 lX Y9.out.2.size, HX.out.2.1.below (below_chain Y9.out.2 lX Y9.out.2.size) q0⟩
      clear lX
      go_wp2_with fail
      refine (works_any wX YX.out.2).mono ?_
      rintro e wY ⟨rfl, lY⟩
      have LY : Hid (Below w.heap.size w wY) := below_chain YX.out.1 lY YX.out.1.size
      clear lY
      go_wp2
      go_ret
      exact ⟨rfl, LY.out⟩
end Go.Proofs.YtpphmodibbeomaaDoor.digestSums
