/- The walk of TagSums. -/
import Derived.Test.YtogplebajpdmoaaBX
import Derived.Test.YtogplebajpdmoaaBV
import Derived.Test.YtogplebajpdmoaaBX
import Derived.Test.YtogplebajpdmoaaBX
import Derived.Test.YtogplebajpdmoaaBX
namespace Go.Proofs.Ytogplebajpdmoaa.tagSums
open Go.RowKit
set_option linter.unusedVariables false
set_option linter.unusedSimpArgs false

theorem xor8_bd (a b : Int) : 0 ≤ bits .xor .u8 a b ∧ bits .xor .u8 a b < 256 := by
  show 0 ≤ IntKind.u8.wrap _ ∧ IntKind.u8.wrap _ < 256
  simp only [IntKind.wrap, IntKind.bits, IntKind.signed]
  simp
  omega
theorem flat_sum (pss : List (List Int)) : pss.flatten.length = (pss.map List.length).sum := List.length_flatten
theorem set_flat (pss : List (List Int)) (i : Nat) (r : List Int) (hi : i < pss.length) (hr : r.length = (pss.getD i []).length) : (pss.set i r).flatten.length = pss.flatten.length := by
  rw [flat_sum, flat_sum, List.map_set]
  congr 1
  apply List.ext_getElem?
  intro j
  by_cases h : i = j
  · subst h
    simp [hi, hr, List.getD]
  · simp [h]
theorem spared_set (zs : List Int) (k : Nat) (hk : k < zs.length) (z : Int) : (spared zs).set k z = spared (zs.set k z) := by
  rw [spared, List.set_append_left _ _ hk, spared, List.length_set]
theorem getD_set_self (pss : List (List Int)) (i : Nat) (r : List Int) (hi : i < pss.length) : (pss.set i r).getD i [] = r := by simp [List.getD, hi]
theorem getD_set_ne (pss : List (List Int)) (i j : Nat) (r : List Int) (h : i ≠ j) : (pss.set i r).getD j [] = pss.getD j [] := by simp [List.getD, h]
theorem bytes_set (zs : List Int) (k : Nat) (z : Int) (h : Bytes zs) (hz : 0 ≤ z ∧ z < 256) : Bytes (zs.set k z) := fun y hy => by
  rcases List.mem_or_eq_of_mem_set hy with h1 | rfl
  · exact h y h1
  · exact hz
/-- One byte of one of the lists is written. -/
theorem spareL_set {w : World} {O n : Nat} {pss : List (List Int)} (h : SpareL w O n pss) (i k : Nat) (hi : i < n) (hk : k < (pss.getD i []).length) (z : Int) (hz : 0 ≤ z ∧ z < 256) :
    SpareL (w.setCell ⟨O + 1 + i, k, none⟩ (.int .u8 z)) O n (pss.set i ((pss.getD i []).set k z)) := by
  have hp : i < pss.length := by rw [h.len]; exact hi
  have hl : ∀ j, ((pss.set i ((pss.getD i []).set k z)).getD j []).length = (pss.getD j []).length := fun j => by
    by_cases e : i = j
    · subst e; rw [getD_set_self _ _ _ hp, List.length_set]
    · rw [getD_set_ne _ _ _ _ e]
  have hh : hdrs O n (pss.set i ((pss.getD i []).set k z)) (n + 3) = hdrs O n pss (n + 3) := by
    unfold hdrs
    congr 1
    funext j
    unfold hdrAt
    rw [hl]
  refine ⟨by rw [List.length_set, h.len], ?_, fun j hj => ?_, fun j hj => ?_⟩
  · rw [hh]; exact h.hd.other (by show O ≠ O + 1 + i; omega) _
  · by_cases e : i = j
    · subst e
      have hr := (h.row i hj).set k (.int .u8 z)
      rw [rowAt, if_pos hi, u8s_set, spared_set _ _ hk] at hr
      rw [rowAt, if_pos hi, getD_set_self _ _ _ hp]
      exact hr
    · have hr := (h.row j hj).other (p := ⟨O + 1 + i, k, none⟩) (by show O + 1 + j ≠ O + 1 + i; omega) (.int .u8 z)
      have e2 : rowAt n (pss.set i ((pss.getD i []).set k z)) j = rowAt n pss j := by unfold rowAt; rw [getD_set_ne _ _ _ _ e]
      rw [e2]; exact hr
  · by_cases e : i = j
    · subst e
      rw [getD_set_self _ _ _ hp, List.length_set]
      exact ⟨bytes_set _ _ _ (h.ok i hj).1 hz, (h.ok i hj).2⟩
    · rw [getD_set_ne _ _ _ _ e]; exact h.ok j hj
theorem seenP_flat {w : World} {ao : Option Addr} {n : Nat} {pss : List (List Int)} (hx : SeenP w ao n pss) : Bytes pss.flatten := by
  have := seenP_bytes hx n (Nat.le_refl _)
  rwa [List.take_of_length_le (by rw [hx.len]; exact Nat.le_refl _)] at this
theorem row_le (pss : List (List Int)) (i : Nat) (hi : i < pss.length) : (pss.getD i []).length ≤ pss.flatten.length := by
  have h1 := flat_succ pss i hi
  have h2 := flat_le pss (i + 1)
  rw [h1, List.length_append] at h2
  omega

theorem blkAll {w : World} {g : Nat} {t : TypeId} {vs : List Value} (h : Blk w g t vs) : w.rangeAt g 0 vs := fun j v hv => by rw [Nat.zero_add, h.cell]; exact hv
/-- A slice of these bytes. -/
def isB (zs : List Int) (v : Value) (w : World) : Prop := ∃ vo n c, v = .slice vo n c ∧ Seen w vo n zs
theorem isB_later (zs : List Int) : ∀ v w w', Below w.heap.size w w' → isB zs v w → isB zs v w' := fun _ _ _ hb ⟨b, o, c, h1, h2⟩ => ⟨b, o, c, h1, h2.later hb (Nat.le_refl _)⟩
set_option maxRecDepth 20000 in
set_option maxHeartbeats 4000000 in
theorem walk (key : List Int) (ao : Option Addr) (n c : Nat) (pss : List (List Int)) (w : World) (hkl : key.length = 32) (hkb : Bytes key) (hx : SeenP w ao n pss) (hn : n ≤ 1048576) (hm : pss.flatten.length ≤ 1048576) :
    Calls Try.prog 9 #[.agg (u8s key).toArray, .slice ao n c] w fun e w' => e = .returned (.bool true) ∧ Below w.heap.size w w' := by
  obtain ⟨m, hm0⟩ : ∃ m, pss.flatten = m := ⟨_, rfl⟩
  obtain ⟨T, hT⟩ : ∃ T, tagB key m = T := ⟨_, rfl⟩
  have HK : Hid (key.length = 32 ∧ Bytes key) := ⟨hkl, hkb⟩
  have HX : Hid (SeenP w ao n pss ∧ Bytes m) := ⟨hx, by rw [← hm0]; exact seenP_flat hx⟩
  have HM : Hid (m.length ≤ 1048576 ∧ pss.length = n ∧ pss.flatten = m ∧ tagB key m = T ∧ T.length = 16) := ⟨by rw [← hm0]; exact hm, hx.len, hm0, hT, by rw [← hT, tagB_length]⟩
  have heq : ∀ wx, (Op.equalIn 10000 47 (.agg (u8s T).toArray) (.agg (u8s T).toArray)).run Try.prog wx = .ok true wx := equal_self 9998 T HM.out.2.2.2.2
  have HR : Hid (∀ i, i < n → (pss.getD i []).length ≤ 35184372088832) := fun i hi => by have := row_le pss i (by rw [hx.len]; exact hi); omega
  clear hx hm hm0 hkl hkb hT
  go_enter Try.func9, Try.ntmps9
  go_wp2_with (first | (refine wpList_box_new rfl 30 _ rfl (u8s key) rfl ?_; intro w0 b0 s0 l0))
  have X0 : Hid (Blk w0 w.heap.size 30 (u8s key) ∧ Below w.heap.size w w0) := ⟨b0, l0⟩
  refine (spareR_any ao n c pss w0 (HX.out.1.later l0 (Nat.le_refl _)) hn HR.out).mono ?_
  rw [s0]
  rintro e w1 ⟨rfl, x1, s1, l1⟩
  obtain ⟨O, hO⟩ : ∃ O, w.heap.size + 1 = O := ⟨_, rfl⟩
  rw [hO] at x1 l1 s1 ⊢
  have hOw : w.heap.size < O := by omega
  have X1 : Hid (SpareL w1 O n pss ∧ Below w.heap.size w w1 ∧ Blk w1 w.heap.size 30 (u8s key)) := ⟨x1, below_chain X0.out.2 l1 (by omega), X0.out.1.later l1 (by omega)⟩
  clear x1 l1 b0 l0 s0 hO X0 s1
  go_wp2_with (first | (refine wpList_load_blk rfl 30 _ rfl w.heap.size rfl (u8s key) _ X1.out.2.2 Try.underlying30 rfl (by rw [u8s_length, HK.out.1]; exact tsizeKey) ?_))
  refine (tsum_any key HK.out.1 HK.out.2 _ n (n + 3) pss w1 X1.out.1.data (by omega)).mono ?_
  rintro e w2 ⟨rfl, l2⟩
  rw [HM.out.2.2.1, HM.out.2.2.2.1]
  have X2 : Hid (SpareL w2 O n pss ∧ Below w.heap.size w w2 ∧ Blk w2 w.heap.size 30 (u8s key)) := ⟨X1.out.1.later l2 (Nat.le_refl _), below_chain X1.out.2.1 l2 X1.out.2.1.size, X1.out.2.2.later l2 X1.out.2.2.lt⟩
  clear l2
  go_wp2_with (first | (refine wpList_alloc_new rfl 47 rfl 16 _ zeroTag ?_; intro w3 b3 s3 l3) | (refine wpList_store_blk rfl 47 47 _ _ rfl _ rfl _ (u8s T) rfl b3 (by rw [u8s_length, HM.out.2.2.2.2]; rfl) (by rw [u8s_length, HM.out.2.2.2.2]; exact sizeTag) (u8s_one _) ?_; intro w4 b4 s4 k4))
  obtain ⟨GT, hGT⟩ : ∃ G, w2.heap.size = G := ⟨_, rfl⟩
  try simp only [Act.put, List.setIfInBounds_toArray, List.set_cons_zero, List.set_cons_succ]
  have X4 : Hid (SpareL w4 O n pss ∧ Below w.heap.size w w4 ∧ Blk w4 w.heap.size 30 (u8s key) ∧ Blk w4 GT 47 (u8s T)) := by
    have k0 : Below w2.heap.size w2 w4 := below_kept l3 k4 (by omega) (fun j hj => by omega)
    rw [hGT] at b4
    exact ⟨X2.out.1.later k0 (Nat.le_refl _), below_chain X2.out.2.1 k0 X2.out.2.1.size, X2.out.2.2.later k0 X2.out.2.2.lt, b4⟩
  rw [hGT]
  clear b3 s3 l3 b4 s4 k4 hGT
  have RS : Hid (∀ W, Below w4.heap.size w4 W → W.rangeAt GT 0 (u8s T) ∧ W.rangeAt w.heap.size 0 (u8s key)) := fun W hW => ⟨blkAll (X4.out.2.2.2.later hW X4.out.2.2.2.lt), blkAll (X4.out.2.2.1.later hW X4.out.2.2.1.lt)⟩
  have uT : (Try.prog.info? 47).map (·.size) = some (u8s T).length := by rw [u8s_length, HM.out.2.2.2.2]; exact sizeTag
  have uK : (Try.prog.info? 30).map (·.size) = some (u8s key).length := by rw [u8s_length, HK.out.1]; exact tsizeKey
  refine wp_region_noPanic (wp_region_held_drew (S := fun W => W.rangeAt GT 0 (u8s T) ∧ W.rangeAt w.heap.size 0 (u8s key)) (by kernel_rfl) (RS.out _ (below_dn (Below.refl _ _) 1)) (fun hH => ?_))
  refine hLoad 0 (some 15) (u8s T) rfl rfl (by kernel_rfl) (by kernel_rfl) (by kernel_rfl) (fun _ _ _ h => h) (by rfl) 47 (.tmp 6) rfl GT 0 rfl _ (fun _ h => h.1) Try.underlying47 rfl uT hH ?_
  simp only [Act.put, List.setIfInBounds_toArray, List.set_cons_zero, List.set_cons_succ]
  refine hLoad 1 (some 16) (u8s key) rfl rfl (by kernel_rfl) (by kernel_rfl) (by kernel_rfl) (fun _ _ _ h => h) (by rfl) 30 (.tmp 2) rfl w.heap.size 0 rfl _ (fun _ h => h.2) Try.underlying30 rfl uK hH ?_
  simp only [Act.put, List.setIfInBounds_toArray, List.set_cons_zero, List.set_cons_succ]
  refine hTake 2 (some 17) (.slice ao n c) rfl rfl (by kernel_rfl) (by kernel_rfl) (by kernel_rfl) (fun _ _ _ h => h) (by rfl) (fun _ _ => by rfl) hH ?_
  simp only [Act.put, List.setIfInBounds_toArray, List.set_cons_zero, List.set_cons_succ]
  refine wpAnyH_ready (rs := [3]) (by kernel_rfl) (by simp) (AllReadyH.cons rfl (fun K hK => ?_) AllReadyH.nil)
  rw [if_pos (by rfl)]
  go_simp
  go_wp2_with (go_at_call 30; refine (join_any ao n c pss w4.drew (HX.out.1.later (below_dn X4.out.2.1 1) (Nat.le_refl _)) (by omega) (by rw [HM.out.2.2.1]; have := HM.out.1; omega)).mono ?_; rintro e wA ⟨vA, rfl, oA, lA⟩; rw [HM.out.2.2.1] at oA; obtain ⟨xA, cA, rfl, sA, rA, _, _, _⟩ := own_data HX.out.2 (by have := HM.out.1; omega) oA; have GA : Hid (Below w4.heap.size w4 wA ∧ Seen wA xA m.length m) := ⟨below_chain (below_dn (Below.refl w4.heap.size w4) 1) lA (Nat.le_refl _), sA⟩; clear oA lA sA)
  refine hK.out _ _ (RS.out _ (GA.out.1)) (fun hH => ?_)
  clear hK K
  refine wpAnyH_ready (rs := [4]) (by kernel_rfl) (by simp) (AllReadyH.cons rfl (fun K hK => ?_) AllReadyH.nil)
  rw [if_pos (by rfl)]
  go_simp
  go_wp2_with (go_at_call 29; refine (rtsum_any key HK.out.1 HK.out.2 xA m.length cA m _ GA.out.2).mono ?_; rintro e wB ⟨rfl, lB⟩; rw [HM.out.2.2.2.1]; have GB : Hid (Below w4.heap.size w4 wB) := below_chain GA.out.1 lB GA.out.1.size; clear lB)
  refine hK.out _ _ (RS.out _ (GB.out)) (fun hH => ?_)
  clear hK K
  refine hTake 5 (some 20) (.bool false) rfl rfl (by kernel_rfl) (by kernel_rfl) (by kernel_rfl) (fun _ _ _ h => h) (by rfl) (fun _ _ => by go_simp) hH ?_
  simp only [Act.put, List.setIfInBounds_toArray, List.set_cons_zero, List.set_cons_succ]
  refine hTake 6 (some 21) (.bool false) rfl rfl (by kernel_rfl) (by kernel_rfl) (by kernel_rfl) (fun _ _ _ h => h) (by rfl) (fun _ _ => by rfl) hH ?_
  simp only [Act.put, List.setIfInBounds_toArray, List.set_cons_zero, List.set_cons_succ]
  refine hTake 7 (some 22) (.slice (some ⟨O, 0, none⟩) n (n + 3)) rfl rfl (by kernel_rfl) (by kernel_rfl) (by kernel_rfl) (fun _ _ _ h => h) (by rfl) (fun _ _ => by rfl) hH ?_
  simp only [Act.put, List.setIfInBounds_toArray, List.set_cons_zero, List.set_cons_succ]
  refine hTake 8 (some 23) (.slice ao n c) rfl rfl (by kernel_rfl) (by kernel_rfl) (by kernel_rfl) (fun _ _ _ h => h) (by rfl) (fun _ _ => by rfl) hH ?_
  simp only [Act.put, List.setIfInBounds_toArray, List.set_cons_zero, List.set_cons_succ]
  refine wpAnyH_ready (rs := [9]) (by kernel_rfl) (by simp) (AllReadyH.cons rfl (fun K hK => ?_) AllReadyH.nil)
  rw [if_pos (by rfl)]
  go_simp
  go_wp2_with (go_at_call 31; refine (keptR_yes O ao n c pss _ (X4.out.1.later GB.out (Nat.le_refl _)) (HX.out.1.later (below_chain X4.out.2.1 GB.out X4.out.2.1.size) (Nat.le_refl _)) hn).mono ?_; rintro e wC ⟨rfl, qC, rfl⟩)
  refine hK.out _ _ (RS.out _ (below_dn GB.out qC)) (fun hH => ?_)
  clear hK K
  refine hTake 10 (some 25) (.bool false) rfl rfl (by kernel_rfl) (by kernel_rfl) (by kernel_rfl) (fun _ _ _ h => h) (by rfl) (fun _ _ => by go_simp) hH ?_
  simp only [Act.put, List.setIfInBounds_toArray, List.set_cons_zero, List.set_cons_succ]
  refine hTake 11 (some 26) (.bool false) rfl rfl (by kernel_rfl) (by kernel_rfl) (by kernel_rfl) (fun _ _ _ h => h) (by rfl) (fun _ _ => by rfl) hH ?_
  simp only [Act.put, List.setIfInBounds_toArray, List.set_cons_zero, List.set_cons_succ]
  refine wpAnyH_done (by kernel_rfl) (NoPanic.normal ?_) _
  have X5 : Hid (SpareL (wB.drewN qC) O n pss ∧ Below w.heap.size w (wB.drewN qC) ∧ Blk (wB.drewN qC) w.heap.size 30 (u8s key)) := ⟨(X4.out.1.later GB.out (Nat.le_refl _)).drewN qC, below_dn (below_chain X4.out.2.1 GB.out X4.out.2.1.size) qC, (X4.out.2.2.1.later GB.out X4.out.2.2.1.lt).drewN qC⟩
  obtain ⟨w5, hw5⟩ : ∃ w5, wB.drewN qC = w5 := ⟨_, rfl⟩
  rw [hw5] at X5 ⊢
  clear hw5 hH
  go_wp2_with fail
  go_loopw [7] (fun i wr => ∃ (k : Nat) (ps : List (List Int)), k ≤ n ∧ i = .int .i64 k ∧ SpareL wr O n ps ∧ ps.flatten.length ≤ 1048576 ∧ Below w.heap.size w wr ∧ Blk wr w.heap.size 30 (u8s key)) (fun i _ => n - (intOf i).toNat)
  case atStart => exact ⟨0, pss, Nat.zero_le _, rfl, X5.out.1, by rw [HM.out.2.2.1]; exact HM.out.1, X5.out.2.1, X5.out.2.2⟩
  case round =>
    obtain ⟨k, ps, hk, rfl, hsp, hfl, hbel, hkey⟩ := hrel
    by_cases hlt : k < n
    · have Y0 : Hid (SpareL wr O n ps ∧ ps.flatten.length ≤ 1048576 ∧ Below w.heap.size w wr ∧ Blk wr w.heap.size 30 (u8s key)) := ⟨hsp, hfl, hbel, hkey⟩
      have i1 : (0 : Int) ≤ (k : Int) := by omega
      have i2 : (k : Int) < (n : Int) := by omega
      have hL : (ps.getD k []).length ≤ 1048576 := by have := row_le ps k (by rw [hsp.len]; exact hlt); omega
      obtain ⟨L, hLL⟩ : ∃ L, (ps.getD k []).length = L := ⟨_, rfl⟩
      have HLL : Hid ((ps.getD k []).length = L) := hLL
      rw [hLL] at hL
      clear hsp hfl hbel hLL hkey
      obtain ⟨w6, rfl⟩ : ∃ w6, w6 = wr := ⟨_, rfl⟩
      go_wp2_with fail
      go_loopw [8] (fun i wr => ∃ (j : Nat) (qs : List (List Int)), j ≤ L ∧ i = .int .i64 j ∧ SpareL wr O n qs ∧ qs.flatten.length ≤ 1048576 ∧ (qs.getD k []).length = L ∧ Below w.heap.size w wr ∧ Blk wr w.heap.size 30 (u8s key)) (fun i _ => L - (intOf i).toNat)
      case atStart => exact ⟨0, ps, Nat.zero_le _, rfl, Y0.out.1, Y0.out.2.1, HLL.out, Y0.out.2.2.1, Y0.out.2.2.2⟩
      case round =>
        obtain ⟨j, qs, hj, rfl, hsp, hfl, hql, hbel, hkey⟩ := hrel
        have cO : wr.cell? ⟨O, k, none⟩ = some (.slice (some ⟨O + 1 + k, 0, none⟩) L (L + 80)) := by
          have := hsp.cell k (by omega)
          rw [hdrAt, if_pos hlt, hql] at this
          exact this
        by_cases hlt2 : j < L
        · have hr := hsp.row k (by omega)
          rw [rowAt, if_pos hlt] at hr
          have cR := u8s_cell hr j (by rw [spared_length]; omega)
          have fR := hr.frozen j
          obtain ⟨y, hy⟩ : ∃ y, (spared (qs.getD k [])).getD j 0 = y := ⟨_, rfl⟩
          rw [hy] at cR
          have j1 : (0 : Int) ≤ (j : Int) := by omega
          have j2 : (j : Int) < (L : Int) := by omega
          have Y1 : Hid (SpareL wr O n qs ∧ qs.flatten.length ≤ 1048576 ∧ (qs.getD k []).length = L ∧ Below w.heap.size w wr ∧ Blk wr w.heap.size 30 (u8s key)) := ⟨hsp, hfl, hql, hbel, hkey⟩
          clear hsp hfl hql hbel hr hy hkey
          go_wp2_with fail
          go_region
          go_wp2_with fail
          have hq : k < qs.length := by rw [Y1.out.1.len]; exact hlt
          refine ⟨⟨j + 1, _, by omega, by go_num, (spareL_set Y1.out.1 k j hlt (by rw [Y1.out.2.2.1]; exact hlt2) _ (xor8_bd _ _)).drewN 1, ?_, ?_, ?_, ?_⟩, by simp [intOf]; omega⟩
          · rw [set_flat _ _ _ hq (by rw [List.length_set])]; exact Y1.out.2.1
          · rw [getD_set_self _ _ _ hq, List.length_set]; exact Y1.out.2.2.1
          · exact below_kept Y1.out.2.2.2.1 (((Kept.refl _ _).setCell (S := fun b => b = O + 1 + k) rfl _).drew) Y1.out.2.2.2.1.size (fun j hj => by omega)
          · exact Y1.out.2.2.2.2.kept (((Kept.refl _ _).setCell (S := fun b => b = O + 1 + k) rfl _).drew) (by omega)
        · obtain rfl : L = j := by omega
          have Y1 : Hid (SpareL wr O n qs ∧ qs.flatten.length ≤ 1048576 ∧ Below w.heap.size w wr ∧ Blk wr w.heap.size 30 (u8s key)) := ⟨hsp, hfl, hbel, hkey⟩
          clear hsp hfl hql hbel hkey
          go_wp2_with fail
          exact ⟨⟨k + 1, qs, by omega, by go_num, Y1.out.1, Y1.out.2.1, Y1.out.2.2.1, Y1.out.2.2.2⟩, by simp [intOf]; omega⟩
    · obtain rfl : n = k := by omega
      obtain ⟨m2, hm2⟩ : ∃ m2, ps.flatten = m2 := ⟨_, rfl⟩
      obtain ⟨T2, hT2⟩ : ∃ T, tagB key m2 = T := ⟨_, rfl⟩
      have Y0 : Hid (SpareL wr O n ps ∧ ps.flatten = m2 ∧ m2.length ≤ 1048576 ∧ Below w.heap.size w wr ∧ Bytes m2 ∧ Blk wr w.heap.size 30 (u8s key) ∧ tagB key m2 = T2) := ⟨hsp, hm2, by rw [← hm2]; exact hfl, hbel, by rw [← hm2]; exact seenP_flat hsp.data, hkey, hT2⟩
      have heq2 : ∀ wx, (Op.equalIn 10000 47 (.agg (u8s T2).toArray) (.agg (u8s T2).toArray)).run Try.prog wx = .ok true wx := equal_self 9998 T2 (by rw [← hT2, tagB_length])
      clear hsp hfl hbel hm2 hkey hT2
      go_wp2_with fail
      refine (copyR_any _ n (n + 3) ps wr Y0.out.1.data hn).mono ?_
      rintro e w7 ⟨xo, xc, rfl, s7, hxc, l7⟩
      have Y7 : Hid (SpareL w7 O n ps ∧ SeenP w7 xo n ps ∧ Below w.heap.size w w7 ∧ Blk w7 w.heap.size 30 (u8s key)) := ⟨Y0.out.1.later l7 (Nat.le_refl _), s7, below_chain Y0.out.2.2.2.1 l7 Y0.out.2.2.2.1.size, Y0.out.2.2.2.2.2.1.later l7 Y0.out.2.2.2.2.2.1.lt⟩
      clear s7 hxc l7
      go_wp2_with fail
      try simp only [Act.put, List.setIfInBounds_toArray, List.set_cons_zero, List.set_cons_succ]
      refine region_invG [.val (.agg (u8s key).toArray), .val (.slice (some ⟨O, 0, none⟩) n (n + 3)), .val (.agg (u8s T2).toArray), .val (.agg (u8s key).toArray), .val (.slice xo n xc), .any (isB m2) (isB_later _), .val (.agg (u8s T2).toArray), .val (.bool true), .val (.bool true), .val (.bool true), .val (.bool true)] (by kernel_rfl) (by kernel_rfl) (by repeat (first | exact trivial | (refine ⟨by first | trivial | rfl, ?_⟩))) (by kernel_rfl) ?_ ?_
      · refine Steps'.cons ?_ (Steps'.cons ?_ (Steps'.cons ?_ (Steps'.cons ?_ (Steps'.cons ?_ (Steps'.cons ?_ (Steps'.cons ?_ (Steps'.cons ?_ (Steps'.cons ?_ (Steps'.cons ?_ (Steps'.cons ?_ (Steps'.one _ _ _ _ _ _ _)))))))))))
        · intro ax wx hb hs hd
          have h2 : ax.tmps.getD 2 undef = (.pointer (some ⟨w.heap.size, 0, none⟩)) := hs 2 (by kernel_rfl)
          exact Does.load 30 (.tmp 2) rfl w.heap.size 0 h2 (u8s key) _ (blkAll (Y7.out.2.2.2.later hb Y7.out.2.2.2.lt)) Try.underlying30 rfl (by rw [u8s_length, HK.out.1]; exact tsizeKey)
        · intro ax wx hb hs hd
          have h5 : ax.tmps.getD 5 undef = (.slice (some ⟨O, 0, none⟩) n (n + 3)) := hs 5 (by kernel_rfl)
          refine Does.value (.slice (some ⟨O, 0, none⟩) n (n + 3)) ?_ rfl
          go_simp
        · intro ax wx hb hs hd
          have h63 : ax.tmps.getD 63 undef = (.agg (u8s key).toArray) := hd 0 63 rfl (by kernel_rfl) (by decide)
          have h64 : ax.tmps.getD 64 undef = (.slice (some ⟨O, 0, none⟩) n (n + 3)) := hd 1 64 rfl (by kernel_rfl) (by decide)
          refine Does.call 28 #[(.agg (u8s key).toArray), (.slice (some ⟨O, 0, none⟩) n (n + 3))] (by go_simp) ?_
          have q := tsum_any key HK.out.1 HK.out.2 _ n (n + 3) ps wx (Y7.out.1.later hb (Nat.le_refl _)).data (by omega)
          rw [Y0.out.2.1, Y0.out.2.2.2.2.2.2] at q
          refine q.mono ?_
          rintro e w' ⟨rfl, l⟩
          exact ⟨_, rfl, rfl, l⟩
        · intro ax wx hb hs hd
          have h2 : ax.tmps.getD 2 undef = (.pointer (some ⟨w.heap.size, 0, none⟩)) := hs 2 (by kernel_rfl)
          exact Does.load 30 (.tmp 2) rfl w.heap.size 0 h2 (u8s key) _ (blkAll (Y7.out.2.2.2.later hb Y7.out.2.2.2.lt)) Try.underlying30 rfl (by rw [u8s_length, HK.out.1]; exact tsizeKey)
        · intro ax wx hb hs hd
          have h9 : ax.tmps.getD 9 undef = (.slice xo n xc) := hs 9 (by kernel_rfl)
          refine Does.value (.slice xo n xc) ?_ rfl
          go_simp
        · intro ax wx hb hs hd
          have h67 : ax.tmps.getD 67 undef = (.slice xo n xc) := hd 4 67 rfl (by kernel_rfl) (by decide)
          refine Does.call 30 #[(.slice xo n xc)] (by go_simp) ?_
          refine (join_any xo n xc ps wx (Y7.out.2.1.later hb (Nat.le_refl _)) (by omega) (by rw [Y0.out.2.1]; have := Y0.out.2.2.1; omega)).mono ?_
          rintro e wA ⟨vA, rfl, oA, lA⟩
          rw [Y0.out.2.1] at oA
          obtain ⟨xA, cA, rfl, sA, _⟩ := own_data Y0.out.2.2.2.2.1 (by have := Y0.out.2.2.1; omega) oA
          exact ⟨_, rfl, ⟨xA, _, cA, rfl, sA⟩, lA⟩
        · intro ax wx hb hs hd
          have h66 : ax.tmps.getD 66 undef = (.agg (u8s key).toArray) := hd 3 66 rfl (by kernel_rfl) (by decide)
          obtain ⟨x, n', c', h68, s68⟩ : isB m2 (ax.tmps.getD 68 undef) wx := hd 5 68 rfl (by kernel_rfl) (by decide)
          refine Does.call 29 #[(.agg (u8s key).toArray), .slice x n' c'] (by go_simp) ?_
          have q := rtsum_any key HK.out.1 HK.out.2 x n' c' m2 wx s68
          rw [Y0.out.2.2.2.2.2.2] at q
          refine q.mono ?_
          rintro e w' ⟨rfl, l⟩
          exact ⟨_, rfl, rfl, l⟩
        · intro ax wx hb hs hd
          have h65 : ax.tmps.getD 65 undef = (.agg (u8s T2).toArray) := hd 2 65 rfl (by kernel_rfl) (by decide)
          have h69 : ax.tmps.getD 69 undef = (.agg (u8s T2).toArray) := hd 6 69 rfl (by kernel_rfl) (by decide)
          refine Does.value (.bool true) ?_ rfl
          go_simp
        · intro ax wx hb hs hd
          have h70 : ax.tmps.getD 70 undef = (.bool true) := hd 7 70 rfl (by kernel_rfl) (by decide)
          refine Does.value (.bool true) ?_ rfl
          go_simp
        · intro ax wx hb hs hd
          refine Does.call 33 #[] (by go_simp) ?_
          refine (tworks_any wx).mono ?_
          rintro e w' ⟨rfl, l⟩
          exact ⟨_, rfl, rfl, l⟩
        · intro ax wx hb hs hd
          have h71 : ax.tmps.getD 71 undef = (.bool true) := hd 8 71 rfl (by kernel_rfl) (by decide)
          have h72 : ax.tmps.getD 72 undef = (.bool true) := hd 9 72 rfl (by kernel_rfl) (by decide)
          refine Does.value (.bool true) ?_ rfl
          go_simp
      · intro wx hb
        refine @Ends.val _ _ _ _ _ _ _ _ _ (.agg (u8s key).toArray) rfl ?_
        refine @Ends.val _ _ _ _ _ _ _ _ _ (.slice (some ⟨O, 0, none⟩) n (n + 3)) rfl ?_
        refine @Ends.val _ _ _ _ _ _ _ _ _ (.agg (u8s T2).toArray) rfl ?_
        refine @Ends.val _ _ _ _ _ _ _ _ _ (.agg (u8s key).toArray) rfl ?_
        refine @Ends.val _ _ _ _ _ _ _ _ _ (.slice xo n xc) rfl ?_
        refine @Ends.any _ _ _ _ _ _ _ _ _ (isB m2) (isB_later _) rfl ?_
        intro v5 p5
        refine @Ends.val _ _ _ _ _ _ _ _ _ (.agg (u8s T2).toArray) rfl ?_
        refine @Ends.val _ _ _ _ _ _ _ _ _ (.bool true) rfl ?_
        refine @Ends.val _ _ _ _ _ _ _ _ _ (.bool true) rfl ?_
        refine @Ends.val _ _ _ _ _ _ _ _ _ (.bool true) rfl ?_
        refine @Ends.val _ _ _ _ _ _ _ _ _ (.bool true) rfl ?_
        refine @Ends.one _ _ _ _ _ _ _ ?_
        simp only [Act.put, List.setIfInBounds_toArray, List.set_cons_zero, List.set_cons_succ]
        refine last_assign (.tmp 73) rfl (some 4) rfl _ rfl ?_
        simp only [Act.put, List.setIfInBounds_toArray, List.set_cons_zero, List.set_cons_succ]
        have LY : Hid (Below w.heap.size w wx) := below_chain Y7.out.2.2.1 hb Y7.out.2.2.1.size
        clear hb
        go_wp2_with fail
        go_ret
        exact ⟨rfl, LY.out⟩
end Go.Proofs.Ytogplebajpdmoaa.tagSums
