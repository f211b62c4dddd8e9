/- The walk of DigestPieces. -/
import Derived.Test.YtpphmodibbeomaaDoorDRows
import Derived.Test.YtpphmodibbeomaaDoorDHeld
namespace Go.Proofs.YtpphmodibbeomaaDoor.digestPieces
open Go.RowKit
set_option linter.unusedVariables false
set_option linter.unusedSimpArgs false

set_option maxRecDepth 20000 in
set_option maxHeartbeats 4000000 in
theorem walk (ao : Option Addr) (n c : Nat) (pss : List (List Int)) (ask : Bool) (w : World) (hx : SeenP w ao n pss) (hn : n ≤ 1048576) (hm : pss.flatten.length ≤ 1048576) (hK : KTab w) :
    Calls Tryd.prog 6 #[.slice ao n c, .bool ask] w fun e w' => e = .returned (.bool true) ∧ Below w.heap.size w w' := by
  obtain ⟨m, hm0⟩ : ∃ m, pss.flatten = m := ⟨_, rfl⟩
  have HX : Hid (SeenP w ao n pss ∧ KTab w ∧ Bytes m) := ⟨hx, hK, by have := seenP_bytes hx n (Nat.le_refl _); rw [List.take_of_length_le (by rw [hx.len]; exact Nat.le_refl _), hm0] at this; exact this⟩
  have HM : Hid (m.length ≤ 1048576 ∧ pss.length = n ∧ pss.flatten = m) := ⟨by rw [← hm0]; exact hm, hx.len, hm0⟩
  have q0 := hK.lt
  have heq : ∀ wx, (Op.equalIn 10000 26 (.agg (u8s (sha m)).toArray) (.agg (u8s (sha m)).toArray)).run Tryd.prog wx = .ok true wx := equal_self 9998 (sha m) (sha_length _)
  clear hx hm hK hm0
  go_enter Tryd.func6, Tryd.ntmps6
  go_wp2_with fail
  refine (works_any w HX.out.2.1).mono ?_
  rintro e w1 ⟨rfl, l1⟩
  have L1 : Hid (Below w.heap.size w w1) := l1
  clear l1
  go_wp2_with fail
  refine (join_any ao n c pss w1 (HX.out.1.later L1.out (Nat.le_refl _)) (by omega) (by rw [HM.out.2.2]; have := HM.out.1; omega)).mono ?_
  rintro e w2 ⟨v2, rfl, o2, l2⟩
  rw [HM.out.2.2] at o2
  obtain ⟨vo, vc, rfl, s2, hvc, _, hvb, _⟩ := own_data HX.out.2.2 (by have := HM.out.1; omega) o2
  have L2 : Hid (Below w.heap.size w w2 ∧ Seen w2 vo m.length m ∧ m.length ≤ vc) := ⟨below_chain L1.out l2 L1.out.size, s2, hvc⟩
  clear o2 l2 s2 hvc hvb
  go_wp2_with fail
  have S3 : Hid (SeenP (w2.alloc (.cells #[.slice vo m.length vc] 29)) (some ⟨w2.heap.size, 0, none⟩) 1 [m]) := seenP1 w2 vo _ vc _ L2.out.2.1 L2.out.2.2
  have L3 : Hid (Below w.heap.size w (w2.alloc (.cells #[.slice vo m.length vc] 29))) := L2.out.1.alloc L2.out.1.size _
  refine (dsum_any _ 1 1 [m] _ S3.out (by decide) (by rw [show ([m] : List (List Int)).flatten = m by simp]; have := HM.out.1; omega) (HX.out.2.1.below L3.out q0)).mono ?_
  rintro e w4 ⟨rfl, l4⟩
  rw [show ([m] : List (List Int)).flatten = m by simp]
  have L4 : Hid (Below w.heap.size w w4) := below_chain L3.out l4 L3.out.size
  clear l4
  go_wp2_with (first | (refine wpList_alloc_new rfl 26 rfl 32 _ zeroAH ?_; intro w5 b5 s5 l5) | (refine wpList_store_blk rfl 26 26 _ _ rfl _ rfl _ (u8s (sha m)) rfl b5 (by rw [u8s_length, sha_length, u8s_length, zer_length]) (by rw [u8s_length, sha_length]; exact sizeAH) (u8s_one _) ?_; intro w6 b6 s6 k6) | (go_at_call 14; refine (new_holds _).mono ?_; rintro e w7 ⟨g, rfl, hg, h7, l7⟩))
  have z4 := L4.out.size
  have L7 : Hid (Below w.heap.size w w7 ∧ Blk w7 w4.heap.size 26 (u8s (sha m)) ∧ Holds w7 g [] ∧ KTab w7 ∧ w.heap.size ≤ w4.heap.size ∧ w4.heap.size < g) := by
    have B7 : Below w.heap.size w w7 := below_chain (below_kept (below_chain L4.out l5 z4) k6 (by omega) (fun j hj => by omega)) l7 (by omega)
    exact ⟨B7, b6.later l7 (by omega), h7, HX.out.2.1.below B7 q0, z4, by omega⟩
  clear b5 s5 l5 b6 s6 k6 hg h7 l7 z4
  go_loopw [8] (fun i wr => ∃ k : Nat, k ≤ n ∧ i = .int .i64 k ∧ Holds wr g (pss.take k).flatten ∧ Below g w7 wr) (fun i _ => n - (intOf i).toNat)
  case atStart => exact ⟨0, Nat.zero_le _, rfl, L7.out.2.2.1, Below.refl _ _⟩
  case round =>
    obtain ⟨k, hk, rfl, hh, hbel⟩ := hrel
    obtain ⟨B1, B2, B3, B4, B5, B6⟩ := L7.out
    by_cases hlt : k < n
    · obtain ⟨b, o, so, cs, rfl, hb, hc, hs, hl⟩ := HX.out.1.cells k hlt
      have c1 : wr.cell? ⟨b, o + k, none⟩ = some (.slice so (pss.getD k []).length cs) := (hbel.cell (p := ⟨b, o + k, none⟩) (by show b < g; omega)).trans ((B1.cell (p := ⟨b, o + k, none⟩) hb).trans hc)
      have BW : Below w.heap.size w wr := below_chain B1 hbel (by omega)
      have S1 : Hid (Seen wr so (pss.getD k []).length (pss.getD k [])) := hs.later BW (Nat.le_refl _)
      have E1 := flat_succ pss k (by have := HM.out.2.1; omega)
      have M1 : Hid ((pss.take k).flatten.length + (pss.getD k []).length < 9223372036854775808) := by
        have h2 := flat_le pss (k + 1)
        rw [E1, List.length_append] at h2
        rw [HM.out.2.2] at h2
        have := HM.out.1
        show _ < _
        omega
      have HH : Hid (Holds wr g (pss.take k).flatten ∧ Below g w7 wr ∧ KTab wr ∧ (pss.take (k + 1)).flatten = (pss.take k).flatten ++ pss.getD k [] ∧ 0 < g ∧ Bytes (pss.getD k []) ∧ (pss.getD k []).length ≤ 140737488355328) := ⟨hh, hbel, HX.out.2.1.below BW q0, E1, by omega, hs.bytes, hs.top⟩
      have i1 : (0 : Int) ≤ (k : Int) := by omega
      have i2 : (k : Int) < (n : Int) := by omega
      obtain ⟨p, hp⟩ : ∃ p, pss.getD k [] = p := ⟨_, rfl⟩
      rw [hp] at c1 S1 M1 HH
      have CK : Hid (∀ W, Below g wr W → W.cell? ⟨b, o + k, none⟩ = some (.slice so p.length cs)) := fun W hW => (hW.cell (p := ⟨b, o + k, none⟩) (by show b < g; omega)).trans c1
      clear hc hs hl hh hbel BW E1 hp B1 B2 B3 B4 B5 B6
      go_wp2_with fail
      refine (copyB_any so p.length cs p wr S1.out).mono ?_
      rintro e w8 ⟨v8, rfl, o8, l8⟩
      obtain ⟨uo, uc, rfl, s8, huc, _, hub, _⟩ := own_data HH.out.2.2.2.2.2.1 HH.out.2.2.2.2.2.2 o8
      have L8 : Hid (Seen w8 uo p.length p ∧ p.length ≤ uc ∧ (∀ b o, 0 < p.length → uo = some ⟨b, o, none⟩ → b ≠ g) ∧ Holds w8 g (pss.take k).flatten ∧ KTab w8 ∧ Below wr.heap.size wr w8) := ⟨s8, huc, fun b o _ e => by have := (hub b o e).1; have := HH.out.1.lt; omega, HH.out.1.later l8 HH.out.1.lt, HH.out.2.2.1.below l8 HH.out.2.2.1.lt, l8⟩
      clear o8 l8 s8 huc hub
      cases ask
      · go_wp2_with (go_at_call 18; refine (write_any g _ uo p.length uc p _ L8.out.2.2.2.1 L8.out.1 L8.out.2.1 L8.out.2.2.1 L8.out.2.2.2.2.1 HH.out.2.2.2.2.1 M1.out).mono ?_; rintro e w9 ⟨rfl, h9, k9⟩; have L9 : Hid (Holds w9 g ((pss.take k).flatten ++ p) ∧ Below g wr w9 ∧ KTab w9) := ⟨h9, below_kept (L8.out.2.2.2.2.2.mono (Nat.le_of_lt HH.out.1.lt)) k9 (by have := HH.out.1.lt; have := L8.out.2.2.2.2.2.size; omega) (fun j hj => by omega), L8.out.2.2.2.2.1.kept k9 (by have := HH.out.2.2.2.2.1; omega)⟩; have c9 := CK.out w9 L9.out.2.1; clear h9 k9)
        exact ⟨⟨k + 1, by omega, by go_num, by rw [HH.out.2.2.2.1]; exact L9.out.1, below_chain HH.out.2.1 L9.out.2.1 (Nat.le_refl _)⟩, by simp [intOf]; omega⟩
      · go_wp2_with (first | (go_at_call 18; refine (write_any g _ uo p.length uc p _ L8.out.2.2.2.1 L8.out.1 L8.out.2.1 L8.out.2.2.1 L8.out.2.2.2.2.1 HH.out.2.2.2.2.1 M1.out).mono ?_; rintro e w9 ⟨rfl, h9, k9⟩; have L9 : Hid (Holds w9 g ((pss.take k).flatten ++ p) ∧ Below g wr w9 ∧ KTab w9) := ⟨h9, below_kept (L8.out.2.2.2.2.2.mono (Nat.le_of_lt HH.out.1.lt)) k9 (by have := HH.out.1.lt; have := L8.out.2.2.2.2.2.size; omega) (fun j hj => by omega), L8.out.2.2.2.2.1.kept k9 (by have := HH.out.2.2.2.2.1; omega)⟩; have c9 := CK.out w9 L9.out.2.1; clear h9 k9) | (go_at_call 20; refine (sum_holds g _ _ L9.out.1 L9.out.2.2).mono ?_; rintro e wA ⟨rfl, lA⟩; have LA : Hid (Holds wA g ((pss.take k).flatten ++ p) ∧ Below g wr wA) := ⟨L9.out.1.later lA L9.out.1.lt, below_chain L9.out.2.1 lA (Nat.le_of_lt L9.out.1.lt)⟩; clear lA))
        exact ⟨⟨k + 1, by omega, by go_num, by rw [HH.out.2.2.2.1]; exact LA.out.1, below_chain HH.out.2.1 LA.out.2 (Nat.le_refl _)⟩, by simp [intOf]; omega⟩
    · obtain rfl : k = n := by omega
      rw [List.take_of_length_le (by have := HM.out.2.1; omega), HM.out.2.2] at hh
      have BW : Below w.heap.size w wr := below_chain B1 hbel (by omega)
      have X0 : Hid (Holds wr g m ∧ KTab wr ∧ Below w.heap.size w wr ∧ (∀ W, Below g wr W → W.rangeAt w4.heap.size 0 (u8s (sha m))) ∧ SeenP wr ao k pss ∧ g < wr.heap.size) := ⟨hh, HX.out.2.1.below BW q0, BW, fun W hW j v hv => by rw [Nat.zero_add, ((B2.later hbel B6).later hW B6).cell]; exact hv, HX.out.1.later BW (Nat.le_refl _), hh.lt⟩
      have u1 := Tryd.underlying26
      have u2 : (Tryd.prog.info? 26).map (·.size) = some (u8s (sha m)).length := by rw [u8s_length, sha_length]; exact sizeAH
      have hmod : IntKind.u64.wrap (m.length : Int) = (m.length : Int) := by rw [IntKind.wrap_u64]; have := HM.out.1; omega
      have hgw : w.heap.size ≤ g := by omega
      clear B1 B2 B3 B4 B5 B6 hh hbel BW
      go_wp2_with fail
      refine wp_region_noPanic (wp_region_held_drew (S := fun W => W.rangeAt w4.heap.size 0 (u8s (sha m))) (by kernel_rfl) (X0.out.2.2.2.1 _ (below_dn (Below.refl _ _) 1)) (fun hH => ?_))
      refine hTake 0 (some 51) (.pointer (some ⟨g, 0, none⟩)) rfl rfl (by kernel_rfl) (by kernel_rfl) (by kernel_rfl) (fun _ _ _ h => h) (by rfl) (fun _ _ => by rfl) hH ?_
      simp only [Act.put, List.setIfInBounds_toArray, List.set_cons_zero, List.set_cons_succ]
      refine hLoad 2 (some 53) (u8s (sha m)) rfl rfl (by kernel_rfl) (by kernel_rfl) (by kernel_rfl) (fun _ _ _ h => h) (by rfl) 26 (.tmp 6) rfl w4.heap.size 0 rfl _ (fun _ h => h) Tryd.underlying26 rfl u2 hH ?_
      simp only [Act.put, List.setIfInBounds_toArray, List.set_cons_zero, List.set_cons_succ]
      refine wpAnyH_ready (rs := [1]) (by kernel_rfl) (by simp) (AllReadyH.cons rfl (fun K hK => ?_) AllReadyH.nil)
      go_simp
      go_wp2_with (go_at_call 20; refine (sum_holds g m wr.drew ⟨X0.out.1.hash.drewN 1⟩ X0.out.2.1).mono ?_; rintro e wA ⟨rfl, lA⟩; have GA : Hid (Below g wr wA ∧ Holds wA g m ∧ KTab wA) := ⟨below_chain (below_dn (Below.refl g wr) 1) lA (Nat.le_of_lt X0.out.2.2.2.2.2), Holds.later (w := wr.drewN 1) ⟨X0.out.1.hash.drewN 1⟩ lA X0.out.2.2.2.2.2, KTab.below (w := wr.drewN 1) X0.out.2.1 lA X0.out.2.1.lt⟩; clear lA)
      refine hK.out _ _ (X0.out.2.2.2.1 _ GA.out.1) (fun hH => ?_)
      clear hK K
      refine hTake 3 (some 54) (.bool true) rfl rfl (by kernel_rfl) (by kernel_rfl) (by kernel_rfl) (fun _ _ _ h => h) (by rfl) (fun _ _ => by go_simp) hH ?_
      simp only [Act.put, List.setIfInBounds_toArray, List.set_cons_zero, List.set_cons_succ]
      refine hTake 4 (some 55) (.bool true) rfl rfl (by kernel_rfl) (by kernel_rfl) (by kernel_rfl) (fun _ _ _ h => h) (by rfl) (fun _ _ => by rfl) hH ?_
      simp only [Act.put, List.setIfInBounds_toArray, List.set_cons_zero, List.set_cons_succ]
      refine hTake 5 (some 56) (.pointer (some ⟨g, 0, none⟩)) rfl rfl (by kernel_rfl) (by kernel_rfl) (by kernel_rfl) (fun _ _ _ h => h) (by rfl) (fun _ _ => by rfl) hH ?_
      simp only [Act.put, List.setIfInBounds_toArray, List.set_cons_zero, List.set_cons_succ]
      refine hLoad 7 (some 58) (u8s (sha m)) rfl rfl (by kernel_rfl) (by kernel_rfl) (by kernel_rfl) (fun _ _ _ h => h) (by rfl) 26 (.tmp 6) rfl w4.heap.size 0 rfl _ (fun _ h => h) Tryd.underlying26 rfl u2 hH ?_
      simp only [Act.put, List.setIfInBounds_toArray, List.set_cons_zero, List.set_cons_succ]
      refine wpAnyH_ready (rs := [6]) (by kernel_rfl) (by simp) (AllReadyH.cons rfl (fun K hK => ?_) AllReadyH.nil)
      go_simp
      go_wp2_with (go_at_call 20; refine (sum_holds g m _ GA.out.2.1 GA.out.2.2).mono ?_; rintro e wB ⟨rfl, lB⟩; have GB : Hid (Below g wr wB ∧ Holds wB g m ∧ KTab wB) := ⟨below_chain GA.out.1 lB (Nat.le_of_lt GA.out.2.1.lt), GA.out.2.1.later lB GA.out.2.1.lt, GA.out.2.2.below lB GA.out.2.2.lt⟩; clear lB)
      refine hK.out _ _ (X0.out.2.2.2.1 _ GB.out.1) (fun hH => ?_)
      clear hK K
      refine hTake 8 (some 59) (.bool true) rfl rfl (by kernel_rfl) (by kernel_rfl) (by kernel_rfl) (fun _ _ _ h => h) (by rfl) (fun _ _ => by go_simp) hH ?_
      simp only [Act.put, List.setIfInBounds_toArray, List.set_cons_zero, List.set_cons_succ]
      refine hTake 9 (some 60) (.bool true) rfl rfl (by kernel_rfl) (by kernel_rfl) (by kernel_rfl) (fun _ _ _ h => h) (by rfl) (fun _ _ => by rfl) hH ?_
      simp only [Act.put, List.setIfInBounds_toArray, List.set_cons_zero, List.set_cons_succ]
      refine hTake 10 (some 61) (.bool true) rfl rfl (by kernel_rfl) (by kernel_rfl) (by kernel_rfl) (fun _ _ _ h => h) (by rfl) (fun _ _ => by rfl) hH ?_
      simp only [Act.put, List.setIfInBounds_toArray, List.set_cons_zero, List.set_cons_succ]
      refine hTake 11 (some 62) (.slice ao k c) rfl rfl (by kernel_rfl) (by kernel_rfl) (by kernel_rfl) (fun _ _ _ h => h) (by rfl) (fun _ _ => by rfl) hH ?_
      simp only [Act.put, List.setIfInBounds_toArray, List.set_cons_zero, List.set_cons_succ]
      refine hLoad 14 (some 65) (u8s (sha m)) rfl rfl (by kernel_rfl) (by kernel_rfl) (by kernel_rfl) (fun _ _ _ h => h) (by rfl) 26 (.tmp 6) rfl w4.heap.size 0 rfl _ (fun _ h => h) Tryd.underlying26 rfl u2 hH ?_
      simp only [Act.put, List.setIfInBounds_toArray, List.set_cons_zero, List.set_cons_succ]
      refine wpAnyH_ready (rs := [12]) (by kernel_rfl) (by simp) (AllReadyH.cons rfl (fun K hK => ?_) AllReadyH.nil)
      go_simp
      go_wp2_with (go_at_call 13; refine (copyR_any ao k c pss _ (HX.out.1.later (below_chain X0.out.2.2.1 GB.out.1 (by omega)) (Nat.le_refl _)) hn).mono ?_; rintro e wC ⟨xo, xc, rfl, sC, hxc, lC⟩; have GC : Hid (Below g wr wC ∧ Holds wC g m ∧ KTab wC ∧ SeenP wC xo k pss) := ⟨below_chain GB.out.1 lC (Nat.le_of_lt GB.out.2.1.lt), GB.out.2.1.later lC GB.out.2.1.lt, GB.out.2.2.below lC GB.out.2.2.lt, sC⟩; clear sC hxc lC)
      refine hK.out _ _ (X0.out.2.2.2.1 _ GC.out.1) (fun hH => ?_)
      clear hK K
      refine wpAnyH_ready (rs := [13]) (by kernel_rfl) (by simp) (AllReadyH.cons rfl (fun K hK => ?_) AllReadyH.nil)
      go_simp
      go_wp2_with (go_at_call 9; refine (dsum_any xo k xc pss _ GC.out.2.2.2 (by omega) (by rw [HM.out.2.2]; have := HM.out.1; omega) GC.out.2.2.1).mono ?_; rintro e wD ⟨rfl, lD⟩; rw [HM.out.2.2]; have GD : Hid (Below g wr wD ∧ Holds wD g m) := ⟨below_chain GC.out.1 lD (Nat.le_of_lt GC.out.2.1.lt), GC.out.2.1.later lD GC.out.2.1.lt⟩; clear lD)
      refine hK.out _ _ (X0.out.2.2.2.1 _ GD.out.1) (fun hH => ?_)
      clear hK K
      refine hTake 15 (some 66) (.bool true) rfl rfl (by kernel_rfl) (by kernel_rfl) (by kernel_rfl) (fun _ _ _ h => h) (by rfl) (fun _ _ => by go_simp) hH ?_
      simp only [Act.put, List.setIfInBounds_toArray, List.set_cons_zero, List.set_cons_succ]
      refine hTake 16 (some 67) (.bool true) rfl rfl (by kernel_rfl) (by kernel_rfl) (by kernel_rfl) (fun _ _ _ h => h) (by rfl) (fun _ _ => by rfl) hH ?_
      simp only [Act.put, List.setIfInBounds_toArray, List.set_cons_zero, List.set_cons_succ]
      refine hTake 17 (some 68) (.bool true) rfl rfl (by kernel_rfl) (by kernel_rfl) (by kernel_rfl) (fun _ _ _ h => h) (by rfl) (fun _ _ => by rfl) hH ?_
      simp only [Act.put, List.setIfInBounds_toArray, List.set_cons_zero, List.set_cons_succ]
      refine hTake 18 (some 69) (.pointer (some ⟨g, 0, none⟩)) rfl rfl (by kernel_rfl) (by kernel_rfl) (by kernel_rfl) (fun _ _ _ h => h) (by rfl) (fun _ _ => by rfl) hH ?_
      simp only [Act.put, List.setIfInBounds_toArray, List.set_cons_zero, List.set_cons_succ]
      refine hTake 20 (some 71) (.slice vo m.length vc) rfl rfl (by kernel_rfl) (by kernel_rfl) (by kernel_rfl) (fun _ _ _ h => h) (by rfl) (fun _ _ => by rfl) hH ?_
      simp only [Act.put, List.setIfInBounds_toArray, List.set_cons_zero, List.set_cons_succ]
      refine hTake 21 (some 72) (.int .i64 m.length) rfl rfl (by kernel_rfl) (by kernel_rfl) (by kernel_rfl) (fun _ _ _ h => h) (by rfl) (fun _ _ => by go_simp) hH ?_
      simp only [Act.put, List.setIfInBounds_toArray, List.set_cons_zero, List.set_cons_succ]
      refine hTake 22 (some 73) (.int .u64 m.length) rfl rfl (by kernel_rfl) (by kernel_rfl) (by kernel_rfl) (fun _ _ _ h => h) (by rfl) (fun _ _ => by go_simp) hH ?_
      simp only [Act.put, List.setIfInBounds_toArray, List.set_cons_zero, List.set_cons_succ]
      refine wpAnyH_ready (rs := [19]) (by kernel_rfl) (by simp) (AllReadyH.cons rfl (fun K hK => ?_) AllReadyH.nil)
      go_simp
      go_wp2_with (go_at_call 21; refine (len_holds g m _ GD.out.2).mono ?_; rintro e wE ⟨rfl, rfl⟩)
      refine hK.out _ _ (X0.out.2.2.2.1 _ GD.out.1) (fun hH => ?_)
      clear hK K
      refine hTake 23 (some 74) (.bool true) rfl rfl (by kernel_rfl) (by kernel_rfl) (by kernel_rfl) (fun _ _ _ h => h) (by rfl) (fun _ _ => by go_simp) hH ?_
      simp only [Act.put, List.setIfInBounds_toArray, List.set_cons_zero, List.set_cons_succ]
      refine hTake 24 (some 75) (.bool true) rfl rfl (by kernel_rfl) (by kernel_rfl) (by kernel_rfl) (fun _ _ _ h => h) (by rfl) (fun _ _ => by rfl) hH ?_
      simp only [Act.put, List.setIfInBounds_toArray, List.set_cons_zero, List.set_cons_succ]
      refine hTake 25 (some 4) (.bool true) rfl rfl (by kernel_rfl) (by kernel_rfl) (by kernel_rfl) (fun _ _ _ h => h) (by rfl) (fun _ _ => by rfl) hH ?_
      simp only [Act.put, List.setIfInBounds_toArray, List.set_cons_zero, List.set_cons_succ]
      refine wpAnyH_done (by kernel_rfl) (NoPanic.normal ?_) _
      go_wp2
      go_ret
      exact ⟨rfl, below_chain X0.out.2.2.1 GD.out.1 hgw⟩
end Go.Proofs.YtpphmodibbeomaaDoor.digestPieces
