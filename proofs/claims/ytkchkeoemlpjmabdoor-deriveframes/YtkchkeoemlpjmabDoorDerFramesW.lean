/- The walk of DeriveFrames. -/
import Derived.Test.YtkchkeoemlpjmabDoorVWorks
import Derived.Test.YtkchkeoemlpjmabDoorRTwin
import Derived.Test.YtkchkeoemlpjmabDoorDHeld
import Derived.Test.YtkchkeoemlpjmabDoorVSlice
namespace Go.Proofs.YtkchkeoemlpjmabDoor.deriveFrames
open Go.RowKit
set_option linter.unusedVariables false
set_option linter.unusedSimpArgs false

set_option maxRecDepth 20000 in
set_option maxHeartbeats 4000000 in
theorem walk (ko : Option Addr) (kn kc : Nat) (key : List Int) (ao : Option Addr) (n c : Nat) (zs : List Int) (z : Int) (w : World) (hk : Seen w ko kn key) (hkc : kn ≤ kc) (hx : Seen w ao n zs) (hc : n ≤ c) (hK : KTab w) :
    Calls Tryd.prog 4 #[.slice ko kn kc, .slice ao n c, .int .i64 z] w fun e w' => e = .returned (.bool true) ∧ Below w.heap.size w w' := by
  have HX : Hid (Seen w ko kn key ∧ kn ≤ kc ∧ Seen w ao n zs ∧ n ≤ c ∧ KTab w) := ⟨hk, hkc, hx, hc, hK⟩
  have HL : Hid (key.length = kn ∧ zs.length = n) := ⟨hk.len, hx.len⟩
  have ht := hx.top
  have hkt := hk.top
  clear hk hkc hx hc hK
  go_enter Tryd.func4, Tryd.ntmps4
  go_wp2_with (go_at_call 8; refine (twin_any ko kn kc key _ HX.out.1).mono ?_; rintro e w1 ⟨v1, rfl, o1, l1⟩)
  obtain ⟨T, hT, hT65⟩ : ∃ T : Nat, (IntKind.u64.wrap z).tmod 65 = (T : Int) ∧ T < 65 := ⟨((IntKind.u64.wrap z).tmod 65).toNat, by rw [IntKind.wrap_u64, Int.tmod_eq_emod_of_nonneg (by omega)]; omega, by rw [IntKind.wrap_u64, Int.tmod_eq_emod_of_nonneg (by omega)]; omega⟩
  have hTw : wrap64 (T : Int) = (T : Int) := by unfold wrap64; omega
  obtain ⟨i0, hi, hz0, hz1, hz2⟩ := info_parts info_byte
  have HO : Hid (w1.ownsRow w.heap.size 5 1 v1 (kn + 0) ((key ++ zer 0).map (Value.int .u8)) ∧ Below w.heap.size w w1) := ⟨by simpa [zer] using o1, l1⟩
  clear o1 l1
  go_loopw [7, 8] (fun v i wr => ∃ (j : Nat) (vo : Option Addr) (cap : Nat), j ≤ T ∧ (j = 0 ∨ kn + j ≤ 64) ∧ v = .slice vo (kn + j) cap ∧ i = .int .i64 j ∧ wr.ownsRow w.heap.size 5 1 v (kn + j) ((key ++ zer j).map (Value.int .u8)) ∧ Below w.heap.size w wr) (fun _ i _ => T - (intOf i).toNat)
  case atStart =>
    rcases own_len (n := kn + 0) (by simp [zer, HL.out.1]) HO.out.1 with ⟨rfl, h0⟩ | ⟨g, cap, rfl, _⟩
    · exact ⟨0, none, 0, Nat.zero_le _, .inl rfl, by rw [h0], rfl, HO.out⟩
    · exact ⟨0, _, cap, Nat.zero_le _, .inl rfl, rfl, rfl, HO.out⟩
  case round =>
    obtain ⟨j, vo, cap, hj, hj2, rfl, rfl, hown, hbel⟩ := hrel
    by_cases hlt : j < T ∧ kn + j < 64
    · have i1 : (j : Int) < (T : Int) := by omega
      have i2 : ((kn : Int) + (j : Int)) < 64 := by omega
      have i2' : ((kn + j : Nat) : Int) < 64 := by omega
      have hsz := hbel.size
      obtain ⟨L, hL⟩ : ∃ L, key ++ zer j = L := ⟨_, rfl⟩
      rw [hL] at hown
      have HLL : Hid (key ++ zer j = L) := hL
      clear hL
      go_wp2_with (at_builtin; refine wpList_append_own _ rfl _ _ 22 rfl w.heap.size 5 i0 (.int .u8 0) 1 1 Tryd.underlying22 hi hz0 hz1 hz2 rfl (by decide) _ _ _ rfl (hown.alloc _) ⟨wr.heap.size, 0, none⟩ 1 1 [.int .u8 0] rfl rfl ?c1 ?c2 ?c3 ?c4 ?c5 ?_)
      case c1 => exact one_new _ _ _
      case c2 => intro u hu; simp at hu; subst hu; rfl
      case c3 => unfold maxLen; omega
      case c4 => omega
      case c5 => simp; omega
      · intro v' w2 hown' hgrow _
        have R1 : w2.ownsRow w.heap.size 5 1 v' (kn + (j + 1)) ((key ++ zer (j + 1)).map (Value.int .u8)) := by
          rw [zer_add, ← List.append_assoc, HLL.out, List.map_append]; exact hown'
        have R2 : Below w.heap.size w w2 := (hbel.alloc hsz _).grown hgrow (by simp; omega) (fun j hj => (hown.lt j hj).1)
        obtain ⟨vo', cap', rfl⟩ : ∃ vo' cap', v' = .slice vo' (kn + (j + 1)) cap' := by
          rcases own_len (by simp [zer, HL.out.1]) R1 with ⟨_, h0⟩ | ⟨g, cap, rfl, _⟩
          · omega
          · exact ⟨_, _, rfl⟩
        clear hown' hgrow hown hbel
        go_wp2
        go_roundw
        case rel => exact ⟨j + 1, vo', cap', by omega, .inr (by omega), rfl, by go_num, R1, R2⟩
        case measure => simp [intOf]; omega
    · have HQ : Hid (wr.ownsRow w.heap.size 5 1 (.slice vo (kn + j) cap) (kn + j) ((key ++ zer j).map (Value.int .u8)) ∧ Below w.heap.size w wr ∧ mac (key ++ zer j) zs = mac key zs) := ⟨hown, hbel, by
        rcases hj2 with rfl | h
        · simp [zer]
        · exact mac_pad key zs j (by rw [HL.out.1]; exact h)⟩
      have HV : Hid (Seen wr vo (kn + j) (key ++ zer j) ∧ kn + j ≤ cap) := by
        have e0 : (key ++ zer j).length = kn + j := by simp [zer, HL.out.1]
        have ho := hown
        rw [← e0] at ho
        obtain ⟨vo', cap', e, s, h, _⟩ := own_data (bytes_app HX.out.1.bytes (zer_bytes j)) (by rw [e0]; omega) ho
        simp only [Value.slice.injEq] at e
        obtain ⟨rfl, _, rfl⟩ := e
        rw [e0] at s h
        exact ⟨s, h⟩
      clear hown hbel
      obtain ⟨h2, hh2, hh2'⟩ : ∃ h2 : Nat, (n : Int).tdiv 2 = (h2 : Int) ∧ h2 ≤ n := ⟨n / 2, by rw [Int.tdiv_eq_ediv_of_nonneg (by omega)]; omega, by omega⟩
      have hex : (¬ ((j : Int) < (T : Int)) ∧ ¬ j < T) ∨ ((j : Int) < (T : Int) ∧ ¬ (((kn + j : Nat) : Int) < 64)) := by omega
      have q0 := HX.out.2.2.2.2.lt
      have f1 := sl_h ao n c h2 (by have := HX.out.2.2.2.1; omega)
      have f2 := sl_l ao n c h2 hh2'
      have hcat : Hid (([] ++ zs.take h2) ++ zs.drop h2 = zs) := by show _ = _; simp
      have heq : ∀ wx, (Op.equalIn 10000 34 (.agg (u8s (mac key zs)).toArray) (.agg (u8s (mac key zs)).toArray)).run Tryd.prog wx = .ok true wx := equal_self 9998 (mac key zs) (mac_length _ _)
      have hm0 : zs.length < 4611686018427387904 := by rw [HL.out.2]; omega
      rcases hex with ⟨hex, hex2⟩ | ⟨hex, hex2⟩
      all_goals
        go_wp2_with (first | (go_at_call 10; refine (vsum_any ko kn kc key _ 1 1 [zs] _ ((HX.out.1.later HQ.out.2.1 (Nat.le_refl _)).later ((Below.refl _ _).alloc (Nat.le_refl _) _) (Nat.le_refl _)) HX.out.2.1 (seenP1 wr ao n c zs (HX.out.2.2.1.later HQ.out.2.1 (Nat.le_refl _)) HX.out.2.2.2.1) (by decide) (by rw [show ([zs] : List (List Int)).flatten = zs by simp]; exact hm0) (HX.out.2.2.2.2.below (HQ.out.2.1.alloc HQ.out.2.1.size _) q0)).mono ?_; rintro e w2 ⟨rfl, l2⟩; rw [show ([zs] : List (List Int)).flatten = zs by simp]; have G2 : Hid (Below wr.heap.size wr w2) := below_chain ((Below.refl wr.heap.size wr).alloc (Nat.le_refl _) (.cells #[.slice ao n c] 22)) l2 (by simp); clear l2) | (refine wpList_alloc_new rfl 34 rfl 32 _ zeroAH ?_; intro w3 b3 s3 l3; have Z3 : Hid (w3.heap.size = w2.heap.size + 1) := s3; clear s3) | (refine wpList_store_blk rfl 34 34 _ _ rfl _ rfl _ (u8s (mac key zs)) rfl b3 (by rw [u8s_length, mac_length, u8s_length, zer_length]) (by rw [u8s_length, mac_length]; exact sizeAH) (u8s_one _) ?_; intro w4 b4 s4 k4; have G4 : Hid (Blk w4 w2.heap.size 34 (u8s (mac key zs)) ∧ Below wr.heap.size wr w4 ∧ Below w.heap.size w w4 ∧ w2.heap.size < w4.heap.size) := (by have := Z3.out; have q := G2.out.size; have B := below_kept (below_chain G2.out l3 (by omega)) k4 (by omega) (fun j hj => by omega); exact ⟨b4, B, below_chain HQ.out.2.1 B HQ.out.2.1.size, by omega⟩); clear b4 s4 k4 b3 l3) | (go_at_call 7; refine (vnew_any vo (kn + j) cap (key ++ zer j) _ (HV.out.1.later G4.out.2.1 (Nat.le_refl _)) HV.out.2 (HX.out.2.2.2.2.below G4.out.2.2.1 q0)).mono ?_; rintro e w5 ⟨P, g, g', rfl, hP, hg, hg', m5, l5⟩; have B5 : Hid (Below w.heap.size w w5) := below_chain G4.out.2.2.1 l5 G4.out.2.2.1.size; have G5 : Hid (Seen w5 (subA ao 0 c) h2 (zs.take h2) ∧ (∀ b o, 0 < h2 → subA ao 0 c = some ⟨b, o, none⟩ → b ≠ g) ∧ KTab w5 ∧ 0 < g ∧ ([] : List Int).length + h2 < 9223372036854775744) := (by have q := HX.out.2.2.1.sub 0 h2 c (Nat.zero_le _) hh2' HX.out.2.2.2.1; rw [Nat.sub_zero, List.drop_zero] at q; have z4 := G4.out.2.2.1.size; exact ⟨q.later B5.out (Nat.le_refl _), fun b o h0 e => by have := q.old (Nat.le_refl _) b o h0 e; omega, HX.out.2.2.2.2.below B5.out q0, by omega, by simp; omega⟩); have G5b : Hid (Seen w5 (subA ao h2 c) (n - h2) (zs.drop h2) ∧ (∀ b o, 0 < n - h2 → subA ao h2 c = some ⟨b, o, none⟩ → b ≠ g)) := (by have q := HX.out.2.2.1.sub h2 n c hh2' (Nat.le_refl _) HX.out.2.2.2.1; rw [List.take_of_length_le (by rw [List.length_drop, HL.out.2]; exact Nat.le_refl _)] at q; have z4 := G4.out.2.2.1.size; exact ⟨q.later B5.out (Nat.le_refl _), fun b o h0 e => by have := q.old (Nat.le_refl _) b o h0 e; omega⟩)) | ((with_reducible show Calls _ _ _ w5 _); go_at_call 9; refine (mwrite_any P g g' _ [] (subA ao 0 c) h2 c (zs.take h2) _ m5 G5.out.1 (by have := HX.out.2.2.2.1; omega) G5.out.2.1 G5.out.2.2.1 G5.out.2.2.2.1 G5.out.2.2.2.2).mono ?_; rintro e w6 ⟨rfl, m6, k6⟩; have G6 : Hid (Seen w6 (subA ao h2 c) (n - h2) (zs.drop h2)) := G5b.out.1.kept k6 G5b.out.2) | (go_at_call 9; refine (mwrite_any P g g' _ ([] ++ zs.take h2) (subA ao h2 c) (n - h2) (c - h2) (zs.drop h2) _ m6 G6.out (by have := HX.out.2.2.2.1; omega) G5b.out.2 (G5.out.2.2.1.kept k6 (by have := G5.out.2.2.2.1; omega)) G5.out.2.2.2.1 (by simp; have := HL.out.2; omega)).mono ?_; rintro e w7 ⟨rfl, m7, k7⟩; rw [hcat.out] at m7))
        have HG : Hid (∀ W, Below w7.heap.size w7 W → KTab W ∧ Seen W vo (kn + j) (key ++ zer j) ∧ Seen W ao n zs ∧ MacAt W P g g' (key ++ zer j) zs ∧ W.rangeAt w2.heap.size 0 (u8s (mac key zs)) ∧ Below w.heap.size w W) := fun W hW => by
          obtain ⟨x1, x2, x3, x4⟩ := G4.out
          have z4 := x3.size
          have zr := HQ.out.2.1.size
          have B7 : Below w4.heap.size w4 w7 := below_kept (below_kept l5 k6 l5.size (fun i hi => by omega)) k7 (Nat.le_trans l5.size k6.size) (fun i hi => by omega)
          have BW := below_chain B7 hW B7.size
          have BA := below_chain x3 BW z4
          exact ⟨HX.out.2.2.2.2.below BA q0, (HV.out.1.later x2 (Nat.le_refl _)).later BW (Nat.le_refl _), HX.out.2.2.1.later BA (Nat.le_refl _), m7.now hW, fun i v hv => by rw [Nat.zero_add, (x1.later BW x4).cell]; exact hv, BA⟩
        have u2 : (Tryd.prog.info? 34).map (·.size) = some (u8s (mac key zs)).length := by rw [u8s_length, mac_length]; exact sizeAH
        have HE : Hid (mac (key ++ zer j) zs = mac key zs) := HQ.out.2.2
        clear k6 k7 m5 m6 m7 f1 f2
        have L0 : Hid (Below w7.heap.size w7 w7.drew) := below_dn (Below.refl _ _) 1
        refine wp_region_noPanic (wp_region_held_drew (S := fun W => W.rangeAt w2.heap.size 0 (u8s (mac key zs))) (by kernel_rfl) ((HG.out _ L0.out).2.2.2.2.1) (fun hH => ?_))
        refine hTake 0 (some 51) (Value.slice vo (kn + j) cap) rfl rfl (by kernel_rfl) (by kernel_rfl) (by kernel_rfl) (fun _ _ _ h => h) (by rfl) (fun W' hS' => by rfl) hH ?_
        simp only [Act.put, List.setIfInBounds_toArray, List.set_cons_zero, List.set_cons_succ]
        refine hTake 1 (some 52) (Value.slice ao n c) rfl rfl (by kernel_rfl) (by kernel_rfl) (by kernel_rfl) (fun _ _ _ h => h) (by rfl) (fun W' hS' => by rfl) hH ?_
        simp only [Act.put, List.setIfInBounds_toArray, List.set_cons_zero, List.set_cons_succ]
        refine hLoad 4 (some 55) (u8s (mac key zs)) rfl rfl (by kernel_rfl) (by kernel_rfl) (by kernel_rfl) (fun _ _ _ h => h) (by rfl) 34 (.tmp 9) rfl w2.heap.size 0 rfl _ (fun _ h => h) Tryd.underlying34 rfl u2 hH ?_
        simp only [Act.put, List.setIfInBounds_toArray, List.set_cons_zero, List.set_cons_succ]
        refine wpAnyH_ready (rs := [2]) (by kernel_rfl) (by simp) (AllReadyH.cons rfl (fun K hK => ?_) AllReadyH.nil)
        go_simp
        have L1 : Hid (Below w7.heap.size w7 (w7.drew.alloc (.cells #[(Value.slice ao n c)] 22))) := L0.out.alloc L0.out.size _
        refine hK.out _ _ ((HG.out _ L1.out).2.2.2.2.1) (fun hH => ?_)
        clear hK K
        refine wpAnyH_ready (rs := [3]) (by kernel_rfl) (by simp) (AllReadyH.cons rfl (fun K hK => ?_) AllReadyH.nil)
        go_simp
        go_wp2_with (go_at_call 10; refine (vsum_any vo (kn + j) cap (key ++ zer j) _ 1 1 [zs] _ (HG.out _ L1.out).2.1 HV.out.2 (seenP1 w7.drew ao n c zs (HG.out _ L0.out).2.2.1 HX.out.2.2.2.1) (by decide) (by rw [show ([zs] : List (List Int)).flatten = zs by simp]; exact hm0) (HG.out _ L1.out).1).mono ?_; rintro e x2 ⟨rfl, lx⟩; rw [show ([zs] : List (List Int)).flatten = zs by simp, HE.out]; have L2 : Hid (Below w7.heap.size w7 x2) := below_chain L1.out lx L1.out.size; clear lx)
        refine hK.out _ _ ((HG.out _ L2.out).2.2.2.2.1) (fun hH => ?_)
        clear hK K
        refine hTake 5 (some 56) (.bool true) rfl rfl (by kernel_rfl) (by kernel_rfl) (by kernel_rfl) (fun _ _ _ h => h) (by rfl) (fun W' hS' => by go_simp) hH ?_
        simp only [Act.put, List.setIfInBounds_toArray, List.set_cons_zero, List.set_cons_succ]
        refine hTake 6 (some 57) (.bool true) rfl rfl (by kernel_rfl) (by kernel_rfl) (by kernel_rfl) (fun _ _ _ h => h) (by rfl) (fun W' hS' => by rfl) hH ?_
        simp only [Act.put, List.setIfInBounds_toArray, List.set_cons_zero, List.set_cons_succ]
        refine hTake 7 (some 58) (Value.pointer (some { block := P, off := 0 })) rfl rfl (by kernel_rfl) (by kernel_rfl) (by kernel_rfl) (fun _ _ _ h => h) (by rfl) (fun W' hS' => by rfl) hH ?_
        simp only [Act.put, List.setIfInBounds_toArray, List.set_cons_zero, List.set_cons_succ]
        refine hLoad 9 (some 60) (u8s (mac key zs)) rfl rfl (by kernel_rfl) (by kernel_rfl) (by kernel_rfl) (fun _ _ _ h => h) (by rfl) 34 (.tmp 9) rfl w2.heap.size 0 rfl _ (fun _ h => h) Tryd.underlying34 rfl u2 hH ?_
        simp only [Act.put, List.setIfInBounds_toArray, List.set_cons_zero, List.set_cons_succ]
        refine wpAnyH_ready (rs := [8]) (by kernel_rfl) (by simp) (AllReadyH.cons rfl (fun K hK => ?_) AllReadyH.nil)
        go_simp
        go_wp2_with (go_at_call 11; refine (msum_any P g g' (key ++ zer j) zs _ (HG.out _ L2.out).2.2.2.1 (HG.out _ L2.out).1).mono ?_; rintro e x3 ⟨rfl, lx⟩; rw [HE.out]; have L3 : Hid (Below w7.heap.size w7 x3) := below_chain L2.out lx L2.out.size; clear lx)
        refine hK.out _ _ ((HG.out _ L3.out).2.2.2.2.1) (fun hH => ?_)
        clear hK K
        refine hTake 10 (some 61) (.bool true) rfl rfl (by kernel_rfl) (by kernel_rfl) (by kernel_rfl) (fun _ _ _ h => h) (by rfl) (fun W' hS' => by go_simp) hH ?_
        simp only [Act.put, List.setIfInBounds_toArray, List.set_cons_zero, List.set_cons_succ]
        refine hTake 11 (some 62) (.bool true) rfl rfl (by kernel_rfl) (by kernel_rfl) (by kernel_rfl) (fun _ _ _ h => h) (by rfl) (fun W' hS' => by rfl) hH ?_
        simp only [Act.put, List.setIfInBounds_toArray, List.set_cons_zero, List.set_cons_succ]
        refine hTake 12 (some 63) (.bool true) rfl rfl (by kernel_rfl) (by kernel_rfl) (by kernel_rfl) (fun _ _ _ h => h) (by rfl) (fun W' hS' => by rfl) hH ?_
        simp only [Act.put, List.setIfInBounds_toArray, List.set_cons_zero, List.set_cons_succ]
        refine wpAnyH_ready (rs := [13]) (by kernel_rfl) (by simp) (AllReadyH.cons rfl (fun K hK => ?_) AllReadyH.nil)
        go_simp
        go_wp2_with (go_at_call 14; refine (works_any _ (HG.out _ L3.out).1).mono ?_; rintro e x4 ⟨rfl, lx⟩; have L4 : Hid (Below w7.heap.size w7 x4) := below_chain L3.out lx L3.out.size; clear lx)
        refine hK.out _ _ ((HG.out _ L4.out).2.2.2.2.1) (fun hH => ?_)
        clear hK K
        refine hTake 14 (some 65) (.bool true) rfl rfl (by kernel_rfl) (by kernel_rfl) (by kernel_rfl) (fun _ _ _ h => h) (by rfl) (fun W' hS' => by rfl) hH ?_
        simp only [Act.put, List.setIfInBounds_toArray, List.set_cons_zero, List.set_cons_succ]
        refine hTake 15 (some 6) (.bool true) rfl rfl (by kernel_rfl) (by kernel_rfl) (by kernel_rfl) (fun _ _ _ h => h) (by rfl) (fun W' hS' => by rfl) hH ?_
        simp only [Act.put, List.setIfInBounds_toArray, List.set_cons_zero, List.set_cons_succ]
        refine wpAnyH_done (by kernel_rfl) (NoPanic.normal ?_) _
        clear hH
        go_wp2
        go_ret
        exact ⟨rfl, (HG.out _ L4.out).2.2.2.2.2⟩
end Go.Proofs.YtkchkeoemlpjmabDoor.deriveFrames
