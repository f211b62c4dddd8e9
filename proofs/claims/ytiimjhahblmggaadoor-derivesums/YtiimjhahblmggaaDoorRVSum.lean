/- The document's answer for layer derive (trystref04): the code of a text under a key. -/
import Derived.Test.YtiimjhahblmggaaDoorRVFrame
namespace Go.Proofs.YtiimjhahblmggaaDoor
open Go.RowKit
set_option linter.unusedVariables false
set_option linter.unusedSimpArgs false

set_option maxRecDepth 20000 in
set_option maxHeartbeats 1000000 in
theorem rvsum_any (ko : Option Addr) (kn kc : Nat) (key : List Int) (bo : Option Addr) (bn bc : Nat) (zs : List Int) (w : World) (hk : Seen w ko kn key) (hkc : ko = none → kc = 0) (hkn : kn ≤ 35184372088832) (hb : Seen w bo bn zs) (hbc : bo = none → bc = 0) (hbn : bn ≤ 17592186044416) :
    Calls Tryd.prog 11 #[.slice ko kn kc, .slice bo bn bc] w fun e w' => e = .returned (.agg (u8s (mac key zs)).toArray) ∧ Below w.heap.size w w' := by
  have HX : Hid (Seen w ko kn key ∧ Seen w bo bn zs ∧ Bytes zs) := ⟨hk, hb, hb.bytes⟩
  have HL : Hid (zs.length = bn) := hb.len
  have HI : Hid ((turn 54 (frm key) ++ zs).length = 64 + bn ∧ Bytes (turn 54 (frm key) ++ zs) ∧ (turn 92 (frm key)).length = 64) := ⟨by rw [List.length_append, turn_frm, hb.len], bytes_app (turn_bytes _ _) hb.bytes, turn_frm _ _⟩
  obtain ⟨I, hI⟩ : ∃ I, turn 54 (frm key) ++ zs = I := ⟨_, rfl⟩
  have HM : Hid (mac key zs = sha (turn 92 (frm key) ++ sha I)) := by show _ = _; rw [mac, hI]
  obtain ⟨S, hS⟩ : ∃ S, sha I = S := ⟨_, rfl⟩
  have HS : Hid (S.length = 32 ∧ Bytes S ∧ sha I = S) := ⟨by rw [← hS]; exact sha_length _, by rw [← hS]; exact sha_bytes _, hS⟩
  rw [hS] at HM
  rw [hI] at HI
  have HIe : Hid (turn 54 (frm key) ++ zs = I) := hI
  clear hk hb hI hS
  obtain ⟨i0, hi, hz0, hz1, hz2⟩ := info_parts info_byte
  go_enter Tryd.func11, Tryd.ntmps11
  go_wp2_with (first | (refine wpList_alloc_new rfl 28 rfl 32 _ zeroAH ?_; intro w1 b1 s1 l1; have Z1 : Hid (w1.heap.size = w.heap.size + 1) := s1; clear s1) | ((with_reducible show Calls _ _ #[_, .int .u8 54] _ _); go_at_call 32; refine (rframe_any ko kn kc key 54 _ (HX.out.1.later l1 (Nat.le_refl _)) hkc hkn).mono ?_; rintro e w2 ⟨v2, rfl, o2, l2⟩; have z2 := l2.size) | (at_builtin; refine wpList_append_seen rfl _ _ rfl w1.heap.size _ 64 _ rfl o2 bo bn bc zs rfl ((HX.out.2.1.later l1 (Nat.le_refl _)).later l2 (Nat.le_refl _)) hbc (by omega) (by omega) ?_; intro v3 w3 o3 g3; rw [← List.map_append, HIe.out] at o3; have L3 : Hid (Below w1.heap.size w1 w3) := l2.grown g3 (by omega) (fun j hj => (o2.lt j hj).1); rw [show 64 + bn = I.length from HI.out.1.symm] at o3; obtain ⟨io, ic, rfl, s3, hic, _, _, _⟩ := own_data HI.out.2.1 (by rw [HI.out.1]; omega) o3; clear o3 g3 o2 l2) | ((with_reducible show Calls _ _ _ w3 _); go_at_call 33; refine (rsum_any io I.length ic I _ s3 (by rw [HI.out.1]; omega)).mono ?_; rintro e w4 ⟨rfl, l4⟩; rw [HS.out.2.2]) | ((with_reducible show wpList _ _ _ _ _ w4); refine wpList_alloc_new rfl 28 rfl 32 _ zeroAH ?_; intro w5 b5 s5 l5; have Z5 : Hid (w5.heap.size = w4.heap.size + 1) := s5; clear s5) | ((with_reducible show wpList _ _ _ _ _ w5); refine wpList_store_blk rfl 28 28 _ _ rfl _ rfl _ (u8s S) rfl b5 (by rw [u8s_length, HS.out.1, u8s_length, zer_length]) (by rw [u8s_length, HS.out.1]; exact sizeAH) (u8s_one _) ?_; intro w6 b6 s6 k6; have G6 : Hid (Blk w6 w4.heap.size 28 (u8s S) ∧ Below w.heap.size w w6 ∧ Blk w6 w.heap.size 28 (u8s (zer 32)) ∧ w4.heap.size < w6.heap.size ∧ w.heap.size < w4.heap.size) := (by have a1 := Z1.out; have a5 := Z5.out; have a3 := L3.out.size; have a4 := l4.size; exact ⟨b6, below_kept (below_chain (below_chain (below_chain l1 L3.out (by omega)) l4 (by omega)) l5 (by omega)) k6 (by omega) (fun j hj => by omega), (((b1.later L3.out (by omega)).later l4 (by omega)).later l5 (by omega)).kept k6 (by omega), by omega, by omega⟩); clear b6 s6 k6 b5 l5 l4 s3) | ((with_reducible show Calls _ _ #[_, .int .u8 92] _ _); go_at_call 32; refine (rframe_any ko kn kc key 92 _ (HX.out.1.later G6.out.2.1 (Nat.le_refl _)) hkc hkn).mono ?_; rintro e w7 ⟨v7, rfl, o7, l7⟩))
  obtain ⟨F, hF⟩ : ∃ F, turn 92 (frm key) = F := ⟨_, rfl⟩
  have HF : Hid (F.length = 64 ∧ Bytes F ∧ mac key zs = sha (F ++ S)) := ⟨by rw [← hF]; exact turn_frm _ _, by rw [← hF]; exact turn_bytes _ _, by rw [← hF]; exact HM.out⟩
  rw [hF] at o7
  have H7 : Hid (w7.ownsRow w6.heap.size 5 1 v7 (64 + 0) ((F ++ S.take 0).map (Value.int .u8)) ∧ Blk w7 w4.heap.size 28 (u8s S) ∧ Below w6.heap.size w6 w7) := ⟨by simpa using o7, G6.out.1.later l7 G6.out.2.2.2.1, l7⟩
  clear o7 l7 hF
  go_loopw [7, 8] (fun v i wr => ∃ k : Nat, k ≤ 32 ∧ i = .int .i64 k ∧ wr.ownsRow w6.heap.size 5 1 v (64 + k) ((F ++ S.take k).map (Value.int .u8)) ∧ Blk wr w4.heap.size 28 (u8s S) ∧ Below w6.heap.size w6 wr) (fun _ i _ => 32 - (intOf i).toNat)
  case atStart => exact ⟨0, by decide, rfl, H7.out⟩
  case round =>
    obtain ⟨k, hk2, rfl, hown, hB, hbel⟩ := hrel
    have hSl := HS.out.1
    by_cases hlt : k < 32
    · have cs := u8s_cell hB k (by omega)
      have E1 : (F ++ S.take (k + 1)).map (Value.int .u8) = (F ++ S.take k).map (Value.int .u8) ++ [.int .u8 (S.getD k 0)] := by
        rw [List.take_succ_eq_append_getElem (by omega), ← List.append_assoc, List.map_append]
        simp [List.getD, show k < S.length by omega]
      obtain ⟨Z, hZ⟩ : ∃ Z, S.getD k 0 = Z := ⟨_, rfl⟩
      rw [hZ] at cs E1
      have HE : Hid _ := E1
      have HBl : Hid (Blk wr w4.heap.size 28 (u8s S)) := hB
      obtain ⟨M, hM⟩ : ∃ M, (F ++ S.take k).map (Value.int .u8) = M := ⟨_, rfl⟩
      rw [hM] at hown HE
      have hsz := hbel.size
      have i3 : (0 : Int) ≤ (k : Int) := by omega
      have i4 : (k : Int) < 32 := by omega
      clear hZ E1 hB hM hSl
      go_wp2_with (at_builtin; refine wpList_append_own _ rfl _ _ 22 rfl w6.heap.size 5 i0 (.int .u8 0) 1 1 Tryd.underlying22 hi hz0 hz1 hz2 rfl (by decide) _ _ _ rfl (hown.alloc _) ⟨wr.heap.size, 0, none⟩ 1 1 [.int .u8 Z] rfl rfl ?c1 ?c2 ?c3 ?c4 ?c5 ?_)
      case c1 => exact one_new _ _ _
      case c2 => intro u hu; simp at hu; subst hu; rfl
      case c3 => unfold maxLen; omega
      case c4 => omega
      case c5 => simp; omega
      · intro v' w8 hown' hgrow _
        have R2 : Below w6.heap.size w6 w8 := (hbel.alloc hsz _).grown hgrow (by simp; omega) (fun j hj => (hown.lt j hj).1)
        have R3 : Blk w8 w4.heap.size 28 (u8s S) := (HBl.out.later ((Below.refl _ _).alloc (Nat.le_refl _) (.cells #[.int .u8 Z] 5)) HBl.out.lt).kept (Kept.ofGrown0 hgrow) (own_ne0 (hown.alloc _) (HBl.out.later ((Below.refl _ _).alloc (Nat.le_refl _) (.cells #[.int .u8 Z] 5)) HBl.out.lt) (by decide))
        have R1 : w8.ownsRow w6.heap.size 5 1 v' (64 + (k + 1)) ((F ++ S.take (k + 1)).map (Value.int .u8)) := by rw [HE.out]; exact hown'
        clear hown' hgrow hown hbel cs
        go_wp2
        go_roundw
        case rel => exact ⟨k + 1, by omega, by go_num, R1, R3, R2⟩
        case measure => simp [intOf]; omega
    · obtain rfl : k = 32 := by omega
      rw [List.take_of_length_le (by omega)] at hown
      have e96 : (F ++ S).length = 64 + 32 := by rw [List.length_append, HF.out.1, hSl]
      rw [← e96] at hown
      obtain ⟨uo, uc, rfl, s8, _, _, _, _⟩ := own_data (bytes_app HF.out.2.1 HS.out.2.1) (by rw [e96]; decide) hown
      obtain ⟨J, hJ⟩ : ∃ J, F ++ S = J := ⟨_, rfl⟩
      rw [hJ] at s8 e96
      have HJ : Hid (Seen wr uo J.length J ∧ J.length ≤ 35184372088832 ∧ mac key zs = sha J ∧ Below w.heap.size w wr ∧ Blk wr w.heap.size 28 (u8s (zer 32))) := by
        obtain ⟨x1, x2, x3, x4, x5⟩ := G6.out
        exact ⟨s8, by rw [e96]; decide, by rw [← hJ]; exact HF.out.2.2, below_chain x2 hbel x2.size, x3.later hbel (by omega)⟩
      rw [hJ]
      rw [show ((32 : Nat) : Int) = 32 from rfl]
      clear hown hB hbel hSl e96 s8 hJ
      go_wp2_with (first | (go_at_call 33; refine (rsum_any uo J.length uc J _ HJ.out.1 HJ.out.2.1).mono ?_; rintro e w9 ⟨rfl, l9⟩; rw [← HJ.out.2.2.1]; have G9 : Hid (Blk w9 w.heap.size 28 (u8s (zer 32)) ∧ Below w.heap.size w w9) := ⟨HJ.out.2.2.2.2.later l9 HJ.out.2.2.2.2.lt, below_chain HJ.out.2.2.2.1 l9 HJ.out.2.2.2.1.size⟩; clear l9) | (refine wpList_store_blk rfl 28 28 _ _ rfl _ rfl _ (u8s (mac key zs)) rfl G9.out.1 (by rw [u8s_length, mac_length, u8s_length, zer_length]) (by rw [u8s_length, mac_length]; exact sizeAH) (u8s_one _) ?_; intro wA bA sA kA))
      exact ret_blk rfl w.heap.size (u8s (mac key zs)) _ rfl bA Tryd.underlying28 rfl (by rw [u8s_length, mac_length]; exact sizeAH) rfl ⟨rfl, below_kept G9.out.2 kA G9.out.2.size (fun j hj => by omega)⟩
end Go.Proofs.YtiimjhahblmggaaDoor
