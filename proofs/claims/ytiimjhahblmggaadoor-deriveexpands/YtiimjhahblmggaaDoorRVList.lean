/- The document's answer for layer derive (trystref04): List, Wrong, Extract. -/
import Derived.Test.YtiimjhahblmggaaDoorRVSum
import Derived.Test.YtiimjhahblmggaaDoorVExpand
namespace Go.Proofs.YtiimjhahblmggaaDoor
open Go.RowKit
set_option linter.unusedVariables false
set_option linter.unusedSimpArgs false

set_option maxRecDepth 20000 in
theorem wrong_any (n most : Int) (w : World) : Calls Tryd.prog 22 #[.int .i64 n, .int .i64 most] w fun e w' => e = .returned (.int .i64 (ccE n most)) ∧ w = w' := by
  unfold ccE
  by_cases h1 : n < 0
  · rw [if_pos h1]
    go_enter Tryd.func22, Tryd.ntmps22
    go_wp2
    go_ret
    exact ⟨rfl, rfl⟩
  · rw [if_neg h1]
    by_cases h2 : most < n
    · rw [if_pos h2]
      go_enter Tryd.func22, Tryd.ntmps22
      go_wp2
      go_ret
      exact ⟨rfl, rfl⟩
    · rw [if_neg h2]
      go_enter Tryd.func22, Tryd.ntmps22
      go_wp2
      go_ret
      exact ⟨rfl, rfl⟩
set_option maxRecDepth 20000 in
theorem rextract_any (ko : Option Addr) (kn kc : Nat) (key : List Int) (bo : Option Addr) (bn bc : Nat) (zs : List Int) (w : World) (hk : Seen w ko kn key) (hkc : ko = none → kc = 0) (hkn : kn ≤ 35184372088832) (hb : Seen w bo bn zs) (hbc : bo = none → bc = 0) (hbn : bn ≤ 17592186044416) :
    Calls Tryd.prog 23 #[.slice ko kn kc, .slice bo bn bc] w fun e w' => e = .returned (.agg (u8s (mac key zs)).toArray) ∧ Below w.heap.size w w' := by
  have HX : Hid (Seen w ko kn key ∧ Seen w bo bn zs) := ⟨hk, hb⟩
  clear hk hb
  go_enter Tryd.func23, Tryd.ntmps23
  go_wp2_with (first | (refine wpList_alloc_new rfl 28 rfl 32 _ zeroAH ?_; intro w1 b1 s1 l1) | (go_at_call 11; refine (rvsum_any ko kn kc key bo bn bc zs _ (HX.out.1.later l1 (Nat.le_refl _)) hkc hkn (HX.out.2.later l1 (Nat.le_refl _)) hbc hbn).mono ?_; rintro e w2 ⟨rfl, l2⟩; have G2 : Hid (Blk w2 w.heap.size 28 (u8s (zer 32)) ∧ Below w.heap.size w w2) := ⟨b1.later l2 (by omega), below_chain l1 l2 (by omega)⟩; clear b1 l2) | (refine wpList_store_blk rfl 28 28 _ _ rfl _ rfl _ (u8s (mac key zs)) rfl G2.out.1 (by rw [u8s_length, mac_length, u8s_length, zer_length]) (by rw [u8s_length, mac_length]; exact sizeAH) (u8s_one _) ?_; intro w6 b6 s6 k6))
  exact ret_blk rfl w.heap.size (u8s (mac key zs)) _ rfl b6 Tryd.underlying28 rfl (by rw [u8s_length, mac_length]; exact sizeAH) rfl ⟨rfl, below_kept G2.out.2 k6 G2.out.2.size (fun j hj => by omega)⟩
set_option maxRecDepth 20000 in
set_option maxHeartbeats 1000000 in
theorem rlist_any (S : List Int) (hS : S.length = 32) (w : World) :
    Calls Tryd.prog 38 #[.agg (u8s S).toArray] w fun e w' => ∃ v, e = .returned v ∧ w'.ownsRow w.heap.size 5 1 v 32 (S.map (Value.int .u8)) ∧ Below w.heap.size w w' := by
  have HS : Hid (S.length = 32) := hS
  clear hS
  obtain ⟨i0, hi, hz0, hz1, hz2⟩ := info_parts info_byte
  go_enter Tryd.func38, Tryd.ntmps38
  go_wp2_with (first | (refine wpList_box_new rfl 28 _ rfl (u8s S) rfl ?_; intro w1 b1 s1 l1; have Z1 : Hid (w1.heap.size = w.heap.size + 1) := s1; clear s1))
  have G1 : Hid (Blk w1 w.heap.size 28 (u8s S) ∧ Below w.heap.size w w1) := ⟨b1, l1⟩
  clear b1 l1
  go_loopw [3, 4] (fun v i wr => ∃ k : Nat, k ≤ 32 ∧ i = .int .i64 k ∧ wr.ownsRow w.heap.size 5 1 v k ((S.take k).map (Value.int .u8)) ∧ Blk wr w.heap.size 28 (u8s S) ∧ Below w.heap.size w wr) (fun _ i _ => 32 - (intOf i).toNat)
  case atStart => exact ⟨0, by decide, rfl, World.ownsRow_nil _ _ _ _, G1.out⟩
  case round =>
    obtain ⟨k, hk2, rfl, hown, hB, hbel⟩ := hrel
    have hSl := HS.out
    by_cases hlt : k < 32
    · have cs := u8s_cell hB k (by omega)
      have E1 : (S.take (k + 1)).map (Value.int .u8) = (S.take k).map (Value.int .u8) ++ [.int .u8 (S.getD k 0)] := by
        rw [List.take_succ_eq_append_getElem (by omega), List.map_append]
        simp [List.getD, show k < S.length by omega]
      obtain ⟨Z, hZ⟩ : ∃ Z, S.getD k 0 = Z := ⟨_, rfl⟩
      rw [hZ] at cs E1
      have HE : Hid _ := E1
      have HBl : Hid (Blk wr w.heap.size 28 (u8s S)) := hB
      obtain ⟨M, hM⟩ : ∃ M, (S.take k).map (Value.int .u8) = M := ⟨_, rfl⟩
      rw [hM] at hown HE
      have hsz := hbel.size
      have i3 : (0 : Int) ≤ (k : Int) := by omega
      have i4 : (k : Int) < 32 := by omega
      clear hZ E1 hB hM hSl
      go_wp2_with (at_builtin; refine wpList_append_own _ rfl _ _ 22 rfl w.heap.size 5 i0 (.int .u8 0) 1 1 Tryd.underlying22 hi hz0 hz1 hz2 rfl (by decide) _ _ _ rfl (hown.alloc _) ⟨wr.heap.size, 0, none⟩ 1 1 [.int .u8 Z] rfl rfl ?c1 ?c2 ?c3 ?c4 ?c5 ?_)
      case c1 => exact one_new _ _ _
      case c2 => intro u hu; simp at hu; subst hu; rfl
      case c3 => unfold maxLen; omega
      case c4 => omega
      case c5 => simp; omega
      · intro v' w8 hown' hgrow _
        have R2 : Below w.heap.size w w8 := (hbel.alloc hsz _).grown hgrow (by simp; omega) (fun j hj => (hown.lt j hj).1)
        have R3 : Blk w8 w.heap.size 28 (u8s S) := (HBl.out.later ((Below.refl _ _).alloc (Nat.le_refl _) (.cells #[.int .u8 Z] 5)) HBl.out.lt).kept (Kept.ofGrown0 hgrow) (own_ne0 (hown.alloc _) (HBl.out.later ((Below.refl _ _).alloc (Nat.le_refl _) (.cells #[.int .u8 Z] 5)) HBl.out.lt) (by decide))
        have R1 : w8.ownsRow w.heap.size 5 1 v' (k + 1) ((S.take (k + 1)).map (Value.int .u8)) := by rw [HE.out]; exact hown'
        clear hown' hgrow hown hbel cs
        go_wp2
        go_roundw
        case rel => exact ⟨k + 1, by omega, by go_num, R1, R3, R2⟩
        case measure => simp [intOf]; omega
    · obtain rfl : k = 32 := by omega
      rw [List.take_of_length_le (by omega)] at hown
      have HO : Hid (wr.ownsRow w.heap.size 5 1 u3 32 (S.map (Value.int .u8)) ∧ Below w.heap.size w wr) := ⟨hown, hbel⟩
      rw [show ((32 : Nat) : Int) = 32 from rfl]
      clear hown hB hbel hSl
      go_wp2
      go_ret
      exact ⟨_, rfl, HO.out⟩
end Go.Proofs.YtiimjhahblmggaaDoor
