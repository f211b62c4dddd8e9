/- The document's answer for layer derive (trystref04): a key's frame. -/
import Derived.Test.YtiimjhahblmggaaDoorRDSum
import Derived.Test.YtiimjhahblmggaaDoorVMac
import Derived.Test.YtiimjhahblmggaaDoorVApp
namespace Go.Proofs.YtiimjhahblmggaaDoor
open Go.RowKit
set_option linter.unusedVariables false
set_option linter.unusedSimpArgs false

theorem Kept.ofGrown0 {w w' : World} {row : Option Nat} (hg : w.grownBy w' row) : Kept (fun b => row = some b) w w' :=
  ⟨hg.os, hg.tape, hg.output, hg.size, fun k hk hs => hg.block k hk (fun e => hs e.symm)⟩
theorem own_ne0 {w : World} {base : Nat} {e : TypeId} {size : Nat} {v : Value} {n : Nat} {xs : List Value} (h : w.ownsRow base e size v n xs) {b : Nat} {t : TypeId} {vs : List Value} (hb : Blk w b t vs) (ht : t ≠ e) : ¬ v.ownBlock = some b := by
  rcases h.2 with ⟨rfl, _⟩ | ⟨g, cap, cur, rfl, hg, hh, r⟩
  · intro e; cases e
  · intro e
    simp [Value.ownBlock] at e
    subst e
    unfold Blk at hb
    rw [hb] at hh
    simp at hh
    exact ht hh.2
theorem own_set {w : World} {base g n cap : Nat} {zs : List Int} (h : w.ownsRow base 5 1 (.slice (some ⟨g, 0, none⟩) n cap) n (zs.map (Value.int .u8))) (j : Nat) (hj : j < n) (z : Int) :
    (w.setCell ⟨g, j, none⟩ (.int .u8 z)).ownsRow base 5 1 (.slice (some ⟨g, 0, none⟩) n cap) n ((zs.set j z).map (Value.int .u8)) := by
  obtain ⟨hl, h⟩ := h
  rcases h with ⟨h, _⟩ | ⟨g', cap', cur, h, hb, hh, hc, hm, hs, ht⟩
  · cases h
  · simp only [Value.slice.injEq, Option.some.injEq, Addr.mk.injEq, and_true, true_and] at h
    obtain ⟨rfl, rfl⟩ := h
    refine ⟨by simpa using hl, .inr ⟨g, cap, _, rfl, hb, heap_setCell_same w g j cur 5 (.int .u8 z) hh, hc, hm, by simpa using hs, ?_⟩⟩
    rw [Nat.mul_one] at ht ⊢
    rw [List.map_set, ← ht, Array.toList_setIfInBounds, List.take_set]
set_option maxRecDepth 20000 in
set_option maxHeartbeats 1000000 in
theorem rframe_any (ao : Option Addr) (n c : Nat) (zs : List Int) (t : Int) (w : World) (hx : Seen w ao n zs) (hc : ao = none → c = 0) (hn : n ≤ 35184372088832) :
    Calls Tryd.prog 32 #[.slice ao n c, .int .u8 t] w fun e w' => ∃ v, e = .returned v ∧ w'.ownsRow w.heap.size 5 1 v 64 ((turn t (frm zs)).map (Value.int .u8)) ∧ Below w.heap.size w w' := by
  have HX : Hid (Seen w ao n zs ∧ Bytes zs) := ⟨hx, hx.bytes⟩
  have HL : Hid (zs.length = n) := hx.len
  clear hx
  obtain ⟨i0, hi, hz0, hz1, hz2⟩ := info_parts info_byte
  go_enter Tryd.func32, Tryd.ntmps32
  by_cases hk : 64 < n
  · have i1 : (64 : Int) < (n : Int) := by omega
    have HS : Hid (keyS zs = sha zs ∧ (sha zs).length = 32 ∧ Bytes (sha zs)) := ⟨by unfold keyS; rw [if_pos (by rw [HL.out]; exact hk)], sha_length _, sha_bytes _⟩
    obtain ⟨S, hS⟩ : ∃ S, sha zs = S := ⟨_, rfl⟩
    rw [hS] at HS
    go_wp2_with (first | (go_at_call 33; refine (rsum_any ao n c zs _ HX.out.1 hn).mono ?_; rintro e w1 ⟨rfl, l1⟩; rw [hS]) | (refine wpList_alloc_new rfl 28 rfl 32 _ zeroAH ?_; intro w2 b2 s2 l2; have Z2 : Hid (w2.heap.size = w1.heap.size + 1) := s2; clear s2) | (refine wpList_store_blk rfl 28 28 _ _ rfl _ rfl _ (u8s S) rfl b2 (by rw [u8s_length, HS.out.2.1, u8s_length, zer_length]) (by rw [u8s_length, HS.out.2.1]; exact sizeAH) (u8s_one _) ?_; intro w3 b3 s3 k3; have G3 : Hid (Blk w3 w1.heap.size 28 (u8s S) ∧ Below w.heap.size w w3 ∧ w.heap.size ≤ w1.heap.size) := (by have := Z2.out; have q := l1.size; exact ⟨b3, below_kept (below_chain l1 l2 (by omega)) k3 (by omega) (fun j hj => by omega), q⟩); clear b3 s3 k3 b2 l2))
    go_loopw [5, 7] (fun v i wr => ∃ k : Nat, k ≤ 32 ∧ i = .int .i64 k ∧ wr.ownsRow w.heap.size 5 1 v k ((S.take k).map (Value.int .u8)) ∧ Blk wr w1.heap.size 28 (u8s S) ∧ Below w.heap.size w wr) (fun _ i _ => 32 - (intOf i).toNat)
    case atStart => exact ⟨0, by decide, rfl, World.ownsRow_nil _ _ _ _, G3.out.1, G3.out.2.1⟩
    case round =>
      obtain ⟨k, hk2, rfl, hown, hB, hbel⟩ := hrel
      have hSl := HS.out.2.1
      by_cases hlt : k < 32
      · have cs := u8s_cell hB k (by omega)
        have E1 : (S.take (k + 1)).map (Value.int .u8) = (S.take k).map (Value.int .u8) ++ [.int .u8 (S.getD k 0)] := by
          rw [List.take_succ_eq_append_getElem (by omega), List.map_append]
          simp [List.getD, show k < S.length by omega]
        obtain ⟨Z, hZ⟩ : ∃ Z, S.getD k 0 = Z := ⟨_, rfl⟩
        rw [hZ] at cs E1
        have HE : Hid _ := E1
        have HBl : Hid (Blk wr w1.heap.size 28 (u8s S)) := hB
        obtain ⟨M, hM⟩ : ∃ M, (S.take k).map (Value.int .u8) = M := ⟨_, rfl⟩
        rw [hM] at hown HE
        have hsz := hbel.size
        have i3 : (0 : Int) ≤ (k : Int) := by omega
        have i4 : (k : Int) < 32 := by omega
        clear hZ E1 hB hM hSl
        go_wp2_with (at_builtin; refine wpList_append_own _ rfl _ _ 22 rfl w.heap.size 5 i0 (.int .u8 0) 1 1 Tryd.underlying22 hi hz0 hz1 hz2 rfl (by decide) _ _ _ rfl (hown.alloc _) ⟨wr.heap.size, 0, none⟩ 1 1 [.int .u8 Z] rfl rfl ?c1 ?c2 ?c3 ?c4 ?c5 ?_)
        case c1 => exact one_new _ _ _
        case c2 => intro u hu; simp at hu; subst hu; rfl
        case c3 => unfold maxLen; omega
        case c4 => omega
        case c5 => simp; omega
        · intro v' w4 hown' hgrow _
          have R2 : Below w.heap.size w w4 := (hbel.alloc hsz _).grown hgrow (by simp; omega) (fun j hj => (hown.lt j hj).1)
          have R3 : Blk w4 w1.heap.size 28 (u8s S) := (HBl.out.later ((Below.refl _ _).alloc (Nat.le_refl _) (.cells #[.int .u8 Z] 5)) HBl.out.lt).kept (Kept.ofGrown0 hgrow) (own_ne0 (hown.alloc _) (HBl.out.later ((Below.refl _ _).alloc (Nat.le_refl _) (.cells #[.int .u8 Z] 5)) HBl.out.lt) (by decide))
          have R1 : w4.ownsRow w.heap.size 5 1 v' (k + 1) ((S.take (k + 1)).map (Value.int .u8)) := by rw [HE.out]; exact hown'
          clear hown' hgrow hown hbel cs
          go_wp2
          go_roundw
          case rel => exact ⟨k + 1, by omega, by go_num, R1, R3, R2⟩
          case measure => simp [intOf]; omega
      · obtain rfl : k = 32 := by omega
        rw [List.take_of_length_le (by omega)] at hown
        have HPP : Hid (∀ KS, keyS zs = KS → ∀ L, KS.length = L → wr.ownsRow w.heap.size 5 1 u5 (L + 0) ((KS ++ zer 0).map (Value.int .u8)) ∧ Below w.heap.size w wr) := fun KS hKS L hL => by
          rw [HS.out.1] at hKS
          subst hKS
          rw [← hL, hSl]
          exact ⟨by simpa [zer] using hown, hbel⟩
        rw [show ((32 : Nat) : Int) = 32 from rfl]
        clear hown hB hbel hSl
        obtain ⟨wp, rfl⟩ : ∃ wp, wp = wr := ⟨_, rfl⟩
        obtain ⟨vp, rfl⟩ : ∃ vp, vp = u5 := ⟨_, rfl⟩
        go_wp2
        obtain ⟨KS, hKS, hKl, hKb⟩ : ∃ KS, keyS zs = KS ∧ KS.length ≤ 64 ∧ Bytes KS := ⟨_, rfl, keyS_le _, keyS_bytes _ HX.out.2⟩
        have HF : Hid (∀ j, KS.length + j = 64 → frm zs = KS ++ zer j) := fun j hj => by unfold frm; rw [hKS, show 64 - KS.length = j by omega]
        obtain ⟨L, hL⟩ : ∃ L, KS.length = L := ⟨_, rfl⟩
        have HKL : Hid (KS.length = L) := hL
        rw [hL] at hKl
        have HP : Hid (wp.ownsRow w.heap.size 5 1 vp (L + 0) ((KS ++ zer 0).map (Value.int .u8)) ∧ Below w.heap.size w wp) := HPP.out KS hKS L hL
        clear hKS hL HPP
        go_loopw [5] (fun v wr => ∃ (j : Nat) (vo : Option Addr) (cap : Nat), L + j ≤ 64 ∧ v = .slice vo (L + j) cap ∧ wr.ownsRow w.heap.size 5 1 v (L + j) ((KS ++ zer j).map (Value.int .u8)) ∧ Below w.heap.size w wr) (fun v _ => match v with | .slice _ l _ => 64 - l | _ => 0)
        case atStart =>
          rcases own_len (n := L + 0) (by simp [zer, HKL.out]) HP.out.1 with ⟨e, h0⟩ | ⟨g, cap, e, _⟩
          · exact ⟨0, none, 0, by omega, by rw [e, h0], HP.out⟩
          · exact ⟨0, _, cap, by omega, e, HP.out⟩
        case round =>
          obtain ⟨j, vo, cap, hj, rfl, hown, hbel⟩ := hrel
          by_cases hlt : L + j < 64
          · have i2 : ((L : Int) + (j : Int)) < 64 := by omega
            have i2' : ((L + j : Nat) : Int) < 64 := by omega
            have hsz := hbel.size
            obtain ⟨M, hM⟩ : ∃ M, KS ++ zer j = M := ⟨_, rfl⟩
            rw [hM] at hown
            have HM : Hid (KS ++ zer j = M) := hM
            clear hM
            go_wp2_with (at_builtin; refine wpList_append_own _ rfl _ _ 22 rfl w.heap.size 5 i0 (.int .u8 0) 1 1 Tryd.underlying22 hi hz0 hz1 hz2 rfl (by decide) _ _ _ rfl (hown.alloc _) ⟨wr.heap.size, 0, none⟩ 1 1 [.int .u8 0] rfl rfl ?c1 ?c2 ?c3 ?c4 ?c5 ?_)
            case c1 => exact one_new _ _ _
            case c2 => intro u hu; simp at hu; subst hu; rfl
            case c3 => unfold maxLen; omega
            case c4 => omega
            case c5 => simp; omega
            · intro v' w2 hown' hgrow _
              have R1 : w2.ownsRow w.heap.size 5 1 v' (L + (j + 1)) ((KS ++ zer (j + 1)).map (Value.int .u8)) := by
                rw [zer_add, ← List.append_assoc, HM.out, List.map_append]; exact hown'
              have R2 : Below w.heap.size w w2 := (hbel.alloc hsz _).grown hgrow (by simp; omega) (fun j hj => (hown.lt j hj).1)
              obtain ⟨vo', cap', rfl⟩ : ∃ vo' cap', v' = .slice vo' (L + (j + 1)) cap' := by
                rcases own_len (by simp [zer, HKL.out]) R1 with ⟨_, h0⟩ | ⟨g, cap, rfl, _⟩
                · omega
                · exact ⟨_, _, rfl⟩
              clear hown' hgrow hown hbel
              go_wp2
              go_roundw
              case rel => exact ⟨j + 1, vo', cap', by omega, rfl, R1, R2⟩
              case measure => show 64 - (L + (j + 1)) < 64 - (L + j); omega
          · have e64 : L + j = 64 := by omega
            rw [e64] at hown ⊢
            have hF := HF.out j (by rw [HKL.out]; exact e64)
            rw [← hF] at hown
            rcases own_len (frm_length zs) hown with ⟨_, h0⟩ | ⟨g, cap', e, hrow, hge, _, _⟩
            · omega
            simp only [Value.slice.injEq] at e
            obtain ⟨rfl, _, rfl⟩ := e
            obtain ⟨F, hFe⟩ : ∃ F, frm zs = F := ⟨_, rfl⟩
            rw [hFe] at hown
            have HFl : Hid (F.length = 64 ∧ frm zs = F) := ⟨by rw [← hFe]; exact frm_length zs, hFe⟩
            have HO : Hid (wr.ownsRow w.heap.size 5 1 (.slice (some ⟨g, 0, none⟩) 64 cap) 64 ((turn t (F.take 0) ++ F.drop 0).map (Value.int .u8)) ∧ Below w.heap.size w wr ∧ w.heap.size ≤ g) := ⟨hown, hbel, hge⟩
            clear hown hbel hrow hF hFe e64
            obtain ⟨w6, rfl⟩ : ∃ w6, w6 = wr := ⟨_, rfl⟩
            go_wp2
            go_loopw [8] (fun i wr => ∃ k : Nat, k ≤ 64 ∧ i = .int .i64 k ∧ wr.ownsRow w.heap.size 5 1 (.slice (some ⟨g, 0, none⟩) 64 cap) 64 ((turn t (F.take k) ++ F.drop k).map (Value.int .u8)) ∧ Below w.heap.size w wr) (fun i _ => 64 - (intOf i).toNat)
            case atStart => exact ⟨0, by decide, rfl, HO.out.1, HO.out.2.1⟩
            case round =>
              obtain ⟨k, hk2, rfl, hown, hbel⟩ := hrel
              have hfl := HFl.out.1
              by_cases hlt2 : k < 64
              · have q : (turn t (F.take k)).length = k := by simp [turn_length]; omega
                have hr := (RowAt.of_own hown).1
                have cs := hr.cell k (by simp [q]; omega)
                have fs := hr.frozen k
                have e0 : (turn t (F.take k) ++ F.drop k).getD k 0 = F.getD k 0 := by simp [List.getD, List.getElem?_append_right, q]
                rw [e0] at cs
                have R1 := own_set hown k hlt2 (bits .xor .u8 (F.getD k 0) t)
                have E1 : (turn t (F.take k) ++ F.drop k).set k (bits .xor .u8 (F.getD k 0) t) = turn t (F.take (k + 1)) ++ F.drop (k + 1) := by
                  rw [List.set_append_right _ _ (by omega), q, Nat.sub_self, List.drop_eq_getElem_cons (by omega), List.set_cons_zero, List.take_succ_eq_append_getElem (by omega), turn, turn, List.map_append, List.append_assoc]
                  simp [List.getD, show k < F.length by omega]
                rw [E1] at R1
                obtain ⟨y, hy⟩ : ∃ y, F.getD k 0 = y := ⟨_, rfl⟩
                rw [hy] at cs R1
                have HR : Hid ((wr.setCell ⟨g, k, none⟩ (.int .u8 (bits .xor .u8 y t))).ownsRow w.heap.size 5 1 (.slice (some ⟨g, 0, none⟩) 64 cap) 64 ((turn t (F.take (k + 1)) ++ F.drop (k + 1)).map (Value.int .u8)) ∧ Below w.heap.size w (wr.setCell ⟨g, k, none⟩ (.int .u8 (bits .xor .u8 y t)))) := ⟨R1, hbel.setCell (p := ⟨g, k, none⟩) HO.out.2.2 _⟩
                have i3 : (0 : Int) ≤ (k : Int) := by omega
                have i4 : (k : Int) < 64 := by omega
                clear hown hbel hr e0 R1 E1 hy q hfl
                go_wp2
                exact ⟨⟨k + 1, by omega, by go_num, HR.out.1, HR.out.2⟩, by simp [intOf]; omega⟩
              · obtain rfl : k = 64 := by omega
                rw [List.take_of_length_le (by omega), List.drop_of_length_le (by omega), List.append_nil, ← HFl.out.2] at hown
                have HR : Hid (wr.ownsRow w.heap.size 5 1 (.slice (some ⟨g, 0, none⟩) 64 cap) 64 ((turn t (frm zs)).map (Value.int .u8)) ∧ Below w.heap.size w wr) := ⟨hown, hbel⟩
                rw [show ((64 : Nat) : Int) = 64 from rfl]
                clear hown hbel hfl
                go_wp2
                go_ret
                exact ⟨_, rfl, HR.out⟩
  · have i1 : ¬ (64 : Int) < (n : Int) := by omega
    have HS : Hid (keyS zs = zs) := by show keyS zs = zs; unfold keyS; rw [if_neg (by rw [HL.out]; exact hk)]
    go_wp2_with (at_builtin; refine wpList_append_seen rfl _ _ rfl w.heap.size _ 0 [] rfl (World.ownsRow_nil _ _ _ _) ao n c zs rfl HX.out.1 hc (by omega) (Nat.le_refl _) ?_; intro v1 w1 o1 g1; rw [List.nil_append, Nat.zero_add] at o1)
    have HPP : Hid (∀ KS, keyS zs = KS → ∀ L, KS.length = L → w1.ownsRow w.heap.size 5 1 v1 (L + 0) ((KS ++ zer 0).map (Value.int .u8)) ∧ Below w.heap.size w w1) := fun KS hKS L hL => by
      rw [HS.out] at hKS
      subst hKS
      rw [← hL, HL.out]
      exact ⟨by simpa [zer] using o1, (Below.refl _ _).grown g1 (Nat.le_refl _) (fun j hj => by cases hj)⟩
    clear o1 g1
    obtain ⟨wp, rfl⟩ : ∃ wp, wp = w1 := ⟨_, rfl⟩
    obtain ⟨vp, rfl⟩ : ∃ vp, vp = v1 := ⟨_, rfl⟩
    obtain ⟨KS, hKS, hKl, hKb⟩ : ∃ KS, keyS zs = KS ∧ KS.length ≤ 64 ∧ Bytes KS := ⟨_, rfl, keyS_le _, keyS_bytes _ HX.out.2⟩
    have HF : Hid (∀ j, KS.length + j = 64 → frm zs = KS ++ zer j) := fun j hj => by unfold frm; rw [hKS, show 64 - KS.length = j by omega]
    obtain ⟨L, hL⟩ : ∃ L, KS.length = L := ⟨_, rfl⟩
    have HKL : Hid (KS.length = L) := hL
    rw [hL] at hKl
    have HP : Hid (wp.ownsRow w.heap.size 5 1 vp (L + 0) ((KS ++ zer 0).map (Value.int .u8)) ∧ Below w.heap.size w wp) := HPP.out KS hKS L hL
    clear hKS hL HPP
    go_loopw [5] (fun v wr => ∃ (j : Nat) (vo : Option Addr) (cap : Nat), L + j ≤ 64 ∧ v = .slice vo (L + j) cap ∧ wr.ownsRow w.heap.size 5 1 v (L + j) ((KS ++ zer j).map (Value.int .u8)) ∧ Below w.heap.size w wr) (fun v _ => match v with | .slice _ l _ => 64 - l | _ => 0)
    case atStart =>
      rcases own_len (n := L + 0) (by simp [zer, HKL.out]) HP.out.1 with ⟨e, h0⟩ | ⟨g, cap, e, _⟩
      · exact ⟨0, none, 0, by omega, by rw [e, h0], HP.out⟩
      · exact ⟨0, _, cap, by omega, e, HP.out⟩
    case round =>
      obtain ⟨j, vo, cap, hj, rfl, hown, hbel⟩ := hrel
      by_cases hlt : L + j < 64
      · have i2 : ((L : Int) + (j : Int)) < 64 := by omega
        have i2' : ((L + j : Nat) : Int) < 64 := by omega
        have hsz := hbel.size
        obtain ⟨M, hM⟩ : ∃ M, KS ++ zer j = M := ⟨_, rfl⟩
        rw [hM] at hown
        have HM : Hid (KS ++ zer j = M) := hM
        clear hM
        go_wp2_with (at_builtin; refine wpList_append_own _ rfl _ _ 22 rfl w.heap.size 5 i0 (.int .u8 0) 1 1 Tryd.underlying22 hi hz0 hz1 hz2 rfl (by decide) _ _ _ rfl (hown.alloc _) ⟨wr.heap.size, 0, none⟩ 1 1 [.int .u8 0] rfl rfl ?c1 ?c2 ?c3 ?c4 ?c5 ?_)
        case c1 => exact one_new _ _ _
        case c2 => intro u hu; simp at hu; subst hu; rfl
        case c3 => unfold maxLen; omega
        case c4 => omega
        case c5 => simp; omega
        · intro v' w2 hown' hgrow _
          have R1 : w2.ownsRow w.heap.size 5 1 v' (L + (j + 1)) ((KS ++ zer (j + 1)).map (Value.int .u8)) := by
            rw [zer_add, ← List.append_assoc, HM.out, List.map_append]; exact hown'
          have R2 : Below w.heap.size w w2 := (hbel.alloc hsz _).grown hgrow (by simp; omega) (fun j hj => (hown.lt j hj).1)
          obtain ⟨vo', cap', rfl⟩ : ∃ vo' cap', v' = .slice vo' (L + (j + 1)) cap' := by
            rcases own_len (by simp [zer, HKL.out]) R1 with ⟨_, h0⟩ | ⟨g, cap, rfl, _⟩
            · omega
            · exact ⟨_, _, rfl⟩
          clear hown' hgrow hown hbel
          go_wp2
          go_roundw
          case rel => exact ⟨j + 1, vo', cap', by omega, rfl, R1, R2⟩
          case measure => show 64 - (L + (j + 1)) < 64 - (L + j); omega
      · have e64 : L + j = 64 := by omega
        rw [e64] at hown ⊢
        have hF := HF.out j (by rw [HKL.out]; exact e64)
        rw [← hF] at hown
        rcases own_len (frm_length zs) hown with ⟨_, h0⟩ | ⟨g, cap', e, hrow, hge, _, _⟩
        · omega
        simp only [Value.slice.injEq] at e
        obtain ⟨rfl, _, rfl⟩ := e
        obtain ⟨F, hFe⟩ : ∃ F, frm zs = F := ⟨_, rfl⟩
        rw [hFe] at hown
        have HFl : Hid (F.length = 64 ∧ frm zs = F) := ⟨by rw [← hFe]; exact frm_length zs, hFe⟩
        have HO : Hid (wr.ownsRow w.heap.size 5 1 (.slice (some ⟨g, 0, none⟩) 64 cap) 64 ((turn t (F.take 0) ++ F.drop 0).map (Value.int .u8)) ∧ Below w.heap.size w wr ∧ w.heap.size ≤ g) := ⟨hown, hbel, hge⟩
        clear hown hbel hrow hF hFe e64
        obtain ⟨w6, rfl⟩ : ∃ w6, w6 = wr := ⟨_, rfl⟩
        go_wp2
        go_loopw [8] (fun i wr => ∃ k : Nat, k ≤ 64 ∧ i = .int .i64 k ∧ wr.ownsRow w.heap.size 5 1 (.slice (some ⟨g, 0, none⟩) 64 cap) 64 ((turn t (F.take k) ++ F.drop k).map (Value.int .u8)) ∧ Below w.heap.size w wr) (fun i _ => 64 - (intOf i).toNat)
        case atStart => exact ⟨0, by decide, rfl, HO.out.1, HO.out.2.1⟩
        case round =>
          obtain ⟨k, hk2, rfl, hown, hbel⟩ := hrel
          have hfl := HFl.out.1
          by_cases hlt2 : k < 64
          · have q : (turn t (F.take k)).length = k := by simp [turn_length]; omega
            have hr := (RowAt.of_own hown).1
            have cs := hr.cell k (by simp [q]; omega)
            have fs := hr.frozen k
            have e0 : (turn t (F.take k) ++ F.drop k).getD k 0 = F.getD k 0 := by simp [List.getD, List.getElem?_append_right, q]
            rw [e0] at cs
            have R1 := own_set hown k hlt2 (bits .xor .u8 (F.getD k 0) t)
            have E1 : (turn t (F.take k) ++ F.drop k).set k (bits .xor .u8 (F.getD k 0) t) = turn t (F.take (k + 1)) ++ F.drop (k + 1) := by
              rw [List.set_append_right _ _ (by omega), q, Nat.sub_self, List.drop_eq_getElem_cons (by omega), List.set_cons_zero, List.take_succ_eq_append_getElem (by omega), turn, turn, List.map_append, List.append_assoc]
              simp [List.getD, show k < F.length by omega]
            rw [E1] at R1
            obtain ⟨y, hy⟩ : ∃ y, F.getD k 0 = y := ⟨_, rfl⟩
            rw [hy] at cs R1
            have HR : Hid ((wr.setCell ⟨g, k, none⟩ (.int .u8 (bits .xor .u8 y t))).ownsRow w.heap.size 5 1 (.slice (some ⟨g, 0, none⟩) 64 cap) 64 ((turn t (F.take (k + 1)) ++ F.drop (k + 1)).map (Value.int .u8)) ∧ Below w.heap.size w (wr.setCell ⟨g, k, none⟩ (.int .u8 (bits .xor .u8 y t)))) := ⟨R1, hbel.setCell (p := ⟨g, k, none⟩) HO.out.2.2 _⟩
            have i3 : (0 : Int) ≤ (k : Int) := by omega
            have i4 : (k : Int) < 64 := by omega
            clear hown hbel hr e0 R1 E1 hy q hfl
            go_wp2
            exact ⟨⟨k + 1, by omega, by go_num, HR.out.1, HR.out.2⟩, by simp [intOf]; omega⟩
          · obtain rfl : k = 64 := by omega
            rw [List.take_of_length_le (by omega), List.drop_of_length_le (by omega), List.append_nil, ← HFl.out.2] at hown
            have HR : Hid (wr.ownsRow w.heap.size 5 1 (.slice (some ⟨g, 0, none⟩) 64 cap) 64 ((turn t (frm zs)).map (Value.int .u8)) ∧ Below w.heap.size w wr) := ⟨hown, hbel⟩
            rw [show ((64 : Nat) : Int) = 64 from rfl]
            clear hown hbel hfl
            go_wp2
            go_ret
            exact ⟨_, rfl, HR.out⟩
end Go.Proofs.YtiimjhahblmggaaDoor
