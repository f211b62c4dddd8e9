/- For every word and two lists of bytes: Copy and Trade write just what the document says into what was lent, and nothing behind its end, or answer ErrLength and write nothing: trystlaw01.MaskMoves returns true. No condition. -/
import Derived.Test.YtldfbbgboelngabLent
import Derived.ProofKit
import Derived.OpenShut
import Derived.ShutString
import Derived.ChangeOld
import Derived.SizedLaws
import Derived.Deep.RegionHeld3
import Derived.Deep.DrawnRows
namespace Go.Proofs.Ytldfbbgboelngab.maskMoves
open Go.ChangeShapes Go.WideShapes Go.ChangeAt Go.RowKit
set_option linter.unusedVariables false
attribute [local go_sem ↓] Go.wp_at_zero Go.wp_at_succ

set_option maxHeartbeats 4000000 in
theorem walk_len (m : Int) (ao : Option Addr) (n c : Nat) (xs : List Int) (bo : Option Addr) (n' c' : Nat) (ys : List Int) (w : World) (hm : Word m) (hx : Seen w ao n xs) (hn : n ≤ 140737488351232) (hy : Seen w bo n' ys) (hn' : n' ≤ 140737488351232) (hne : n ≠ n') :
    Calls Try.prog 20 #[.int .u64 m, .slice ao n c, .slice bo n' c'] w fun e w' => e = .returned (.bool true) ∧ Below w.heap.size w w' := by
  go_enter Try.func20, Try.ntmps20
  go_wp2_with fail
  refine (lent_any ao n c xs w hx (by omega)).mono ?_
  rintro e w1 ⟨g1, cap1, rfl, r1, l1, m1, k1, b1⟩
  have hy1 := hy.later b1 (Nat.le_refl _)
  have hx1 := hx.later b1 (Nat.le_refl _)
  go_wp2_with fail
  refine (lent_any bo n' c' ys w1 hy1 (by omega)).mono ?_
  rintro e w2 ⟨g2, cap2, rfl, r2, l2, m2, k2, b2⟩
  have hx2 := hx1.later b2 (Nat.le_refl _)
  have hy2 := hy1.later b2 (Nat.le_refl _)
  have r1' : RowAt w2 g1 (xs ++ marks) := r1.later b2 (Nat.le_refl _)
  have hb2 : Below w.heap.size w w2 := b1.trans (b2.mono b1.size)
  have i1 : (n : Int) ≤ (cap1 : Int) := by omega
  have i2 : (n' : Int) ≤ (cap2 : Int) := by omega
  clear r1 hx1 hy1 hx hy b1 b2
  unfold maxLen at k1 k2
  go_wp2_with fail
  refine (rcopy_len m ao bo n n' c c' hne w2).mono ?_
  rintro e w2 ⟨rfl, rfl⟩
  go_wp2
  go_region_held3 (fun _ => True) (trivial) (first | (go_at_call 16; with_reducible refine (copy_len m _ _ n n' _ _ hne _).mono ?_; rintro e _ ⟨rfl, rfl⟩) | (go_at_call 42; with_reducible refine (rkept_yes g1 _ _ ao n c xs _ r1'.drew hx2.drew (by omega) rfl).mono ?_; rintro e w3 ⟨rfl, b3⟩) | (go_at_call 42; with_reducible refine (rkept_yes g2 _ _ bo n' c' ys _ (r2.drew.later b3 (Nat.le_refl _)) (hy2.drew.later b3 (Nat.le_refl _)) (by omega) rfl).mono ?_; rintro e w4 ⟨rfl, b4⟩))
  have b3' : Below w2.heap.size w2 w3 := below_ahead (k := 1) b3
  have z3 := b3'.size
  have hb4 : Below w2.heap.size w2 w4 := b3'.trans (b4.mono z3)
  have hx4 := hx2.later hb4 (Nat.le_refl _)
  have hy4 := hy2.later hb4 (Nat.le_refl _)
  have r24 := r2.later hb4 (Nat.le_refl _)
  have hB4 : Below w.heap.size w w4 := hb2.trans (hb4.mono hb2.size)
  clear b3 b3' b4 hb4 hb2 r2 r1' hx2 hy2 z3
  go_wp2_with fail
  refine (lent_any ao n c xs w4 hx4 (by omega)).mono ?_
  rintro e w5 ⟨g5, cap5, rfl, r5, l5, m5, k5, b5⟩
  have hx5 := hx4.later b5 (Nat.le_refl _)
  have hy5 := hy4.later b5 (Nat.le_refl _)
  have r25 := r24.later b5 (Nat.le_refl _)
  have hB5 : Below w.heap.size w w5 := hB4.trans (b5.mono hB4.size)
  have i5 : (n : Int) ≤ (cap5 : Int) := by omega
  clear b5 hx4 hy4 r24 hB4
  unfold maxLen at k5
  go_wp2_with fail
  refine (rtrade_len m ao bo n n' c c' hne w5).mono ?_
  rintro e w5 ⟨rfl, rfl⟩
  go_wp2
  go_region_held3 (fun _ => True) (trivial) (first | (go_at_call 13; with_reducible refine (trade_len m _ _ n n' _ _ hne _).mono ?_; rintro e _ ⟨rfl, rfl⟩) | (go_at_call 42; with_reducible refine (rkept_yes g5 _ _ ao n c xs _ r5.drew hx5.drew (by omega) rfl).mono ?_; rintro e w6 ⟨rfl, b6⟩) | (go_at_call 42; with_reducible refine (rkept_yes g2 _ _ bo n' c' ys _ (r25.drew.later b6 (Nat.le_refl _)) (hy5.drew.later b6 (Nat.le_refl _)) (by omega) rfl).mono ?_; rintro e w7 ⟨rfl, b7⟩) | (go_at_call 12; with_reducible refine (works_any _).mono ?_; rintro e w8 ⟨rfl, b8⟩))
  have b6' : Below w5.heap.size w5 w6 := below_ahead (k := 1) b6
  have z6 := b6'.size
  have z7 := b7.size
  have HB : Hid (Below w.heap.size w w8) := hB5.trans ((b6'.trans ((b7.trans (b8.mono z7)).mono z6)).mono hB5.size)
  clear b6 b6' b7 b8 hB5 r5 r25 hx5 hy5
  go_wp2
  go_ret
  exact ⟨rfl, HB.out⟩

set_option maxHeartbeats 4000000 in
theorem walk_eq (m : Int) (ao : Option Addr) (n c : Nat) (xs : List Int) (bo : Option Addr) (c' : Nat) (ys : List Int) (w : World) (hm : Word m) (hx : Seen w ao n xs) (hn : n ≤ 140737488351232) (hy : Seen w bo n ys) :
    Calls Try.prog 20 #[.int .u64 m, .slice ao n c, .slice bo n c'] w fun e w' => e = .returned (.bool true) ∧ Below w.heap.size w w' := by
  have L1 : Hid ((mix m n xs ys).length = n) := by show _ = _; rw [mix_length, hx.len]
  have L2 : Hid ((mix m n ys xs).length = n) := by show _ = _; rw [mix_length, hy.len]
  have M1 : Hid (Bytes (mix m n xs ys)) := mix_bytes _ _ _ _ hx.bytes hy.bytes
  have M2 : Hid (Bytes (mix m n ys xs)) := mix_bytes _ _ _ _ hy.bytes hx.bytes
  have X0 : Hid (xs.length = n ∧ Bytes xs) := ⟨hx.len, hx.bytes⟩
  have Y0 : Hid (ys.length = n ∧ Bytes ys) := ⟨hy.len, hy.bytes⟩
  have ox := hx.old (Nat.le_refl _)
  have oy := hy.old (Nat.le_refl _)
  have OX : Hid _ := ox
  have OY : Hid _ := oy
  clear ox oy
  go_enter Try.func20, Try.ntmps20
  go_wp2_with fail
  refine (lent_any ao n c xs w hx (by omega)).mono ?_
  rintro e w1 ⟨g1, cap1, rfl, r1, l1, m1, k1, b1⟩
  have hy1 := hy.later b1 (Nat.le_refl _)
  have hx1 := hx.later b1 (Nat.le_refl _)
  go_wp2_with fail
  refine (lent_any bo n c' ys w1 hy1 (by omega)).mono ?_
  rintro e w2 ⟨g2, cap2, rfl, r2, l2, m2, k2, b2⟩
  have hx2 := hx1.later b2 (Nat.le_refl _)
  have hy2 := hy1.later b2 (Nat.le_refl _)
  have r12 : RowAt w2 g1 (xs ++ marks) := r1.later b2 (Nat.le_refl _)
  have hB2 : Below w.heap.size w w2 := b1.trans (b2.mono b1.size)
  have i1 : (n : Int) ≤ (cap1 : Int) := by omega
  have i2 : (n : Int) ≤ (cap2 : Int) := by omega
  have z1 := r1.lt
  have z2 := r2.lt
  clear r1 hx1 hy1 hx hy b1 b2
  unfold maxLen at k1 k2
  go_wp2_with fail
  refine (rcopy_any m hm ao bo n c c' xs ys w2 hx2 hy2).mono ?_
  rintro e w3 ⟨v, rfl, o3, b3⟩
  obtain ⟨vo, cv, rfl, sv, lv⟩ := own_seen L1.out M1.out (by omega) o3
  have hx3 := hx2.later b3 (Nat.le_refl _)
  have hy3 := hy2.later b3 (Nat.le_refl _)
  have r13 := r12.later b3 (Nat.le_refl _)
  have r23 := r2.later b3 (Nat.le_refl _)
  have hB3 : Below w.heap.size w w3 := hB2.trans (b3.mono hB2.size)
  have LV : Hid _ := lv
  clear o3 b3 lv hx2 hy2 r12 r2 hB2
  go_wp2
  go_region_held3 (fun _ => True) (trivial) (first | (go_at_call 16; with_reducible refine (copy_lent m hm g1 g2 n _ _ xs ys _ (by omega) X0.out.1 Y0.out.1 X0.out.2 Y0.out.2 (by omega) r13.drew r23.drew).mono ?_; rintro e w4 ⟨rfl, r14, kp4⟩) | (go_at_call 42; with_reducible refine (rkept_yes g1 _ _ vo n cv (mix m n xs ys) _ r14 (sv.drew.kept kp4 (fun b o _ e => by have := LV.out b o e; omega)) (by omega) rfl).mono ?_; rintro e w5 ⟨rfl, b5⟩) | (go_at_call 42; with_reducible refine (rkept_yes g2 _ _ bo n c' ys _ ((r23.drew.kept kp4 (by omega)).later b5 (Nat.le_refl _)) ((hy3.drew.kept kp4 (fun b o h e => by have := OY.out b o h e; omega)).later b5 (Nat.le_refl _)) (by omega) rfl).mono ?_; rintro e w6 ⟨rfl, b6⟩))
  have z3 := hB3.size
  have zr := r13.lt
  have zq := r23.lt
  have k4 : Below w.heap.size w w4 := hB3.trans (Kept.below (a := w3) ⟨kp4.os, kp4.tape, kp4.output, kp4.size, kp4.block⟩ z3 (fun k hk => by omega))
  have hx6 := ((hx3.drew.kept kp4 (fun b o h e => by have := OX.out b o h e; omega)).later b5 (Nat.le_refl _)).later b6 (Nat.le_refl _)
  have hy6 := ((hy3.drew.kept kp4 (fun b o h e => by have := OY.out b o h e; omega)).later b5 (Nat.le_refl _)).later b6 (Nat.le_refl _)
  have r26 := ((r23.drew.kept kp4 (by omega)).later b5 (Nat.le_refl _)).later b6 (Nat.le_refl _)
  have k5 : Below w.heap.size w w5 := k4.trans (b5.mono k4.size)
  have k6 : Below w.heap.size w w6 := k5.trans (b6.mono k5.size)
  have ze : w.heap.size ≤ g2 := by omega
  clear kp4 b5 b6 k4 k5 hx3 hy3 r13 r23 r14 sv LV hB3 zr zq z3
  go_wp2_with fail
  refine (lent_any ao n c xs w6 hx6 (by omega)).mono ?_
  rintro e w7 ⟨g7, cap7, rfl, r7, l7, m7, q7, b7⟩
  have hx7 := hx6.later b7 (Nat.le_refl _)
  have hy7 := hy6.later b7 (Nat.le_refl _)
  have r27 := r26.later b7 (Nat.le_refl _)
  have k7 : Below w.heap.size w w7 := k6.trans (b7.mono k6.size)
  have i7 : (n : Int) ≤ (cap7 : Int) := by omega
  have zg := r26.lt
  have zk := k6.size
  have ng : g7 ≠ g2 := by omega
  have zs := r7.lt
  have zt := r27.lt
  have zu : w.heap.size ≤ g7 := by omega
  clear b7 hx6 hy6 r26 k6
  unfold maxLen at q7
  go_wp2_with fail
  refine (rtrade_any m hm ao bo n c c' xs ys w7 hx7 hy7).mono ?_
  rintro e w8 ⟨v, v', rfl, o8, p8, b8⟩
  obtain ⟨vo', cv', rfl, sv, lv⟩ := own_seen L1.out M1.out (by omega) o8
  obtain ⟨uo, cu, rfl, su, lu⟩ := own_seen L2.out M2.out (by omega) p8
  have r78 := r7.later b8 (Nat.le_refl _)
  have r28 := r27.later b8 (Nat.le_refl _)
  have k8 : Below w.heap.size w w8 := k7.trans (b8.mono k7.size)
  have LV : Hid _ := lv
  have LU : Hid _ := lu
  clear o8 p8 b8 lv lu r7 r27 k7 hx7 hy7
  go_wp2
  go_region_held3 (fun _ => True) (trivial) (first | (go_at_call 13; with_reducible refine (trade_lent m hm g7 g2 n _ _ xs ys _ ng X0.out.1 Y0.out.1 X0.out.2 Y0.out.2 (by omega) r78.drew r28.drew).mono ?_; rintro e w9 ⟨rfl, r79, r29, kp9⟩) | (go_at_call 42; with_reducible refine (rkept_yes g7 _ _ vo' n cv' (mix m n xs ys) _ r79 (sv.drew.kept kp9 (fun b o _ e => by have := LV.out b o e; omega)) (by omega) rfl).mono ?_; rintro e wa ⟨rfl, ba⟩) | (go_at_call 42; with_reducible refine (rkept_yes g2 _ _ uo n cu (mix m n ys xs) _ (r29.later ba (Nat.le_refl _)) ((su.drew.kept kp9 (fun b o _ e => by have := LU.out b o e; omega)).later ba (Nat.le_refl _)) (by omega) rfl).mono ?_; rintro e wb ⟨rfl, bb⟩) | (go_at_call 12; with_reducible refine (works_any _).mono ?_; rintro e wc ⟨rfl, bc⟩))
  have k9 : Below w.heap.size w w9 := k8.trans (Kept.below (a := w8) ⟨kp9.os, kp9.tape, kp9.output, kp9.size, kp9.block⟩ k8.size (fun k hk => by omega))
  have ka : Below w.heap.size w wa := k9.trans (ba.mono k9.size)
  have kb : Below w.heap.size w wb := ka.trans (bb.mono ka.size)
  have HB : Hid (Below w.heap.size w wc) := kb.trans (bc.mono kb.size)
  clear k8 k9 ka kb ba bb bc kp9 r78 r28 r79 r29 sv su LV LU
  go_wp2
  go_ret
  exact ⟨rfl, HB.out⟩

theorem walk (m : Int) (ao : Option Addr) (n c : Nat) (xs : List Int) (bo : Option Addr) (n' c' : Nat) (ys : List Int) (w : World) (hm : Word m) (hx : Seen w ao n xs) (hn : n ≤ 140737488351232) (hy : Seen w bo n' ys) (hn' : n' ≤ 140737488351232) :
    Calls Try.prog 20 #[.int .u64 m, .slice ao n c, .slice bo n' c'] w fun e w' => e = .returned (.bool true) ∧ Below w.heap.size w w' := by
  by_cases h : n = n'
  · subst h
    exact walk_eq m ao n c xs bo c' ys w hm hx hn hy
  · exact walk_len m ao n c xs bo n' c' ys w hm hx hn hy hn' h

end Go.Proofs.Ytldfbbgboelngab.maskMoves
