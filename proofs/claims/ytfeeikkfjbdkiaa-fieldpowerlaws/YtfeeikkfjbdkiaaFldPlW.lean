/- Layer field: FieldPowerLaws: the laws of powers. -/
import Derived.Test.YtfeeikkfjbdkiaaFInv
import Derived.Test.YtfeeikkfjbdkiaaFLast
import Derived.Test.YtfeeikkfjbdkiaaRInvGT
import Derived.Test.YtfeeikkfjbdkiaaFNum
import Derived.Test.YtfeeikkfjbdkiaaFPws
namespace Go.Proofs.Ytfeeikkfjbdkiaa
open Go.RowKit
set_option linter.unusedVariables false
set_option linter.unusedSimpArgs false

theorem sizePowers : (Try.prog.info? 58).map (·.size) = some 66 := by kernel_rfl
theorem prime_le : (le (primeL 0)).toNat = p2 + 2 := by decide +kernel
set_option maxRecDepth 20000 in
set_option maxHeartbeats 8000000 in
theorem powerlaws_any (aa bb : List Int) (m n : Nat) (w : World) (la : aa.length = 32) (ba : Bytes aa) (lb : bb.length = 32) (bbb : Bytes bb) (hm : m < 4294967296) (hn : n < 4294967296) :
    Calls Try.prog 9 #[.agg (pwCells aa bb m n).toArray] w fun e w' => e = .returned (.bool true) ∧ Below w.heap.size w w' := by
  have hx := fof_any aa la ba
  have HA_aa : Hid ((u8s aa).length = 32) := by rw [u8s_length, la]; rfl
  obtain ⟨x, ex⟩ : ∃ q, le aa % 57896044618658097711785492504343953926634992332820282019728792003956564819968 % PR = q := ⟨_, rfl⟩
  have rx : 0 ≤ x ∧ x < PR := by rw [← ex]; exact ⟨Int.emod_nonneg _ (by decide), Int.emod_lt_of_pos _ (by decide)⟩
  rw [ex] at hx
  have HCx : Hid (∀ w, Calls Try.prog 12 #[.agg (u8s aa).toArray] w fun e w' => ∃ r, e = .returned (.agg (u64s r).toArray) ∧ Fe r x ∧ Below w.heap.size w w') := hx
  have hy := fof_any bb lb bbb
  have HA_bb : Hid ((u8s bb).length = 32) := by rw [u8s_length, lb]; rfl
  obtain ⟨y, ey⟩ : ∃ q, le bb % 57896044618658097711785492504343953926634992332820282019728792003956564819968 % PR = q := ⟨_, rfl⟩
  have ry : 0 ≤ y ∧ y < PR := by rw [← ey]; exact ⟨Int.emod_nonneg _ (by decide), Int.emod_lt_of_pos _ (by decide)⟩
  rw [ey] at hy
  have HCy : Hid (∀ w, Calls Try.prog 12 #[.agg (u8s bb).toArray] w fun e w' => ∃ r, e = .returned (.agg (u64s r).toArray) ∧ Fe r y ∧ Below w.heap.size w w') := hy
  have hmn : (m : Int) * (n : Int) < 18446744073709551616 := by
    have h := mb2 (x := (m : Int)) (y := (n : Int)) (X := 4294967296) (Y := 4294967296) ⟨by omega, by omega⟩ ⟨by omega, by omega⟩
    rw [show (4294967296 : Int) * 4294967296 = 18446744073709551616 by decide] at h
    exact h.2
  have hmn0 : 0 ≤ (m : Int) * (n : Int) := Int.mul_nonneg (by omega) (by omega)
  have hmnN : ((m : Int) * (n : Int)).toNat = m * n := by rw [← Int.natCast_mul]; exact Int.toNat_natCast _
  have hw_Z : Word 0 := ⟨by decide, by decide⟩
  have hl_Z : (le (leB 32 0)).toNat = 0 := by rw [word_le _ hw_Z]; rfl
  have hc_Z := number_any 0 hw_Z
  obtain ⟨BZ, hBZ⟩ : ∃ z, leB 32 0 = z := ⟨_, rfl⟩
  have HZ : Hid (BZ.length = 32 ∧ Bytes BZ ∧ (le BZ).toNat = 0 ∧ (∀ w, Calls Try.prog 36 #[.int .u64 0] w fun e w' => e = .returned (.agg (u8s BZ).toArray) ∧ Below w.heap.size w w')) := by
    rw [← hBZ]
    exact ⟨leB_length _ _, leB_bytes _ _, hl_Z, hc_Z⟩
  clear hw_Z hl_Z hc_Z hBZ
  have hw_T : Word 3 := ⟨by decide, by decide⟩
  have hl_T : (le (leB 32 3)).toNat = 3 := by rw [word_le _ hw_T]; rfl
  have hc_T := number_any 3 hw_T
  obtain ⟨BT, hBT⟩ : ∃ z, leB 32 3 = z := ⟨_, rfl⟩
  have HT : Hid (BT.length = 32 ∧ Bytes BT ∧ (le BT).toNat = 3 ∧ (∀ w, Calls Try.prog 36 #[.int .u64 3] w fun e w' => e = .returned (.agg (u8s BT).toArray) ∧ Below w.heap.size w w')) := by
    rw [← hBT]
    exact ⟨leB_length _ _, leB_bytes _ _, hl_T, hc_T⟩
  clear hw_T hl_T hc_T hBT
  have hw_M : Word (m : Int) := ⟨by omega, by omega⟩
  have hl_M : (le (leB 32 (m : Int))).toNat = m := by rw [word_le _ hw_M]; omega
  have hc_M := number_any (m : Int) hw_M
  obtain ⟨BM, hBM⟩ : ∃ z, leB 32 (m : Int) = z := ⟨_, rfl⟩
  have HM : Hid (BM.length = 32 ∧ Bytes BM ∧ (le BM).toNat = m ∧ (∀ w, Calls Try.prog 36 #[.int .u64 (m : Int)] w fun e w' => e = .returned (.agg (u8s BM).toArray) ∧ Below w.heap.size w w')) := by
    rw [← hBM]
    exact ⟨leB_length _ _, leB_bytes _ _, hl_M, hc_M⟩
  clear hw_M hl_M hc_M hBM
  have hw_N : Word (n : Int) := ⟨by omega, by omega⟩
  have hl_N : (le (leB 32 (n : Int))).toNat = n := by rw [word_le _ hw_N]; omega
  have hc_N := number_any (n : Int) hw_N
  obtain ⟨BN, hBN⟩ : ∃ z, leB 32 (n : Int) = z := ⟨_, rfl⟩
  have HN : Hid (BN.length = 32 ∧ Bytes BN ∧ (le BN).toNat = n ∧ (∀ w, Calls Try.prog 36 #[.int .u64 (n : Int)] w fun e w' => e = .returned (.agg (u8s BN).toArray) ∧ Below w.heap.size w w')) := by
    rw [← hBN]
    exact ⟨leB_length _ _, leB_bytes _ _, hl_N, hc_N⟩
  clear hw_N hl_N hc_N hBN
  have hw_S : Word ((m : Int) + (n : Int)) := ⟨by omega, by omega⟩
  have hl_S : (le (leB 32 ((m : Int) + (n : Int)))).toNat = (m + n) := by rw [word_le _ hw_S]; omega
  have hc_S := number_any ((m : Int) + (n : Int)) hw_S
  obtain ⟨BS, hBS⟩ : ∃ z, leB 32 ((m : Int) + (n : Int)) = z := ⟨_, rfl⟩
  have HS : Hid (BS.length = 32 ∧ Bytes BS ∧ (le BS).toNat = (m + n) ∧ (∀ w, Calls Try.prog 36 #[.int .u64 ((m : Int) + (n : Int))] w fun e w' => e = .returned (.agg (u8s BS).toArray) ∧ Below w.heap.size w w')) := by
    rw [← hBS]
    exact ⟨leB_length _ _, leB_bytes _ _, hl_S, hc_S⟩
  clear hw_S hl_S hc_S hBS
  have hw_P : Word ((m : Int) * (n : Int)) := ⟨by omega, by omega⟩
  have hl_P : (le (leB 32 ((m : Int) * (n : Int)))).toNat = (m * n) := by rw [word_le _ hw_P]; exact hmnN
  have hc_P := number_any ((m : Int) * (n : Int)) hw_P
  obtain ⟨BP, hBP⟩ : ∃ z, leB 32 ((m : Int) * (n : Int)) = z := ⟨_, rfl⟩
  have HP : Hid (BP.length = 32 ∧ Bytes BP ∧ (le BP).toNat = (m * n) ∧ (∀ w, Calls Try.prog 36 #[.int .u64 ((m : Int) * (n : Int))] w fun e w' => e = .returned (.agg (u8s BP).toArray) ∧ Below w.heap.size w w')) := by
    rw [← hBP]
    exact ⟨leB_length _ _, leB_bytes _ _, hl_P, hc_P⟩
  clear hw_P hl_P hc_P hBP
  have HQ : Hid ((primeL 0).length = 32 ∧ Bytes (primeL 0) ∧ (le (primeL 0)).toNat = p2 + 2) := ⟨primeL_length 0, primeL_bytes 0 (by decide), prime_le⟩
  have u1 : IntKind.u64.wrap (m : Int) = (m : Int) := by rw [IntKind.wrap_u64]; omega
  have u2 : IntKind.u64.wrap (n : Int) = (n : Int) := by rw [IntKind.wrap_u64]; omega
  have u3 : IntKind.u64.wrap ((m : Int) + (n : Int)) = (m : Int) + (n : Int) := by rw [IntKind.wrap_u64]; omega
  have u4 : IntKind.u64.wrap ((m : Int) * (n : Int)) = (m : Int) * (n : Int) := by rw [IntKind.wrap_u64]; omega
  have RR : Hid ((0 ≤ x ∧ x < PR) ∧ (0 ≤ y ∧ y < PR)) := ⟨rx, ry⟩
  have HA : Hid (aa.length = 32 ∧ bb.length = 32 ∧ (pwCells aa bb m n).length = 66) := ⟨la, lb, by simp [pwCells, u8s_length, la, lb]⟩
  clear hx ex la ba hy ey lb bbb rx ry hm hn hmn hmn0 hmnN
  go_enter Try.func9, Try.ntmps9
  go_wp2_with (first | (refine wpList_box_new rfl 58 (.tmp 0) rfl (pwCells aa bb m n) rfl ?_; intro x1 z1 s1 l1) | (go_at_call 27; refine (awake_any _).mono ?_; rintro e x4 ⟨rfl, l4⟩))
  have V0 : Hid (Below w.heap.size w x4 ∧ Blk x4 w.heap.size 58 (pwCells aa bb m n)) := ⟨below_chain l1 l4 (by omega), z1.later l4 (by omega)⟩
  have HR : Hid (∀ W, Blk W w.heap.size 58 (pwCells aa bb m n) → W.rangeAt w.heap.size 0 (u8s aa) ∧ W.rangeAt w.heap.size 32 (u8s bb) ∧ W.cell? ⟨w.heap.size, 64, none⟩ = some (.int .u32 (m : Int)) ∧ W.cell? ⟨w.heap.size, 65, none⟩ = some (.int .u32 (n : Int))) := fun W hW => by
    have r1 := Blk.range (xs := []) (ys := u8s aa) (zs := u8s bb ++ [Value.int .u32 (m : Int), Value.int .u32 (n : Int)]) hW
    have r2 := Blk.range (xs := u8s aa) (ys := u8s bb) (zs := [Value.int .u32 (m : Int), Value.int .u32 (n : Int)]) hW
    rw [u8s_length, HA.out.1] at r2
    refine ⟨by simpa using r1, r2, ?_, ?_⟩
    · rw [hW.cell, pwCells, List.getElem?_append_right (by rw [u8s_length, HA.out.1]; decide), u8s_length, HA.out.1, List.getElem?_append_right (by rw [u8s_length, HA.out.2.1]; decide), u8s_length, HA.out.2.1]; rfl
    · rw [hW.cell, pwCells, List.getElem?_append_right (by rw [u8s_length, HA.out.1]; decide), u8s_length, HA.out.1, List.getElem?_append_right (by rw [u8s_length, HA.out.2.1]; decide), u8s_length, HA.out.2.1]; rfl
  clear z1 s1 l1 l4
  refine wp_region_noPanic (till_region 13 (fun W => W.rangeAt w.heap.size 0 (u8s aa) ∧ W.rangeAt w.heap.size 32 (u8s bb) ∧ W.cell? ⟨w.heap.size, 64, none⟩ = some (.int .u32 (m : Int)) ∧ W.cell? ⟨w.heap.size, 65, none⟩ = some (.int .u32 (n : Int))) (by kernel_rfl) ?_)
  change wpTill _ _ _ _ _ _ _ _ x4.drew
  have HS : Hid (x4.drew.rangeAt w.heap.size 0 (u8s aa) ∧ x4.drew.rangeAt w.heap.size 32 (u8s bb) ∧ x4.drew.cell? ⟨w.heap.size, 64, none⟩ = some (.int .u32 (m : Int)) ∧ x4.drew.cell? ⟨w.heap.size, 65, none⟩ = some (.int .u32 (n : Int))) := HR.out x4 V0.out.2
  refine tTake 0 (some 13) (.pointer (some ⟨w.heap.size, 0, none⟩)) rfl rfl (by kernel_rfl) (by kernel_rfl) (by kernel_rfl) (by decide) (fun _ _ _ h => h) (by rfl) (fun _ => by go_simp) HS.out ?_
  simp only [Act.put, List.setIfInBounds_toArray, List.set_cons_zero, List.set_cons_succ]
  refine tLoadMid 1 (some 14) (u8s aa) rfl rfl (by kernel_rfl) (by kernel_rfl) (by kernel_rfl) (by decide) (by kernel_rfl) (by kernel_rfl) (fun _ _ _ h => h) (by rfl) 22 (.tmp 13) rfl w.heap.size 0 rfl _ (fun _ h => h.1) Try.underlying22 rfl (by rw [HA_aa.out]; exact size32) HS.out ?_
  simp only [Act.put, List.setIfInBounds_toArray, List.set_cons_zero, List.set_cons_succ]
  refine tTake 2 (some 15) (.pointer (some ⟨w.heap.size, 32, none⟩)) rfl rfl (by kernel_rfl) (by kernel_rfl) (by kernel_rfl) (by decide) (fun _ _ _ h => h) (by rfl) (fun _ => by go_simp) HS.out ?_
  simp only [Act.put, List.setIfInBounds_toArray, List.set_cons_zero, List.set_cons_succ]
  refine tLoadMid 3 (some 16) (u8s bb) rfl rfl (by kernel_rfl) (by kernel_rfl) (by kernel_rfl) (by decide) (by kernel_rfl) (by kernel_rfl) (fun _ _ _ h => h) (by rfl) 22 (.tmp 15) rfl w.heap.size 32 rfl _ (fun _ h => h.2.1) Try.underlying22 rfl (by rw [HA_bb.out]; exact size32) HS.out ?_
  simp only [Act.put, List.setIfInBounds_toArray, List.set_cons_zero, List.set_cons_succ]
  refine tTake 4 (some 17) (.pointer (some ⟨w.heap.size, 64, none⟩)) rfl rfl (by kernel_rfl) (by kernel_rfl) (by kernel_rfl) (by decide) (fun _ _ _ h => h) (by rfl) (fun _ => by go_simp) HS.out ?_
  simp only [Act.put, List.setIfInBounds_toArray, List.set_cons_zero, List.set_cons_succ]
  refine tLoad 5 (some 18) (.int .u32 (m : Int)) rfl rfl (by kernel_rfl) (by kernel_rfl) (by kernel_rfl) (by decide) (by kernel_rfl) (by kernel_rfl) (fun _ _ _ h => h) (by rfl) (fun W1 hS1 => by obtain ⟨q1, q2, q3, q4⟩ := hS1; go_simp) HS.out ?_
  simp only [Act.put, List.setIfInBounds_toArray, List.set_cons_zero, List.set_cons_succ]
  refine tTake 6 (some 19) (.pointer (some ⟨w.heap.size, 65, none⟩)) rfl rfl (by kernel_rfl) (by kernel_rfl) (by kernel_rfl) (by decide) (fun _ _ _ h => h) (by rfl) (fun _ => by go_simp) HS.out ?_
  simp only [Act.put, List.setIfInBounds_toArray, List.set_cons_zero, List.set_cons_succ]
  refine tLoad 7 (some 20) (.int .u32 (n : Int)) rfl rfl (by kernel_rfl) (by kernel_rfl) (by kernel_rfl) (by decide) (by kernel_rfl) (by kernel_rfl) (fun _ _ _ h => h) (by rfl) (fun W1 hS1 => by obtain ⟨q1, q2, q3, q4⟩ := hS1; go_simp) HS.out ?_
  simp only [Act.put, List.setIfInBounds_toArray, List.set_cons_zero, List.set_cons_succ]
  refine till_two 8 9 rfl rfl (by decide) (by kernel_rfl) (by kernel_rfl) (by kernel_rfl) (fun a a2 W => ∃ ga gb, ga ≠ gb ∧ x4.heap.size ≤ ga ∧ x4.heap.size ≤ gb ∧ a2 = (a.put (some 3) (.pointer (some ⟨ga, 0, none⟩))).put (some 4) (.pointer (some ⟨gb, 0, none⟩)) ∧ Blk W ga 22 (u8s (List.replicate 32 0)) ∧ Blk W gb 22 (u8s (List.replicate 32 0)) ∧ Below x4.heap.size x4 W) (fun a a2 W => a2 = a.put (some 3) (.pointer (some ⟨x4.heap.size, 0, none⟩)) ∧ Blk W x4.heap.size 22 (u8s (List.replicate 32 0)) ∧ W.heap.size = x4.heap.size + 1 ∧ Below x4.heap.size x4 W) (fun a a2 W => a2 = a.put (some 4) (.pointer (some ⟨x4.heap.size, 0, none⟩)) ∧ Blk W x4.heap.size 22 (u8s (List.replicate 32 0)) ∧ W.heap.size = x4.heap.size + 1 ∧ Below x4.heap.size x4 W) ?_ ?_ ?_ ?_ ?_ ?_ ?_
  · intro K hK
    refine step_alloc_new rfl 22 rfl 32 _ zero32 (some 3) rfl ?_
    intro W b1 s1 l1
    exact hK _ _ ⟨rfl, b1, s1, ⟨l1.os, l1.tape, l1.output, l1.size, l1.block⟩⟩
  · rintro a2 W ⟨rfl, b1, s1, l1⟩
    exact HR.out W (V0.out.2.later l1 V0.out.2.lt)
  · rintro a2 W ⟨rfl, b1, s1, l1⟩ K hK
    refine step_alloc_new rfl 22 rfl 32 _ zero32 (some 4) rfl ?_
    intro W2 b2 s2 l2
    rw [s1] at b2 ⊢
    exact hK _ _ ⟨_, _, by omega, Nat.le_refl _, by omega, rfl, b1.later l2 (by omega), b2, below_chain l1 l2 (by omega)⟩
  · intro K hK
    refine step_alloc_new rfl 22 rfl 32 _ zero32 (some 4) rfl ?_
    intro W b1 s1 l1
    exact hK _ _ ⟨rfl, b1, s1, ⟨l1.os, l1.tape, l1.output, l1.size, l1.block⟩⟩
  · rintro a2 W ⟨rfl, b1, s1, l1⟩
    exact HR.out W (V0.out.2.later l1 V0.out.2.lt)
  · rintro a2 W ⟨rfl, b1, s1, l1⟩ K hK
    refine step_alloc_new rfl 22 rfl 32 _ zero32 (some 3) rfl ?_
    intro W2 b2 s2 l2
    rw [s1] at b2 ⊢
    refine hK _ _ ⟨x4.heap.size + 1, x4.heap.size, by omega, by omega, Nat.le_refl _, ?_, b2, b1.later l2 (by omega), below_chain l1 l2 (by omega)⟩
    simp only [Act.put, List.setIfInBounds_toArray, List.set_cons_zero, List.set_cons_succ]
  · rintro a2 y0 ⟨ga, gb, d1, q1, q2, rfl, b3, b4, l1⟩
    have V1 : Hid (Below w.heap.size w y0 ∧ Blk y0 w.heap.size 58 (pwCells aa bb m n) ∧ Blk y0 ga 22 (u8s (List.replicate 32 0)) ∧ Blk y0 gb 22 (u8s (List.replicate 32 0)) ∧ w.heap.size < ga ∧ w.heap.size < gb ∧ ga ≠ gb) := ⟨below_chain V0.out.1 l1 V0.out.1.size, V0.out.2.later l1 V0.out.2.lt, b3, b4, Nat.lt_of_lt_of_le V0.out.2.lt q1, Nat.lt_of_lt_of_le V0.out.2.lt q2, d1⟩
    clear d1 q1 q2 b3 b4 l1 HS
    refine ⟨HR.out y0 V1.out.2.1, ?_⟩
    simp only [Act.put, List.setIfInBounds_toArray, List.set_cons_zero, List.set_cons_succ]
    refine till_ready 10 (by kernel_rfl) rfl (fun K hK => ?_)
    rw [if_pos (by rfl)]
    refine last_store 22 (.tmp 3) (.tmp 14) rfl rfl ga rfl 22 _ (u8s aa) rfl V1.out.2.2.1 (by rw [HA_aa.out]; rfl) (by rw [HA_aa.out]; exact size32) (u8s_one _) ?_
    intro y1 c1 t1 k1
    have V2 : Hid (Below w.heap.size w y1 ∧ Blk y1 w.heap.size 58 (pwCells aa bb m n) ∧ Blk y1 ga 22 (u8s aa) ∧ Blk y1 gb 22 (u8s (List.replicate 32 0)) ∧ w.heap.size < ga ∧ w.heap.size < gb ∧ ga ≠ gb) := by
      obtain ⟨a1, a2, a3, a4, a5, a6, a7⟩ := V1.out
      exact ⟨below_kept a1 k1 a1.size (fun j hj => by omega), a2.kept k1 (by omega), c1, a4.kept k1 (by omega), a5, a6, a7⟩
    clear V1 c1 t1 k1
    refine hK _ _ ⟨HR.out y1 V2.out.2.1, ?_⟩
    refine till_ready 11 (by kernel_rfl) rfl (fun K hK => ?_)
    rw [if_pos (by rfl)]
    refine last_store 22 (.tmp 4) (.tmp 16) rfl rfl gb rfl 22 _ (u8s bb) rfl V2.out.2.2.2.1 (by rw [HA_bb.out]; rfl) (by rw [HA_bb.out]; exact size32) (u8s_one _) ?_
    intro y2 c1 t1 k1
    have V1 : Hid (Below w.heap.size w y2 ∧ Blk y2 w.heap.size 58 (pwCells aa bb m n) ∧ Blk y2 ga 22 (u8s aa) ∧ Blk y2 gb 22 (u8s bb)) := by
      obtain ⟨a1, a2, a3, a4, a5, a6, a7⟩ := V2.out
      exact ⟨below_kept a1 k1 a1.size (fun j hj => by omega), a2.kept k1 (by omega), a3.kept k1 (by omega), c1⟩
    clear V2 c1 t1 k1
    refine hK _ _ ⟨HR.out y2 V1.out.2.1, ?_⟩
    refine till_ready 12 (by kernel_rfl) rfl (fun K hK => ?_)
    rw [if_pos (by rfl)]
    refine last_assign (.tmp 18) rfl (some 5) rfl (.int .u32 (m : Int)) rfl ?_
    refine hK _ _ ⟨HR.out y2 V1.out.2.1, ?_⟩
    refine till_at (by kernel_rfl) ?_
    refine wpAny_ready (rs := [13]) (by kernel_rfl) (by simp) (AllReady.cons rfl (fun K hK => ?_) AllReady.nil)
    rw [if_pos (by rfl)]
    refine last_assign (.tmp 20) rfl (some 6) rfl (.int .u32 (n : Int)) rfl ?_
    refine hK _ _ ?_
    refine wpAny_done (by kernel_rfl) (NoPanic.normal ?_) _
    simp only [Act.put, List.setIfInBounds_toArray, List.set_cons_zero, List.set_cons_succ]
    clear V0 hK
    try simp only [Act.put, List.setIfInBounds_toArray, List.set_cons_zero, List.set_cons_succ]
    go_wp2_with fail
    refine region_invP 6 ((.val (.agg (u8s aa).toArray)) :: (.any (isF x) (isF_later x)) :: (.val (.agg (u8s bb).toArray)) :: (.any (isF y) (isF_later y)) :: (.blk 26 (u64s [0, 0, 0, 0, 0])) :: (.blk 26 (u64s [0, 0, 0, 0, 0])) :: []) (by kernel_rfl) (by kernel_rfl) (by kernel_rfl) [7, 8] ⟨.inl rfl, .inl rfl, .inl rfl, .inl rfl, .inr ⟨26, _, 5, rfl, rfl, zeroElem⟩, .inr ⟨26, _, 5, rfl, rfl, zeroElem⟩, trivial⟩ (by kernel_rfl) ?_ ?_
    · refine Steps'.cons ?_ (Steps'.cons ?_ (Steps'.cons ?_ (Steps'.cons ?_ (Steps'.cons ?_ (Steps'.cons ?_ (Steps'.one _ _ _ _ _ _ _))))))
      · intro ax wx hb hs hd
        have h3 : ax.tmps.getD 3 undef = (.pointer (some ⟨ga, 0, none⟩)) := hs 3 (by kernel_rfl)
        exact Does.load 22 (.tmp 3) rfl ga 0 h3 (u8s aa) _ ((Blk.later V1.out.2.2.1 hb (Blk.lt V1.out.2.2.1)).whole) Try.underlying22 rfl (by rw [HA_aa.out]; exact size32)
      · intro ax wx hb hs hd
        have h21 : ax.tmps.getD 21 undef = (.agg (u8s aa).toArray) := hd 0 21 rfl (by kernel_rfl) (by decide)
        refine Does.call 12 #[(.agg (u8s aa).toArray)] (by clear hs hd; go_simp) ?_
        refine (HCx.out _).mono ?_
        rintro z w' ⟨r, rfl, fr, l⟩
        exact ⟨_, rfl, ⟨r, rfl, fr⟩, l⟩
      · intro ax wx hb hs hd
        have h4 : ax.tmps.getD 4 undef = (.pointer (some ⟨gb, 0, none⟩)) := hs 4 (by kernel_rfl)
        exact Does.load 22 (.tmp 4) rfl gb 0 h4 (u8s bb) _ ((Blk.later V1.out.2.2.2 hb (Blk.lt V1.out.2.2.2)).whole) Try.underlying22 rfl (by rw [HA_bb.out]; exact size32)
      · intro ax wx hb hs hd
        have h23 : ax.tmps.getD 23 undef = (.agg (u8s bb).toArray) := hd 2 23 rfl (by kernel_rfl) (by decide)
        refine Does.call 12 #[(.agg (u8s bb).toArray)] (by clear hs hd; go_simp) ?_
        refine (HCy.out _).mono ?_
        rintro z w' ⟨r, rfl, fr, l⟩
        exact ⟨_, rfl, ⟨r, rfl, fr⟩, l⟩
      · intro ax wx hb hs hd
        exact Does.alloc 26 rfl 5 _ zeroElem hb.size
      · intro ax wx hb hs hd
        exact Does.alloc 26 rfl 5 _ zeroElem hb.size
    · intro wx hb
      refine @EndsP.val _ _ _ _ _ _ _ _ (.agg (u8s aa).toArray) rfl ?_
      refine @EndsP.any _ _ _ _ _ _ _ _ (isF x) (isF_later x) rfl ?_
      intro v1 p1
      refine @EndsP.val _ _ _ _ _ _ _ _ (.agg (u8s bb).toArray) rfl ?_
      refine @EndsP.any _ _ _ _ _ _ _ _ (isF y) (isF_later y) rfl ?_
      intro v3 p3
      refine @EndsP.blk _ _ _ _ _ _ _ _ 26 (u64s [0, 0, 0, 0, 0]) rfl ?_
      intro g4 hg4 bg4
      refine @EndsP.blk _ _ _ _ _ _ _ _ 26 (u64s [0, 0, 0, 0, 0]) rfl ?_
      intro g5 hg5 bg5
      intro hD nf hn
      obtain ⟨mf, rfl⟩ : ∃ mf, nf = mf + 2 := ⟨nf - 2, by have h3 : 2 ≤ nf := hn; omega⟩
      obtain ⟨lx, rfl, F_lx⟩ := p1
      obtain ⟨ly, rfl, F_ly⟩ := p3
      have d01 : g4 ≠ g5 := fun e => hD 7 (by simp) 8 (by simp) (by decide) (by subst e; kernel_rfl)
      have N_lx : Hid ((u64s lx).length = 5) := by rw [u64s_length, F_lx.len]; rfl
      have N_ly : Hid ((u64s ly).length = 5) := by rw [u64s_length, F_ly.len]; rfl
      clear hD hn
      simp only [Act.put, List.setIfInBounds_toArray, List.set_cons_zero, List.set_cons_succ]
      refine wpAny_ready (rs := [6]) (by kernel_rfl) (by simp) (AllReady.cons rfl (fun K hK => ?_) AllReady.nil)
      rw [if_pos (by rfl)]
      refine last_store 26 (.tmp 7) (.tmp 22) rfl rfl g4 rfl 26 _ (u64s lx) rfl bg4 (by rw [N_lx.out]; rfl) (by rw [N_lx.out]; exact sizeElem) (u64s_one _) ?_
      intro w0 b0 s0 k0
      refine hK _ _ ?_
      refine wpAny_ready (rs := [7]) (by kernel_rfl) (by simp) (AllReady.cons rfl (fun K hK => ?_) AllReady.nil)
      rw [if_pos (by rfl)]
      refine last_store 26 (.tmp 8) (.tmp 24) rfl rfl g5 rfl 26 _ (u64s ly) rfl (bg5.kept k0 (by omega)) (by rw [N_ly.out]; rfl) (by rw [N_ly.out]; exact sizeElem) (u64s_one _) ?_
      intro w1 b1 s1 k1
      refine hK _ _ ?_
      refine wpAny_done (by kernel_rfl) (NoPanic.normal ?_) _
      have V2 : Hid (Below w.heap.size w w1 ∧ Blk w1 w.heap.size 58 (pwCells aa bb m n) ∧ Blk w1 ga 22 (u8s aa) ∧ Blk w1 gb 22 (u8s bb) ∧ Blk w1 g4 26 (u64s lx) ∧ Blk w1 g5 26 (u64s ly)) := by
        have qb := hb.size
        have qw := V1.out.1.size
        have q0 := V1.out.2.1.lt
        have q1 := V1.out.2.2.1.lt
        have q2 := V1.out.2.2.2.lt
        exact ⟨below_kept (below_kept (below_chain V1.out.1 hb (by omega)) k0 (by omega) (fun j hj => by omega)) k1 (by omega) (fun j hj => by omega), (((V1.out.2.1.later hb V1.out.2.1.lt).kept k0 (by omega)).kept k1 (by omega)), (((V1.out.2.2.1.later hb V1.out.2.2.1.lt).kept k0 (by omega)).kept k1 (by omega)), (((V1.out.2.2.2.later hb V1.out.2.2.2.lt).kept k0 (by omega)).kept k1 (by omega)), (b0.kept k1 (by omega)), b1⟩
      obtain ⟨gx, rfl⟩ : ∃ q, q = g4 := ⟨_, rfl⟩
      obtain ⟨gy, rfl⟩ : ∃ q, q = g5 := ⟨_, rfl⟩
      obtain ⟨yV2, rfl⟩ : ∃ q, q = w1 := ⟨_, rfl⟩
      clear hb V1 hK b0 s0 k0 b1 s1 k1 bg4 hg4 bg5 hg5 d01
      have HF : Hid (Fe lx x ∧ Fe ly y) := ⟨F_lx, F_ly⟩
      clear F_lx F_ly
      try simp only [Act.put, List.setIfInBounds_toArray, List.set_cons_zero, List.set_cons_succ]
      go_wp2_with fail
      refine region_invGT ((.val (.agg (u64s lx).toArray)) :: (.val (.agg (u8s (primeL 0)).toArray)) :: (.any (isF (x ^ (p2 + 2) % PR)) (isF_later (x ^ (p2 + 2) % PR))) :: (.val (.agg (u64s lx).toArray)) :: (.val (.bool true)) :: (.val (.bool false)) :: (.val (.bool false)) :: (.val (.agg (u64s lx).toArray)) :: (.val (.agg (u8s BZ).toArray)) :: (.any (isF (x ^ 0 % PR)) (isF_later (x ^ 0 % PR))) :: (.any (isF 1) (isF_later 1)) :: (.val (.bool true)) :: (.val (.bool false)) :: (.val (.bool false)) :: (.val (.bool false)) :: (.val (.agg (u64s lx).toArray)) :: (.val (.agg (u8s BT).toArray)) :: (.any (isF (x ^ 3 % PR)) (isF_later (x ^ 3 % PR))) :: (.val (.agg (u64s lx).toArray)) :: (.val (.agg (u64s lx).toArray)) :: (.any (isF ((x * x) % PR)) (isF_later ((x * x) % PR))) :: (.val (.agg (u64s lx).toArray)) :: (.any (isF ((((x * x) % PR) * x) % PR)) (isF_later ((((x * x) % PR) * x) % PR))) :: (.val (.bool true)) :: (.val (.bool false)) :: []) (by kernel_rfl) (by kernel_rfl) (by repeat (first | exact trivial | (refine ⟨by first | trivial | rfl, ?_⟩))) (by kernel_rfl) ?_ ?_
      · refine Steps'.cons ?_ (Steps'.cons ?_ (Steps'.cons ?_ (Steps'.cons ?_ (Steps'.cons ?_ (Steps'.cons ?_ (Steps'.cons ?_ (Steps'.cons ?_ (Steps'.cons ?_ (Steps'.cons ?_ (Steps'.cons ?_ (Steps'.cons ?_ (Steps'.cons ?_ (Steps'.cons ?_ (Steps'.cons ?_ (Steps'.cons ?_ (Steps'.cons ?_ (Steps'.cons ?_ (Steps'.cons ?_ (Steps'.cons ?_ (Steps'.cons ?_ (Steps'.cons ?_ (Steps'.cons ?_ (Steps'.cons ?_ (Steps'.cons ?_ (Steps'.one _ _ _ _ _ _ _)))))))))))))))))))))))))
        · intro ax wx hb hs hd
          have h7 : ax.tmps.getD 7 undef = (.pointer (some ⟨gx, 0, none⟩)) := hs 7 (by kernel_rfl)
          exact Does.load 26 (.tmp 7) rfl gx 0 h7 (u64s lx) _ ((Blk.later V2.out.2.2.2.2.1 hb (Blk.lt V2.out.2.2.2.2.1)).whole) Try.underlying26 rfl (by rw [N_lx.out]; exact sizeElem)
        · intro ax wx hb hs hd
          refine Does.call 35 #[(.int .u8 0)] (by clear hs hd; go_simp) ?_
          refine (prime_any 0 (by decide) _).mono ?_
          rintro z w' ⟨rfl, l⟩
          exact ⟨_, rfl, rfl, l⟩
        · intro ax wx hb hs hd
          have h25 : ax.tmps.getD 25 undef = (.agg (u64s lx).toArray) := hd 0 25 rfl (by kernel_rfl) (by decide)
          have h26 : ax.tmps.getD 26 undef = (.agg (u8s (primeL 0)).toArray) := hd 1 26 rfl (by kernel_rfl) (by decide)
          refine Does.call 23 #[(.agg (u64s lx).toArray), (.agg (u8s (primeL 0)).toArray)] (by clear hs hd; go_simp) ?_
          refine (fpower_any _ _ _ HF.out.1 HQ.out.1 HQ.out.2.1 _).mono ?_
          rintro z w' ⟨r, rfl, fr, l⟩
          rw [HQ.out.2.2] at fr
          exact ⟨_, rfl, ⟨r, rfl, fr⟩, l⟩
        · intro ax wx hb hs hd
          have h7 : ax.tmps.getD 7 undef = (.pointer (some ⟨gx, 0, none⟩)) := hs 7 (by kernel_rfl)
          exact Does.load 26 (.tmp 7) rfl gx 0 h7 (u64s lx) _ ((Blk.later V2.out.2.2.2.2.1 hb (Blk.lt V2.out.2.2.2.2.1)).whole) Try.underlying26 rfl (by rw [N_lx.out]; exact sizeElem)
        · intro ax wx hb hs hd
          obtain ⟨l27, h27, f27⟩ : isF (x ^ (p2 + 2) % PR) (ax.tmps.getD 27 undef) wx := hd 2 27 rfl (by kernel_rfl) (by decide)
          have h28 : ax.tmps.getD 28 undef = (.agg (u64s lx).toArray) := hd 3 28 rfl (by kernel_rfl) (by decide)
          refine Does.call 28 #[(.agg (u64s l27).toArray), (.agg (u64s lx).toArray)] (by clear hs hd; go_simp) ?_
          refine (one_yes _ _ _ f27 (Fe.eq HF.out.1 ((pow_prime x RR.out.1).symm)) _).mono ?_
          rintro z w' ⟨rfl, l⟩
          exact ⟨_, rfl, rfl, l⟩
        · intro ax wx hb hs hd
          have h29 : ax.tmps.getD 29 undef = (.bool true) := hd 4 29 rfl (by kernel_rfl) (by decide)
          refine Does.value (.bool false) ?_ rfl
          clear hs hd
          go_simp
        · intro ax wx hb hs hd
          have h30 : ax.tmps.getD 30 undef = (.bool false) := hd 5 30 rfl (by kernel_rfl) (by decide)
          refine Does.value (.bool false) ?_ rfl
          clear hs hd
          go_simp
        · intro ax wx hb hs hd
          have h7 : ax.tmps.getD 7 undef = (.pointer (some ⟨gx, 0, none⟩)) := hs 7 (by kernel_rfl)
          exact Does.load 26 (.tmp 7) rfl gx 0 h7 (u64s lx) _ ((Blk.later V2.out.2.2.2.2.1 hb (Blk.lt V2.out.2.2.2.2.1)).whole) Try.underlying26 rfl (by rw [N_lx.out]; exact sizeElem)
        · intro ax wx hb hs hd
          refine Does.call 36 #[(.int .u64 0)] (by clear hs hd; go_simp) ?_
          refine (HZ.out.2.2.2 _).mono ?_
          rintro z w' ⟨rfl, l⟩
          exact ⟨_, rfl, rfl, l⟩
        · intro ax wx hb hs hd
          have h32 : ax.tmps.getD 32 undef = (.agg (u64s lx).toArray) := hd 7 32 rfl (by kernel_rfl) (by decide)
          have h33 : ax.tmps.getD 33 undef = (.agg (u8s BZ).toArray) := hd 8 33 rfl (by kernel_rfl) (by decide)
          refine Does.call 23 #[(.agg (u64s lx).toArray), (.agg (u8s BZ).toArray)] (by clear hs hd; go_simp) ?_
          refine (fpower_any _ _ _ HF.out.1 HZ.out.1 HZ.out.2.1 _).mono ?_
          rintro z w' ⟨r, rfl, fr, l⟩
          rw [HZ.out.2.2.1] at fr
          exact ⟨_, rfl, ⟨r, rfl, fr⟩, l⟩
        · intro ax wx hb hs hd
          refine Does.call 15 #[(.int .u64 1)] (by clear hs hd; go_simp) ?_
          refine (small_any 1 (by decide) (by decide) _).mono ?_
          rintro z w' ⟨r, rfl, fr, l⟩
          exact ⟨_, rfl, ⟨r, rfl, fr⟩, l⟩
        · intro ax wx hb hs hd
          obtain ⟨l34, h34, f34⟩ : isF (x ^ 0 % PR) (ax.tmps.getD 34 undef) wx := hd 9 34 rfl (by kernel_rfl) (by decide)
          obtain ⟨l35, h35, f35⟩ : isF 1 (ax.tmps.getD 35 undef) wx := hd 10 35 rfl (by kernel_rfl) (by decide)
          refine Does.call 28 #[(.agg (u64s l34).toArray), (.agg (u64s l35).toArray)] (by clear hs hd; go_simp) ?_
          refine (one_yes _ _ _ f34 (Fe.eq f35 (pwl0 x)) _).mono ?_
          rintro z w' ⟨rfl, l⟩
          exact ⟨_, rfl, rfl, l⟩
        · intro ax wx hb hs hd
          have h36 : ax.tmps.getD 36 undef = (.bool true) := hd 11 36 rfl (by kernel_rfl) (by decide)
          refine Does.value (.bool false) ?_ rfl
          clear hs hd
          go_simp
        · intro ax wx hb hs hd
          have h31 : ax.tmps.getD 31 undef = (.bool false) := hd 6 31 rfl (by kernel_rfl) (by decide)
          have h37 : ax.tmps.getD 37 undef = (.bool false) := hd 12 37 rfl (by kernel_rfl) (by decide)
          refine Does.value (.bool false) ?_ rfl
          clear hs hd
          go_simp
        · intro ax wx hb hs hd
          have h38 : ax.tmps.getD 38 undef = (.bool false) := hd 13 38 rfl (by kernel_rfl) (by decide)
          refine Does.value (.bool false) ?_ rfl
          clear hs hd
          go_simp
        · intro ax wx hb hs hd
          have h7 : ax.tmps.getD 7 undef = (.pointer (some ⟨gx, 0, none⟩)) := hs 7 (by kernel_rfl)
          exact Does.load 26 (.tmp 7) rfl gx 0 h7 (u64s lx) _ ((Blk.later V2.out.2.2.2.2.1 hb (Blk.lt V2.out.2.2.2.2.1)).whole) Try.underlying26 rfl (by rw [N_lx.out]; exact sizeElem)
        · intro ax wx hb hs hd
          refine Does.call 36 #[(.int .u64 3)] (by clear hs hd; go_simp) ?_
          refine (HT.out.2.2.2 _).mono ?_
          rintro z w' ⟨rfl, l⟩
          exact ⟨_, rfl, rfl, l⟩
        · intro ax wx hb hs hd
          have h40 : ax.tmps.getD 40 undef = (.agg (u64s lx).toArray) := hd 15 40 rfl (by kernel_rfl) (by decide)
          have h41 : ax.tmps.getD 41 undef = (.agg (u8s BT).toArray) := hd 16 41 rfl (by kernel_rfl) (by decide)
          refine Does.call 23 #[(.agg (u64s lx).toArray), (.agg (u8s BT).toArray)] (by clear hs hd; go_simp) ?_
          refine (fpower_any _ _ _ HF.out.1 HT.out.1 HT.out.2.1 _).mono ?_
          rintro z w' ⟨r, rfl, fr, l⟩
          rw [HT.out.2.2.1] at fr
          exact ⟨_, rfl, ⟨r, rfl, fr⟩, l⟩
        · intro ax wx hb hs hd
          have h7 : ax.tmps.getD 7 undef = (.pointer (some ⟨gx, 0, none⟩)) := hs 7 (by kernel_rfl)
          exact Does.load 26 (.tmp 7) rfl gx 0 h7 (u64s lx) _ ((Blk.later V2.out.2.2.2.2.1 hb (Blk.lt V2.out.2.2.2.2.1)).whole) Try.underlying26 rfl (by rw [N_lx.out]; exact sizeElem)
        · intro ax wx hb hs hd
          have h7 : ax.tmps.getD 7 undef = (.pointer (some ⟨gx, 0, none⟩)) := hs 7 (by kernel_rfl)
          exact Does.load 26 (.tmp 7) rfl gx 0 h7 (u64s lx) _ ((Blk.later V2.out.2.2.2.2.1 hb (Blk.lt V2.out.2.2.2.2.1)).whole) Try.underlying26 rfl (by rw [N_lx.out]; exact sizeElem)
        · intro ax wx hb hs hd
          have h43 : ax.tmps.getD 43 undef = (.agg (u64s lx).toArray) := hd 18 43 rfl (by kernel_rfl) (by decide)
          have h44 : ax.tmps.getD 44 undef = (.agg (u64s lx).toArray) := hd 19 44 rfl (by kernel_rfl) (by decide)
          refine Does.call 32 #[(.agg (u64s lx).toArray), (.agg (u64s lx).toArray)] (by clear hs hd; go_simp) ?_
          refine (mul_any _ _ _ _ HF.out.1 HF.out.1 _).mono ?_
          rintro z w' ⟨r, rfl, fr, l⟩
          exact ⟨_, rfl, ⟨r, rfl, fr⟩, l⟩
        · intro ax wx hb hs hd
          have h7 : ax.tmps.getD 7 undef = (.pointer (some ⟨gx, 0, none⟩)) := hs 7 (by kernel_rfl)
          exact Does.load 26 (.tmp 7) rfl gx 0 h7 (u64s lx) _ ((Blk.later V2.out.2.2.2.2.1 hb (Blk.lt V2.out.2.2.2.2.1)).whole) Try.underlying26 rfl (by rw [N_lx.out]; exact sizeElem)
        · intro ax wx hb hs hd
          obtain ⟨l45, h45, f45⟩ : isF ((x * x) % PR) (ax.tmps.getD 45 undef) wx := hd 20 45 rfl (by kernel_rfl) (by decide)
          have h46 : ax.tmps.getD 46 undef = (.agg (u64s lx).toArray) := hd 21 46 rfl (by kernel_rfl) (by decide)
          refine Does.call 32 #[(.agg (u64s l45).toArray), (.agg (u64s lx).toArray)] (by clear hs hd; go_simp) ?_
          refine (mul_any _ _ _ _ f45 HF.out.1 _).mono ?_
          rintro z w' ⟨r, rfl, fr, l⟩
          exact ⟨_, rfl, ⟨r, rfl, fr⟩, l⟩
        · intro ax wx hb hs hd
          obtain ⟨l42, h42, f42⟩ : isF (x ^ 3 % PR) (ax.tmps.getD 42 undef) wx := hd 17 42 rfl (by kernel_rfl) (by decide)
          obtain ⟨l47, h47, f47⟩ : isF ((((x * x) % PR) * x) % PR) (ax.tmps.getD 47 undef) wx := hd 22 47 rfl (by kernel_rfl) (by decide)
          refine Does.call 28 #[(.agg (u64s l42).toArray), (.agg (u64s l47).toArray)] (by clear hs hd; go_simp) ?_
          refine (one_yes _ _ _ f42 (Fe.eq f47 (pwl3 x)) _).mono ?_
          rintro z w' ⟨rfl, l⟩
          exact ⟨_, rfl, rfl, l⟩
        · intro ax wx hb hs hd
          have h48 : ax.tmps.getD 48 undef = (.bool true) := hd 23 48 rfl (by kernel_rfl) (by decide)
          refine Does.value (.bool false) ?_ rfl
          clear hs hd
          go_simp
      · intro wx hb
        refine @Ends.val _ _ _ _ _ _ _ _ _ (.agg (u64s lx).toArray) rfl ?_
        refine @Ends.val _ _ _ _ _ _ _ _ _ (.agg (u8s (primeL 0)).toArray) rfl ?_
        refine @Ends.any _ _ _ _ _ _ _ _ _ (isF (x ^ (p2 + 2) % PR)) (isF_later (x ^ (p2 + 2) % PR)) rfl ?_
        intro v2 p2
        refine @Ends.val _ _ _ _ _ _ _ _ _ (.agg (u64s lx).toArray) rfl ?_
        refine @Ends.val _ _ _ _ _ _ _ _ _ (.bool true) rfl ?_
        refine @Ends.val _ _ _ _ _ _ _ _ _ (.bool false) rfl ?_
        refine @Ends.val _ _ _ _ _ _ _ _ _ (.bool false) rfl ?_
        refine @Ends.val _ _ _ _ _ _ _ _ _ (.agg (u64s lx).toArray) rfl ?_
        refine @Ends.val _ _ _ _ _ _ _ _ _ (.agg (u8s BZ).toArray) rfl ?_
        refine @Ends.any _ _ _ _ _ _ _ _ _ (isF (x ^ 0 % PR)) (isF_later (x ^ 0 % PR)) rfl ?_
        intro v9 p9
        refine @Ends.any _ _ _ _ _ _ _ _ _ (isF 1) (isF_later 1) rfl ?_
        intro v10 p10
        refine @Ends.val _ _ _ _ _ _ _ _ _ (.bool true) rfl ?_
        refine @Ends.val _ _ _ _ _ _ _ _ _ (.bool false) rfl ?_
        refine @Ends.val _ _ _ _ _ _ _ _ _ (.bool false) rfl ?_
        refine @Ends.val _ _ _ _ _ _ _ _ _ (.bool false) rfl ?_
        refine @Ends.val _ _ _ _ _ _ _ _ _ (.agg (u64s lx).toArray) rfl ?_
        refine @Ends.val _ _ _ _ _ _ _ _ _ (.agg (u8s BT).toArray) rfl ?_
        refine @Ends.any _ _ _ _ _ _ _ _ _ (isF (x ^ 3 % PR)) (isF_later (x ^ 3 % PR)) rfl ?_
        intro v17 p17
        refine @Ends.val _ _ _ _ _ _ _ _ _ (.agg (u64s lx).toArray) rfl ?_
        refine @Ends.val _ _ _ _ _ _ _ _ _ (.agg (u64s lx).toArray) rfl ?_
        refine @Ends.any _ _ _ _ _ _ _ _ _ (isF ((x * x) % PR)) (isF_later ((x * x) % PR)) rfl ?_
        intro v20 p20
        refine @Ends.val _ _ _ _ _ _ _ _ _ (.agg (u64s lx).toArray) rfl ?_
        refine @Ends.any _ _ _ _ _ _ _ _ _ (isF ((((x * x) % PR) * x) % PR)) (isF_later ((((x * x) % PR) * x) % PR)) rfl ?_
        intro v22 p22
        refine @Ends.val _ _ _ _ _ _ _ _ _ (.bool true) rfl ?_
        refine @Ends.val _ _ _ _ _ _ _ _ _ (.bool false) rfl ?_
        refine @Ends.one _ _ _ _ _ _ _ ?_
        simp only [Act.put, List.setIfInBounds_toArray, List.set_cons_zero, List.set_cons_succ]
        refine last_value (some 50) rfl (.bool false) (by go_simp) ?_
        have V3 : Hid (Below w.heap.size w wx ∧ Blk wx w.heap.size 58 (pwCells aa bb m n) ∧ Blk wx ga 22 (u8s aa) ∧ Blk wx gb 22 (u8s bb) ∧ Blk wx gx 26 (u64s lx) ∧ Blk wx gy 26 (u64s ly)) := ⟨below_chain V2.out.1 hb V2.out.1.size, (V2.out.2.1.later hb V2.out.2.1.lt), (V2.out.2.2.1.later hb V2.out.2.2.1.lt), (V2.out.2.2.2.1.later hb V2.out.2.2.2.1.lt), (V2.out.2.2.2.2.1.later hb V2.out.2.2.2.2.1.lt), (V2.out.2.2.2.2.2.later hb V2.out.2.2.2.2.2.lt)⟩
        obtain ⟨yV3, rfl⟩ : ∃ q, q = wx := ⟨_, rfl⟩
        clear V2 hb p2 p9 p10 p17 p20 p22
        simp only [Act.put, List.setIfInBounds_toArray, List.set_cons_zero, List.set_cons_succ]
        go_wp2_with fail
        refine region_invP 12 ((.val (.agg (u64s lx).toArray)) :: (.val (.int .u32 (m : Int))) :: (.val (.int .u64 (m : Int))) :: (.val (.agg (u8s BM).toArray)) :: (.any (isF (x ^ m % PR)) (isF_later (x ^ m % PR))) :: (.val (.agg (u64s lx).toArray)) :: (.val (.int .u32 (n : Int))) :: (.val (.int .u64 (n : Int))) :: (.val (.agg (u8s BN).toArray)) :: (.any (isF (x ^ n % PR)) (isF_later (x ^ n % PR))) :: (.blk 26 (u64s [0, 0, 0, 0, 0])) :: (.blk 26 (u64s [0, 0, 0, 0, 0])) :: []) (by kernel_rfl) (by kernel_rfl) (by kernel_rfl) [9, 10] ⟨.inl rfl, .inl rfl, .inl rfl, .inl rfl, .inl rfl, .inl rfl, .inl rfl, .inl rfl, .inl rfl, .inl rfl, .inr ⟨26, _, 5, rfl, rfl, zeroElem⟩, .inr ⟨26, _, 5, rfl, rfl, zeroElem⟩, trivial⟩ (by kernel_rfl) ?_ ?_
        · refine Steps'.cons ?_ (Steps'.cons ?_ (Steps'.cons ?_ (Steps'.cons ?_ (Steps'.cons ?_ (Steps'.cons ?_ (Steps'.cons ?_ (Steps'.cons ?_ (Steps'.cons ?_ (Steps'.cons ?_ (Steps'.cons ?_ (Steps'.cons ?_ (Steps'.one _ _ _ _ _ _ _))))))))))))
          · intro ax wx hb hs hd
            have h7 : ax.tmps.getD 7 undef = (.pointer (some ⟨gx, 0, none⟩)) := hs 7 (by kernel_rfl)
            exact Does.load 26 (.tmp 7) rfl gx 0 h7 (u64s lx) _ ((Blk.later V3.out.2.2.2.2.1 hb (Blk.lt V3.out.2.2.2.2.1)).whole) Try.underlying26 rfl (by rw [N_lx.out]; exact sizeElem)
          · intro ax wx hb hs hd
            have h5 : ax.tmps.getD 5 undef = (.int .u32 (m : Int)) := hs 5 (by kernel_rfl)
            refine Does.value (.int .u32 (m : Int)) ?_ rfl
            clear hs hd
            go_simp
          · intro ax wx hb hs hd
            have h52 : ax.tmps.getD 52 undef = (.int .u32 (m : Int)) := hd 1 52 rfl (by kernel_rfl) (by decide)
            refine Does.value (.int .u64 (m : Int)) ?_ rfl
            clear hs hd
            go_simp
          · intro ax wx hb hs hd
            have h53 : ax.tmps.getD 53 undef = (.int .u64 (m : Int)) := hd 2 53 rfl (by kernel_rfl) (by decide)
            refine Does.call 36 #[(.int .u64 (m : Int))] (by clear hs hd; go_simp) ?_
            refine (HM.out.2.2.2 _).mono ?_
            rintro z w' ⟨rfl, l⟩
            exact ⟨_, rfl, rfl, l⟩
          · intro ax wx hb hs hd
            have h51 : ax.tmps.getD 51 undef = (.agg (u64s lx).toArray) := hd 0 51 rfl (by kernel_rfl) (by decide)
            have h54 : ax.tmps.getD 54 undef = (.agg (u8s BM).toArray) := hd 3 54 rfl (by kernel_rfl) (by decide)
            refine Does.call 23 #[(.agg (u64s lx).toArray), (.agg (u8s BM).toArray)] (by clear hs hd; go_simp) ?_
            refine (fpower_any _ _ _ HF.out.1 HM.out.1 HM.out.2.1 _).mono ?_
            rintro z w' ⟨r, rfl, fr, l⟩
            rw [HM.out.2.2.1] at fr
            exact ⟨_, rfl, ⟨r, rfl, fr⟩, l⟩
          · intro ax wx hb hs hd
            have h7 : ax.tmps.getD 7 undef = (.pointer (some ⟨gx, 0, none⟩)) := hs 7 (by kernel_rfl)
            exact Does.load 26 (.tmp 7) rfl gx 0 h7 (u64s lx) _ ((Blk.later V3.out.2.2.2.2.1 hb (Blk.lt V3.out.2.2.2.2.1)).whole) Try.underlying26 rfl (by rw [N_lx.out]; exact sizeElem)
          · intro ax wx hb hs hd
            have h6 : ax.tmps.getD 6 undef = (.int .u32 (n : Int)) := hs 6 (by kernel_rfl)
            refine Does.value (.int .u32 (n : Int)) ?_ rfl
            clear hs hd
            go_simp
          · intro ax wx hb hs hd
            have h57 : ax.tmps.getD 57 undef = (.int .u32 (n : Int)) := hd 6 57 rfl (by kernel_rfl) (by decide)
            refine Does.value (.int .u64 (n : Int)) ?_ rfl
            clear hs hd
            go_simp
          · intro ax wx hb hs hd
            have h58 : ax.tmps.getD 58 undef = (.int .u64 (n : Int)) := hd 7 58 rfl (by kernel_rfl) (by decide)
            refine Does.call 36 #[(.int .u64 (n : Int))] (by clear hs hd; go_simp) ?_
            refine (HN.out.2.2.2 _).mono ?_
            rintro z w' ⟨rfl, l⟩
            exact ⟨_, rfl, rfl, l⟩
          · intro ax wx hb hs hd
            have h56 : ax.tmps.getD 56 undef = (.agg (u64s lx).toArray) := hd 5 56 rfl (by kernel_rfl) (by decide)
            have h59 : ax.tmps.getD 59 undef = (.agg (u8s BN).toArray) := hd 8 59 rfl (by kernel_rfl) (by decide)
            refine Does.call 23 #[(.agg (u64s lx).toArray), (.agg (u8s BN).toArray)] (by clear hs hd; go_simp) ?_
            refine (fpower_any _ _ _ HF.out.1 HN.out.1 HN.out.2.1 _).mono ?_
            rintro z w' ⟨r, rfl, fr, l⟩
            rw [HN.out.2.2.1] at fr
            exact ⟨_, rfl, ⟨r, rfl, fr⟩, l⟩
          · intro ax wx hb hs hd
            exact Does.alloc 26 rfl 5 _ zeroElem hb.size
          · intro ax wx hb hs hd
            exact Does.alloc 26 rfl 5 _ zeroElem hb.size
        · intro wx hb
          refine @EndsP.val _ _ _ _ _ _ _ _ (.agg (u64s lx).toArray) rfl ?_
          refine @EndsP.val _ _ _ _ _ _ _ _ (.int .u32 (m : Int)) rfl ?_
          refine @EndsP.val _ _ _ _ _ _ _ _ (.int .u64 (m : Int)) rfl ?_
          refine @EndsP.val _ _ _ _ _ _ _ _ (.agg (u8s BM).toArray) rfl ?_
          refine @EndsP.any _ _ _ _ _ _ _ _ (isF (x ^ m % PR)) (isF_later (x ^ m % PR)) rfl ?_
          intro v4 p4
          refine @EndsP.val _ _ _ _ _ _ _ _ (.agg (u64s lx).toArray) rfl ?_
          refine @EndsP.val _ _ _ _ _ _ _ _ (.int .u32 (n : Int)) rfl ?_
          refine @EndsP.val _ _ _ _ _ _ _ _ (.int .u64 (n : Int)) rfl ?_
          refine @EndsP.val _ _ _ _ _ _ _ _ (.agg (u8s BN).toArray) rfl ?_
          refine @EndsP.any _ _ _ _ _ _ _ _ (isF (x ^ n % PR)) (isF_later (x ^ n % PR)) rfl ?_
          intro v9 p9
          refine @EndsP.blk _ _ _ _ _ _ _ _ 26 (u64s [0, 0, 0, 0, 0]) rfl ?_
          intro g10 hg10 bg10
          refine @EndsP.blk _ _ _ _ _ _ _ _ 26 (u64s [0, 0, 0, 0, 0]) rfl ?_
          intro g11 hg11 bg11
          intro hD nf hn
          obtain ⟨mf, rfl⟩ : ∃ mf, nf = mf + 2 := ⟨nf - 2, by have h3 : 2 ≤ nf := hn; omega⟩
          obtain ⟨lp, rfl, F_lp⟩ := p4
          obtain ⟨lq, rfl, F_lq⟩ := p9
          have d01 : g10 ≠ g11 := fun e => hD 9 (by simp) 10 (by simp) (by decide) (by subst e; kernel_rfl)
          have N_lp : Hid ((u64s lp).length = 5) := by rw [u64s_length, F_lp.len]; rfl
          have N_lq : Hid ((u64s lq).length = 5) := by rw [u64s_length, F_lq.len]; rfl
          clear hD hn
          simp only [Act.put, List.setIfInBounds_toArray, List.set_cons_zero, List.set_cons_succ]
          refine wpAny_ready (rs := [12]) (by kernel_rfl) (by simp) (AllReady.cons rfl (fun K hK => ?_) AllReady.nil)
          rw [if_pos (by rfl)]
          refine last_store 26 (.tmp 9) (.tmp 55) rfl rfl g10 rfl 26 _ (u64s lp) rfl bg10 (by rw [N_lp.out]; rfl) (by rw [N_lp.out]; exact sizeElem) (u64s_one _) ?_
          intro w0 b0 s0 k0
          refine hK _ _ ?_
          refine wpAny_ready (rs := [13]) (by kernel_rfl) (by simp) (AllReady.cons rfl (fun K hK => ?_) AllReady.nil)
          rw [if_pos (by rfl)]
          refine last_store 26 (.tmp 10) (.tmp 60) rfl rfl g11 rfl 26 _ (u64s lq) rfl (bg11.kept k0 (by omega)) (by rw [N_lq.out]; rfl) (by rw [N_lq.out]; exact sizeElem) (u64s_one _) ?_
          intro w1 b1 s1 k1
          refine hK _ _ ?_
          refine wpAny_done (by kernel_rfl) (NoPanic.normal ?_) _
          have V4 : Hid (Below w.heap.size w w1 ∧ Blk w1 w.heap.size 58 (pwCells aa bb m n) ∧ Blk w1 ga 22 (u8s aa) ∧ Blk w1 gb 22 (u8s bb) ∧ Blk w1 gx 26 (u64s lx) ∧ Blk w1 gy 26 (u64s ly) ∧ Blk w1 g10 26 (u64s lp) ∧ Blk w1 g11 26 (u64s lq)) := by
            have qb := hb.size
            have qw := V3.out.1.size
            have q0 := V3.out.2.1.lt
            have q1 := V3.out.2.2.1.lt
            have q2 := V3.out.2.2.2.1.lt
            have q3 := V3.out.2.2.2.2.1.lt
            have q4 := V3.out.2.2.2.2.2.lt
            exact ⟨below_kept (below_kept (below_chain V3.out.1 hb (by omega)) k0 (by omega) (fun j hj => by omega)) k1 (by omega) (fun j hj => by omega), (((V3.out.2.1.later hb V3.out.2.1.lt).kept k0 (by omega)).kept k1 (by omega)), (((V3.out.2.2.1.later hb V3.out.2.2.1.lt).kept k0 (by omega)).kept k1 (by omega)), (((V3.out.2.2.2.1.later hb V3.out.2.2.2.1.lt).kept k0 (by omega)).kept k1 (by omega)), (((V3.out.2.2.2.2.1.later hb V3.out.2.2.2.2.1.lt).kept k0 (by omega)).kept k1 (by omega)), (((V3.out.2.2.2.2.2.later hb V3.out.2.2.2.2.2.lt).kept k0 (by omega)).kept k1 (by omega)), (b0.kept k1 (by omega)), b1⟩
          obtain ⟨gp, rfl⟩ : ∃ q, q = g10 := ⟨_, rfl⟩
          obtain ⟨gq, rfl⟩ : ∃ q, q = g11 := ⟨_, rfl⟩
          obtain ⟨yV4, rfl⟩ : ∃ q, q = w1 := ⟨_, rfl⟩
          clear hb V3 hK b0 s0 k0 b1 s1 k1 bg10 hg10 bg11 hg11 d01
          have HG : Hid (Fe lp (x ^ m % PR) ∧ Fe lq (x ^ n % PR)) := ⟨F_lp, F_lq⟩
          clear F_lp F_lq
          try simp only [Act.put, List.setIfInBounds_toArray, List.set_cons_zero, List.set_cons_succ]
          go_wp2_with fail
          refine region_invG ((.val (.agg (u64s lx).toArray)) :: (.val (.int .u32 (m : Int))) :: (.val (.int .u64 (m : Int))) :: (.val (.int .u32 (n : Int))) :: (.val (.int .u64 (n : Int))) :: (.val (.int .u64 ((m : Int) + (n : Int)))) :: (.val (.agg (u8s BS).toArray)) :: (.any (isF (x ^ (m + n) % PR)) (isF_later (x ^ (m + n) % PR))) :: (.val (.agg (u64s lp).toArray)) :: (.val (.agg (u64s lq).toArray)) :: (.any (isF (((x ^ m % PR) * (x ^ n % PR)) % PR)) (isF_later (((x ^ m % PR) * (x ^ n % PR)) % PR))) :: (.val (.bool true)) :: (.val (.bool true)) :: (.val (.agg (u64s lx).toArray)) :: (.val (.agg (u64s ly).toArray)) :: (.any (isF ((x * y) % PR)) (isF_later ((x * y) % PR))) :: (.val (.int .u32 (m : Int))) :: (.val (.int .u64 (m : Int))) :: (.val (.agg (u8s BM).toArray)) :: (.any (isF (((x * y) % PR) ^ m % PR)) (isF_later (((x * y) % PR) ^ m % PR))) :: (.val (.agg (u64s lp).toArray)) :: (.val (.agg (u64s ly).toArray)) :: (.val (.int .u32 (m : Int))) :: (.val (.int .u64 (m : Int))) :: (.val (.agg (u8s BM).toArray)) :: (.any (isF (y ^ m % PR)) (isF_later (y ^ m % PR))) :: (.any (isF (((x ^ m % PR) * (y ^ m % PR)) % PR)) (isF_later (((x ^ m % PR) * (y ^ m % PR)) % PR))) :: (.val (.bool true)) :: (.val (.bool true)) :: (.val (.bool true)) :: (.val (.agg (u64s lp).toArray)) :: (.val (.int .u32 (n : Int))) :: (.val (.int .u64 (n : Int))) :: (.val (.agg (u8s BN).toArray)) :: (.any (isF ((x ^ m % PR) ^ n % PR)) (isF_later ((x ^ m % PR) ^ n % PR))) :: (.val (.agg (u64s lx).toArray)) :: (.val (.int .u32 (m : Int))) :: (.val (.int .u64 (m : Int))) :: (.val (.int .u32 (n : Int))) :: (.val (.int .u64 (n : Int))) :: (.val (.int .u64 ((m : Int) * (n : Int)))) :: (.val (.agg (u8s BP).toArray)) :: (.any (isF (x ^ (m * n) % PR)) (isF_later (x ^ (m * n) % PR))) :: (.val (.bool true)) :: (.val (.bool true)) :: []) (by kernel_rfl) (by kernel_rfl) (by repeat (first | exact trivial | (refine ⟨by first | trivial | rfl, ?_⟩))) (by kernel_rfl) ?_ ?_
          · refine Steps'.cons ?_ (Steps'.cons ?_ (Steps'.cons ?_ (Steps'.cons ?_ (Steps'.cons ?_ (Steps'.cons ?_ (Steps'.cons ?_ (Steps'.cons ?_ (Steps'.cons ?_ (Steps'.cons ?_ (Steps'.cons ?_ (Steps'.cons ?_ (Steps'.cons ?_ (Steps'.cons ?_ (Steps'.cons ?_ (Steps'.cons ?_ (Steps'.cons ?_ (Steps'.cons ?_ (Steps'.cons ?_ (Steps'.cons ?_ (Steps'.cons ?_ (Steps'.cons ?_ (Steps'.cons ?_ (Steps'.cons ?_ (Steps'.cons ?_ (Steps'.cons ?_ (Steps'.cons ?_ (Steps'.cons ?_ (Steps'.cons ?_ (Steps'.cons ?_ (Steps'.cons ?_ (Steps'.cons ?_ (Steps'.cons ?_ (Steps'.cons ?_ (Steps'.cons ?_ (Steps'.cons ?_ (Steps'.cons ?_ (Steps'.cons ?_ (Steps'.cons ?_ (Steps'.cons ?_ (Steps'.cons ?_ (Steps'.cons ?_ (Steps'.cons ?_ (Steps'.cons ?_ (Steps'.cons ?_ (Steps'.one _ _ _ _ _ _ _)))))))))))))))))))))))))))))))))))))))))))))
            · intro ax wx hb hs hd
              have h7 : ax.tmps.getD 7 undef = (.pointer (some ⟨gx, 0, none⟩)) := hs 7 (by kernel_rfl)
              exact Does.load 26 (.tmp 7) rfl gx 0 h7 (u64s lx) _ ((Blk.later V4.out.2.2.2.2.1 hb (Blk.lt V4.out.2.2.2.2.1)).whole) Try.underlying26 rfl (by rw [N_lx.out]; exact sizeElem)
            · intro ax wx hb hs hd
              have h5 : ax.tmps.getD 5 undef = (.int .u32 (m : Int)) := hs 5 (by kernel_rfl)
              refine Does.value (.int .u32 (m : Int)) ?_ rfl
              clear hs hd
              go_simp
            · intro ax wx hb hs hd
              have h62 : ax.tmps.getD 62 undef = (.int .u32 (m : Int)) := hd 1 62 rfl (by kernel_rfl) (by decide)
              refine Does.value (.int .u64 (m : Int)) ?_ rfl
              clear hs hd
              go_simp
            · intro ax wx hb hs hd
              have h6 : ax.tmps.getD 6 undef = (.int .u32 (n : Int)) := hs 6 (by kernel_rfl)
              refine Does.value (.int .u32 (n : Int)) ?_ rfl
              clear hs hd
              go_simp
            · intro ax wx hb hs hd
              have h64 : ax.tmps.getD 64 undef = (.int .u32 (n : Int)) := hd 3 64 rfl (by kernel_rfl) (by decide)
              refine Does.value (.int .u64 (n : Int)) ?_ rfl
              clear hs hd
              go_simp
            · intro ax wx hb hs hd
              have h63 : ax.tmps.getD 63 undef = (.int .u64 (m : Int)) := hd 2 63 rfl (by kernel_rfl) (by decide)
              have h65 : ax.tmps.getD 65 undef = (.int .u64 (n : Int)) := hd 4 65 rfl (by kernel_rfl) (by decide)
              refine Does.value (.int .u64 ((m : Int) + (n : Int))) ?_ rfl
              clear hs hd
              go_simp
            · intro ax wx hb hs hd
              have h66 : ax.tmps.getD 66 undef = (.int .u64 ((m : Int) + (n : Int))) := hd 5 66 rfl (by kernel_rfl) (by decide)
              refine Does.call 36 #[(.int .u64 ((m : Int) + (n : Int)))] (by clear hs hd; go_simp) ?_
              refine (HS.out.2.2.2 _).mono ?_
              rintro z w' ⟨rfl, l⟩
              exact ⟨_, rfl, rfl, l⟩
            · intro ax wx hb hs hd
              have h61 : ax.tmps.getD 61 undef = (.agg (u64s lx).toArray) := hd 0 61 rfl (by kernel_rfl) (by decide)
              have h67 : ax.tmps.getD 67 undef = (.agg (u8s BS).toArray) := hd 6 67 rfl (by kernel_rfl) (by decide)
              refine Does.call 23 #[(.agg (u64s lx).toArray), (.agg (u8s BS).toArray)] (by clear hs hd; go_simp) ?_
              refine (fpower_any _ _ _ HF.out.1 HS.out.1 HS.out.2.1 _).mono ?_
              rintro z w' ⟨r, rfl, fr, l⟩
              rw [HS.out.2.2.1] at fr
              exact ⟨_, rfl, ⟨r, rfl, fr⟩, l⟩
            · intro ax wx hb hs hd
              have h9 : ax.tmps.getD 9 undef = (.pointer (some ⟨gp, 0, none⟩)) := hs 9 (by kernel_rfl)
              exact Does.load 26 (.tmp 9) rfl gp 0 h9 (u64s lp) _ ((Blk.later V4.out.2.2.2.2.2.2.1 hb (Blk.lt V4.out.2.2.2.2.2.2.1)).whole) Try.underlying26 rfl (by rw [N_lp.out]; exact sizeElem)
            · intro ax wx hb hs hd
              have h10 : ax.tmps.getD 10 undef = (.pointer (some ⟨gq, 0, none⟩)) := hs 10 (by kernel_rfl)
              exact Does.load 26 (.tmp 10) rfl gq 0 h10 (u64s lq) _ ((Blk.later V4.out.2.2.2.2.2.2.2 hb (Blk.lt V4.out.2.2.2.2.2.2.2)).whole) Try.underlying26 rfl (by rw [N_lq.out]; exact sizeElem)
            · intro ax wx hb hs hd
              have h69 : ax.tmps.getD 69 undef = (.agg (u64s lp).toArray) := hd 8 69 rfl (by kernel_rfl) (by decide)
              have h70 : ax.tmps.getD 70 undef = (.agg (u64s lq).toArray) := hd 9 70 rfl (by kernel_rfl) (by decide)
              refine Does.call 32 #[(.agg (u64s lp).toArray), (.agg (u64s lq).toArray)] (by clear hs hd; go_simp) ?_
              refine (mul_any _ _ _ _ HG.out.1 HG.out.2 _).mono ?_
              rintro z w' ⟨r, rfl, fr, l⟩
              exact ⟨_, rfl, ⟨r, rfl, fr⟩, l⟩
            · intro ax wx hb hs hd
              obtain ⟨l68, h68, f68⟩ : isF (x ^ (m + n) % PR) (ax.tmps.getD 68 undef) wx := hd 7 68 rfl (by kernel_rfl) (by decide)
              obtain ⟨l71, h71, f71⟩ : isF (((x ^ m % PR) * (x ^ n % PR)) % PR) (ax.tmps.getD 71 undef) wx := hd 10 71 rfl (by kernel_rfl) (by decide)
              refine Does.call 28 #[(.agg (u64s l68).toArray), (.agg (u64s l71).toArray)] (by clear hs hd; go_simp) ?_
              refine (one_yes _ _ _ f68 (Fe.eq f71 (pwl4 x m n)) _).mono ?_
              rintro z w' ⟨rfl, l⟩
              exact ⟨_, rfl, rfl, l⟩
            · intro ax wx hb hs hd
              have h72 : ax.tmps.getD 72 undef = (.bool true) := hd 11 72 rfl (by kernel_rfl) (by decide)
              refine Does.value (.bool true) ?_ rfl
              clear hs hd
              go_simp
            · intro ax wx hb hs hd
              have h7 : ax.tmps.getD 7 undef = (.pointer (some ⟨gx, 0, none⟩)) := hs 7 (by kernel_rfl)
              exact Does.load 26 (.tmp 7) rfl gx 0 h7 (u64s lx) _ ((Blk.later V4.out.2.2.2.2.1 hb (Blk.lt V4.out.2.2.2.2.1)).whole) Try.underlying26 rfl (by rw [N_lx.out]; exact sizeElem)
            · intro ax wx hb hs hd
              have h8 : ax.tmps.getD 8 undef = (.pointer (some ⟨gy, 0, none⟩)) := hs 8 (by kernel_rfl)
              exact Does.load 26 (.tmp 8) rfl gy 0 h8 (u64s ly) _ ((Blk.later V4.out.2.2.2.2.2.1 hb (Blk.lt V4.out.2.2.2.2.2.1)).whole) Try.underlying26 rfl (by rw [N_ly.out]; exact sizeElem)
            · intro ax wx hb hs hd
              have h74 : ax.tmps.getD 74 undef = (.agg (u64s lx).toArray) := hd 13 74 rfl (by kernel_rfl) (by decide)
              have h75 : ax.tmps.getD 75 undef = (.agg (u64s ly).toArray) := hd 14 75 rfl (by kernel_rfl) (by decide)
              refine Does.call 32 #[(.agg (u64s lx).toArray), (.agg (u64s ly).toArray)] (by clear hs hd; go_simp) ?_
              refine (mul_any _ _ _ _ HF.out.1 HF.out.2 _).mono ?_
              rintro z w' ⟨r, rfl, fr, l⟩
              exact ⟨_, rfl, ⟨r, rfl, fr⟩, l⟩
            · intro ax wx hb hs hd
              have h5 : ax.tmps.getD 5 undef = (.int .u32 (m : Int)) := hs 5 (by kernel_rfl)
              refine Does.value (.int .u32 (m : Int)) ?_ rfl
              clear hs hd
              go_simp
            · intro ax wx hb hs hd
              have h77 : ax.tmps.getD 77 undef = (.int .u32 (m : Int)) := hd 16 77 rfl (by kernel_rfl) (by decide)
              refine Does.value (.int .u64 (m : Int)) ?_ rfl
              clear hs hd
              go_simp
            · intro ax wx hb hs hd
              have h78 : ax.tmps.getD 78 undef = (.int .u64 (m : Int)) := hd 17 78 rfl (by kernel_rfl) (by decide)
              refine Does.call 36 #[(.int .u64 (m : Int))] (by clear hs hd; go_simp) ?_
              refine (HM.out.2.2.2 _).mono ?_
              rintro z w' ⟨rfl, l⟩
              exact ⟨_, rfl, rfl, l⟩
            · intro ax wx hb hs hd
              obtain ⟨l76, h76, f76⟩ : isF ((x * y) % PR) (ax.tmps.getD 76 undef) wx := hd 15 76 rfl (by kernel_rfl) (by decide)
              have h79 : ax.tmps.getD 79 undef = (.agg (u8s BM).toArray) := hd 18 79 rfl (by kernel_rfl) (by decide)
              refine Does.call 23 #[(.agg (u64s l76).toArray), (.agg (u8s BM).toArray)] (by clear hs hd; go_simp) ?_
              refine (fpower_any _ _ _ f76 HM.out.1 HM.out.2.1 _).mono ?_
              rintro z w' ⟨r, rfl, fr, l⟩
              rw [HM.out.2.2.1] at fr
              exact ⟨_, rfl, ⟨r, rfl, fr⟩, l⟩
            · intro ax wx hb hs hd
              have h9 : ax.tmps.getD 9 undef = (.pointer (some ⟨gp, 0, none⟩)) := hs 9 (by kernel_rfl)
              exact Does.load 26 (.tmp 9) rfl gp 0 h9 (u64s lp) _ ((Blk.later V4.out.2.2.2.2.2.2.1 hb (Blk.lt V4.out.2.2.2.2.2.2.1)).whole) Try.underlying26 rfl (by rw [N_lp.out]; exact sizeElem)
            · intro ax wx hb hs hd
              have h8 : ax.tmps.getD 8 undef = (.pointer (some ⟨gy, 0, none⟩)) := hs 8 (by kernel_rfl)
              exact Does.load 26 (.tmp 8) rfl gy 0 h8 (u64s ly) _ ((Blk.later V4.out.2.2.2.2.2.1 hb (Blk.lt V4.out.2.2.2.2.2.1)).whole) Try.underlying26 rfl (by rw [N_ly.out]; exact sizeElem)
            · intro ax wx hb hs hd
              have h5 : ax.tmps.getD 5 undef = (.int .u32 (m : Int)) := hs 5 (by kernel_rfl)
              refine Does.value (.int .u32 (m : Int)) ?_ rfl
              clear hs hd
              go_simp
            · intro ax wx hb hs hd
              have h83 : ax.tmps.getD 83 undef = (.int .u32 (m : Int)) := hd 22 83 rfl (by kernel_rfl) (by decide)
              refine Does.value (.int .u64 (m : Int)) ?_ rfl
              clear hs hd
              go_simp
            · intro ax wx hb hs hd
              have h84 : ax.tmps.getD 84 undef = (.int .u64 (m : Int)) := hd 23 84 rfl (by kernel_rfl) (by decide)
              refine Does.call 36 #[(.int .u64 (m : Int))] (by clear hs hd; go_simp) ?_
              refine (HM.out.2.2.2 _).mono ?_
              rintro z w' ⟨rfl, l⟩
              exact ⟨_, rfl, rfl, l⟩
            · intro ax wx hb hs hd
              have h82 : ax.tmps.getD 82 undef = (.agg (u64s ly).toArray) := hd 21 82 rfl (by kernel_rfl) (by decide)
              have h85 : ax.tmps.getD 85 undef = (.agg (u8s BM).toArray) := hd 24 85 rfl (by kernel_rfl) (by decide)
              refine Does.call 23 #[(.agg (u64s ly).toArray), (.agg (u8s BM).toArray)] (by clear hs hd; go_simp) ?_
              refine (fpower_any _ _ _ HF.out.2 HM.out.1 HM.out.2.1 _).mono ?_
              rintro z w' ⟨r, rfl, fr, l⟩
              rw [HM.out.2.2.1] at fr
              exact ⟨_, rfl, ⟨r, rfl, fr⟩, l⟩
            · intro ax wx hb hs hd
              have h81 : ax.tmps.getD 81 undef = (.agg (u64s lp).toArray) := hd 20 81 rfl (by kernel_rfl) (by decide)
              obtain ⟨l86, h86, f86⟩ : isF (y ^ m % PR) (ax.tmps.getD 86 undef) wx := hd 25 86 rfl (by kernel_rfl) (by decide)
              refine Does.call 32 #[(.agg (u64s lp).toArray), (.agg (u64s l86).toArray)] (by clear hs hd; go_simp) ?_
              refine (mul_any _ _ _ _ HG.out.1 f86 _).mono ?_
              rintro z w' ⟨r, rfl, fr, l⟩
              exact ⟨_, rfl, ⟨r, rfl, fr⟩, l⟩
            · intro ax wx hb hs hd
              obtain ⟨l80, h80, f80⟩ : isF (((x * y) % PR) ^ m % PR) (ax.tmps.getD 80 undef) wx := hd 19 80 rfl (by kernel_rfl) (by decide)
              obtain ⟨l87, h87, f87⟩ : isF (((x ^ m % PR) * (y ^ m % PR)) % PR) (ax.tmps.getD 87 undef) wx := hd 26 87 rfl (by kernel_rfl) (by decide)
              refine Does.call 28 #[(.agg (u64s l80).toArray), (.agg (u64s l87).toArray)] (by clear hs hd; go_simp) ?_
              refine (one_yes _ _ _ f80 (Fe.eq f87 (pwl5 x y m)) _).mono ?_
              rintro z w' ⟨rfl, l⟩
              exact ⟨_, rfl, rfl, l⟩
            · intro ax wx hb hs hd
              have h73 : ax.tmps.getD 73 undef = (.bool true) := hd 12 73 rfl (by kernel_rfl) (by decide)
              have h88 : ax.tmps.getD 88 undef = (.bool true) := hd 27 88 rfl (by kernel_rfl) (by decide)
              refine Does.value (.bool true) ?_ rfl
              clear hs hd
              go_simp
            · intro ax wx hb hs hd
              have h89 : ax.tmps.getD 89 undef = (.bool true) := hd 28 89 rfl (by kernel_rfl) (by decide)
              refine Does.value (.bool true) ?_ rfl
              clear hs hd
              go_simp
            · intro ax wx hb hs hd
              have h9 : ax.tmps.getD 9 undef = (.pointer (some ⟨gp, 0, none⟩)) := hs 9 (by kernel_rfl)
              exact Does.load 26 (.tmp 9) rfl gp 0 h9 (u64s lp) _ ((Blk.later V4.out.2.2.2.2.2.2.1 hb (Blk.lt V4.out.2.2.2.2.2.2.1)).whole) Try.underlying26 rfl (by rw [N_lp.out]; exact sizeElem)
            · intro ax wx hb hs hd
              have h6 : ax.tmps.getD 6 undef = (.int .u32 (n : Int)) := hs 6 (by kernel_rfl)
              refine Does.value (.int .u32 (n : Int)) ?_ rfl
              clear hs hd
              go_simp
            · intro ax wx hb hs hd
              have h92 : ax.tmps.getD 92 undef = (.int .u32 (n : Int)) := hd 31 92 rfl (by kernel_rfl) (by decide)
              refine Does.value (.int .u64 (n : Int)) ?_ rfl
              clear hs hd
              go_simp
            · intro ax wx hb hs hd
              have h93 : ax.tmps.getD 93 undef = (.int .u64 (n : Int)) := hd 32 93 rfl (by kernel_rfl) (by decide)
              refine Does.call 36 #[(.int .u64 (n : Int))] (by clear hs hd; go_simp) ?_
              refine (HN.out.2.2.2 _).mono ?_
              rintro z w' ⟨rfl, l⟩
              exact ⟨_, rfl, rfl, l⟩
            · intro ax wx hb hs hd
              have h91 : ax.tmps.getD 91 undef = (.agg (u64s lp).toArray) := hd 30 91 rfl (by kernel_rfl) (by decide)
              have h94 : ax.tmps.getD 94 undef = (.agg (u8s BN).toArray) := hd 33 94 rfl (by kernel_rfl) (by decide)
              refine Does.call 23 #[(.agg (u64s lp).toArray), (.agg (u8s BN).toArray)] (by clear hs hd; go_simp) ?_
              refine (fpower_any _ _ _ HG.out.1 HN.out.1 HN.out.2.1 _).mono ?_
              rintro z w' ⟨r, rfl, fr, l⟩
              rw [HN.out.2.2.1] at fr
              exact ⟨_, rfl, ⟨r, rfl, fr⟩, l⟩
            · intro ax wx hb hs hd
              have h7 : ax.tmps.getD 7 undef = (.pointer (some ⟨gx, 0, none⟩)) := hs 7 (by kernel_rfl)
              exact Does.load 26 (.tmp 7) rfl gx 0 h7 (u64s lx) _ ((Blk.later V4.out.2.2.2.2.1 hb (Blk.lt V4.out.2.2.2.2.1)).whole) Try.underlying26 rfl (by rw [N_lx.out]; exact sizeElem)
            · intro ax wx hb hs hd
              have h5 : ax.tmps.getD 5 undef = (.int .u32 (m : Int)) := hs 5 (by kernel_rfl)
              refine Does.value (.int .u32 (m : Int)) ?_ rfl
              clear hs hd
              go_simp
            · intro ax wx hb hs hd
              have h97 : ax.tmps.getD 97 undef = (.int .u32 (m : Int)) := hd 36 97 rfl (by kernel_rfl) (by decide)
              refine Does.value (.int .u64 (m : Int)) ?_ rfl
              clear hs hd
              go_simp
            · intro ax wx hb hs hd
              have h6 : ax.tmps.getD 6 undef = (.int .u32 (n : Int)) := hs 6 (by kernel_rfl)
              refine Does.value (.int .u32 (n : Int)) ?_ rfl
              clear hs hd
              go_simp
            · intro ax wx hb hs hd
              have h99 : ax.tmps.getD 99 undef = (.int .u32 (n : Int)) := hd 38 99 rfl (by kernel_rfl) (by decide)
              refine Does.value (.int .u64 (n : Int)) ?_ rfl
              clear hs hd
              go_simp
            · intro ax wx hb hs hd
              have h98 : ax.tmps.getD 98 undef = (.int .u64 (m : Int)) := hd 37 98 rfl (by kernel_rfl) (by decide)
              have h100 : ax.tmps.getD 100 undef = (.int .u64 (n : Int)) := hd 39 100 rfl (by kernel_rfl) (by decide)
              refine Does.value (.int .u64 ((m : Int) * (n : Int))) ?_ rfl
              clear hs hd
              go_simp
            · intro ax wx hb hs hd
              have h101 : ax.tmps.getD 101 undef = (.int .u64 ((m : Int) * (n : Int))) := hd 40 101 rfl (by kernel_rfl) (by decide)
              refine Does.call 36 #[(.int .u64 ((m : Int) * (n : Int)))] (by clear hs hd; go_simp) ?_
              refine (HP.out.2.2.2 _).mono ?_
              rintro z w' ⟨rfl, l⟩
              exact ⟨_, rfl, rfl, l⟩
            · intro ax wx hb hs hd
              have h96 : ax.tmps.getD 96 undef = (.agg (u64s lx).toArray) := hd 35 96 rfl (by kernel_rfl) (by decide)
              have h102 : ax.tmps.getD 102 undef = (.agg (u8s BP).toArray) := hd 41 102 rfl (by kernel_rfl) (by decide)
              refine Does.call 23 #[(.agg (u64s lx).toArray), (.agg (u8s BP).toArray)] (by clear hs hd; go_simp) ?_
              refine (fpower_any _ _ _ HF.out.1 HP.out.1 HP.out.2.1 _).mono ?_
              rintro z w' ⟨r, rfl, fr, l⟩
              rw [HP.out.2.2.1] at fr
              exact ⟨_, rfl, ⟨r, rfl, fr⟩, l⟩
            · intro ax wx hb hs hd
              obtain ⟨l95, h95, f95⟩ : isF ((x ^ m % PR) ^ n % PR) (ax.tmps.getD 95 undef) wx := hd 34 95 rfl (by kernel_rfl) (by decide)
              obtain ⟨l103, h103, f103⟩ : isF (x ^ (m * n) % PR) (ax.tmps.getD 103 undef) wx := hd 42 103 rfl (by kernel_rfl) (by decide)
              refine Does.call 28 #[(.agg (u64s l95).toArray), (.agg (u64s l103).toArray)] (by clear hs hd; go_simp) ?_
              refine (one_yes _ _ _ f95 (Fe.eq f103 (pwl6 x m n)) _).mono ?_
              rintro z w' ⟨rfl, l⟩
              exact ⟨_, rfl, rfl, l⟩
            · intro ax wx hb hs hd
              have h90 : ax.tmps.getD 90 undef = (.bool true) := hd 29 90 rfl (by kernel_rfl) (by decide)
              have h104 : ax.tmps.getD 104 undef = (.bool true) := hd 43 104 rfl (by kernel_rfl) (by decide)
              refine Does.value (.bool true) ?_ rfl
              clear hs hd
              go_simp
          · intro wx hb
            refine @Ends.val _ _ _ _ _ _ _ _ _ (.agg (u64s lx).toArray) rfl ?_
            refine @Ends.val _ _ _ _ _ _ _ _ _ (.int .u32 (m : Int)) rfl ?_
            refine @Ends.val _ _ _ _ _ _ _ _ _ (.int .u64 (m : Int)) rfl ?_
            refine @Ends.val _ _ _ _ _ _ _ _ _ (.int .u32 (n : Int)) rfl ?_
            refine @Ends.val _ _ _ _ _ _ _ _ _ (.int .u64 (n : Int)) rfl ?_
            refine @Ends.val _ _ _ _ _ _ _ _ _ (.int .u64 ((m : Int) + (n : Int))) rfl ?_
            refine @Ends.val _ _ _ _ _ _ _ _ _ (.agg (u8s BS).toArray) rfl ?_
            refine @Ends.any _ _ _ _ _ _ _ _ _ (isF (x ^ (m + n) % PR)) (isF_later (x ^ (m + n) % PR)) rfl ?_
            intro v7 p7
            refine @Ends.val _ _ _ _ _ _ _ _ _ (.agg (u64s lp).toArray) rfl ?_
            refine @Ends.val _ _ _ _ _ _ _ _ _ (.agg (u64s lq).toArray) rfl ?_
            refine @Ends.any _ _ _ _ _ _ _ _ _ (isF (((x ^ m % PR) * (x ^ n % PR)) % PR)) (isF_later (((x ^ m % PR) * (x ^ n % PR)) % PR)) rfl ?_
            intro v10 p10
            refine @Ends.val _ _ _ _ _ _ _ _ _ (.bool true) rfl ?_
            refine @Ends.val _ _ _ _ _ _ _ _ _ (.bool true) rfl ?_
            refine @Ends.val _ _ _ _ _ _ _ _ _ (.agg (u64s lx).toArray) rfl ?_
            refine @Ends.val _ _ _ _ _ _ _ _ _ (.agg (u64s ly).toArray) rfl ?_
            refine @Ends.any _ _ _ _ _ _ _ _ _ (isF ((x * y) % PR)) (isF_later ((x * y) % PR)) rfl ?_
            intro v15 p15
            refine @Ends.val _ _ _ _ _ _ _ _ _ (.int .u32 (m : Int)) rfl ?_
            refine @Ends.val _ _ _ _ _ _ _ _ _ (.int .u64 (m : Int)) rfl ?_
            refine @Ends.val _ _ _ _ _ _ _ _ _ (.agg (u8s BM).toArray) rfl ?_
            refine @Ends.any _ _ _ _ _ _ _ _ _ (isF (((x * y) % PR) ^ m % PR)) (isF_later (((x * y) % PR) ^ m % PR)) rfl ?_
            intro v19 p19
            refine @Ends.val _ _ _ _ _ _ _ _ _ (.agg (u64s lp).toArray) rfl ?_
            refine @Ends.val _ _ _ _ _ _ _ _ _ (.agg (u64s ly).toArray) rfl ?_
            refine @Ends.val _ _ _ _ _ _ _ _ _ (.int .u32 (m : Int)) rfl ?_
            refine @Ends.val _ _ _ _ _ _ _ _ _ (.int .u64 (m : Int)) rfl ?_
            refine @Ends.val _ _ _ _ _ _ _ _ _ (.agg (u8s BM).toArray) rfl ?_
            refine @Ends.any _ _ _ _ _ _ _ _ _ (isF (y ^ m % PR)) (isF_later (y ^ m % PR)) rfl ?_
            intro v25 p25
            refine @Ends.any _ _ _ _ _ _ _ _ _ (isF (((x ^ m % PR) * (y ^ m % PR)) % PR)) (isF_later (((x ^ m % PR) * (y ^ m % PR)) % PR)) rfl ?_
            intro v26 p26
            refine @Ends.val _ _ _ _ _ _ _ _ _ (.bool true) rfl ?_
            refine @Ends.val _ _ _ _ _ _ _ _ _ (.bool true) rfl ?_
            refine @Ends.val _ _ _ _ _ _ _ _ _ (.bool true) rfl ?_
            refine @Ends.val _ _ _ _ _ _ _ _ _ (.agg (u64s lp).toArray) rfl ?_
            refine @Ends.val _ _ _ _ _ _ _ _ _ (.int .u32 (n : Int)) rfl ?_
            refine @Ends.val _ _ _ _ _ _ _ _ _ (.int .u64 (n : Int)) rfl ?_
            refine @Ends.val _ _ _ _ _ _ _ _ _ (.agg (u8s BN).toArray) rfl ?_
            refine @Ends.any _ _ _ _ _ _ _ _ _ (isF ((x ^ m % PR) ^ n % PR)) (isF_later ((x ^ m % PR) ^ n % PR)) rfl ?_
            intro v34 p34
            refine @Ends.val _ _ _ _ _ _ _ _ _ (.agg (u64s lx).toArray) rfl ?_
            refine @Ends.val _ _ _ _ _ _ _ _ _ (.int .u32 (m : Int)) rfl ?_
            refine @Ends.val _ _ _ _ _ _ _ _ _ (.int .u64 (m : Int)) rfl ?_
            refine @Ends.val _ _ _ _ _ _ _ _ _ (.int .u32 (n : Int)) rfl ?_
            refine @Ends.val _ _ _ _ _ _ _ _ _ (.int .u64 (n : Int)) rfl ?_
            refine @Ends.val _ _ _ _ _ _ _ _ _ (.int .u64 ((m : Int) * (n : Int))) rfl ?_
            refine @Ends.val _ _ _ _ _ _ _ _ _ (.agg (u8s BP).toArray) rfl ?_
            refine @Ends.any _ _ _ _ _ _ _ _ _ (isF (x ^ (m * n) % PR)) (isF_later (x ^ (m * n) % PR)) rfl ?_
            intro v42 p42
            refine @Ends.val _ _ _ _ _ _ _ _ _ (.bool true) rfl ?_
            refine @Ends.val _ _ _ _ _ _ _ _ _ (.bool true) rfl ?_
            refine @Ends.one _ _ _ _ _ _ _ ?_
            simp only [Act.put, List.setIfInBounds_toArray, List.set_cons_zero, List.set_cons_succ]
            refine last_assign (.tmp 105) rfl (some 2) rfl (.bool true) rfl ?_
            have V5 : Hid (Below w.heap.size w wx ∧ Blk wx w.heap.size 58 (pwCells aa bb m n) ∧ Blk wx ga 22 (u8s aa) ∧ Blk wx gb 22 (u8s bb) ∧ Blk wx gx 26 (u64s lx) ∧ Blk wx gy 26 (u64s ly) ∧ Blk wx gp 26 (u64s lp) ∧ Blk wx gq 26 (u64s lq)) := ⟨below_chain V4.out.1 hb V4.out.1.size, (V4.out.2.1.later hb V4.out.2.1.lt), (V4.out.2.2.1.later hb V4.out.2.2.1.lt), (V4.out.2.2.2.1.later hb V4.out.2.2.2.1.lt), (V4.out.2.2.2.2.1.later hb V4.out.2.2.2.2.1.lt), (V4.out.2.2.2.2.2.1.later hb V4.out.2.2.2.2.2.1.lt), (V4.out.2.2.2.2.2.2.1.later hb V4.out.2.2.2.2.2.2.1.lt), (V4.out.2.2.2.2.2.2.2.later hb V4.out.2.2.2.2.2.2.2.lt)⟩
            obtain ⟨yV5, rfl⟩ : ∃ q, q = wx := ⟨_, rfl⟩
            clear V4 hb p7 p10 p15 p19 p25 p26 p34 p42
            simp only [Act.put, List.setIfInBounds_toArray, List.set_cons_zero, List.set_cons_succ]
            go_wp2_with fail
            go_ret
            exact ⟨rfl, V5.out.1⟩
end Go.Proofs.Ytfeeikkfjbdkiaa
