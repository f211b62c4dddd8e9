/- The document's numbers of ladder: carry. -/
import Derived.Test.YtnifolefhelmcaaRFMath
namespace Go.Proofs.Ytnifolefhelmcaa
open Go.RowKit
set_option linter.unusedVariables false
set_option linter.unusedSimpArgs false

theorem zeroNm : (Try.prog.info? 140).map (fun i => (i.zero, i.size)) = some (some (.agg (i64s (List.replicate 16 0)).toArray), 16) := by kernel_rfl
theorem sizeNm : (Try.prog.info? 140).map (·.size) = some 16 := by kernel_rfl
theorem chC_bd2 : ∀ (l : List Int) (c B : Int), (∀ z ∈ l, -B ≤ z ∧ z ≤ B) → -B ≤ c ∧ c ≤ B → 2 ≤ B → -B ≤ chC l c ∧ chC l c ≤ B
  | [], c, B, _, hc, _ => hc
  | z :: l, c, B, h, hc, hB => by
    rw [chC]
    have := h z (by simp)
    exact chC_bd2 l _ B (fun y hy => h y (by simp [hy])) ⟨by omega, by omega⟩ hB
/-- The digits behind k steps of carry. -/
def csK (l : List Int) (k : Nat) : List Int := (caK l k).set k (l.getD k 0 + chC (l.take k) 0)
/-- What carry makes of a number. -/
def carL (V : Int) : List Int := (ldD 16 V).set 0 (V % 65536 + 38 * (V / 115792089237316195423570985008687907853269984665640564039457584007913129639936))
theorem csK_zero (l : List Int) (hl : l.length = 16) : csK l 0 = l := by
  match l, hl with
  | z :: l, _ => simp [csK, caK, chC, chD]
theorem csK_at (l : List Int) (k : Nat) (hk : k < l.length) : (csK l k).getD k 0 = l.getD k 0 + chC (l.take k) 0 := by
  unfold csK
  rw [List.getD_eq_getElem?_getD, List.getElem?_set_self (by rw [caK_length l k (by omega)]; exact hk)]; rfl
theorem csK_low (l : List Int) (k : Nat) (hk : k < l.length) : (csK l k).set k ((l.getD k 0 + chC (l.take k) 0) % 65536) = caK l (k + 1) := by
  unfold csK
  rw [List.set_set, caK_set l k hk]
theorem csK_next (l : List Int) (k : Nat) (hk : k + 1 < l.length) : (caK l (k + 1)).set (k + 1) (l.getD (k + 1) 0 + (l.getD k 0 + chC (l.take k) 0) / 65536) = csK l (k + 1) := by
  unfold csK
  rw [caC_succ l k (by omega)]
theorem car_last (l : List Int) (hl : l.length = 16) : (caK l 16).set 0 ((caK l 16).getD 0 0 + 38 * ((l.getD 15 0 + chC (l.take 15) 0) / 65536)) = carL (vd l) := by
  have h1 := caK_all l
  have h2 := caC_all l
  rw [hl] at h1 h2
  rw [show (65536 : Int) ^ 16 = 115792089237316195423570985008687907853269984665640564039457584007913129639936 by decide] at h2
  rw [caC_succ l 15 (by omega)] at h2
  rw [h1, h2]
  rfl
theorem car_zero (V : Int) : (ldD 16 V).getD 0 0 = V % 65536 := rfl
theorem carL_length (V : Int) : (carL V).length = 16 := by simp [carL, ldD_length]
set_option maxRecDepth 20000 in
set_option maxHeartbeats 1000000 in
theorem qcarry_any (l : List Int) (hl : l.length = 16) (hz : ∀ z ∈ l, -1152921504606846976 ≤ z ∧ z ≤ 1152921504606846976) (w : World) :
    Calls Try.prog 126 #[.agg (i64s l).toArray] w fun e w' => e = .returned (.agg (i64s (carL (vd l))).toArray) ∧ Below w.heap.size w w' := by
  have HL : Hid (l.length = 16 ∧ (∀ z ∈ l, -1152921504606846976 ≤ z ∧ z ≤ 1152921504606846976)) := ⟨hl, hz⟩
  clear hl hz
  go_enter Try.func126, Try.ntmps126
  go_wp2_with (first | (refine wpList_box_new rfl 140 (.tmp 0) rfl (i64s l) rfl ?_; intro x1 z1 s1 l1) | (refine wpList_alloc_new rfl 140 rfl 16 _ zeroNm ?_; intro x2 z2 s2 l2; rw [s1] at z2))
  have WW : Hid (Below w.heap.size w x2 ∧ Blk x2 w.heap.size 140 (i64s l) ∧ Blk x2 (w.heap.size + 1) 140 (i64s (List.replicate 16 0))) := ⟨below_chain l1 l2 (by omega), z1.later l2 (by omega), z2⟩
  clear z1 s1 l1 z2 s2 l2
  go_loopw [3] (fun i wr => ∃ (k : Nat) (L : List Int), k ≤ 16 ∧ i = .int .i64 k ∧ (k < 16 → L = csK l k) ∧ (k = 16 → L = carL (vd l)) ∧ L.length = 16 ∧ Blk wr w.heap.size 140 (i64s L) ∧ Kept (fun x => x = w.heap.size) x2 wr) (fun i _ => 16 - (intOf i).toNat)
  case atStart => exact ⟨0, l, by omega, rfl, fun _ => (csK_zero l HL.out.1).symm, by omega, HL.out.1, WW.out.2.1, Kept.refl _ _⟩
  case round =>
    obtain ⟨k, L, hk, rfl, hL, hL2, hLl, hblk, hkp⟩ := hrel
    by_cases hlt : k < 16
    · have hk2 : k < l.length := by rw [HL.out.1]; exact hlt
      have i1 : (k : Int) < 16 := by omega
      have i3 : (0 : Int) ≤ (k : Int) := by omega
      have hc := chC_bd2 (l.take k) 0 1152921504606846976 (fun z hz => HL.out.2 z (List.mem_of_mem_take hz)) ⟨by decide, by decide⟩ (by decide)
      have hX := HL.out.2 (l.getD k 0) (by simp [List.getD, hk2])
      have hLe := hL hlt
      have ck := i64s_cell hblk k (by rw [hLl]; exact hlt)
      rw [hLe, csK_at l k hk2] at ck
      have fg := hblk.frozen k
      have lo := csK_low l k hk2
      rw [← hLe] at lo
      have nx := csK_next l k
      have la := car_last l HL.out.1
      obtain ⟨X, hXX⟩ : ∃ z, l.getD k 0 + chC (l.take k) 0 = z := ⟨_, rfl⟩
      have hXb : -2305843009213693952 ≤ X ∧ X ≤ 2305843009213693952 := by omega
      rw [hXX] at ck lo nx
      have HQ : Hid (Blk wr w.heap.size 140 (i64s L) ∧ Kept (fun x => x = w.heap.size) x2 wr ∧ L.set k (X % 65536) = caK l (k + 1)) := ⟨hblk, hkp, lo⟩
      have m1 : X - X / 65536 * 65536 = X % 65536 := by omega
      by_cases h15 : k < 15
      · have hn := nx (by rw [HL.out.1]; omega)
        have hY := HL.out.2 (l.getD (k + 1) 0) (by simp [List.getD, show k + 1 < l.length by rw [HL.out.1]; omega])
        have ck1 := i64s_cell hblk (k + 1) (by rw [hLl]; omega)
        have e1 : L.getD (k + 1) 0 = l.getD (k + 1) 0 := by
          have h1 := caK_at l (k + 1) (by rw [HL.out.1]; omega)
          rw [← lo] at h1
          rw [← h1]
          simp only [List.getD]
          rw [List.getElem?_set_ne (by omega)]
        rw [e1] at ck1
        have fg1 := hblk.frozen (k + 1)
        obtain ⟨Y, hYY⟩ : ∃ z, l.getD (k + 1) 0 = z := ⟨_, rfl⟩
        rw [hYY] at ck1 hY hn
        have i5 : (k : Int) < 15 := by omega
        have HN : Hid ((caK l (k + 1)).set (k + 1) (Y + X / 65536) = csK l (k + 1) ∧ L.length = 16) := ⟨hn, hLl⟩
        clear hblk hkp hL hL2 hLe lo nx la hXX hYY e1 hn hc hX hLl
        go_wp2_with fail
        go_roundw
        case rel =>
          have R := (HQ.out.1.set k (.int .i64 (X % 65536))).set (k + 1) (.int .i64 (Y + X / 65536))
          rw [i64s_set, HQ.out.2.2, i64s_set, HN.out.1] at R
          exact ⟨k + 1, csK l (k + 1), by omega, by go_num, fun _ => rfl, by omega, by unfold csK; rw [List.length_set, caK_length l (k + 1) (by rw [HL.out.1]; omega)]; exact HL.out.1, R, (HQ.out.2.1.setCell (p := ⟨w.heap.size, k, none⟩) rfl _).setCell (p := ⟨w.heap.size, k + 1, none⟩) rfl _⟩
        case measure => simp [intOf]; omega
      · obtain rfl : k = 15 := by omega
        rw [hXX] at la
        have ck0 := i64s_cell hblk 0 (by rw [hLl]; decide)
        have e0 : L.getD 0 0 = (caK l 16).getD 0 0 := by
          rw [← lo]
          simp only [List.getD]
          rw [List.getElem?_set_ne (by omega)]
        have eb : 0 ≤ (caK l 16).getD 0 0 ∧ (caK l 16).getD 0 0 < 65536 := by
          have h1 := caK_all l
          rw [HL.out.1] at h1
          rw [h1, car_zero]; omega
        rw [e0] at ck0
        have fg0 := hblk.frozen 0
        obtain ⟨Z, hZZ⟩ : ∃ z, (caK l 16).getD 0 0 = z := ⟨_, rfl⟩
        rw [hZZ] at ck0 eb la
        have i5 : ¬ (((15 : Nat) : Int) < 15) := by omega
        have HN : Hid ((caK l 16).set 0 (Z + 38 * (X / 65536)) = carL (vd l)) := la
        clear hblk hkp hL hL2 hLe lo nx la hXX hZZ e0 hc hX hLl
        go_wp2_with fail
        go_roundw
        case rel =>
          have R := (HQ.out.1.set 15 (.int .i64 (X % 65536))).set 0 (.int .i64 (Z + 38 * (X / 65536)))
          rw [i64s_set, HQ.out.2.2, i64s_set, HN.out] at R
          exact ⟨16, carL (vd l), by omega, by go_num, by omega, fun _ => rfl, carL_length _, R, (HQ.out.2.1.setCell (p := ⟨w.heap.size, 15, none⟩) rfl _).setCell (p := ⟨w.heap.size, 0, none⟩) rfl _⟩
        case measure => simp [intOf]
    · have hk5 : k = 16 := by omega
      have i1 : ¬ ((k : Int) < 16) := by omega
      obtain ⟨D, hD⟩ : ∃ z, carL (vd l) = z := ⟨_, rfl⟩
      have X1 : Hid (Blk wr w.heap.size 140 (i64s D) ∧ Blk wr (w.heap.size + 1) 140 (i64s (List.replicate 16 0)) ∧ Below w.heap.size w wr ∧ (i64s D).length = 16 ∧ carL (vd l) = D) := ⟨by rw [← hD, ← hL2 hk5]; exact hblk, WW.out.2.2.kept hkp (by omega), below_kept WW.out.1 hkp WW.out.1.size (fun j hj => by omega), by rw [i64s_length, ← hD, carL_length], hD⟩
      clear hblk hkp hk5 hlt hk hD hL hL2 hLl
      go_wp2_with (first | (refine wpList_load_blk rfl 140 _ rfl w.heap.size rfl (i64s D) _ X1.out.1 Try.underlying140 rfl (by rw [X1.out.2.2.2.1]; exact sizeNm) ?_) | (refine wpList_store_blk rfl 140 140 _ _ rfl _ rfl _ (i64s D) rfl X1.out.2.1 (by rw [X1.out.2.2.2.1]; rfl) (by rw [X1.out.2.2.2.1]; exact sizeNm) (i64s_one _) ?_; intro y6 b6 s6 k6))
      exact ret_blk rfl (w.heap.size + 1) (i64s D) _ rfl b6 Try.underlying140 rfl (by rw [X1.out.2.2.2.1]; exact sizeNm) rfl ⟨by rw [X1.out.2.2.2.2], below_kept X1.out.2.2.1 k6 X1.out.2.2.1.size (fun j hj => by omega)⟩
end Go.Proofs.Ytnifolefhelmcaa
