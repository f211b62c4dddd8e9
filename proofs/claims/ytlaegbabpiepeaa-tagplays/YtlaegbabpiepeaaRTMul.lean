/- The document's mul, by value. -/
import Derived.Test.YtlaegbabpiepeaaRTAdd
namespace Go.Proofs.Ytlaegbabpiepeaa
open Go.RowKit
set_option linter.unusedVariables false
set_option linter.unusedSimpArgs false

theorem mul_val (V : Int) (X y L : Int) (i k : Nat) : V + 256 ^ i * (X * L) + 256 ^ (i + k) * (X * y) = V + 256 ^ i * (X * (L + 256 ^ k * y)) := by
  rw [Int.pow_add, Int.add_assoc, Int.mul_assoc, ← Int.mul_add, Int.mul_add X, Int.mul_left_comm (256 ^ k) X y]
theorem mul_row (A X L : Int) (i : Nat) : A * L + 256 ^ i * (X * L) = (A + 256 ^ i * X) * L := by
  rw [Int.add_mul, Int.mul_assoc]
theorem prod255 (x y : Int) (hx : 0 ≤ x ∧ x ≤ 255) (hy : 0 ≤ y ∧ y ≤ 255) : 0 ≤ x * y ∧ x * y ≤ 65025 := by
  refine ⟨Int.mul_nonneg hx.1 hy.1, ?_⟩
  have := Int.mul_le_mul hx.2 hy.2 hy.1 (by decide)
  simpa using this
set_option maxHeartbeats 4000000 in
set_option maxRecDepth 20000 in
theorem mul_any (ao bo : Option Addr) (n m c d : Nat) (xs ys : List Int) (w : World) (hx : SeenN w ao n xs) (hy : SeenN w bo m ys) (ha : Bytes xs) (hb : Bytes ys) (hn : n ≤ 100) (hm : m ≤ 20) :
    Calls Try.prog 25 #[.slice ao n c, .slice bo m d] w fun e w' => ∃ v, e = .returned v ∧ ∃ es, isN es v w' ∧ Bytes es ∧ le es = le xs * le ys ∧ n + m ≤ es.length ∧ es.length ≤ n + m + 6 ∧ Below w.heap.size w w' := by
  have HX : Hid (SeenN w ao n xs ∧ SeenN w bo m ys ∧ Bytes xs ∧ Bytes ys ∧ xs.length = n ∧ ys.length = m) := ⟨hx, hy, ha, hb, hx.len, hy.len⟩
  clear hx hy ha hb
  have hmk := run_makeN w (n + m) (by omega)
  have ec : ((n + m : Nat) : Int) = (n : Int) + (m : Int) := by omega
  rw [ec] at hmk
  obtain ⟨w1, hw1, HB⟩ : ∃ w1, w.alloc (.cells (i64s (List.replicate (n + m) 0)).toArray 3) = w1 ∧ Hid (RowN w1 w.heap.size (n + m) (List.replicate (n + m) 0) ∧ Below w.heap.size w w1 ∧ w1.heap.size = w.heap.size + 1) := ⟨_, rfl, ⟨by have := rowN_new w (List.replicate (n + m) 0); simpa using this, (Below.refl _ _).alloc (Nat.le_refl _) _, by simp⟩⟩
  rw [hw1] at hmk
  clear hw1 ec
  go_enter Try.func25, Try.ntmps25
  go_wp2_with fail
  go_loopw [6] (fun i wr => ∃ j : Nat, j ≤ n ∧ i = .int .i64 j ∧ ∃ L, SumAt w1 w.heap.size (n + m) wr L (65025 * ((j * 20 : Nat) : Int)) (le (xs.take j) * le ys)) (fun i _ => n - (intOf i).toNat)
  case atStart => exact ⟨0, Nat.zero_le _, rfl, _, HB.out.1, by simp, (fun y hy => by have := rep0_small _ y hy; omega), by rw [le_rep0]; simp [le], Kept.refl _ _⟩
  case round =>
    obtain ⟨j, hj, rfl, L, hL⟩ := hrel
    by_cases hlt : j < n
    · obtain ⟨b, o, rfl, hb, hc⟩ := HX.out.1.cells (by omega)
      obtain ⟨L0, HL0⟩ : ∃ L0, Hid (SumAt w1 w.heap.size (n + m) wr L0 (65025 * ((j * 20 : Nat) : Int)) (le (xs.take j) * le ys)) := ⟨L, hL⟩
      have HC : Hid ((∀ W, Kept (fun k => k = w.heap.size) w1 W → W.cell? ⟨b, o + j, none⟩ = some (.int .i64 (xs.getD j 0))) ∧ (0 ≤ xs.getD j 0 ∧ xs.getD j 0 ≤ 255) ∧ le (xs.take (j + 1)) = le (xs.take j) + 256 ^ j * xs.getD j 0) := ⟨fun W hW => (hW.cell (p := ⟨b, o + j, none⟩) (by show b < _; have := HB.out.2.2; omega) (by show ¬ b = _; omega)).trans ((HB.out.2.1.cell (p := ⟨b, o + j, none⟩) hb).trans (hc j hlt)), bytes_le HX.out.2.2.1 j (by rw [HX.out.2.2.2.2.1]; exact hlt), le_take_succ _ _ (by rw [HX.out.2.2.2.2.1]; exact hlt)⟩
      obtain ⟨X, hX⟩ : ∃ X, xs.getD j 0 = X := ⟨_, rfl⟩
      rw [hX] at HC
      have i1 : (0 : Int) ≤ (j : Int) := by omega
      have i2 : (j : Int) < (n : Int) := by omega
      clear hc hX hL
      obtain ⟨w3, hw3⟩ : ∃ W, W = wr := ⟨_, rfl⟩
      subst hw3
      go_wp2_with fail
      go_loopw [7] (fun i wr => ∃ k : Nat, k ≤ m ∧ i = .int .i64 k ∧ ∃ L, SumAt w1 w.heap.size (n + m) wr L (65025 * ((j * 20 + k : Nat) : Int)) (le (xs.take j) * le ys + 256 ^ j * (X * le (ys.take k)))) (fun i _ => m - (intOf i).toNat)
      case atStart => exact ⟨0, Nat.zero_le _, rfl, L0, HL0.out.row, HL0.out.len, HL0.out.bd, by rw [HL0.out.val]; simp [le], HL0.out.kept⟩
      case round =>
        obtain ⟨k, hk, rfl, L, hL⟩ := hrel
        by_cases hlm : k < m
        · obtain ⟨b2, o2, rfl, hb2, hc2⟩ := HX.out.2.1.cells (by omega)
          have hkL : j + k < L.length := by rw [hL.len]; omega
          have c0 := HC.out.1 wr hL.kept
          have c1 : wr.cell? ⟨b2, o2 + k, none⟩ = some (.int .i64 (ys.getD k 0)) := (hL.kept.cell (p := ⟨b2, o2 + k, none⟩) (by show b2 < _; have := HB.out.2.2; omega) (by show ¬ b2 = _; omega)).trans ((HB.out.2.1.cell (p := ⟨b2, o2 + k, none⟩) hb2).trans (hc2 k hlm))
          have c2 := hL.row.cell (j + k) hkL
          have f2 := hL.row.frozen (j + k)
          have bdX := HC.out.2.1
          have bdY := bytes_le HX.out.2.2.2.1 k (by rw [HX.out.2.2.2.2.2]; exact hlm)
          have bd1 := prod255 X (ys.getD k 0) bdX bdY
          have bd2 := hL.bd _ (List.getElem_mem hkL)
          have e2 : L[j + k] = L.getD (j + k) 0 := by simp [List.getD, hkL]
          rw [e2] at bd2
          have hpl := add_place hkL hL.bd bd1 (by omega)
          have HS : Hid (SumAt w1 w.heap.size (n + m) (wr.setCell ⟨w.heap.size, j + k, none⟩ (.int .i64 (L.getD (j + k) 0 + X * ys.getD k 0))).drew (L.set (j + k) (L.getD (j + k) 0 + X * ys.getD k 0)) (65025 * ((j * 20 + (k + 1) : Nat) : Int)) (le (xs.take j) * le ys + 256 ^ j * (X * le (ys.take (k + 1))))) :=
            ⟨(hL.row.set (j + k) hkL _).drew, by rw [hpl.1, hL.len], (fun y hy => by have := hpl.2.1 y hy; omega), by rw [hpl.2.2, hL.val, le_take_succ _ _ (by rw [HX.out.2.2.2.2.2]; exact hlm), mul_val], (hL.kept.setCell (S := fun k => k = w.heap.size) rfl _).drew⟩
          obtain ⟨Y, hY⟩ : ∃ Y, ys.getD k 0 = Y := ⟨_, rfl⟩
          obtain ⟨B, hB⟩ : ∃ B, L.getD (j + k) 0 = B := ⟨_, rfl⟩
          rw [hY] at c1 bd1 HS bdY
          rw [hB] at c2 bd2 HS
          have i3 : (0 : Int) ≤ (k : Int) := by omega
          have i4 : (k : Int) < (m : Int) := by omega
          have i5 : (j : Int) + (k : Int) < (n : Int) + (m : Int) := by omega
          have i6 : (0 : Int) ≤ (j : Int) + (k : Int) := by omega
          have w1' : IntKind.i64.wrap (X * Y) = X * Y := by rw [IntKind.wrap_i64]; omega
          have w2' : IntKind.i64.wrap (B + X * Y) = B + X * Y := by rw [IntKind.wrap_i64]; omega
          clear hc2 hY hB hL hpl e2 hkL
          go_wp2_with fail
          go_region
          all_goals
            go_wp2_with fail
            exact ⟨⟨k + 1, by omega, by go_num, _, HS.out⟩, by simp [intOf]; omega⟩
        · obtain rfl : m = k := by omega
          have HS : Hid (SumAt w1 w.heap.size (n + m) wr L (65025 * (((j + 1) * 20 : Nat) : Int)) (le (xs.take (j + 1)) * le ys)) :=
            ⟨hL.row, hL.len, (fun y hy => by have := hL.bd y hy; omega), by rw [hL.val, show ys.take m = ys from List.take_of_length_le (by rw [HX.out.2.2.2.2.2]; omega), mul_row, HC.out.2.2], hL.kept⟩
          clear hL
          go_wp2_with fail
          exact ⟨⟨j + 1, by omega, by go_num, _, HS.out⟩, by simp [intOf]; omega⟩
    · obtain rfl : n = j := by omega
      obtain ⟨L2, HL2⟩ : ∃ L2, Hid (SumAt w1 w.heap.size (n + m) wr L2 (65025 * ((n * 20 : Nat) : Int)) (le (xs.take n) * le ys)) := ⟨L, hL⟩
      have hsn : SeenN wr (some ⟨w.heap.size, 0, none⟩) (n + m) L2 := by
        have := HL2.out.row.seen (by rw [HL2.out.len]; omega) (fun d hd => by have := HL2.out.bd d hd; omega)
        rwa [HL2.out.len] at this
      have hcl := clean_any (some ⟨w.heap.size, 0, none⟩) (n + m) (n + m) L2 wr hsn (by omega)
      have HW : Hid (Below w.heap.size w wr ∧ le L2 = le xs * le ys) := ⟨below_kept HB.out.2.1 HL2.out.kept HB.out.2.1.size (fun j hj => by omega), by rw [HL2.out.val, List.take_of_length_le (by rw [HX.out.2.2.2.2.1]; omega)]⟩
      clear hsn hL
      go_wp2_with fail
      refine hcl.mono ?_
      rintro e w2 ⟨v, rfl, es, hes⟩
      have HE : Hid (isN es v w2 ∧ Bytes es ∧ le es = le L2 ∧ n + m ≤ es.length ∧ es.length ≤ n + m + 6 ∧ Below wr.heap.size wr w2) := hes
      clear hes hcl
      go_wp2_with fail
      go_ret
      obtain ⟨h1, h2, h3, h4, h5, h6⟩ := HE.out
      exact ⟨_, rfl, es, h1, h2, by rw [h3, HW.out.2], h4, h5, below_chain HW.out.1 h6 HW.out.1.size⟩
end Go.Proofs.Ytlaegbabpiepeaa
