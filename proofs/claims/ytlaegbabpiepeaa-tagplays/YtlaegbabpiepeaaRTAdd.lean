/- The document's add and mul, by value. -/
import Derived.Test.YtlaegbabpiepeaaRTNum
namespace Go.Proofs.Ytlaegbabpiepeaa
open Go.RowKit
set_option linter.unusedVariables false
set_option linter.unusedSimpArgs false

/-- Something is added at a place. -/
theorem add_place {L : List Int} {i : Nat} {x b c : Int} (hi : i < L.length) (h : ∀ y ∈ L, 0 ≤ y ∧ y ≤ b) (hx : 0 ≤ x ∧ x ≤ c) (hb : 0 ≤ b) :
    (L.set i (L.getD i 0 + x)).length = L.length ∧ (∀ y ∈ L.set i (L.getD i 0 + x), 0 ≤ y ∧ y ≤ b + c) ∧ le (L.set i (L.getD i 0 + x)) = le L + 256 ^ i * x := by
  refine ⟨by simp, fun y hy => ?_, le_set L i x hi⟩
  have e : L.getD i 0 = L[i] := by simp [List.getD, hi]
  have h1 := h L[i] (List.getElem_mem hi)
  rcases List.mem_or_eq_of_mem_set hy with hm | rfl
  · have := h y hm; omega
  · rw [e]; omega
theorem rep0_small (N : Nat) : ∀ y ∈ List.replicate N (0 : Int), 0 ≤ y ∧ y ≤ 0 := fun y hy => by rw [List.eq_of_mem_replicate hy]; decide
theorem run_makeN (w : World) (n : Nat) (hn : n ≤ 2000) : (Instr.makeSlice 66 (.int .i64 (n : Int)) (.int .i64 (n : Int))).run Try.prog w = .ok (.slice (some ⟨w.heap.size, 0, none⟩) n n) (w.alloc (.cells (i64s (List.replicate n 0)).toArray 3)) := by
  obtain ⟨i0, hi, hz0, hz1, hz2⟩ := info_parts info_int
  have hmk := run_make (P := Try.prog) w 66 3 i0 (.int .i64 0) Try.underlying66 hi hz0 .i64 .i64 (n : Int) (n : Int) (by omega) (Int.le_refl _) (by rw [hz2]; omega) (by omega)
  rw [hz1, show ((n : Int).toNat) = n by omega, Nat.mul_one, show (Value.int .i64 0).cells = #[.int .i64 0] from rfl, madeN] at hmk
  exact hmk
theorem rowN_new (w : World) (zs : List Int) : RowN (w.alloc (.cells (i64s zs).toArray 3)) w.heap.size zs.length zs := ⟨[], by rw [List.append_nil]; exact heap_alloc_new w _, by simp⟩
theorem max_cases (n m : Nat) : ∃ N, n ≤ N ∧ m ≤ N ∧ N = Nat.max n m ∧ (((n : Int) < (m : Int) ∧ m = N) ∨ (¬ (n : Int) < (m : Int) ∧ n = N)) := by
  refine ⟨Nat.max n m, Nat.le_max_left _ _, Nat.le_max_right _ _, rfl, ?_⟩
  rcases Nat.lt_or_ge n m with h | h
  · exact .inl ⟨by omega, (Nat.max_eq_right (by omega)).symm⟩
  · exact .inr ⟨by omega, (Nat.max_eq_left h).symm⟩
theorem bytes_le {zs : List Int} (h : Bytes zs) (j : Nat) (hj : j < zs.length) : 0 ≤ zs.getD j 0 ∧ zs.getD j 0 ≤ 255 := by have := h.at j hj; omega
/-- The state of a sum under way. -/
structure SumAt (w1 : World) (G N : Nat) (wr : World) (L : List Int) (b v : Int) : Prop where
  row : RowN wr G N L
  len : L.length = N
  bd : ∀ y ∈ L, 0 ≤ y ∧ y ≤ b
  val : le L = v
  kept : Kept (fun k => k = G) w1 wr
set_option maxHeartbeats 4000000 in
set_option maxRecDepth 20000 in
theorem add_any (ao bo : Option Addr) (n m c d : Nat) (xs ys : List Int) (w : World) (hx : SeenN w ao n xs) (hy : SeenN w bo m ys) (ha : Bytes xs) (hb : Bytes ys) (hn : n ≤ 400) (hm : m ≤ 400) :
    Calls Try.prog 26 #[.slice ao n c, .slice bo m d] w fun e w' => ∃ v, e = .returned v ∧ ∃ es, isN es v w' ∧ Bytes es ∧ le es = le xs + le ys ∧ n ≤ es.length ∧ m ≤ es.length ∧ es.length ≤ Nat.max n m + 6 ∧ Below w.heap.size w w' := by
  have HX : Hid (SeenN w ao n xs ∧ SeenN w bo m ys ∧ Bytes xs ∧ Bytes ys ∧ xs.length = n ∧ ys.length = m) := ⟨hx, hy, ha, hb, hx.len, hy.len⟩
  clear hx hy ha hb
  obtain ⟨N, hN1, hN2, hN3, hN⟩ := max_cases n m
  have HM : Hid (N = Nat.max n m) := hN3
  have hN400 : N ≤ 400 := by omega
  have hmk := run_makeN w N (by omega)
  obtain ⟨w1, hw1, HB⟩ : ∃ w1, w.alloc (.cells (i64s (List.replicate N 0)).toArray 3) = w1 ∧ Hid (RowN w1 w.heap.size N (List.replicate N 0) ∧ Below w.heap.size w w1 ∧ w1.heap.size = w.heap.size + 1) := ⟨_, rfl, ⟨by have := rowN_new w (List.replicate N 0); simpa using this, (Below.refl _ _).alloc (Nat.le_refl _) _, by simp⟩⟩
  rw [hw1] at hmk
  clear hw1 hN3
  rcases hN with ⟨i0, rfl⟩ | ⟨i0, rfl⟩
  · go_enter Try.func26, Try.ntmps26
    go_wp2_with fail
    go_loopw [7] (fun i wr => ∃ k : Nat, k ≤ n ∧ i = .int .i64 k ∧ ∃ L, SumAt w1 w.heap.size m wr L (0 + 255 * (k : Int)) (0 + le (xs.take k))) (fun i _ => n - (intOf i).toNat)
    case atStart => exact ⟨0, Nat.zero_le _, rfl, _, HB.out.1, by simp, (fun y hy => by have := rep0_small _ y hy; omega), by rw [le_rep0]; rfl, Kept.refl _ _⟩
    case round =>
      obtain ⟨k, hk, rfl, L, hL⟩ := hrel
      by_cases hlt : k < n
      · obtain ⟨b, o, rfl, hb, hc⟩ := HX.out.1.cells (by omega)
        have hkL : k < L.length := by rw [hL.len]; omega
        have c1 : wr.cell? ⟨b, o + k, none⟩ = some (.int .i64 (xs.getD k 0)) := (hL.kept.cell (p := ⟨b, o + k, none⟩) (by show b < _; have := HB.out.2.2; omega) (by show ¬ b = _; omega)).trans ((HB.out.2.1.cell (p := ⟨b, o + k, none⟩) hb).trans (hc k hlt))
        have c2 := hL.row.cell k hkL
        have f2 := hL.row.frozen k
        have bd1 := bytes_le HX.out.2.2.1 k (by rw [HX.out.2.2.2.2.1]; exact hlt)
        have bd2 := hL.bd _ (List.getElem_mem hkL)
        have e2 : L[k] = L.getD k 0 := by simp [List.getD, hkL]
        rw [e2] at bd2
        have hpl := add_place hkL hL.bd bd1 (by omega)
        have HS : Hid (SumAt w1 w.heap.size m (wr.setCell ⟨w.heap.size, k, none⟩ (.int .i64 (L.getD k 0 + xs.getD k 0))).drew (L.set k (L.getD k 0 + xs.getD k 0)) (0 + 255 * ((k + 1 : Nat) : Int)) (0 + le (xs.take (k + 1)))) :=
          ⟨(hL.row.set k hkL _).drew, by rw [hpl.1, hL.len], (fun y hy => by have := hpl.2.1 y hy; omega), by rw [hpl.2.2, hL.val, le_take_succ _ _ (by rw [HX.out.2.2.2.2.1]; exact hlt), Int.add_assoc], (hL.kept.setCell (S := fun k => k = w.heap.size) rfl _).drew⟩
        obtain ⟨A, hA⟩ : ∃ A, xs.getD k 0 = A := ⟨_, rfl⟩
        obtain ⟨B, hB⟩ : ∃ B, L.getD k 0 = B := ⟨_, rfl⟩
        rw [hA] at c1 bd1 HS
        rw [hB] at c2 bd2 HS
        have i1 : (0 : Int) ≤ (k : Int) := by omega
        have i2 : (k : Int) < (n : Int) := by omega
        have i3 : (k : Int) < ((m : Nat) : Int) := by omega
        have w2' : IntKind.i64.wrap (B + A) = B + A := by simp only [IntKind.wrap, IntKind.bits, IntKind.signed]; simp; omega
        clear hc hA hB hL hpl e2 hkL
        go_wp2_with fail
        go_region
        all_goals
          go_wp2_with fail
          exact ⟨⟨k + 1, by omega, by go_num, _, HS.out⟩, by simp [intOf]; omega⟩
      · obtain rfl : n = k := by omega
        obtain ⟨L1, HL1⟩ : ∃ L1, Hid (SumAt w1 w.heap.size m wr L1 (0 + 255 * (n : Int)) (0 + le (xs.take n))) := ⟨L, hL⟩
        clear hL
        obtain ⟨w3, hw3⟩ : ∃ W, W = wr := ⟨_, rfl⟩
        subst hw3
        go_wp2_with fail
        go_loopw [8] (fun i wr => ∃ k : Nat, k ≤ m ∧ i = .int .i64 k ∧ ∃ L, SumAt w1 w.heap.size m wr L (255 * (n : Int) + 255 * (k : Int)) (le xs + le (ys.take k))) (fun i _ => m - (intOf i).toNat)
        case atStart => exact ⟨0, Nat.zero_le _, rfl, L1, HL1.out.row, HL1.out.len, (fun y hy => by have := HL1.out.bd y hy; omega), by rw [HL1.out.val, List.take_of_length_le (by rw [HX.out.2.2.2.2.1]; omega)]; simp [le], HL1.out.kept⟩
        case round =>
          obtain ⟨k, hk, rfl, L, hL⟩ := hrel
          by_cases hlt : k < m
          · obtain ⟨b, o, rfl, hb, hc⟩ := HX.out.2.1.cells (by omega)
            have hkL : k < L.length := by rw [hL.len]; omega
            have c1 : wr.cell? ⟨b, o + k, none⟩ = some (.int .i64 (ys.getD k 0)) := (hL.kept.cell (p := ⟨b, o + k, none⟩) (by show b < _; have := HB.out.2.2; omega) (by show ¬ b = _; omega)).trans ((HB.out.2.1.cell (p := ⟨b, o + k, none⟩) hb).trans (hc k hlt))
            have c2 := hL.row.cell k hkL
            have f2 := hL.row.frozen k
            have bd1 := bytes_le HX.out.2.2.2.1 k (by rw [HX.out.2.2.2.2.2]; exact hlt)
            have bd2 := hL.bd _ (List.getElem_mem hkL)
            have e2 : L[k] = L.getD k 0 := by simp [List.getD, hkL]
            rw [e2] at bd2
            have hpl := add_place hkL hL.bd bd1 (by omega)
            have HS : Hid (SumAt w1 w.heap.size m (wr.setCell ⟨w.heap.size, k, none⟩ (.int .i64 (L.getD k 0 + ys.getD k 0))).drew (L.set k (L.getD k 0 + ys.getD k 0)) (255 * (n : Int) + 255 * ((k + 1 : Nat) : Int)) (le xs + le (ys.take (k + 1)))) :=
              ⟨(hL.row.set k hkL _).drew, by rw [hpl.1, hL.len], (fun y hy => by have := hpl.2.1 y hy; omega), by rw [hpl.2.2, hL.val, le_take_succ _ _ (by rw [HX.out.2.2.2.2.2]; exact hlt), Int.add_assoc], (hL.kept.setCell (S := fun k => k = w.heap.size) rfl _).drew⟩
            obtain ⟨A, hA⟩ : ∃ A, ys.getD k 0 = A := ⟨_, rfl⟩
            obtain ⟨B, hB⟩ : ∃ B, L.getD k 0 = B := ⟨_, rfl⟩
            rw [hA] at c1 bd1 HS
            rw [hB] at c2 bd2 HS
            have i1 : (0 : Int) ≤ (k : Int) := by omega
            have i2 : (k : Int) < (m : Int) := by omega
            have i3 : (k : Int) < ((m : Nat) : Int) := by omega
            have w2' : IntKind.i64.wrap (B + A) = B + A := by simp only [IntKind.wrap, IntKind.bits, IntKind.signed]; simp; omega
            clear hc hA hB hL hpl e2 hkL
            go_wp2_with fail
            go_region
            all_goals
              go_wp2_with fail
              exact ⟨⟨k + 1, by omega, by go_num, _, HS.out⟩, by simp [intOf]; omega⟩
          · obtain rfl : m = k := by omega
            obtain ⟨L2, HL2⟩ : ∃ L2, Hid (SumAt w1 w.heap.size m wr L2 (255 * (n : Int) + 255 * (m : Int)) (le xs + le (ys.take m))) := ⟨L, hL⟩
            have hsn : SeenN wr (some ⟨w.heap.size, 0, none⟩) m L2 := by
              have := HL2.out.row.seen (by rw [HL2.out.len]; omega) (fun d hd => by have := HL2.out.bd d hd; omega)
              rwa [HL2.out.len] at this
            have hcl := clean_any (some ⟨w.heap.size, 0, none⟩) m m L2 wr hsn (by omega)
            have HW : Hid (Below w.heap.size w wr ∧ le L2 = le xs + le ys) := ⟨below_kept HB.out.2.1 HL2.out.kept HB.out.2.1.size (fun j hj => by omega), by rw [HL2.out.val, List.take_of_length_le (by rw [HX.out.2.2.2.2.2]; omega)]⟩
            clear hsn hL
            go_wp2_with fail
            refine hcl.mono ?_
            rintro e w2 ⟨v, rfl, es, hes⟩
            have HE : Hid (isN es v w2 ∧ Bytes es ∧ le es = le L2 ∧ m ≤ es.length ∧ es.length ≤ m + 6 ∧ Below wr.heap.size wr w2) := hes
            clear hes hcl
            go_wp2_with fail
            go_ret
            obtain ⟨h1, h2, h3, h4, h5, h6⟩ := HE.out
            exact ⟨_, rfl, es, h1, h2, by rw [h3, HW.out.2], by omega, by omega, by rw [← HM.out]; exact h5, below_chain HW.out.1 h6 HW.out.1.size⟩
  · go_enter Try.func26, Try.ntmps26
    go_wp2_with fail
    go_loopw [7] (fun i wr => ∃ k : Nat, k ≤ n ∧ i = .int .i64 k ∧ ∃ L, SumAt w1 w.heap.size n wr L (0 + 255 * (k : Int)) (0 + le (xs.take k))) (fun i _ => n - (intOf i).toNat)
    case atStart => exact ⟨0, Nat.zero_le _, rfl, _, HB.out.1, by simp, (fun y hy => by have := rep0_small _ y hy; omega), by rw [le_rep0]; rfl, Kept.refl _ _⟩
    case round =>
      obtain ⟨k, hk, rfl, L, hL⟩ := hrel
      by_cases hlt : k < n
      · obtain ⟨b, o, rfl, hb, hc⟩ := HX.out.1.cells (by omega)
        have hkL : k < L.length := by rw [hL.len]; omega
        have c1 : wr.cell? ⟨b, o + k, none⟩ = some (.int .i64 (xs.getD k 0)) := (hL.kept.cell (p := ⟨b, o + k, none⟩) (by show b < _; have := HB.out.2.2; omega) (by show ¬ b = _; omega)).trans ((HB.out.2.1.cell (p := ⟨b, o + k, none⟩) hb).trans (hc k hlt))
        have c2 := hL.row.cell k hkL
        have f2 := hL.row.frozen k
        have bd1 := bytes_le HX.out.2.2.1 k (by rw [HX.out.2.2.2.2.1]; exact hlt)
        have bd2 := hL.bd _ (List.getElem_mem hkL)
        have e2 : L[k] = L.getD k 0 := by simp [List.getD, hkL]
        rw [e2] at bd2
        have hpl := add_place hkL hL.bd bd1 (by omega)
        have HS : Hid (SumAt w1 w.heap.size n (wr.setCell ⟨w.heap.size, k, none⟩ (.int .i64 (L.getD k 0 + xs.getD k 0))).drew (L.set k (L.getD k 0 + xs.getD k 0)) (0 + 255 * ((k + 1 : Nat) : Int)) (0 + le (xs.take (k + 1)))) :=
          ⟨(hL.row.set k hkL _).drew, by rw [hpl.1, hL.len], (fun y hy => by have := hpl.2.1 y hy; omega), by rw [hpl.2.2, hL.val, le_take_succ _ _ (by rw [HX.out.2.2.2.2.1]; exact hlt), Int.add_assoc], (hL.kept.setCell (S := fun k => k = w.heap.size) rfl _).drew⟩
        obtain ⟨A, hA⟩ : ∃ A, xs.getD k 0 = A := ⟨_, rfl⟩
        obtain ⟨B, hB⟩ : ∃ B, L.getD k 0 = B := ⟨_, rfl⟩
        rw [hA] at c1 bd1 HS
        rw [hB] at c2 bd2 HS
        have i1 : (0 : Int) ≤ (k : Int) := by omega
        have i2 : (k : Int) < (n : Int) := by omega
        have i3 : (k : Int) < ((n : Nat) : Int) := by omega
        have w2' : IntKind.i64.wrap (B + A) = B + A := by simp only [IntKind.wrap, IntKind.bits, IntKind.signed]; simp; omega
        clear hc hA hB hL hpl e2 hkL
        go_wp2_with fail
        go_region
        all_goals
          go_wp2_with fail
          exact ⟨⟨k + 1, by omega, by go_num, _, HS.out⟩, by simp [intOf]; omega⟩
      · obtain rfl : n = k := by omega
        obtain ⟨L1, HL1⟩ : ∃ L1, Hid (SumAt w1 w.heap.size n wr L1 (0 + 255 * (n : Int)) (0 + le (xs.take n))) := ⟨L, hL⟩
        clear hL
        obtain ⟨w3, hw3⟩ : ∃ W, W = wr := ⟨_, rfl⟩
        subst hw3
        go_wp2_with fail
        go_loopw [8] (fun i wr => ∃ k : Nat, k ≤ m ∧ i = .int .i64 k ∧ ∃ L, SumAt w1 w.heap.size n wr L (255 * (n : Int) + 255 * (k : Int)) (le xs + le (ys.take k))) (fun i _ => m - (intOf i).toNat)
        case atStart => exact ⟨0, Nat.zero_le _, rfl, L1, HL1.out.row, HL1.out.len, (fun y hy => by have := HL1.out.bd y hy; omega), by rw [HL1.out.val, List.take_of_length_le (by rw [HX.out.2.2.2.2.1]; omega)]; simp [le], HL1.out.kept⟩
        case round =>
          obtain ⟨k, hk, rfl, L, hL⟩ := hrel
          by_cases hlt : k < m
          · obtain ⟨b, o, rfl, hb, hc⟩ := HX.out.2.1.cells (by omega)
            have hkL : k < L.length := by rw [hL.len]; omega
            have c1 : wr.cell? ⟨b, o + k, none⟩ = some (.int .i64 (ys.getD k 0)) := (hL.kept.cell (p := ⟨b, o + k, none⟩) (by show b < _; have := HB.out.2.2; omega) (by show ¬ b = _; omega)).trans ((HB.out.2.1.cell (p := ⟨b, o + k, none⟩) hb).trans (hc k hlt))
            have c2 := hL.row.cell k hkL
            have f2 := hL.row.frozen k
            have bd1 := bytes_le HX.out.2.2.2.1 k (by rw [HX.out.2.2.2.2.2]; exact hlt)
            have bd2 := hL.bd _ (List.getElem_mem hkL)
            have e2 : L[k] = L.getD k 0 := by simp [List.getD, hkL]
            rw [e2] at bd2
            have hpl := add_place hkL hL.bd bd1 (by omega)
            have HS : Hid (SumAt w1 w.heap.size n (wr.setCell ⟨w.heap.size, k, none⟩ (.int .i64 (L.getD k 0 + ys.getD k 0))).drew (L.set k (L.getD k 0 + ys.getD k 0)) (255 * (n : Int) + 255 * ((k + 1 : Nat) : Int)) (le xs + le (ys.take (k + 1)))) :=
              ⟨(hL.row.set k hkL _).drew, by rw [hpl.1, hL.len], (fun y hy => by have := hpl.2.1 y hy; omega), by rw [hpl.2.2, hL.val, le_take_succ _ _ (by rw [HX.out.2.2.2.2.2]; exact hlt), Int.add_assoc], (hL.kept.setCell (S := fun k => k = w.heap.size) rfl _).drew⟩
            obtain ⟨A, hA⟩ : ∃ A, ys.getD k 0 = A := ⟨_, rfl⟩
            obtain ⟨B, hB⟩ : ∃ B, L.getD k 0 = B := ⟨_, rfl⟩
            rw [hA] at c1 bd1 HS
            rw [hB] at c2 bd2 HS
            have i1 : (0 : Int) ≤ (k : Int) := by omega
            have i2 : (k : Int) < (m : Int) := by omega
            have i3 : (k : Int) < ((n : Nat) : Int) := by omega
            have w2' : IntKind.i64.wrap (B + A) = B + A := by simp only [IntKind.wrap, IntKind.bits, IntKind.signed]; simp; omega
            clear hc hA hB hL hpl e2 hkL
            go_wp2_with fail
            go_region
            all_goals
              go_wp2_with fail
              exact ⟨⟨k + 1, by omega, by go_num, _, HS.out⟩, by simp [intOf]; omega⟩
          · obtain rfl : m = k := by omega
            obtain ⟨L2, HL2⟩ : ∃ L2, Hid (SumAt w1 w.heap.size n wr L2 (255 * (n : Int) + 255 * (m : Int)) (le xs + le (ys.take m))) := ⟨L, hL⟩
            have hsn : SeenN wr (some ⟨w.heap.size, 0, none⟩) n L2 := by
              have := HL2.out.row.seen (by rw [HL2.out.len]; omega) (fun d hd => by have := HL2.out.bd d hd; omega)
              rwa [HL2.out.len] at this
            have hcl := clean_any (some ⟨w.heap.size, 0, none⟩) n n L2 wr hsn (by omega)
            have HW : Hid (Below w.heap.size w wr ∧ le L2 = le xs + le ys) := ⟨below_kept HB.out.2.1 HL2.out.kept HB.out.2.1.size (fun j hj => by omega), by rw [HL2.out.val, List.take_of_length_le (by rw [HX.out.2.2.2.2.2]; omega)]⟩
            clear hsn hL
            go_wp2_with fail
            refine hcl.mono ?_
            rintro e w2 ⟨v, rfl, es, hes⟩
            have HE : Hid (isN es v w2 ∧ Bytes es ∧ le es = le L2 ∧ n ≤ es.length ∧ es.length ≤ n + 6 ∧ Below wr.heap.size wr w2) := hes
            clear hes hcl
            go_wp2_with fail
            go_ret
            obtain ⟨h1, h2, h3, h4, h5, h6⟩ := HE.out
            exact ⟨_, rfl, es, h1, h2, by rw [h3, HW.out.2], by omega, by omega, by rw [← HM.out]; exact h5, below_chain HW.out.1 h6 HW.out.1.size⟩
end Go.Proofs.Ytlaegbabpiepeaa
