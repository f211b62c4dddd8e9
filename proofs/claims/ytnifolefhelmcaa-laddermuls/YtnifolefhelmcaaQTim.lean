/- The document's numbers of ladder: times, its walk. -/
import Derived.Test.YtnifolefhelmcaaQMul
namespace Go.Proofs.Ytnifolefhelmcaa
open Go.RowKit
set_option linter.unusedVariables false
set_option linter.unusedSimpArgs false

theorem mul_sq (a b : Int) (ha : -262144 ≤ a ∧ a ≤ 262144) (hb : -262144 ≤ b ∧ b ≤ 262144) : -68719476736 ≤ a * b ∧ a * b ≤ 68719476736 := by
  have h1 : (a.natAbs : Int) ≤ 262144 := by omega
  have h2 : (b.natAbs : Int) ≤ 262144 := by omega
  have h3 : ((a * b).natAbs : Int) ≤ 68719476736 := by
    rw [Int.natAbs_mul]
    have := Nat.mul_le_mul (show a.natAbs ≤ 262144 by omega) (show b.natAbs ≤ 262144 by omega)
    omega
  omega
theorem set_bd {T : List Int} {B C : Int} (h : ∀ z ∈ T, -B ≤ z ∧ z ≤ B) (j : Nat) (z : Int) (hz : -C ≤ z ∧ z ≤ C) (hBC : B ≤ C) : ∀ y ∈ T.set j z, -C ≤ y ∧ y ≤ C := fun y hy => by
  rcases List.mem_or_eq_of_mem_set hy with q | q
  · have := h y q; omega
  · omega
theorem row_step (a b : List Int) (i k : Nat) (hk : k < b.length) : vd (a.take i) * vd b + 65536 ^ i * (a.getD i 0 * vd (b.take k)) + 65536 ^ (i + k) * (a.getD i 0 * b.getD k 0) = vd (a.take i) * vd b + 65536 ^ i * (a.getD i 0 * vd (b.take (k + 1))) := by
  rw [qvd_take b k hk, Int.mul_add (a.getD i 0), Int.mul_add (65536 ^ i), Int.pow_add, Int.mul_assoc, Int.mul_left_comm (65536 ^ k) (a.getD i 0), Int.add_assoc]
theorem row_end (a b : List Int) (i : Nat) (hi : i < a.length) : vd (a.take i) * vd b + 65536 ^ i * (a.getD i 0 * vd b) = vd (a.take (i + 1)) * vd b := by
  rw [qvd_take a i hi, Int.add_mul, Int.mul_assoc]
set_option maxRecDepth 20000 in
set_option maxHeartbeats 4000000 in
theorem qtimes_any (a b : List Int) (x y : Int) (ha : Nw a x) (hb : Nw b y) (w : World) :
    Calls Try.prog 114 #[.agg (i64s a).toArray, .agg (i64s b).toArray] w fun e w' => ∃ r, e = .returned (.agg (i64s r).toArray) ∧ Nd r (x * y % PR) ∧ Below w.heap.size w w' := by
  have HL : Hid (Nw a x ∧ Nw b y ∧ a.length = 16 ∧ b.length = 16) := ⟨ha, hb, ha.dg.1, hb.dg.1⟩
  clear ha hb
  go_enter Try.func114, Try.ntmps114
  go_wp2_with (first | (refine wpList_box_new rfl 140 (.tmp 0) rfl (i64s a) rfl ?_; intro x1 z1 s1 l1) | (refine wpList_box_new rfl 140 (.tmp 1) rfl (i64s b) rfl ?_; intro x2 z2 s2 l2; rw [s1] at z2) | (refine wpList_alloc_new rfl 140 rfl 16 _ zeroNm ?_; intro x3 z3 s3 l3; rw [s2, s1] at z3) | (refine wpList_alloc_new rfl 157 rfl 31 _ zero31 ?_; intro x4 z4 s4 l4; rw [s3, s2, s1] at z4))
  have WW : Hid (Below w.heap.size w x4 ∧ Blk x4 w.heap.size 140 (i64s a) ∧ Blk x4 (w.heap.size + 1) 140 (i64s b) ∧ Blk x4 (w.heap.size + 1 + 1) 140 (i64s (List.replicate 16 0)) ∧ Blk x4 (w.heap.size + 1 + 1 + 1) 157 (i64s (List.replicate 31 0)) ∧ x4.heap.size = w.heap.size + 1 + 1 + 1 + 1) := ⟨below_chain (below_chain (below_chain l1 l2 (by omega)) l3 (by omega)) l4 (by omega), ((z1.later l2 (by omega)).later l3 (by omega)).later l4 (by omega), (z2.later l3 (by omega)).later l4 (by omega), z3.later l4 (by omega), z4, by omega⟩
  clear z1 s1 l1 z2 s2 l2 z3 s3 l3 z4 s4 l4
  go_loopw [6] (fun i wr => ∃ (k : Nat) (T : List Int), k ≤ 16 ∧ i = .int .i64 k ∧ T.length = 31 ∧ (∀ z ∈ T, -(1099511627776 * (k : Int)) ≤ z ∧ z ≤ 1099511627776 * (k : Int)) ∧ vd T = vd (a.take k) * vd b ∧ Blk wr (w.heap.size + 1 + 1 + 1) 157 (i64s T) ∧ Kept (fun x => x = w.heap.size + 1 + 1 + 1) x4 wr) (fun i _ => 16 - (intOf i).toNat)
  case atStart => exact ⟨0, List.replicate 31 0, by omega, rfl, rfl, fun z hz => by have := (List.mem_replicate.1 hz).2; omega, by rw [vd_zero, List.take_zero]; show (0 : Int) = 0 * _; rw [Int.zero_mul], WW.out.2.2.2.2.1, Kept.refl _ _⟩
  case round =>
    obtain ⟨k, T, hk, rfl, hTl, hTb, hTv, hblk, hkp⟩ := hrel
    by_cases hlt : k < 16
    · have i1 : (k : Int) < 16 := by omega
      have i3 : (0 : Int) ≤ (k : Int) := by omega
      have hA := HL.out.1.dg.at k hlt
      have cA : x4.cell? ⟨w.heap.size, k, none⟩ = some (.int .i64 (a.getD k 0)) := i64s_cell WW.out.2.1 k (by rw [HL.out.2.2.1]; exact hlt)
      obtain ⟨A, hAA⟩ : ∃ z, a.getD k 0 = z := ⟨_, rfl⟩
      rw [hAA] at hA cA
      obtain ⟨w2, rfl⟩ : ∃ w2, w2 = wr := ⟨_, rfl⟩
      have H2 : Hid (Blk w2 (w.heap.size + 1 + 1 + 1) 157 (i64s T) ∧ Kept (fun x => x = w.heap.size + 1 + 1 + 1) x4 w2 ∧ T.length = 31 ∧ (∀ z ∈ T, -(1099511627776 * (k : Int)) ≤ z ∧ z ≤ 1099511627776 * (k : Int)) ∧ vd T = vd (a.take k) * vd b ∧ a.getD k 0 = A) := ⟨hblk, hkp, hTl, hTb, hTv, hAA⟩
      clear hblk hkp hTl hTb hTv hAA
      go_wp2_with fail
      go_loopw [7] (fun i wr => ∃ (j : Nat) (T : List Int), j ≤ 16 ∧ i = .int .i64 j ∧ T.length = 31 ∧ (∀ z ∈ T, -(1099511627776 * (k : Int) + 68719476736 * (j : Int)) ≤ z ∧ z ≤ 1099511627776 * (k : Int) + 68719476736 * (j : Int)) ∧ vd T = vd (a.take k) * vd b + 65536 ^ k * (A * vd (b.take j)) ∧ Blk wr (w.heap.size + 1 + 1 + 1) 157 (i64s T) ∧ Kept (fun x => x = w.heap.size + 1 + 1 + 1) x4 wr) (fun i _ => 16 - (intOf i).toNat)
      case atStart => exact ⟨0, T, by omega, rfl, H2.out.2.2.1, fun z hz => by have := H2.out.2.2.2.1 z hz; omega, by rw [H2.out.2.2.2.2.1, List.take_zero]; show _ = _ + 65536 ^ k * (A * 0); rw [Int.mul_zero, Int.mul_zero, Int.add_zero], H2.out.1, H2.out.2.1⟩
      case round =>
        obtain ⟨j, T', hj, rfl, hTl, hTb, hTv, hblk, hkp⟩ := hrel
        by_cases hjt : j < 16
        · have j1 : (j : Int) < 16 := by omega
          have j3 : (0 : Int) ≤ (j : Int) := by omega
          have hB := HL.out.2.1.dg.at j hjt
          have cB : wr.cell? ⟨w.heap.size + 1, j, none⟩ = some (.int .i64 (b.getD j 0)) := i64s_cell (WW.out.2.2.1.kept hkp (by omega)) j (by rw [HL.out.2.2.2]; exact hjt)
          have cA2 : wr.cell? ⟨w.heap.size, k, none⟩ = some (.int .i64 A) := by
            rw [← H2.out.2.2.2.2.2]; exact i64s_cell (WW.out.2.1.kept hkp (by omega)) k (by rw [HL.out.2.2.1]; exact hlt)
          have cT := i64s_cell hblk (k + j) (by rw [hTl]; omega)
          have fT := hblk.frozen (k + j)
          have hTj := hTb (T'.getD (k + j) 0) (by simp [List.getD, show k + j < T'.length by rw [hTl]; omega])
          have hs := row_step a b k j (by rw [HL.out.2.2.2]; exact hjt)
          rw [H2.out.2.2.2.2.2] at hs
          have hvs := qvd_set T' (k + j)
          obtain ⟨B, hBB⟩ : ∃ z, b.getD j 0 = z := ⟨_, rfl⟩
          obtain ⟨Z, hZZ⟩ : ∃ z, T'.getD (k + j) 0 = z := ⟨_, rfl⟩
          rw [hBB] at hB cB hs
          rw [hZZ] at cT hTj hvs
          have hm := mul_sq A B hA hB
          obtain ⟨M, hMM⟩ : ∃ z, A * B = z := ⟨_, rfl⟩
          rw [hMM] at hm hs
          have hv := hvs M (by rw [hTl]; omega)
          have j5 : (k : Int) + (j : Int) < 31 := by omega
          have j6 : (0 : Int) ≤ (k : Int) + (j : Int) := by omega
          have j7 : ((k : Int) + (j : Int)).toNat = k + j := by omega
          have v0 : IntKind.i64.wrap ((k : Int) + (j : Int)) = (k : Int) + (j : Int) := by simp only [IntKind.wrap, IntKind.bits, IntKind.signed]; simp; omega
          have v1 : IntKind.i64.wrap M = M := by simp only [IntKind.wrap, IntKind.bits, IntKind.signed]; simp; omega
          have v2 : IntKind.i64.wrap (Z + M) = Z + M := by simp only [IntKind.wrap, IntKind.bits, IntKind.signed]; simp; omega
          have HQ : Hid (Blk wr (w.heap.size + 1 + 1 + 1) 157 (i64s T') ∧ Kept (fun x => x = w.heap.size + 1 + 1 + 1) x4 wr ∧ (∀ z ∈ T', -(1099511627776 * (k : Int) + 68719476736 * (j : Int)) ≤ z ∧ z ≤ 1099511627776 * (k : Int) + 68719476736 * (j : Int)) ∧ T'.length = 31 ∧ vd (T'.set (k + j) (Z + M)) = vd (a.take k) * vd b + 65536 ^ k * (A * vd (b.take (j + 1)))) := ⟨hblk, hkp, hTb, hTl, by rw [hv, hTv]; exact hs⟩
          clear hblk hkp hTb hTl hTv hs hv hvs hBB hZZ
          go_wp2_with fail
          go_region_with (fail)
          all_goals (
          go_wp2_with fail
          go_roundw
          case rel =>
            have R := (HQ.out.1.set (k + j) (.int .i64 (Z + M))).drew
            rw [i64s_set] at R
            exact ⟨j + 1, T'.set (k + j) (Z + M), by omega, by go_num, by rw [List.length_set]; exact HQ.out.2.2.2.1, set_bd HQ.out.2.2.1 (k + j) _ (by omega) (by omega), HQ.out.2.2.2.2, R, (HQ.out.2.1.setCell (p := ⟨w.heap.size + 1 + 1 + 1, k + j, none⟩) rfl _).drewN 1⟩
          case measure => simp [intOf]; omega)
        · have j16 : j = 16 := by omega
          have j1 : ¬ ((j : Int) < 16) := by omega
          have hb16 : b.take j = b := by rw [j16, ← HL.out.2.2.2]; exact List.take_length
          have he := row_end a b k (by rw [HL.out.2.2.1]; exact hlt)
          rw [H2.out.2.2.2.2.2] at he
          have HQ : Hid (Blk wr (w.heap.size + 1 + 1 + 1) 157 (i64s T') ∧ Kept (fun x => x = w.heap.size + 1 + 1 + 1) x4 wr ∧ (∀ z ∈ T', -(1099511627776 * ((k + 1 : Nat) : Int)) ≤ z ∧ z ≤ 1099511627776 * ((k + 1 : Nat) : Int)) ∧ T'.length = 31 ∧ vd T' = vd (a.take (k + 1)) * vd b) := ⟨hblk, hkp, fun z hz => by have := hTb z hz; omega, hTl, by rw [hTv, hb16]; exact he⟩
          clear hblk hkp hTb hTl hTv he hb16 j16 hj hjt H2
          go_wp2_with fail
          go_roundw
          case rel => exact ⟨k + 1, T', by omega, by go_num, HQ.out.2.2.2.1, HQ.out.2.2.1, HQ.out.2.2.2.2, HQ.out.1, HQ.out.2.1⟩
          case measure => simp [intOf]; omega
    · have hk5 : k = 16 := by omega
      have i1 : ¬ ((k : Int) < 16) := by omega
      obtain ⟨w2, rfl⟩ : ∃ w2, w2 = wr := ⟨_, rfl⟩
      have ha16 : a.take k = a := by rw [hk5, ← HL.out.2.2.1]; exact List.take_length
      have H2 : Hid (Below w.heap.size w w2 ∧ Blk w2 (w.heap.size + 1 + 1 + 1) 157 (i64s T) ∧ Blk w2 (w.heap.size + 1 + 1) 140 (i64s (List.replicate 16 0)) ∧ T.length = 31 ∧ (∀ z ∈ T, -17592186044416 ≤ z ∧ z ≤ 17592186044416) ∧ vd T = vd a * vd b) := ⟨below_kept WW.out.1 hkp WW.out.1.size (fun j hj => by omega), hblk, WW.out.2.2.2.1.kept hkp (by omega), hTl, fun z hz => by have := hTb z hz; omega, by rw [hTv, ha16]⟩
      clear hblk hkp hTl hTb hTv ha16 hk5 hlt hk WW
      go_wp2_with (first | (refine wpList_alloc_new rfl 140 rfl 16 _ zeroNm ?_; intro w3 z3 s3 l3))
      obtain ⟨gn, hgn⟩ : ∃ q, w2.heap.size = q := ⟨_, rfl⟩
      rw [hgn] at z3 ⊢
      have H3 : Hid (Below w.heap.size w w3 ∧ Blk w3 (w.heap.size + 1 + 1 + 1) 157 (i64s T) ∧ Blk w3 (w.heap.size + 1 + 1) 140 (i64s (List.replicate 16 0)) ∧ Blk w3 gn 140 (i64s (List.replicate 16 0)) ∧ w.heap.size + 1 + 1 + 1 < gn) := by
        obtain ⟨a1, a2, a3, _⟩ := H2.out
        have q1 := a2.lt
        exact ⟨below_chain a1 l3 a1.size, a2.later l3 a2.lt, a3.later l3 a3.lt, z3, by omega⟩
      clear z3 s3 l3 hgn
      go_loopw [9] (fun i wr => ∃ (k : Nat) (L : List Int), k ≤ 16 ∧ i = .int .i64 k ∧ L.length = 16 ∧ (∀ j, j < k → L.getD j 0 = (dnL T).getD j 0) ∧ Blk wr gn 140 (i64s L) ∧ Kept (fun x => x = gn) w3 wr) (fun i _ => 16 - (intOf i).toNat)
      case atStart => exact ⟨0, List.replicate 16 0, by omega, rfl, rfl, fun j hj => by omega, H3.out.2.2.2.1, Kept.refl _ _⟩
      case round =>
        obtain ⟨k, L, hk, rfl, hLl, hLd, hblk, hkp⟩ := hrel
        by_cases hlt : k < 16
        · have i1 : (k : Int) < 16 := by omega
          have i3 : (0 : Int) ≤ (k : Int) := by omega
          have hgT : Blk wr (w.heap.size + 1 + 1 + 1) 157 (i64s T) := H3.out.2.1.kept hkp (by have := H3.out.2.2.2.2; omega)
          have cT := i64s_cell hgT k (by rw [H2.out.2.2.2.1]; omega)
          have bT := H2.out.2.2.2.2.1 (T.getD k 0) (by simp [List.getD, show k < T.length by rw [H2.out.2.2.2.1]; omega])
          have cL := i64s_cell hblk k (by rw [hLl]; exact hlt)
          have fg := hblk.frozen k
          obtain ⟨X, hX⟩ : ∃ z, T.getD k 0 = z := ⟨_, rfl⟩
          obtain ⟨Z, hZ⟩ : ∃ z, L.getD k 0 = z := ⟨_, rfl⟩
          rw [hX] at cT bT
          rw [hZ] at cL
          by_cases h15 : k < 15
          · have i5 : (k : Int) < 15 := by omega
            have cU := i64s_cell hgT (k + 16) (by rw [H2.out.2.2.2.1]; omega)
            have bU := H2.out.2.2.2.2.1 (T.getD (k + 16) 0) (by simp [List.getD, show k + 16 < T.length by rw [H2.out.2.2.2.1]; omega])
            have hd := dn_at T H2.out.2.2.2.1 k h15
            obtain ⟨Y, hY⟩ : ∃ z, T.getD (k + 16) 0 = z := ⟨_, rfl⟩
            rw [hY] at cU bU hd
            rw [hX] at hd
            have v0 : IntKind.i64.wrap ((k : Int) + 16) = (k : Int) + 16 := by simp only [IntKind.wrap, IntKind.bits, IntKind.signed]; simp; omega
            have v1 : IntKind.i64.wrap (38 * Y) = 38 * Y := by simp only [IntKind.wrap, IntKind.bits, IntKind.signed]; simp; omega
            have v2 : IntKind.i64.wrap (X + 38 * Y) = X + 38 * Y := by simp only [IntKind.wrap, IntKind.bits, IntKind.signed]; simp; omega
            have HQ : Hid (Blk wr gn 140 (i64s L) ∧ Kept (fun x => x = gn) w3 wr ∧ L.length = 16 ∧ (∀ j, j < k → L.getD j 0 = (dnL T).getD j 0) ∧ (dnL T).getD k 0 = X + 38 * Y) := ⟨hblk, hkp, hLl, hLd, hd⟩
            have hne : (w.heap.size + 1 + 1 + 1) ≠ gn := by have := H3.out.2.2.2.2; omega
            clear hblk hkp hLl hLd hd hX hY hZ hgT
            go_wp2_with fail
            go_region_with (fail)
            all_goals (
            go_wp2_with fail
            go_roundw
            case rel =>
              have R := ((HQ.out.1.set k (.int .i64 X)).set k (.int .i64 (X + 38 * Y))).drew
              rw [i64s_set, i64s_set, List.set_set] at R
              refine ⟨k + 1, L.set k (X + 38 * Y), by omega, by go_num, by rw [List.length_set]; exact HQ.out.2.2.1, fun j hj => ?_, R, ((HQ.out.2.1.setCell (p := ⟨gn, k, none⟩) rfl _).setCell (p := ⟨gn, k, none⟩) rfl _).drewN 1⟩
              by_cases hjk : j = k
              · subst hjk
                rw [HQ.out.2.2.2.2, List.getD_eq_getElem?_getD, List.getElem?_set_self (by rw [HQ.out.2.2.1]; exact hlt)]; rfl
              · rw [← HQ.out.2.2.2.1 j (by omega)]
                simp only [List.getD]
                rw [List.getElem?_set_ne (by omega)]
            case measure => simp [intOf]; omega)
          · obtain rfl : k = 15 := by omega
            have i5 : ¬ (((15 : Nat) : Int) < 15) := by omega
            have hd := dn_last T H2.out.2.2.2.1
            rw [hX] at hd
            have HQ : Hid (Blk wr gn 140 (i64s L) ∧ Kept (fun x => x = gn) w3 wr ∧ L.length = 16 ∧ (∀ j, j < 15 → L.getD j 0 = (dnL T).getD j 0) ∧ (dnL T).getD 15 0 = X) := ⟨hblk, hkp, hLl, hLd, hd⟩
            clear hblk hkp hLl hLd hd hX hZ hgT
            go_wp2_with fail
            go_roundw
            case rel =>
              have R := HQ.out.1.set 15 (.int .i64 X)
              rw [i64s_set] at R
              refine ⟨16, L.set 15 X, by omega, by go_num, by rw [List.length_set]; exact HQ.out.2.2.1, fun j hj => ?_, R, HQ.out.2.1.setCell (p := ⟨gn, 15, none⟩) rfl _⟩
              by_cases hjk : j = 15
              · subst hjk
                rw [HQ.out.2.2.2.2, List.getD_eq_getElem?_getD, List.getElem?_set_self (by rw [HQ.out.2.2.1]; decide)]; rfl
              · rw [← HQ.out.2.2.2.1 j (by omega)]
                simp only [List.getD]
                rw [List.getElem?_set_ne (by omega)]
            case measure => simp [intOf]
        · have hk6 : k = 16 := by omega
          have i1 : ¬ ((k : Int) < 16) := by omega
          have hLF : L = dnL T := by
            have hFl := dn_length T H2.out.2.2.2.1
            refine List.ext_getElem (by rw [hLl, hFl]) fun j h1 h2 => ?_
            have := hLd j (by omega)
            simpa [List.getD, h1, h2] using this
          rw [hLF] at hblk
          obtain ⟨n1, n2, n3⟩ := nd_two (dnL T) (dn_bd T H2.out.2.2.2.1 H2.out.2.2.2.2.1)
          rw [dn_num T H2.out.2.2.2.1, H2.out.2.2.2.2.2] at n3
          have C1 := qcarry_any (dnL T) n1.1 n1.2
          have C2 := qcarry_any (carL (vd (dnL T))) n2.1 n2.2
          obtain ⟨F, hF⟩ : ∃ z, dnL T = z := ⟨_, rfl⟩
          obtain ⟨R1, hR1⟩ : ∃ z, carL (vd (dnL T)) = z := ⟨_, rfl⟩
          obtain ⟨R2, hR2⟩ : ∃ z, carL (vd (carL (vd (dnL T)))) = z := ⟨_, rfl⟩
          rw [hR2] at C2 n3
          rw [hR1] at C1 C2
          rw [hF] at C1 hblk n1
          have X1 : Hid (Blk wr gn 140 (i64s F) ∧ Blk wr (w.heap.size + 1 + 1) 140 (i64s (List.replicate 16 0)) ∧ Below w.heap.size w wr ∧ (i64s F).length = 16 ∧ Nd R2 (x * y % PR) ∧ (i64s R2).length = 16) := ⟨hblk, H3.out.2.2.1.kept hkp (by have := H3.out.2.2.2.2; omega), below_kept H3.out.1 hkp H3.out.1.size (fun j hj => by have := H3.out.2.2.2.2; omega), by rw [i64s_length]; exact n1.1, by
            refine ⟨n3.len, n3.lim, n3.num.trans ?_⟩
            rw [← HL.out.1.num, ← HL.out.2.1.num, pm_l, pm_r], by rw [i64s_length]; exact n3.len⟩
          clear hblk hkp hk6 hlt hk hLl hLd hLF hF hR1 hR2 n1 n2 n3 H2 H3
          go_wp2_with (first | ((with_reducible show Calls _ _ #[.agg (i64s F).toArray] _ _); refine (C1 _).mono ?_; rintro e t1 ⟨rfl, u1⟩) | ((with_reducible show Calls _ _ #[.agg (i64s R1).toArray] _ _); refine (C2 _).mono ?_; rintro e t2 ⟨rfl, u2⟩) | ((with_reducible show wpList _ _ _ (({ dst := some 57, op := _, type := _, pos := _, after := _, guard := _ } : Oper) :: _) _ _); refine wpList_load_blk rfl 140 _ rfl gn rfl (i64s F) _ X1.out.1 Try.underlying140 rfl (by rw [X1.out.2.2.2.1]; exact sizeNm) ?_) | (refine wpList_store_blk rfl 140 140 _ _ rfl _ rfl _ (i64s R2) rfl ((X1.out.2.1.later u1 X1.out.2.1.lt).later u2 (by have := X1.out.2.1.lt; have := u1.size; omega)) (by rw [X1.out.2.2.2.2.2]; rfl) (by rw [X1.out.2.2.2.2.2]; exact sizeNm) (i64s_one _) ?_; intro y6 b6 s6 k6))
          exact ret_blk rfl (w.heap.size + 1 + 1) (i64s R2) _ rfl b6 Try.underlying140 rfl (by rw [X1.out.2.2.2.2.2]; exact sizeNm) rfl ⟨R2, rfl, X1.out.2.2.2.2.1, below_kept (below_chain (below_chain X1.out.2.2.1 u1 X1.out.2.2.1.size) u2 (by have := X1.out.2.2.1.size; have := u1.size; omega)) k6 (by have := X1.out.2.2.1.size; have := u1.size; have := u2.size; omega) (fun j hj => by omega)⟩
end Go.Proofs.Ytnifolefhelmcaa
