/- The document's numbers: ahead, prime. -/
import Derived.Test.YtfeeikkfjbdkiaaRFDig
import Derived.Test.YtfeeikkfjbdkiaaFAwake
namespace Go.Proofs.Ytfeeikkfjbdkiaa
open Go.RowKit
set_option linter.unusedVariables false
set_option linter.unusedSimpArgs false

theorem vd_app : ∀ (x y : List Int), vd (x ++ y) = vd x + 65536 ^ x.length * vd y
  | [], y => by simp [vd]
  | z :: x, y => by
    simp only [List.cons_append, vd, vd_app x y, List.length_cons, Int.pow_succ]
    rw [Int.mul_add, ← Int.add_assoc, Int.mul_comm (65536 ^ x.length) 65536, Int.mul_assoc]
theorem vd_lt : ∀ (l : List Int), (∀ z ∈ l, 0 ≤ z ∧ z < 65536) → 0 ≤ vd l ∧ vd l < 65536 ^ l.length
  | [], _ => by simp [vd]
  | z :: l, h => by
    have hz := h z (by simp)
    have ih := vd_lt l (fun y hy => h y (by simp [hy]))
    rw [vd, List.length_cons, Int.pow_succ]
    omega
theorem ahead_at (a b : List Int) (ha : a.length = 16) (hb : b.length = 16) (na : ∀ z ∈ a, 0 ≤ z ∧ z < 65536) (nb : ∀ z ∈ b, 0 ≤ z ∧ z < 65536) (j : Nat) (hj : j < 16) (he : a.drop (j + 1) = b.drop (j + 1)) (hne : a.getD j 0 ≠ b.getD j 0) : (a.getD j 0 < b.getD j 0) ↔ vd a < vd b := by
  have e1 : a = a.take j ++ (a.getD j 0 :: a.drop (j + 1)) := by rw [← drop_getD a j (by omega), List.take_append_drop]
  have e2 : b = b.take j ++ (b.getD j 0 :: b.drop (j + 1)) := by rw [← drop_getD b j (by omega), List.take_append_drop]
  have t1 := vd_lt (a.take j) (fun z hz => na z (List.mem_of_mem_take hz))
  have t2 := vd_lt (b.take j) (fun z hz => nb z (List.mem_of_mem_take hz))
  have l1 : (a.take j).length = j := by rw [List.length_take]; omega
  have l2 : (b.take j).length = j := by rw [List.length_take]; omega
  have v1 : vd a = vd (a.take j) + 65536 ^ j * (a.getD j 0 + 65536 * vd (b.drop (j + 1))) := by
    conv => lhs; rw [e1]
    rw [vd_app, l1, vd, he]
  have v2 : vd b = vd (b.take j) + 65536 ^ j * (b.getD j 0 + 65536 * vd (b.drop (j + 1))) := by
    conv => lhs; rw [e2]
    rw [vd_app, l2, vd]
  rw [l1] at t1
  rw [l2] at t2
  rw [v1, v2, Int.mul_add, Int.mul_add]
  have hp : (0 : Int) < 65536 ^ j := Int.pow_pos (by decide)
  generalize (65536 : Int) ^ j = M at *
  generalize a.getD j 0 = X at *
  generalize b.getD j 0 = Y at *
  generalize M * (65536 * vd (b.drop (j + 1))) = T
  constructor
  · intro h
    have h2 : M * (X + 1) ≤ M * Y := Int.mul_le_mul_of_nonneg_left (by omega) (by omega)
    rw [Int.mul_add, Int.mul_one] at h2
    omega
  · intro h
    rcases Int.lt_or_lt_of_ne hne with h1 | h1
    · exact h1
    · exfalso
      have h2 : M * (Y + 1) ≤ M * X := Int.mul_le_mul_of_nonneg_left (by omega) (by omega)
      rw [Int.mul_add, Int.mul_one] at h2
      omega
set_option maxRecDepth 20000 in
set_option maxHeartbeats 1000000 in
theorem ahead_any (a b : List Int) (ha : a.length = 16) (hb : b.length = 16) (na : ∀ z ∈ a, 0 ≤ z ∧ z < 65536) (nb : ∀ z ∈ b, 0 ≤ z ∧ z < 65536) (w : World) :
    Calls Try.prog 59 #[.agg (i64s a).toArray, .agg (i64s b).toArray] w fun e w' => e = .returned (.bool (decide (vd a < vd b))) ∧ Below w.heap.size w w' := by
  have HL : Hid (a.length = 16 ∧ b.length = 16 ∧ (∀ z ∈ a, 0 ≤ z ∧ z < 65536) ∧ (∀ z ∈ b, 0 ≤ z ∧ z < 65536)) := ⟨ha, hb, na, nb⟩
  obtain ⟨D, hD⟩ : ∃ z, decide (vd a < vd b) = z := ⟨_, rfl⟩
  have HD : Hid (decide (vd a < vd b) = D) := hD
  rw [hD]
  clear ha hb na nb hD
  go_enter Try.func59, Try.ntmps59
  go_wp2_with (first | (refine wpList_box_new rfl 69 (.tmp 0) rfl (i64s a) rfl ?_; intro x1 z1 s1 l1) | (refine wpList_box_new rfl 69 (.tmp 1) rfl (i64s b) rfl ?_; intro x2 z2 s2 l2; rw [s1] at z2))
  have WW : Hid (Below w.heap.size w x2 ∧ Blk x2 w.heap.size 69 (i64s a) ∧ Blk x2 (w.heap.size + 1) 69 (i64s b)) := ⟨below_chain l1 l2 (by omega), z1.later l2 (by omega), z2⟩
  clear z1 s1 l1 z2 s2 l2
  go_loopw [5] (fun i wr => ∃ (k : Nat), k ≤ 16 ∧ i = .int .i64 ((k : Int) - 1) ∧ a.drop k = b.drop k ∧ Kept (fun _ => False) x2 wr) (fun i _ => (intOf i + 1).toNat)
  case atStart => exact ⟨16, by omega, rfl, by rw [List.drop_of_length_le (by rw [HL.out.1]; omega), List.drop_of_length_le (by rw [HL.out.2.1]; omega)], Kept.refl _ _⟩
  case round =>
    obtain ⟨k, hk, rfl, hdr, hkp⟩ := hrel
    by_cases h0 : k = 0
    · subst h0
      have hab : a = b := by simpa using hdr
      have HF : Hid (D = false) := by
        show D = false
        rw [← HD.out, hab]; simp
      have i1 : ¬ (0 : Int) ≤ ((0 : Nat) : Int) - 1 := by omega
      have HQ : Hid (Below w.heap.size w wr) := below_kept WW.out.1 hkp WW.out.1.size (fun j hj h => h)
      clear hdr hkp hab
      go_wp2_with fail
      go_ret
      exact ⟨by rw [HF.out]; rfl, HQ.out⟩
    · obtain ⟨j, rfl⟩ : ∃ j, k = j + 1 := ⟨k - 1, by omega⟩
      have hj : j < 16 := by omega
      rw [show (((j + 1 : Nat) : Int) - 1) = (j : Int) by omega]
      have i1 : (0 : Int) ≤ (j : Int) := by omega
      have i2 : (j : Int) < 16 := by omega
      have j1 : IntKind.i64.wrap ((j : Int) - 1) = (j : Int) - 1 := wi64 _ (by omega)
      have cX := i64s_cell (WW.out.2.1.kept hkp id) j (by rw [HL.out.1]; exact hj)
      have cY := i64s_cell (WW.out.2.2.kept hkp id) j (by rw [HL.out.2.1]; exact hj)
      have HA := ahead_at a b HL.out.1 HL.out.2.1 HL.out.2.2.1 HL.out.2.2.2 j hj hdr
      have HE : Hid (a.getD j 0 = b.getD j 0 → a.drop j = b.drop j) := fun e => by
        rw [drop_getD a j (by rw [HL.out.1]; exact hj), drop_getD b j (by rw [HL.out.2.1]; exact hj), hdr, e]
      have HQ : Hid (Kept (fun _ => False) x2 wr) := hkp
      obtain ⟨X, hX⟩ : ∃ z, a.getD j 0 = z := ⟨_, rfl⟩
      obtain ⟨Y, hY⟩ : ∃ z, b.getD j 0 = z := ⟨_, rfl⟩
      rw [hX] at cX HA HE
      rw [hY] at cY HA HE
      have HAA : Hid (X ≠ Y → ((X < Y) ↔ vd a < vd b)) := HA
      clear HA hdr hkp hX hY h0
      by_cases hxy : X = Y
      · subst hxy
        have HE2 : Hid (a.drop j = b.drop j) := HE.out rfl
        clear HE HAA
        go_wp2_with fail
        go_quiet (fail)
        go_wp2_with fail
        go_roundw
        case rel => exact ⟨j, by omega, by go_num, HE2.out, HQ.out.drewN nq⟩
        case measure => simp [intOf]
      · have HV : Hid (decide (X < Y) = D) := by
          rw [← HD.out]
          show decide (X < Y) = decide (vd a < vd b)
          exact decide_eq_decide.2 (HAA.out hxy)
        go_wp2_with fail
        go_quiet (fail)
        obtain ⟨na, hna⟩ : ∃ q, nq = q := ⟨_, rfl⟩
        rw [hna]
        go_wp2_with fail
        go_quiet (fail)
        go_wp2_with fail
        go_ret
        exact ⟨by show Ending.returned (.bool (decide (X < Y))) = _; rw [HV.out], below_dn (below_dn (below_kept WW.out.1 HQ.out WW.out.1.size (fun j hj h => h)) na) nq⟩
set_option maxRecDepth 20000 in
set_option maxHeartbeats 1000000 in
theorem rprime_any (c : Int) (hc : 0 ≤ c ∧ c ≤ 237) (w : World) :
    Calls Try.prog 50 #[.int .u8 c] w fun e w' => e = .returned (.agg (u8s (primeL c)).toArray) ∧ Below w.heap.size w w' := by
  have HL : Hid ((List.replicate 32 (255 : Int)).length = 32) := rfl
  have e0 : IntKind.u8.wrap (237 - c) = 237 - c := by rw [IntKind.wrap_u8']; omega
  clear hc
  go_enter Try.func50, Try.ntmps50
  go_wp2_with (first | ((with_reducible show wpList _ _ _ _ _ w); refine wpList_alloc_new rfl 29 rfl 32 _ zeroNum ?_; intro x1 z1 s1 l1) | (refine wpList_alloc_new rfl 29 rfl 32 _ zeroNum ?_; intro x2 z2 s2 l2; rw [s1] at z2))
  have WW : Hid (Below w.heap.size w x2 ∧ Blk x2 w.heap.size 29 (u8s (List.replicate 32 0)) ∧ Blk x2 (w.heap.size + 1) 29 (u8s (List.replicate 32 0))) := ⟨below_chain l1 l2 (by omega), z1.later l2 (by omega), z2⟩
  clear z1 s1 l1 z2 s2 l2
  go_loopw [4] (fun i wr => ∃ (k : Nat), k ≤ 32 ∧ i = .int .i64 k ∧ Blk wr (w.heap.size + 1) 29 (u8s (byK (List.replicate 32 255) k)) ∧ Kept (fun x => x = w.heap.size + 1) x2 wr) (fun i _ => 32 - (intOf i).toNat)
  case atStart => exact ⟨0, by omega, rfl, by simpa [byK] using WW.out.2.2, Kept.refl _ _⟩
  case round =>
    obtain ⟨k, hk, rfl, hblk, hkp⟩ := hrel
    by_cases hlt : k < 32
    · have i1 : (k : Int) < 32 := by omega
      have i3 : (0 : Int) ≤ (k : Int) := by omega
      have c2 : wr.cell? ⟨w.heap.size + 1, k, none⟩ = some (.int .u8 ((byK (List.replicate 32 255) k).getD k 0)) := u8s_cell hblk k (by rw [byK_length _ HL.out k hk]; exact hlt)
      have fg := hblk.frozen k
      obtain ⟨Z, hZ⟩ : ∃ z, (byK (List.replicate 32 255) k).getD k 0 = z := ⟨_, rfl⟩
      rw [hZ] at c2
      have HQ : Hid (Blk wr (w.heap.size + 1) 29 (u8s (byK (List.replicate 32 255) k)) ∧ Kept (fun x => x = w.heap.size + 1) x2 wr) := ⟨hblk, hkp⟩
      clear hblk hkp hZ
      go_wp2_with fail
      go_roundw
      case rel =>
        have e : (List.replicate 32 (255 : Int)).getD k 0 = 255 := by rw [List.getD_eq_getElem?_getD, List.getElem?_replicate, if_pos hlt]; rfl
        have R := HQ.out.1.set k (.int .u8 255)
        have e2 := byK_set (List.replicate 32 255) HL.out k hlt
        rw [e] at e2
        rw [u8s_set, e2] at R
        exact ⟨k + 1, by omega, by go_num, R, HQ.out.2.setCell rfl _⟩
      case measure => simp [intOf]; omega
    · have hk5 : k = 32 := by omega
      have i1 : ¬ ((k : Int) < 32) := by omega
      rw [hk5, byK_all _ HL.out] at hblk
      have c0 : wr.cell? ⟨w.heap.size + 1, 0, none⟩ = some (.int .u8 255) := hblk.cell 0
      have c31 : wr.cell? ⟨w.heap.size + 1, 31, none⟩ = some (.int .u8 255) := hblk.cell 31
      have f0 := hblk.frozen 0
      have f31 := hblk.frozen 31
      have X1 : Hid (Blk ((wr.setCell ⟨w.heap.size + 1, 0, none⟩ (.int .u8 (237 - c))).setCell ⟨w.heap.size + 1, 31, none⟩ (.int .u8 127)) (w.heap.size + 1) 29 (u8s (primeL c)) ∧ Blk ((wr.setCell ⟨w.heap.size + 1, 0, none⟩ (.int .u8 (237 - c))).setCell ⟨w.heap.size + 1, 31, none⟩ (.int .u8 127)) w.heap.size 29 (u8s (List.replicate 32 0)) ∧ Below w.heap.size w ((wr.setCell ⟨w.heap.size + 1, 0, none⟩ (.int .u8 (237 - c))).setCell ⟨w.heap.size + 1, 31, none⟩ (.int .u8 127)) ∧ (u8s (primeL c)).length = 32) := by
        have R := (hblk.set 0 (.int .u8 (237 - c))).set 31 (.int .u8 127)
        rw [u8s_set, u8s_set] at R
        have K := (hkp.setCell (p := ⟨w.heap.size + 1, 0, none⟩) rfl (.int .u8 (237 - c))).setCell (p := ⟨w.heap.size + 1, 31, none⟩) rfl (.int .u8 127)
        exact ⟨R, WW.out.2.1.kept K (by omega), below_kept WW.out.1 K WW.out.1.size (fun j hj => by omega), rfl⟩
      clear hblk hkp hk5 hlt hk
      go_wp2_with (first | (refine wpList_load_blk rfl 29 _ rfl (w.heap.size + 1) rfl (u8s (primeL c)) _ X1.out.1 Try.underlying29 rfl (by rw [X1.out.2.2.2]; exact sizeNum) ?_) | (refine wpList_store_blk rfl 29 29 _ _ rfl _ rfl _ (u8s (primeL c)) rfl X1.out.2.1 (by rw [X1.out.2.2.2]; rfl) (by rw [X1.out.2.2.2]; exact sizeNum) (u8s_one _) ?_; intro w6 b6 s6 k6))
      exact ret_blk rfl w.heap.size (u8s (primeL c)) _ rfl b6 Try.underlying29 rfl (by rw [X1.out.2.2.2]; exact sizeNum) rfl ⟨rfl, below_kept X1.out.2.2.1 k6 X1.out.2.2.1.size (fun j hj => by omega)⟩
end Go.Proofs.Ytfeeikkfjbdkiaa
