/- The document's numbers: Of, Small. -/
import Derived.Test.YtfeeikkfjbdkiaaRFLeast
import Derived.Test.YtfeeikkfjbdkiaaFNum
import Derived.Test.YtfeeikkfjbdkiaaFOf
namespace Go.Proofs.Ytfeeikkfjbdkiaa
open Go.RowKit
set_option linter.unusedVariables false
set_option linter.unusedSimpArgs false

theorem le_top (b : List Int) (hl : b.length = 32) (hb : Bytes b) : le (b.set 31 (b.getD 31 0 % 128)) = le b % 57896044618658097711785492504343953926634992332820282019728792003956564819968 := by
  have e1 := le_takeS b 31 (by omega)
  have e2 := le_takeS (b.set 31 (b.getD 31 0 % 128)) 31 (by rw [List.length_set]; omega)
  rw [List.take_of_length_le (by omega)] at e1
  rw [List.take_of_length_le (by rw [List.length_set]; omega), List.take_set_of_le (by omega)] at e2
  have e3 : (b.set 31 (b.getD 31 0 % 128)).getD 31 0 = b.getD 31 0 % 128 := by simp [List.getD, hl]
  rw [e3] at e2
  have ht := le_bd (b.take 31) (fun z hz => hb z (List.mem_of_mem_take hz))
  rw [List.length_take, hl] at ht
  have hp : (256 : Int) ^ 31 = 452312848583266388373324160190187140051835877600158453279131187530910662656 := by decide
  have hx : 0 ≤ b.getD 31 0 ∧ b.getD 31 0 < 256 := by have := hb.at 31 (by omega); omega
  rw [show min 31 32 = 31 by decide] at ht
  rw [hp] at e1 e2 ht
  rw [e1, e2]
  generalize b.getD 31 0 = X at *
  generalize le (b.take 31) = T at *
  omega
set_option maxRecDepth 20000 in
set_option maxHeartbeats 1000000 in
theorem rof_any (bs : List Int) (hl : bs.length = 32) (hb : Bytes bs) (w : World) :
    Calls Try.prog 14 #[.agg (u8s bs).toArray] w fun e w' => e = .returned (.agg (u8s (leB 32 (le bs % 57896044618658097711785492504343953926634992332820282019728792003956564819968 % PR))).toArray) ∧ Below w.heap.size w w' := by
  have hX : 0 ≤ bs.getD 31 0 ∧ bs.getD 31 0 < 256 := by have := hb.at 31 (by omega); omega
  have htop := le_top bs hl hb
  have hb2 : Bytes (bs.set 31 (bs.getD 31 0 % 128)) := fun z hz => by
    rcases List.mem_or_eq_of_mem_set hz with h | h
    · exact hb z h
    · rw [h]; omega
  have hl2 : (bs.set 31 (bs.getD 31 0 % 128)).length = 32 := by rw [List.length_set, hl]
  have hdg := digits_any _ hl2 hb2
  have hle := least_any (dgs (bs.set 31 (bs.getD 31 0 % 128))) (dgs_length 16 _ hl2) (fun z hz => by have := dgs_bd _ hb2 z hz; omega)
  rw [dgs_vd 16 _ hl2, htop] at hle
  obtain ⟨X, hXX⟩ : ∃ z, bs.getD 31 0 = z := ⟨_, rfl⟩
  rw [hXX] at hX hdg hle hl2
  obtain ⟨B2, hB2⟩ : ∃ z, bs.set 31 (X % 128) = z := ⟨_, rfl⟩
  rw [hB2] at hdg hle hl2
  obtain ⟨R, hR⟩ : ∃ z, leB 32 (le bs % 57896044618658097711785492504343953926634992332820282019728792003956564819968 % PR) = z := ⟨_, rfl⟩
  have hRl : (u8s R).length = 32 := by rw [← hR, u8s_length, leB_length]
  rw [hR] at hle ⊢
  obtain ⟨DD, hDD⟩ : ∃ z, dgs B2 = z := ⟨_, rfl⟩
  rw [hDD] at hdg hle
  have HC : Hid ((∀ w, Calls Try.prog 42 #[.agg (u8s B2).toArray] w fun e w' => e = .returned (.agg (i64s DD).toArray) ∧ Below w.heap.size w w') ∧ (∀ w, Calls Try.prog 41 #[.agg (i64s DD).toArray] w fun e w' => e = .returned (.agg (u8s R).toArray) ∧ Below w.heap.size w w')) := ⟨hdg, hle⟩
  have HL : Hid (bs.length = 32 ∧ bs.getD 31 0 = X ∧ bs.set 31 (X % 128) = B2 ∧ (u8s B2).length = 32 ∧ (u8s R).length = 32) := ⟨hl, hXX, hB2, by rw [u8s_length, hl2], hRl⟩
  have e1 : Int.tmod X 128 = X % 128 := Int.tmod_eq_emod_of_nonneg hX.1
  clear hl hb htop hb2 hl2 hdg hle hXX hB2 hR hRl hDD hX
  go_enter Try.func14, Try.ntmps14
  go_wp2_with (first | (refine wpList_box_new rfl 22 (.tmp 0) rfl (u8s bs) rfl ?_; intro x1 z1 s1 l1) | (refine wpList_alloc_new rfl 29 rfl 32 _ zeroNum ?_; intro x2 z2 s2 l2; rw [s1] at z2; have b1 := z1.later l2 (by omega); have c31 := u8s_cell b1 31 (by rw [HL.out.1]; decide); rw [HL.out.2.1] at c31; have f31 := b1.frozen 31; have B1 : Hid (Blk (x2.setCell ⟨w.heap.size, 31, none⟩ (.int .u8 (X % 128))) w.heap.size 22 (u8s B2)) := (by have h := b1.set 31 (.int .u8 (X % 128)); rw [u8s_set, HL.out.2.2.1] at h; exact h); have K1 : Hid (Kept (fun k => k = w.heap.size) x2 (x2.setCell ⟨w.heap.size, 31, none⟩ (.int .u8 (X % 128)))) := (Kept.refl (fun k => k = w.heap.size) x2).setCell (p := ⟨w.heap.size, 31, none⟩) rfl _) | ((with_reducible show wpList _ _ _ (({ dst := some 7, op := _, type := _, pos := _, after := _, guard := _ } : Oper) :: _) _ _); refine wpList_load_blk rfl 22 (.tmp 1) rfl w.heap.size rfl (u8s B2) _ B1.out Try.underlying22 rfl (by rw [HL.out.2.2.2.1]; exact size32) ?_) | (go_at_call 42; refine (HC.out.1 _).mono ?_; rintro e x3 ⟨rfl, l3⟩) | (go_at_call 41; refine (HC.out.2 _).mono ?_; rintro e x4 ⟨rfl, l4⟩) | ((with_reducible show wpList _ _ _ _ _ x4); refine wpList_store_blk rfl 29 29 _ _ rfl _ rfl _ (u8s R) rfl (((z2.kept K1.out (by omega)).later l3 (by have := K1.out.size; omega)).later l4 (by have := K1.out.size; have := l3.size; omega)) (by rw [HL.out.2.2.2.2]; rfl) (by rw [HL.out.2.2.2.2]; exact sizeNum) (u8s_one _) ?_; intro x5 b5 s5 k5))
  exact ret_blk rfl (w.heap.size + 1) (u8s R) _ rfl b5 Try.underlying29 rfl (by rw [HL.out.2.2.2.2]; exact sizeNum) rfl ⟨rfl, below_kept (below_chain (below_chain (below_kept (below_chain l1 l2 (by omega)) K1.out (by omega) (fun j hj => by omega)) l3 (by have := K1.out.size; omega)) l4 (by have := K1.out.size; have := l3.size; omega)) k5 (by have := K1.out.size; have := l3.size; have := l4.size; omega) (fun j hj => by omega)⟩
set_option maxRecDepth 20000 in
set_option maxHeartbeats 1000000 in
theorem rsmall_any (n : Int) (hn : Word n) (w : World) :
    Calls Try.prog 16 #[.int .u64 n] w fun e w' => e = .returned (.agg (u8s (leB 32 n)).toArray) ∧ Below w.heap.size w w' := by
  have HN : Hid (byK (leB 32 n) 8 = leB 32 n ∧ (leB 32 n).length = 32 ∧ (u8s (leB 32 n)).length = 32 ∧ Word n) := ⟨byK8 n hn, leB_length _ _, by rw [u8s_length, leB_length], hn⟩
  clear hn
  go_enter Try.func16, Try.ntmps16
  go_wp2_with (first | ((with_reducible show wpList _ _ _ _ _ w); refine wpList_alloc_new rfl 29 rfl 32 _ zeroNum ?_; intro x1 z1 s1 l1) | (refine wpList_alloc_new rfl 29 rfl 32 _ zeroNum ?_; intro x2 z2 s2 l2; rw [s1] at z2))
  have WW : Hid (Below w.heap.size w x2 ∧ Blk x2 w.heap.size 29 (u8s (List.replicate 32 0)) ∧ Blk x2 (w.heap.size + 1) 29 (u8s (List.replicate 32 0))) := ⟨below_chain l1 l2 (by omega), z1.later l2 (by omega), z2⟩
  clear z1 s1 l1 z2 s2 l2
  go_loopw [0, 4] (fun v i wr => ∃ (k : Nat), k ≤ 8 ∧ i = .int .i64 k ∧ v = .int .u64 (n / 256 ^ k) ∧ Blk wr (w.heap.size + 1) 29 (u8s (byK (leB 32 n) k)) ∧ Kept (fun x => x = w.heap.size + 1) x2 wr) (fun _ i _ => 8 - (intOf i).toNat)
  case atStart => exact ⟨0, by omega, rfl, by simp, by simpa [byK] using WW.out.2.2, Kept.refl _ _⟩
  case round =>
    obtain ⟨k, hk, rfl, rfl, hblk, hkp⟩ := hrel
    by_cases hlt : k < 8
    · have i1 : (k : Int) < 8 := by omega
      have i2 : (k : Int) < 32 := by omega
      have i3 : (0 : Int) ≤ (k : Int) := by omega
      have c2 : wr.cell? ⟨w.heap.size + 1, k, none⟩ = some (.int .u8 ((byK (leB 32 n) k).getD k 0)) := u8s_cell hblk k (by rw [byK_length _ HN.out.2.1 k (by omega)]; omega)
      have fg := hblk.frozen k
      obtain ⟨Z, hZ⟩ : ∃ z, (byK (leB 32 n) k).getD k 0 = z := ⟨_, rfl⟩
      rw [hZ] at c2
      have hs : n / 256 ^ (k + 1) = n / 256 ^ k / 256 := by rw [Int.pow_succ, ← Int.ediv_ediv_of_nonneg (Int.le_of_lt (Int.pow_pos (by decide)))]
      have hM : 0 ≤ n / 256 ^ k := Int.ediv_nonneg HN.out.2.2.2.1 (Int.le_of_lt (Int.pow_pos (by decide)))
      have hM2 : n / 256 ^ k < 18446744073709551616 := Int.lt_of_le_of_lt (Int.ediv_le_self _ HN.out.2.2.2.1) HN.out.2.2.2.2
      have hv := leB_at 32 n k (by omega)
      obtain ⟨M, hMM⟩ : ∃ z, n / 256 ^ k = z := ⟨_, rfl⟩
      rw [hMM] at hs hM hM2 hv ⊢
      have e3 : IntKind.u64.wrap (M / 256) = M / 256 := by rw [IntKind.wrap_u64]; omega
      have HQ : Hid (Blk wr (w.heap.size + 1) 29 (u8s (byK (leB 32 n) k)) ∧ Kept (fun x => x = w.heap.size + 1) x2 wr ∧ (leB 32 n).getD k 0 = M % 256 ∧ n / 256 ^ (k + 1) = M / 256) := ⟨hblk, hkp, hv, hs⟩
      have e1 : Int.tmod M 256 = M % 256 := Int.tmod_eq_emod_of_nonneg hM
      have e2 : Int.tdiv M 256 = M / 256 := Int.tdiv_eq_ediv_of_nonneg hM
      clear hblk hkp hZ hs hv hMM
      go_wp2_with fail
      go_roundw
      case rel =>
        have R := HQ.out.1.set k (.int .u8 (M % 256))
        have e2 := byK_set (leB 32 n) HN.out.2.1 k (by omega)
        rw [HQ.out.2.2.1] at e2
        rw [u8s_set, e2] at R
        exact ⟨k + 1, by omega, by go_num, by rw [HQ.out.2.2.2], R, HQ.out.2.1.setCell rfl _⟩
      case measure => simp [intOf]; omega
    · have hk5 : k = 8 := by omega
      have i1 : ¬ ((k : Int) < 8) := by omega
      have X1 : Hid (Blk wr (w.heap.size + 1) 29 (u8s (leB 32 n)) ∧ Blk wr w.heap.size 29 (u8s (List.replicate 32 0)) ∧ Below w.heap.size w wr) := ⟨by rw [hk5, HN.out.1] at hblk; exact hblk, WW.out.2.1.kept hkp (by omega), below_kept WW.out.1 hkp WW.out.1.size (fun j hj => by omega)⟩
      clear hblk hkp hk5 hlt hk
      go_wp2_with (first | (refine wpList_load_blk rfl 29 _ rfl (w.heap.size + 1) rfl (u8s (leB 32 n)) _ X1.out.1 Try.underlying29 rfl (by rw [HN.out.2.2.1]; exact sizeNum) ?_) | (refine wpList_store_blk rfl 29 29 _ _ rfl _ rfl _ (u8s (leB 32 n)) rfl X1.out.2.1 (by rw [HN.out.2.2.1]; rfl) (by rw [HN.out.2.2.1]; exact sizeNum) (u8s_one _) ?_; intro w6 b6 s6 k6))
      exact ret_blk rfl w.heap.size (u8s (leB 32 n)) _ rfl b6 Try.underlying29 rfl (by rw [HN.out.2.2.1]; exact sizeNum) rfl ⟨rfl, below_kept X1.out.2.2 k6 X1.out.2.2.size (fun j hj => by omega)⟩
end Go.Proofs.Ytfeeikkfjbdkiaa
