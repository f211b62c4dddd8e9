/- The document's numbers of ladder: Of, its walk. -/
import Derived.Test.YtnifolefhelmcaaQOf
namespace Go.Proofs.Ytnifolefhelmcaa
open Go.RowKit
set_option linter.unusedVariables false
set_option linter.unusedSimpArgs false

set_option maxRecDepth 20000 in
set_option maxHeartbeats 1000000 in
theorem qof_any (us : List Int) (hl : us.length = 32) (hb : Bytes us) (w : World) :
    Calls Try.prog 122 #[.agg (u8s us).toArray] w fun e w' => ∃ r, e = .returned (.agg (i64s r).toArray) ∧ Nd r (pubN us) ∧ Below w.heap.size w w' := by
  have hn := of_num us hl hb
  have h2 := (prs_vd 16 us hl).2
  have HL : Hid (us.length = 32 ∧ Bytes us ∧ (prs us).length = 16 ∧ Nd ((prs us).set 15 ((prs us).getD 15 0 % 32768)) (pubN us) ∧ (∀ z ∈ prs us, 0 ≤ z ∧ z ≤ 65535)) := ⟨hl, hb, h2, hn, prs_bd us hb⟩
  clear hl hb hn h2
  go_enter Try.func122, Try.ntmps122
  go_wp2_with (first | (refine wpList_box_new rfl 29 (.tmp 0) rfl (u8s us) rfl ?_; intro x0 z0 s0 l0) | ((with_reducible show wpList _ _ _ (({ dst := some 2, op := _, type := _, pos := _, after := _, guard := _ } : Oper) :: _) _ _); refine wpList_alloc_new rfl 140 rfl 16 _ zeroNm ?_; intro x1 z1 s1 l1; rw [s0] at z1) | ((with_reducible show wpList _ _ _ (({ dst := some 3, op := _, type := _, pos := _, after := _, guard := _ } : Oper) :: _) _ _); refine wpList_alloc_new rfl 140 rfl 16 _ zeroNm ?_; intro x2 z2 s2 l2; rw [s1, s0] at z2))
  have WW : Hid (Below w.heap.size w x2 ∧ Blk x2 w.heap.size 29 (u8s us) ∧ Blk x2 (w.heap.size + 1) 140 (i64s (List.replicate 16 0)) ∧ Blk x2 (w.heap.size + 1 + 1) 140 (i64s (List.replicate 16 0))) := ⟨below_chain (below_chain l0 l1 (by omega)) l2 (by omega), (z0.later l1 (by omega)).later l2 (by omega), z1.later l2 (by omega), z2⟩
  clear z0 s0 l0 z1 s1 l1 z2 s2 l2
  go_loopw [4] (fun i wr => ∃ (k : Nat) (L : List Int), k ≤ 16 ∧ i = .int .i64 k ∧ L.length = 16 ∧ (∀ j, j < k → L.getD j 0 = (prs us).getD j 0) ∧ Blk wr (w.heap.size + 1 + 1) 140 (i64s L) ∧ Kept (fun x => x = w.heap.size + 1 + 1) x2 wr) (fun i _ => 16 - (intOf i).toNat)
  case atStart => exact ⟨0, List.replicate 16 0, by omega, rfl, rfl, fun j hj => by omega, WW.out.2.2.2, Kept.refl _ _⟩
  case round =>
    obtain ⟨k, L, hk, rfl, hLl, hLd, hblk, hkp⟩ := hrel
    by_cases hlt : k < 16
    · have i1 : (k : Int) < 16 := by omega
      have i3 : (0 : Int) ≤ (k : Int) := by omega
      have cL := i64s_cell hblk k (by rw [hLl]; exact hlt)
      have fg := hblk.frozen k
      have hU := WW.out.2.1.kept hkp (by omega)
      have c0 := u8s_cell hU (2 * k) (by rw [HL.out.1]; omega)
      have c1 := u8s_cell hU (2 * k + 1) (by rw [HL.out.1]; omega)
      have b0 := HL.out.2.1.at (2 * k) (by rw [HL.out.1]; omega)
      have b1 := HL.out.2.1.at (2 * k + 1) (by rw [HL.out.1]; omega)
      have hp := prs_at k us (by rw [HL.out.1]; omega)
      obtain ⟨Z, hZ⟩ : ∃ z, L.getD k 0 = z := ⟨_, rfl⟩
      obtain ⟨X, hX⟩ : ∃ z, us.getD (2 * k) 0 = z := ⟨_, rfl⟩
      obtain ⟨Y, hY⟩ : ∃ z, us.getD (2 * k + 1) 0 = z := ⟨_, rfl⟩
      rw [hZ] at cL
      rw [hX] at c0 b0 hp
      rw [hY] at c1 b1 hp
      have v0 : IntKind.i64.wrap (2 * (k : Int)) = 2 * (k : Int) := by simp only [IntKind.wrap, IntKind.bits, IntKind.signed]; simp; omega
      have v1 : IntKind.i64.wrap (2 * (k : Int) + 1) = 2 * (k : Int) + 1 := by simp only [IntKind.wrap, IntKind.bits, IntKind.signed]; simp; omega
      have v2 : IntKind.i64.wrap X = X := by simp only [IntKind.wrap, IntKind.bits, IntKind.signed]; simp; omega
      have v3 : IntKind.i64.wrap Y = Y := by simp only [IntKind.wrap, IntKind.bits, IntKind.signed]; simp; omega
      have v4 : IntKind.i64.wrap (256 * Y) = 256 * Y := by simp only [IntKind.wrap, IntKind.bits, IntKind.signed]; simp; omega
      have v5 : IntKind.i64.wrap (X + 256 * Y) = X + 256 * Y := by simp only [IntKind.wrap, IntKind.bits, IntKind.signed]; simp; omega
      have t0 : (2 * (k : Int)).toNat = 2 * k := by omega
      have t1 : (2 * (k : Int) + 1).toNat = 2 * k + 1 := by omega
      have j0 : 2 * (k : Int) < 32 := by omega
      have j1 : 2 * (k : Int) + 1 < 32 := by omega
      have j2 : (0 : Int) ≤ 2 * (k : Int) := by omega
      have j3 : (0 : Int) ≤ 2 * (k : Int) + 1 := by omega
      have HQ : Hid (Blk wr (w.heap.size + 1 + 1) 140 (i64s L) ∧ Kept (fun x => x = w.heap.size + 1 + 1) x2 wr ∧ L.length = 16 ∧ (∀ j, j < k → L.getD j 0 = (prs us).getD j 0) ∧ (prs us).getD k 0 = X + 256 * Y) := ⟨hblk, hkp, hLl, hLd, hp⟩
      clear hblk hkp hLl hLd hZ hX hY hp hU
      go_wp2_with fail
      go_region_with (fail)
      all_goals (
      go_wp2_with fail
      go_roundw
      case rel =>
        have R := (HQ.out.1.set k (.int .i64 (X + 256 * Y))).drew
        rw [i64s_set] at R
        refine ⟨k + 1, L.set k (X + 256 * Y), by omega, by go_num, by rw [List.length_set]; exact HQ.out.2.2.1, fun j hj => ?_, R, (HQ.out.2.1.setCell (p := ⟨w.heap.size + 1 + 1, k, none⟩) rfl _).drewN 1⟩
        by_cases hjk : j = k
        · subst hjk
          rw [HQ.out.2.2.2.2, List.getD_eq_getElem?_getD, List.getElem?_set_self (by rw [HQ.out.2.2.1]; exact hlt)]; rfl
        · rw [← HQ.out.2.2.2.1 j (by omega)]
          simp only [List.getD]
          rw [List.getElem?_set_ne (by omega)]
      case measure => simp [intOf]; omega)
    · have hk6 : k = 16 := by omega
      have i1 : ¬ ((k : Int) < 16) := by omega
      have hLF : L = prs us := by
        refine List.ext_getElem (by rw [hLl, HL.out.2.2.1]) fun j h1 h2 => ?_
        have := hLd j (by omega)
        simpa [List.getD, h1, h2] using this
      rw [hLF] at hblk
      have c0 := i64s_cell hblk 15 (by rw [HL.out.2.2.1]; decide)
      have b0 := HL.out.2.2.2.2 ((prs us).getD 15 0) (by simp [List.getD, show 15 < (prs us).length by rw [HL.out.2.2.1]; decide])
      have f0 := hblk.frozen 15
      have hnd := HL.out.2.2.2.1
      obtain ⟨X, hX⟩ : ∃ z, (prs us).getD 15 0 = z := ⟨_, rfl⟩
      rw [hX] at c0 b0 hnd
      have e1 : Int.tmod X 32768 = X % 32768 := Int.tmod_eq_emod_of_nonneg b0.1
      obtain ⟨D, hD⟩ : ∃ z, (prs us).set 15 (X % 32768) = z := ⟨_, rfl⟩
      rw [hD] at hnd
      obtain ⟨x5, hx5⟩ : ∃ z, z = wr.setCell ⟨w.heap.size + 1 + 1, 15, none⟩ (.int .i64 (X % 32768)) := ⟨_, rfl⟩
      have V5 : Hid (Below w.heap.size w x5 ∧ Blk x5 (w.heap.size + 1) 140 (i64s (List.replicate 16 0)) ∧ Blk x5 (w.heap.size + 1 + 1) 140 (i64s D) ∧ (i64s D).length = 16 ∧ Nd D (pubN us)) := by
        have K := hkp.setCell (p := ⟨w.heap.size + 1 + 1, 15, none⟩) rfl (.int .i64 (X % 32768))
        have R := hblk.set 15 (.int .i64 (X % 32768))
        rw [i64s_set, hD] at R
        rw [← hx5] at K R
        exact ⟨below_kept WW.out.1 K WW.out.1.size (fun j hj => by omega), WW.out.2.2.1.kept K (by omega), R, by rw [i64s_length, hnd.len], hnd⟩
      clear hblk hkp hLl hLd hLF hk6 hlt hk WW hD hnd hX
      go_wp2_with (first | ((with_reducible show wpList _ _ _ (({ dst := some 28, op := _, type := _, pos := _, after := _, guard := _ } : Oper) :: _) _ _); refine Hid.out ?_))
      change wpList _ _ _ _ _ _
      rw [← hx5]
      clear hx5 c0 f0
      go_wp2_with (first | (refine wpList_load_blk rfl 140 _ rfl (w.heap.size + 1 + 1) rfl (i64s D) _ V5.out.2.2.1 Try.underlying140 rfl (by rw [V5.out.2.2.2.1]; exact sizeNm) ?_) | (refine wpList_store_blk rfl 140 140 _ _ rfl _ rfl _ (i64s D) rfl V5.out.2.1 (by rw [V5.out.2.2.2.1]; rfl) (by rw [V5.out.2.2.2.1]; exact sizeNm) (i64s_one _) ?_; intro y6 b6 s6 k6))
      exact ret_blk rfl (w.heap.size + 1) (i64s D) _ rfl b6 Try.underlying140 rfl (by rw [V5.out.2.2.2.1]; exact sizeNm) rfl ⟨D, rfl, V5.out.2.2.2.2, below_kept V5.out.1 k6 V5.out.1.size (fun j hj => by omega)⟩
end Go.Proofs.Ytnifolefhelmcaa
