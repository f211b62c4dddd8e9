/- Layer digest: spread. -/
import Derived.Test.YtiimjhahblmggaaDoorDPlain
namespace Go.Proofs.YtiimjhahblmggaaDoor
open Go.RowKit
set_option linter.unusedVariables false
set_option linter.unusedSimpArgs false

theorem zero64w : (Tryd.prog.info? 91).map (fun i => (i.zero, i.size)) = some (some (.agg (u32s (List.replicate 64 0)).toArray), 64) := by kernel_rfl
theorem size64w : (Tryd.prog.info? 91).map (·.size) = some 64 := by kernel_rfl
set_option maxRecDepth 20000 in
set_option maxHeartbeats 1000000 in
theorem spread_any (zs : List Int) (hl : zs.length = 64) (w : World) :
    Calls Tryd.prog 61 #[.agg (u8s zs).toArray] w fun e w' => e = .returned (.agg (u32s (sched zs)).toArray) ∧ Below w.heap.size w w' := by
  have HL : Hid (zs.length = 64) := hl
  clear hl
  go_enter Tryd.func61, Tryd.ntmps61
  go_wp2_with (first | (refine wpList_box_new rfl 82 _ rfl (u8s zs) rfl ?_; intro w1 b1 s1 l1) | (refine wpList_alloc_new rfl 91 rfl 64 _ zero64w ?_; intro w2 b2 s2 l2))
  rename_i wa ba sa la K a
  have HB : Hid (Blk w2 w.heap.size 82 (u8s zs) ∧ Blk w2 (w.heap.size + 1) 91 (u32s (List.replicate 64 0)) ∧ Blk w2 (w.heap.size + 2) 91 (u32s (List.replicate 64 0)) ∧ Below w.heap.size w w2) :=
    ⟨(b1.later la (by omega)).later l2 (by omega), by have := ba.later l2 (by omega); rwa [s1] at this, by rwa [show wa.heap.size = w.heap.size + 2 by omega] at b2, ⟨by rw [l2.os, la.os, l1.os], by rw [l2.tape, la.tape, l1.tape], by rw [l2.output, la.output, l1.output], by omega, fun j hj => by rw [l2.block j (by omega), la.block j (by omega), l1.block j hj]⟩⟩
  have sz : w2.heap.size = w.heap.size + 3 := by omega
  clear ba sa la b1 s1 l1 b2 s2 l2
  go_loopw [10] (fun i wr => ∃ k : Nat, k ≤ 16 ∧ i = .int .i64 k ∧ Blk wr (w.heap.size + 2) 91 (u32s (w16 zs k ++ List.replicate (64 - k) 0)) ∧ Kept (fun b => b = w.heap.size + 2) w2 wr) (fun i _ => 16 - (intOf i).toNat)
  case atStart => exact ⟨0, by decide, rfl, HB.out.2.2.1, Kept.refl _ _⟩
  case round =>
    obtain ⟨k, hk, rfl, hb, hkp⟩ := hrel
    by_cases hlt : k < 16
    · have b1 := HB.out.1.kept hkp (by omega)
      have c0 := u8s_cell b1 (4 * k) (by have := HL.out; omega)
      have c1 := u8s_cell b1 (4 * k + 1) (by have := HL.out; omega)
      have c2 := u8s_cell b1 (4 * k + 2) (by have := HL.out; omega)
      have c3 := u8s_cell b1 (4 * k + 3) (by have := HL.out; omega)
      have cs := u32s_cell hb k (by simp [w16_length]; omega)
      have fs := hb.frozen k
      have i1 : (0 : Int) ≤ (k : Int) := by omega
      have i2 : (k : Int) < 16 := by omega
      have i3 : (4 * (k : Int)).toNat = 4 * k := by omega
      have i4 : (4 * (k : Int) + 1).toNat = 4 * k + 1 := by omega
      have i5 : (4 * (k : Int) + 2).toNat = 4 * k + 2 := by omega
      have i6 : (4 * (k : Int) + 3).toNat = 4 * k + 3 := by omega
      have j1 : 4 * (k : Int) < 64 := by omega
      have j2 : 4 * (k : Int) + 1 < 64 := by omega
      have j3 : 4 * (k : Int) + 2 < 64 := by omega
      have j4 : 4 * (k : Int) + 3 < 64 := by omega
      have j5 : (k : Int) < 64 := by omega
      have X0 : Hid (Blk wr (w.heap.size + 2) 91 (u32s (w16 zs k ++ List.replicate (64 - k) 0))) := hb
      clear hb b1
      go_wp2
      go_region
      go_wp2
      have R1 := X0.out.set k (.int .u32 (word4 zs k))
      rw [u32s_set, show 64 - k = (64 - (k + 1)) + 1 by omega] at R1
      have e := set_next (w16 zs k) (64 - (k + 1)) (word4 zs k) 0
      rw [w16_length] at e
      rw [e, ← w16_succ] at R1
      exact ⟨⟨k + 1, by omega, by go_num, R1, (hkp.setCell rfl _).drew⟩, by simp [intOf]; omega⟩
    · obtain rfl : k = 16 := by omega
      rw [show ((16 : Nat) : Int) = 16 from rfl]
      have X0 : Hid (Blk wr (w.heap.size + 2) 91 (u32s (wGrow zs 0 ++ List.replicate (48 - 0) 0)) ∧ Kept (fun b => b = w.heap.size + 2) w2 wr) := ⟨hb, hkp⟩
      clear hb hkp
      go_wp2
      obtain ⟨w3, rfl⟩ : ∃ w3, w3 = wr := ⟨_, rfl⟩
      go_loopw [5] (fun i wr => ∃ n : Nat, n ≤ 48 ∧ i = .int .i64 (16 + (n : Int)) ∧ Blk wr (w.heap.size + 2) 91 (u32s (wGrow zs n ++ List.replicate (48 - n) 0)) ∧ Kept (fun b => b = w.heap.size + 2) w2 wr) (fun i _ => 64 - (intOf i).toNat)
      case atStart => exact ⟨0, by decide, rfl, X0.out⟩
      case round =>
        obtain ⟨n, hn, rfl, hb, hkp⟩ := hrel
        by_cases hlt : n < 48
        · have hlen := wGrow_length zs n
          have hq : (wGrow zs n ++ List.replicate (48 - n) 0).length = 64 := by simp [hlen]; omega
          have c0 := u32s_cell hb n (by omega)
          have c1 := u32s_cell hb (n + 1) (by omega)
          have c2 := u32s_cell hb (n + 9) (by omega)
          have c3 := u32s_cell hb (n + 14) (by omega)
          have cs := u32s_cell hb (16 + n) (by omega)
          rw [getD_front _ _ _ (by omega)] at c0 c1 c2 c3
          obtain ⟨y0, hy0⟩ : ∃ y, (wGrow zs n).getD n 0 = y := ⟨_, rfl⟩
          obtain ⟨y1, hy1⟩ : ∃ y, (wGrow zs n).getD (n + 1) 0 = y := ⟨_, rfl⟩
          obtain ⟨y2, hy2⟩ : ∃ y, (wGrow zs n).getD (n + 9) 0 = y := ⟨_, rfl⟩
          obtain ⟨y3, hy3⟩ : ∃ y, (wGrow zs n).getD (n + 14) 0 = y := ⟨_, rfl⟩
          have HY : Hid (wNext (wGrow zs n) n = (y0 + sig0 y1 + y2 + sig1 y3) % 4294967296) := by
            show _ = _
            rw [wNext, hy0, hy1, hy2, hy3]
          rw [hy0] at c0
          rw [hy1] at c1
          rw [hy2] at c2
          rw [hy3] at c3
          have fs := hb.frozen (16 + n)
          have X1 : Hid (Blk wr (w.heap.size + 2) 91 (u32s (wGrow zs n ++ List.replicate (48 - n) 0))) := hb
          have X2 : Hid ((wGrow zs n).length = 16 + n) := hlen
          clear hb hy0 hy1 hy2 hy3 hlen hq
          have i1 : (16 + (n : Int) - 15).toNat = n + 1 := by omega
          have i2 : (16 + (n : Int) - 2).toNat = n + 14 := by omega
          have i3 : (16 + (n : Int) - 16).toNat = n := by omega
          have i4 : (16 + (n : Int) - 7).toNat = n + 9 := by omega
          have i5 : (16 + (n : Int)).toNat = 16 + n := by omega
          have j0 : 16 + (n : Int) < 64 := by omega
          have j1 : 16 + (n : Int) - 15 < 64 := by omega
          have j2 : 16 + (n : Int) - 2 < 64 := by omega
          have j3 : 16 + (n : Int) - 16 < 64 := by omega
          have j4 : 16 + (n : Int) - 7 < 64 := by omega
          have k0 : 0 ≤ 16 + (n : Int) := by omega
          have k1 : 0 ≤ 16 + (n : Int) - 15 := by omega
          have k2 : 0 ≤ 16 + (n : Int) - 2 := by omega
          have k3 : 0 ≤ 16 + (n : Int) - 16 := by omega
          have k4 : 0 ≤ 16 + (n : Int) - 7 := by omega
          go_wp2
          go_quiet (fail)
          go_wp2_with (go_at_call 62; refine (rot_any _ _ (by simp [Turn]) _).mono ?_; rintro e w' ⟨rfl, rfl⟩)
          go_region
          go_wp2
          go_roundw
          case rel =>
            have R1 := (X1.out.drewN (nq + 1)).set (16 + n) (.int .u32 (wNext (wGrow zs n) n))
            rw [u32s_set, show 48 - n = (48 - (n + 1)) + 1 by omega] at R1
            have e := set_next (wGrow zs n) (48 - (n + 1)) (wNext (wGrow zs n) n) 0
            rw [X2.out] at e
            rw [e, HY.out] at R1
            refine ⟨n + 1, by omega, by go_num, ?_, ((hkp.drewN nq).setCell rfl _).drew⟩
            rw [wGrow, HY.out]
            exact R1
          case measure => simp [intOf]; omega
        · obtain rfl : n = 48 := by omega
          rw [show 16 + ((48 : Nat) : Int) = 64 from rfl]
          rw [show 48 - 48 = 0 from rfl, List.replicate_zero, List.append_nil] at hb
          have c1 := HB.out.2.1.kept hkp (by omega)
          have hB : Below w.heap.size w wr := ⟨by rw [hkp.os, HB.out.2.2.2.os], by rw [hkp.tape, HB.out.2.2.2.tape], by rw [hkp.output, HB.out.2.2.2.output], by have := hkp.size; omega, fun j hj => by rw [hkp.block j (by omega) (by omega), HB.out.2.2.2.block j hj]⟩
          have X3 : Hid _ := hb
          have X4 : Hid _ := c1
          have X5 : Hid _ := hB
          clear hb c1 hB hkp
          go_wp2_with (first | (refine wpList_load_blk rfl 91 _ rfl (w.heap.size + 2) rfl (u32s (sched zs)) _ X3.out Tryd.underlying91 rfl (by rw [u32s_length, sched_length]; exact size64w) ?_) | (refine wpList_store_blk rfl 91 91 _ _ rfl (w.heap.size + 1) rfl _ (u32s (sched zs)) rfl X4.out (by rw [u32s_length, sched_length, u32s_length, List.length_replicate]) (by rw [u32s_length, sched_length]; exact size64w) (u32s_one _) ?_; intro w5 b5 s5 k5))
          exact ret_blk rfl (w.heap.size + 1) (u32s (sched zs)) _ rfl b5 Tryd.underlying91 rfl (by rw [u32s_length, sched_length]; exact size64w) rfl ⟨rfl, below_kept X5.out k5 (by have := X5.out.size; omega) (fun j hj => by omega)⟩
end Go.Proofs.YtiimjhahblmggaaDoor
