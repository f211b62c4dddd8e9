/- Layer field: Bytes. -/
import Derived.Test.YtnifolefhelmcaaFRed
namespace Go.Proofs.Ytnifolefhelmcaa
open Go.RowKit
set_option linter.unusedVariables false
set_option linter.unusedSimpArgs false

theorem zero32 : (Try.prog.info? 29).map (fun i => (i.zero, i.size)) = some (some (.agg (u8s (List.replicate 32 0)).toArray), 32) := by kernel_rfl
theorem infoB8 : (Try.prog.info? 5).map (fun i => (i.zero, i.size)) = some (some (.int .u8 0), 1) := by kernel_rfl
theorem size32 : (Try.prog.info? 29).map (·.size) = some 32 := by kernel_rfl
/-- The first k of 32 bytes, noughts behind them. -/
def byK (L : List Int) (k : Nat) : List Int := L.take k ++ List.replicate (32 - k) 0
theorem byK_length (L : List Int) (hL : L.length = 32) (k : Nat) (hk : k ≤ 32) : (byK L k).length = 32 := by
  rw [byK, List.length_append, List.length_take, List.length_replicate, hL]; omega
theorem byK_set (L : List Int) (hL : L.length = 32) (k : Nat) (hk : k < 32) : (byK L k).set k (L.getD k 0) = byK L (k + 1) := by
  have e : List.replicate (32 - k) (0 : Int) = 0 :: List.replicate (32 - (k + 1)) 0 := by
    rw [show 32 - k = 32 - (k + 1) + 1 by omega, List.replicate_succ]
  have hl : (L.take k).length = k := by rw [List.length_take, hL]; omega
  rw [byK, e, List.set_append_right _ _ (by omega), hl, Nat.sub_self, List.set_cons_zero, byK, List.take_succ_eq_append_getElem (show k < L.length by omega)]
  simp only [List.getD, List.getElem?_eq_getElem (show k < L.length by omega), Option.getD_some, List.append_assoc, List.singleton_append]
theorem byK_all (L : List Int) (hL : L.length = 32) : byK L 32 = L := by
  rw [byK, List.take_of_length_le (by omega)]; simp
set_option maxHeartbeats 4000000 in
theorem byte_one (x : Int) (hx : 0 ≤ x ∧ x < 57896044618658097711785492504343953926634992332820282019728792003956564819968) (k q f : Nat) (hk : k < 32) (hq : 8 * k / 51 = q) (hf : 8 * k % 51 = f) (hA : f ≤ 43 ∨ q = 4) : (digs x).getD q 0 / 2 ^ f % 256 = (leB 32 x).getD k 0 := by
  rw [leB_at 32 x k hk]
  match k, hk with
  | 0, _ =>
    obtain rfl : q = 0 := by omega
    obtain rfl : f = 0 := by omega
    simp only [digs, List.getD_cons_zero, List.getD_cons_succ, Int.reducePow]
    clear hA hq hf
    omega
  | 1, _ =>
    obtain rfl : q = 0 := by omega
    obtain rfl : f = 8 := by omega
    simp only [digs, List.getD_cons_zero, List.getD_cons_succ, Int.reducePow]
    clear hA hq hf
    omega
  | 2, _ =>
    obtain rfl : q = 0 := by omega
    obtain rfl : f = 16 := by omega
    simp only [digs, List.getD_cons_zero, List.getD_cons_succ, Int.reducePow]
    clear hA hq hf
    omega
  | 3, _ =>
    obtain rfl : q = 0 := by omega
    obtain rfl : f = 24 := by omega
    simp only [digs, List.getD_cons_zero, List.getD_cons_succ, Int.reducePow]
    clear hA hq hf
    omega
  | 4, _ =>
    obtain rfl : q = 0 := by omega
    obtain rfl : f = 32 := by omega
    simp only [digs, List.getD_cons_zero, List.getD_cons_succ, Int.reducePow]
    clear hA hq hf
    omega
  | 5, _ =>
    obtain rfl : q = 0 := by omega
    obtain rfl : f = 40 := by omega
    simp only [digs, List.getD_cons_zero, List.getD_cons_succ, Int.reducePow]
    clear hA hq hf
    omega
  | 6, _ => omega
  | 7, _ =>
    obtain rfl : q = 1 := by omega
    obtain rfl : f = 5 := by omega
    simp only [digs, List.getD_cons_zero, List.getD_cons_succ, Int.reducePow]
    clear hA hq hf
    omega
  | 8, _ =>
    obtain rfl : q = 1 := by omega
    obtain rfl : f = 13 := by omega
    simp only [digs, List.getD_cons_zero, List.getD_cons_succ, Int.reducePow]
    clear hA hq hf
    omega
  | 9, _ =>
    obtain rfl : q = 1 := by omega
    obtain rfl : f = 21 := by omega
    simp only [digs, List.getD_cons_zero, List.getD_cons_succ, Int.reducePow]
    clear hA hq hf
    omega
  | 10, _ =>
    obtain rfl : q = 1 := by omega
    obtain rfl : f = 29 := by omega
    simp only [digs, List.getD_cons_zero, List.getD_cons_succ, Int.reducePow]
    clear hA hq hf
    omega
  | 11, _ =>
    obtain rfl : q = 1 := by omega
    obtain rfl : f = 37 := by omega
    simp only [digs, List.getD_cons_zero, List.getD_cons_succ, Int.reducePow]
    clear hA hq hf
    omega
  | 12, _ => omega
  | 13, _ =>
    obtain rfl : q = 2 := by omega
    obtain rfl : f = 2 := by omega
    simp only [digs, List.getD_cons_zero, List.getD_cons_succ, Int.reducePow]
    clear hA hq hf
    omega
  | 14, _ =>
    obtain rfl : q = 2 := by omega
    obtain rfl : f = 10 := by omega
    simp only [digs, List.getD_cons_zero, List.getD_cons_succ, Int.reducePow]
    clear hA hq hf
    omega
  | 15, _ =>
    obtain rfl : q = 2 := by omega
    obtain rfl : f = 18 := by omega
    simp only [digs, List.getD_cons_zero, List.getD_cons_succ, Int.reducePow]
    clear hA hq hf
    omega
  | 16, _ =>
    obtain rfl : q = 2 := by omega
    obtain rfl : f = 26 := by omega
    simp only [digs, List.getD_cons_zero, List.getD_cons_succ, Int.reducePow]
    clear hA hq hf
    omega
  | 17, _ =>
    obtain rfl : q = 2 := by omega
    obtain rfl : f = 34 := by omega
    simp only [digs, List.getD_cons_zero, List.getD_cons_succ, Int.reducePow]
    clear hA hq hf
    omega
  | 18, _ =>
    obtain rfl : q = 2 := by omega
    obtain rfl : f = 42 := by omega
    simp only [digs, List.getD_cons_zero, List.getD_cons_succ, Int.reducePow]
    clear hA hq hf
    omega
  | 19, _ => omega
  | 20, _ =>
    obtain rfl : q = 3 := by omega
    obtain rfl : f = 7 := by omega
    simp only [digs, List.getD_cons_zero, List.getD_cons_succ, Int.reducePow]
    clear hA hq hf
    omega
  | 21, _ =>
    obtain rfl : q = 3 := by omega
    obtain rfl : f = 15 := by omega
    simp only [digs, List.getD_cons_zero, List.getD_cons_succ, Int.reducePow]
    clear hA hq hf
    omega
  | 22, _ =>
    obtain rfl : q = 3 := by omega
    obtain rfl : f = 23 := by omega
    simp only [digs, List.getD_cons_zero, List.getD_cons_succ, Int.reducePow]
    clear hA hq hf
    omega
  | 23, _ =>
    obtain rfl : q = 3 := by omega
    obtain rfl : f = 31 := by omega
    simp only [digs, List.getD_cons_zero, List.getD_cons_succ, Int.reducePow]
    clear hA hq hf
    omega
  | 24, _ =>
    obtain rfl : q = 3 := by omega
    obtain rfl : f = 39 := by omega
    simp only [digs, List.getD_cons_zero, List.getD_cons_succ, Int.reducePow]
    clear hA hq hf
    omega
  | 25, _ => omega
  | 26, _ =>
    obtain rfl : q = 4 := by omega
    obtain rfl : f = 4 := by omega
    simp only [digs, List.getD_cons_zero, List.getD_cons_succ, Int.reducePow]
    clear hA hq hf
    omega
  | 27, _ =>
    obtain rfl : q = 4 := by omega
    obtain rfl : f = 12 := by omega
    simp only [digs, List.getD_cons_zero, List.getD_cons_succ, Int.reducePow]
    clear hA hq hf
    omega
  | 28, _ =>
    obtain rfl : q = 4 := by omega
    obtain rfl : f = 20 := by omega
    simp only [digs, List.getD_cons_zero, List.getD_cons_succ, Int.reducePow]
    clear hA hq hf
    omega
  | 29, _ =>
    obtain rfl : q = 4 := by omega
    obtain rfl : f = 28 := by omega
    simp only [digs, List.getD_cons_zero, List.getD_cons_succ, Int.reducePow]
    clear hA hq hf
    omega
  | 30, _ =>
    obtain rfl : q = 4 := by omega
    obtain rfl : f = 36 := by omega
    simp only [digs, List.getD_cons_zero, List.getD_cons_succ, Int.reducePow]
    clear hA hq hf
    omega
  | 31, _ =>
    obtain rfl : q = 4 := by omega
    obtain rfl : f = 44 := by omega
    simp only [digs, List.getD_cons_zero, List.getD_cons_succ, Int.reducePow]
    clear hA hq hf
    omega
  | k + 32, h => exact absurd h (by omega)
theorem or8 (s : Nat) (a b : Int) (hs : s ≤ 7) (ha : 0 ≤ a ∧ a < (2 ^ s : Nat)) (hb : 0 ≤ b ∧ b < 256) (hm : b % (2 ^ s : Nat) = 0) : bits .or .u8 a b = a + b := by
  obtain ⟨a, rfl⟩ := Int.eq_ofNat_of_zero_le ha.1
  obtain ⟨b, rfl⟩ := Int.eq_ofNat_of_zero_le hb.1
  have h2 : (2 : Nat) ^ s ≤ 2 ^ 7 := Nat.pow_le_pow_right (by decide) hs
  have h3 := ha.2
  rw [u8_or _ _ (by omega) (by omega) (by omega) (by omega)]
  have h4 : b % 2 ^ s = 0 := by omega
  obtain ⟨c, rfl⟩ := Nat.dvd_of_mod_eq_zero h4
  have h := Nat.shiftLeft_add_eq_or_of_lt (i := s) (b := a) (by omega) c
  rw [Int.toNat_natCast, Int.toNat_natCast, Nat.or_comm, Nat.mul_comm, ← Nat.shiftLeft_eq, ← h]
  simp [Nat.shiftLeft_eq, Int.add_comm]
set_option maxHeartbeats 4000000 in
theorem byte_two (x : Int) (hx : 0 ≤ x ∧ x < 57896044618658097711785492504343953926634992332820282019728792003956564819968) (k q f s : Nat) (hk : k < 32) (hq : 8 * k / 51 = q) (hf : 8 * k % 51 = f) (hs : 51 - f = s) (hA : 43 < f) (hB : q < 4) : bits .or .u8 ((digs x).getD q 0 / 2 ^ f % 256) (IntKind.u64.wrap ((digs x).getD (q + 1) 0 * 2 ^ s) % 256) = (leB 32 x).getD k 0 := by
  rw [leB_at 32 x k hk]
  have : k = 6 ∨ k = 12 ∨ k = 19 ∨ k = 25 := by omega
  rcases this with rfl | rfl | rfl | rfl
  · obtain rfl : q = 0 := by omega
    obtain rfl : f = 48 := by omega
    obtain rfl : s = 3 := by omega
    clear hA hB hq hf hs hk
    simp only [digs, List.getD_cons_zero, List.getD_cons_succ, Int.reducePow, IntKind.wrap_u64, Nat.reduceAdd]
    rw [or8 3 _ _ (by omega) (by simp only [Nat.reducePow]; omega) (by omega) (by simp only [Nat.reducePow]; omega)]
    omega
  · obtain rfl : q = 1 := by omega
    obtain rfl : f = 45 := by omega
    obtain rfl : s = 6 := by omega
    clear hA hB hq hf hs hk
    simp only [digs, List.getD_cons_zero, List.getD_cons_succ, Int.reducePow, IntKind.wrap_u64, Nat.reduceAdd]
    rw [or8 6 _ _ (by omega) (by simp only [Nat.reducePow]; omega) (by omega) (by simp only [Nat.reducePow]; omega)]
    omega
  · obtain rfl : q = 2 := by omega
    obtain rfl : f = 50 := by omega
    obtain rfl : s = 1 := by omega
    clear hA hB hq hf hs hk
    simp only [digs, List.getD_cons_zero, List.getD_cons_succ, Int.reducePow, IntKind.wrap_u64, Nat.reduceAdd]
    rw [or8 1 _ _ (by omega) (by simp only [Nat.reducePow]; omega) (by omega) (by simp only [Nat.reducePow]; omega)]
    omega
  · obtain rfl : q = 3 := by omega
    obtain rfl : f = 47 := by omega
    obtain rfl : s = 4 := by omega
    clear hA hB hq hf hs hk
    simp only [digs, List.getD_cons_zero, List.getD_cons_succ, Int.reducePow, IntKind.wrap_u64, Nat.reduceAdd]
    rw [or8 4 _ _ (by omega) (by simp only [Nat.reducePow]; omega) (by omega) (by simp only [Nat.reducePow]; omega)]
    omega
set_option maxRecDepth 20000 in
set_option maxHeartbeats 1000000 in
theorem fbytes_any (l : List Int) (x : Int) (hl : Fe l x) (w : World) :
    Calls Try.prog 18 #[.agg (u64s l).toArray] w fun e w' => e = .returned (.agg (u8s (leB 32 x)).toArray) ∧ Below w.heap.size w w' := by
  have HL : Hid (Fe l x ∧ l.length = 5) := ⟨hl, hl.len⟩
  clear hl
  go_enter Try.func18, Try.ntmps18
  go_wp2_with (first | (refine wpList_box_new rfl 27 (.tmp 0) rfl (u64s l) rfl ?_; intro x1 z1 s1 l1) | ((with_reducible show wpList _ _ _ _ _ x1); refine wpList_alloc_new rfl 29 rfl 32 _ zero32 ?_; intro x2 z2 s2 l2; rw [s1] at z2; have b1 := z1.later l2 (by omega)) | (go_at_call 62; refine (reduce_any _ _ _ _ b1 HL.out.1).mono ?_; rintro e x3 ⟨rfl, b3, k3⟩; have G3 : w.heap.size + 2 ≤ x3.heap.size := by have := k3.size; omega) | (refine wpList_alloc_new rfl 29 rfl 32 _ zero32 ?_; intro x4 z4 s4 l4))
  obtain ⟨G, hG⟩ : ∃ z, x3.heap.size = z := ⟨_, rfl⟩
  rw [hG] at z4 G3 ⊢
  have WW : Hid (Below w.heap.size w x4 ∧ Blk x4 w.heap.size 27 (u64s (digs x)) ∧ Blk x4 (w.heap.size + 1) 29 (u8s (List.replicate 32 0)) ∧ Blk x4 G 29 (u8s (List.replicate 32 0)) ∧ w.heap.size + 2 ≤ G) := ⟨below_chain (below_kept (below_chain l1 l2 (by omega)) k3 (by omega) (fun j hj => by omega)) l4 (by omega), b3.later l4 (by omega), (z2.kept k3 (by omega)).later l4 (by omega), z4, G3⟩
  clear z1 s1 l1 z2 s2 l2 b1 b3 k3 hG z4 s4 l4
  go_loopw [8] (fun i wr => ∃ (k : Nat), k ≤ 32 ∧ i = .int .i64 k ∧ Blk wr G 29 (u8s (byK (leB 32 x) k)) ∧ Kept (fun x => x = G) x4 wr) (fun i _ => 32 - (intOf i).toNat)
  case atStart => exact ⟨0, by omega, rfl, by simpa [byK] using WW.out.2.2.2.1, Kept.refl _ _⟩
  case round =>
    obtain ⟨k, hk, rfl, hblk, hkp⟩ := hrel
    by_cases hlt : k < 32
    · have i1 : (k : Int) < 32 := by omega
      have i3 : (0 : Int) ≤ (k : Int) := by omega
      obtain ⟨q, hq⟩ : ∃ q : Nat, 8 * k / 51 = q := ⟨_, rfl⟩
      obtain ⟨f, hf⟩ : ∃ f : Nat, 8 * k % 51 = f := ⟨_, rfl⟩
      have j1 : IntKind.i64.wrap (8 * (k : Int)) = 8 * (k : Int) := by simp only [IntKind.wrap, IntKind.bits, IntKind.signed]; simp; omega
      have j2 : Int.tdiv (8 * (k : Int)) 51 = (q : Int) := by rw [Int.tdiv_eq_ediv_of_nonneg (by omega)]; omega
      have j3 : Int.tmod (8 * (k : Int)) 51 = (f : Int) := by rw [Int.tmod_eq_emod_of_nonneg (by omega)]; omega
      have hq5 : q < 5 := by omega
      have hf5 : f < 51 := by omega
      obtain ⟨X, hX⟩ : ∃ z, (digs x).getD q 0 = z := ⟨_, rfl⟩
      have ck : wr.cell? ⟨w.heap.size, q, none⟩ = some (.int .u64 X) := by
        rw [(WW.out.2.1.kept hkp (by omega)).cell, u64s_getD (l := digs x) (show q < (digs x).length from hq5), ← hX]
        simp [List.getD, show q < (digs x).length from hq5]
      have fg := hblk.frozen k
      have j4 : (q : Int) < 5 := by omega
      have j5 : (0 : Int) ≤ (q : Int) := by omega
      have j6 : (f : Int) < 51 := by omega
      have j7 : (0 : Int) ≤ (f : Int) := by omega
      have c2 : wr.cell? ⟨G, k, none⟩ = some (.int .u8 ((byK (leB 32 x) k).getD k 0)) := u8s_cell hblk k (by rw [byK_length _ (leB_length _ _) k hk]; exact hlt)
      have HX : Hid (0 ≤ x ∧ x < 57896044618658097711785492504343953926634992332820282019728792003956564819968) := by have h := HL.out.1.bd; unfold PR at h; exact ⟨by omega, by omega⟩
      have HQ : Hid (Blk wr G 29 (u8s (byK (leB 32 x) k)) ∧ Kept (fun x => x = G) x4 wr ∧ 8 * k / 51 = q ∧ 8 * k % 51 = f ∧ (digs x).getD q 0 = X) := ⟨hblk, hkp, hq, hf, hX⟩
      obtain ⟨Z, hZ⟩ : ∃ z, (byK (leB 32 x) k).getD k 0 = z := ⟨_, rfl⟩
      rw [hZ] at c2
      by_cases hA : (43 : Int) < (f : Int)
      · by_cases hC : (q : Int) + 1 < 5
        · obtain ⟨q1, hq1⟩ : ∃ q1 : Nat, q + 1 = q1 := ⟨_, rfl⟩
          obtain ⟨s, hs⟩ : ∃ s : Nat, 51 - f = s := ⟨_, rfl⟩
          have hq15 : q1 < 5 := by omega
          obtain ⟨Y, hY⟩ : ∃ z, (digs x).getD q1 0 = z := ⟨_, rfl⟩
          have dk : wr.cell? ⟨w.heap.size, q1, none⟩ = some (.int .u64 Y) := by
            rw [(WW.out.2.1.kept hkp (by omega)).cell, u64s_getD (l := digs x) (show q1 < (digs x).length from hq15), ← hY]
            simp [List.getD, show q1 < (digs x).length from hq15]
          have hne : w.heap.size ≠ G := by have := WW.out.2.2.2.2; omega
          have g1 : IntKind.i64.wrap ((q : Int) + 1) = (q1 : Int) := by simp only [IntKind.wrap, IntKind.bits, IntKind.signed]; simp; omega
          have g2 : (q : Int) + 1 = (q1 : Int) := by omega
          have g3 : IntKind.i64.wrap (51 - (f : Int)) = (s : Int) := by simp only [IntKind.wrap, IntKind.bits, IntKind.signed]; simp; omega
          have g4 : (51 - (f : Int)) = (s : Int) := by omega
          have g5 : (q1 : Int) < 5 := by omega
          have g6 : (0 : Int) ≤ (q1 : Int) := by omega
          have g7 : (0 : Int) ≤ (s : Int) := by omega
          have g8 : IntKind.i64.wrap (q1 : Int) = (q1 : Int) := by simp only [IntKind.wrap, IntKind.bits, IntKind.signed]; simp; omega
          have g9 : IntKind.i64.wrap (s : Int) = (s : Int) := by simp only [IntKind.wrap, IntKind.bits, IntKind.signed]; simp; omega
          rw [g2] at hC
          have HY : Hid (q + 1 = q1 ∧ 51 - f = s ∧ (digs x).getD q1 0 = Y ∧ 43 < f ∧ q < 4) := ⟨hq1, hs, hY, by omega, by omega⟩
          clear hq1 hs hY hq hf hX hZ hblk hkp
          go_wp2_with fail
          go_region_with fail
          go_wp2_with fail
          all_goals (
          go_roundw
          case rel =>
            have e := byte_two x HX.out k q f s hlt HQ.out.2.2.1 HQ.out.2.2.2.1 HY.out.2.1 HY.out.2.2.2.1 HY.out.2.2.2.2
            rw [HQ.out.2.2.2.2, HY.out.1, HY.out.2.2.1] at e
            have R := ((HQ.out.1.set k (.int .u8 (X / 2 ^ f % 256))).set k (.int .u8 (bits BinOp.or IntKind.u8 (X / 2 ^ f % 256) (IntKind.u64.wrap (Y * 2 ^ s) % 256)))).drew
            rw [List.set_set, u8s_set, e, byK_set _ (leB_length _ _) k hlt] at R
            rw [e]
            exact ⟨k + 1, by omega, by go_num, R, ((HQ.out.2.1.setCell rfl _).setCell rfl _).drewN 1⟩
          case measure => simp [intOf]; omega)
        · clear hq hf hX hZ hblk hkp
          go_wp2_with fail
          go_roundw
          case rel =>
            have e := byte_one x HX.out k q f hlt HQ.out.2.2.1 HQ.out.2.2.2.1 (by omega)
            rw [HQ.out.2.2.2.2] at e
            have R := HQ.out.1.set k (.int .u8 (X / 2 ^ f % 256))
            rw [u8s_set, e, byK_set _ (leB_length _ _) k hlt] at R
            rw [e]
            exact ⟨k + 1, by omega, by go_num, R, HQ.out.2.1.setCell rfl _⟩
          case measure => simp [intOf]; omega
      · clear hq hf hX hZ hblk hkp
        go_wp2_with fail
        go_roundw
        case rel =>
          have e := byte_one x HX.out k q f hlt HQ.out.2.2.1 HQ.out.2.2.2.1 (by omega)
          rw [HQ.out.2.2.2.2] at e
          have R := HQ.out.1.set k (.int .u8 (X / 2 ^ f % 256))
          rw [u8s_set, e, byK_set _ (leB_length _ _) k hlt] at R
          rw [e]
          exact ⟨k + 1, by omega, by go_num, R, HQ.out.2.1.setCell rfl _⟩
        case measure => simp [intOf]; omega
    · have hk5 : k = 32 := by omega
      have i1 : ¬ ((k : Int) < 32) := by omega
      have X1 : Hid (Blk wr G 29 (u8s (leB 32 x)) ∧ Blk wr (w.heap.size + 1) 29 (u8s (List.replicate 32 0)) ∧ Below w.heap.size w wr ∧ (u8s (leB 32 x)).length = 32) := ⟨by rw [hk5, byK_all _ (leB_length _ _)] at hblk; exact hblk, WW.out.2.2.1.kept hkp (by have := WW.out.2.2.2.2; omega), below_kept WW.out.1 hkp WW.out.1.size (fun j hj => by have := WW.out.2.2.2.2; omega), by rw [u8s_length, leB_length]⟩
      clear hblk hkp hk5 hlt hk
      go_wp2_with (first | (refine wpList_load_blk rfl 29 _ rfl G rfl (u8s (leB 32 x)) _ X1.out.1 Try.underlying29 rfl (by rw [X1.out.2.2.2]; exact size32) ?_) | (refine wpList_store_blk rfl 29 29 _ _ rfl _ rfl _ (u8s (leB 32 x)) rfl X1.out.2.1 (by rw [X1.out.2.2.2]; rfl) (by rw [X1.out.2.2.2]; exact size32) (u8s_one _) ?_; intro w6 b6 s6 k6))
      exact ret_blk rfl (w.heap.size + 1) (u8s (leB 32 x)) _ rfl b6 Try.underlying29 rfl (by rw [X1.out.2.2.2]; exact size32) rfl ⟨rfl, below_kept X1.out.2.2.1 k6 X1.out.2.2.1.size (fun j hj => by omega)⟩
end Go.Proofs.Ytnifolefhelmcaa
