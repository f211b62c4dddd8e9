/- Layer ladder: LadderBits: what does not count. -/
import Derived.Test.YtnifolefhelmcaaLdLaws
import Derived.Test.YtnifolefhelmcaaRInvGT
import Derived.Test.YtnifolefhelmcaaFLast
import Derived.OpenShut
namespace Go.Proofs.Ytnifolefhelmcaa
open Go.RowKit
set_option linter.unusedVariables false
set_option linter.unusedSimpArgs false

theorem and7 : ∀ b : Fin 256, bits .and .u8 (b.val : Int) 7 = ((b.val % 8 : Nat) : Int) := by decide +kernel
theorem and192 : ∀ b : Fin 256, bits .and .u8 (b.val : Int) 192 = ((64 * (b.val / 64) : Nat) : Int) := by decide +kernel
theorem xor7 : ∀ (a : Fin 256) (c : Fin 8), bits .xor .u8 (a.val : Int) (c.val : Int) - bits .xor .u8 (a.val : Int) (c.val : Int) % 8 = (a.val : Int) - (a.val : Int) % 8 ∧ 0 ≤ bits .xor .u8 (a.val : Int) (c.val : Int) ∧ bits .xor .u8 (a.val : Int) (c.val : Int) < 256 := by decide +kernel
theorem xor64 : ∀ (a : Fin 256) (c : Fin 4), bits .xor .u8 (a.val : Int) ((64 * c.val : Nat) : Int) % 64 = (a.val : Int) % 64 ∧ 0 ≤ bits .xor .u8 (a.val : Int) ((64 * c.val : Nat) : Int) ∧ bits .xor .u8 (a.val : Int) ((64 * c.val : Nat) : Int) < 256 := by decide +kernel
theorem xor128 : ∀ a : Fin 256, bits .xor .u8 (a.val : Int) 128 % 128 = (a.val : Int) % 128 ∧ 0 ≤ bits .xor .u8 (a.val : Int) 128 ∧ bits .xor .u8 (a.val : Int) 128 < 256 := by decide +kernel
theorem free0 (a b : Int) (ha : 0 ≤ a ∧ a < 256) (hb : 0 ≤ b ∧ b < 256) : bits .xor .u8 a (bits .and .u8 b 7) - bits .xor .u8 a (bits .and .u8 b 7) % 8 = a - a % 8 ∧ 0 ≤ bits .xor .u8 a (bits .and .u8 b 7) ∧ bits .xor .u8 a (bits .and .u8 b 7) < 256 := by
  obtain ⟨n, rfl⟩ := Int.eq_ofNat_of_zero_le ha.1
  obtain ⟨m, rfl⟩ := Int.eq_ofNat_of_zero_le hb.1
  have h1 := and7 ⟨m, by omega⟩
  have h2 := xor7 ⟨n, by omega⟩ ⟨m % 8, by omega⟩
  simp only at h1 h2
  rw [h1]; exact h2
theorem free31 (a b : Int) (ha : 0 ≤ a ∧ a < 256) (hb : 0 ≤ b ∧ b < 256) : bits .xor .u8 a (bits .and .u8 b 192) % 64 = a % 64 ∧ 0 ≤ bits .xor .u8 a (bits .and .u8 b 192) ∧ bits .xor .u8 a (bits .and .u8 b 192) < 256 := by
  obtain ⟨n, rfl⟩ := Int.eq_ofNat_of_zero_le ha.1
  obtain ⟨m, rfl⟩ := Int.eq_ofNat_of_zero_le hb.1
  have h1 := and192 ⟨m, by omega⟩
  have h2 := xor64 ⟨n, by omega⟩ ⟨m / 64, by omega⟩
  simp only at h1 h2
  rw [h1]; exact h2
theorem high31 (a : Int) (ha : 0 ≤ a ∧ a < 256) : bits .xor .u8 a 128 % 128 = a % 128 ∧ 0 ≤ bits .xor .u8 a 128 ∧ bits .xor .u8 a 128 < 256 := by
  obtain ⟨n, rfl⟩ := Int.eq_ofNat_of_zero_le ha.1
  exact xor128 ⟨n, by omega⟩
theorem bytes_set {l : List Int} (h : Bytes l) (k : Nat) (z : Int) (hz : 0 ≤ z ∧ z < 256) : Bytes (l.set k z) := fun y hy => by
  rcases List.mem_or_eq_of_mem_set hy with q | q
  · exact h y q
  · rw [q]; exact hz
theorem last_sets (a z y : Int) (m : List Int) (hm : m.length = 30) : (a :: (m ++ [z])).getD 31 0 = z ∧ (a :: (m ++ [z])).set 31 y = a :: (m ++ [y]) := by
  refine ⟨by simp [List.getD, List.getElem?_append_right, hm], ?_⟩
  rw [List.set_cons_succ, List.set_append_right _ _ (by omega), hm]; rfl
theorem clamp_free (ks : List Int) (hl : ks.length = 32) (x y : Int) (hx : x - x % 8 = ks.getD 0 0 - ks.getD 0 0 % 8) (hy : y % 64 = ks.getD 31 0 % 64) : clampL ((ks.set 0 x).set 31 y) = clampL ks := by
  obtain ⟨a, m, z, rfl, hm⟩ := ends ks hl
  have e0 : (a :: (m ++ [z])).getD 0 0 = a := rfl
  obtain ⟨e1, _⟩ := last_sets a z y m hm
  rw [e0] at hx
  rw [e1] at hy
  have e2 : ((a :: (m ++ [z])).set 0 x).set 31 y = x :: (m ++ [y]) := (last_sets x z y m hm).2
  rw [e2, clamp_ends _ _ m hm, clamp_ends _ _ m hm, hx, hy]
theorem pub_high (us : List Int) (hl : us.length = 32) (y : Int) (hy : y % 128 = us.getD 31 0 % 128) : pubN (us.set 31 y) = pubN us := by
  obtain ⟨a, m, z, rfl, hm⟩ := ends us hl
  obtain ⟨h1, h2⟩ := last_sets a z y m hm
  rw [h1] at hy
  rw [h2]
  unfold pubN
  rw [le_ends _ _ m hm, le_ends _ _ m hm]
  congr 1
  generalize le m = M
  omega
/-- The prime and l more; l itself. -/
def moreL (l : Int) : List Int := ((List.replicate 32 255).set 0 (237 + l)).set 31 127
def lowL (l : Int) : List Int := l :: List.replicate 31 0
theorem more_pub (l : Int) (h : 0 ≤ l ∧ l ≤ 18) : pubN (moreL l) = l := by
  have e : moreL l = (237 + l) :: (List.replicate 30 255 ++ [127]) := rfl
  unfold pubN
  rw [e, le_ends _ _ _ rfl, show le (List.replicate 30 255) = 1766847064778384329583297500742918515827483896875618958121606201292619775 by decide +kernel]
  unfold PR
  omega
theorem low_pub (l : Int) (h : 0 ≤ l ∧ l ≤ 18) : pubN (lowL l) = l := by
  unfold pubN lowL
  rw [le_cons, show le (List.replicate 31 0) = 0 by decide +kernel]
  unfold PR
  omega
theorem more_bytes (l : Int) (h : 0 ≤ l ∧ l ≤ 18) : Bytes (moreL l) := bytes_set (bytes_set (fun z hz => by have := (List.mem_replicate.1 hz).2; omega) 0 _ ⟨by omega, by omega⟩) 31 _ ⟨by decide, by decide⟩
theorem low_bytes (l : Int) (h : 0 ≤ l ∧ l ≤ 18) : Bytes (lowL l) := fun z hz => by
  rcases List.mem_cons.1 hz with q | q
  · omega
  · have := (List.mem_replicate.1 q).2; omega
theorem build_low (l : Int) (w : World) : (Instr.build 58 #[(0, .int .u8 l)]).run Try.prog w = .ok (.agg (u8s (lowL l)).toArray) w := by kernel_rfl
set_option maxRecDepth 20000 in
set_option maxHeartbeats 8000000 in
theorem bits_law (ks us : List Int) (n : Int) (hk : ks.length = 32) (bk : Bytes ks) (hu : us.length = 32) (bu : Bytes us) (hn : (Lit.int .i64 n).wf = true) (w : World) :
    Calls Try.prog 10 #[.agg (u8s ks).toArray, .agg (u8s us).toArray, .int .i64 n] w fun e w' => e = .returned (.bool true) ∧ Below w.heap.size w w' := by
  have hr := range_i64 (zs := [n]) (fun m hm => by rw [List.mem_singleton] at hm; rw [hm]; exact hn) 0
  simp at hr
  obtain ⟨b, hb⟩ : ∃ b, IntKind.u8.wrap n = b := ⟨_, rfl⟩
  have hb8 : 0 ≤ b ∧ b < 256 := by rw [← hb, IntKind.wrap_u8']; omega
  obtain ⟨A, hA⟩ : ∃ z, ks.getD 0 0 = z := ⟨_, rfl⟩
  obtain ⟨C, hC⟩ : ∃ z, ks.getD 31 0 = z := ⟨_, rfl⟩
  obtain ⟨D, hD⟩ : ∃ z, us.getD 31 0 = z := ⟨_, rfl⟩
  have bA := bk.at 0 (by omega)
  have bC := bk.at 31 (by omega)
  have bD := bu.at 31 (by omega)
  rw [hA] at bA
  rw [hC] at bC
  rw [hD] at bD
  have f0 := free0 A b bA hb8
  have f1 := free31 C b bC hb8
  have f2 := high31 D bD
  obtain ⟨A', eA⟩ : ∃ z, bits .xor .u8 A (bits .and .u8 b 7) = z := ⟨_, rfl⟩
  obtain ⟨C', eC⟩ : ∃ z, bits .xor .u8 C (bits .and .u8 b 192) = z := ⟨_, rfl⟩
  obtain ⟨D', eD⟩ : ∃ z, bits .xor .u8 D 128 = z := ⟨_, rfl⟩
  rw [eA] at f0
  rw [eC] at f1
  rw [eD] at f2
  have e7 : bits .and .u8 b 7 = b % 8 := by
    obtain ⟨m, hm⟩ := Int.eq_ofNat_of_zero_le hb8.1
    have := and7 ⟨m, by omega⟩
    simp only at this
    rw [hm, this]; omega
  rw [e7] at eA
  clear e7
  have cf := clamp_free ks hk A' C' (by rw [hA]; exact f0.1) (by rw [hC]; exact f1.1)
  have ph := pub_high us hu D' (by rw [hD]; exact f2.1)
  have bF : Bytes ((ks.set 0 A').set 31 C') := bytes_set (bytes_set bk 0 _ f0.2) 31 _ f1.2
  have bH : Bytes (us.set 31 D') := bytes_set bu 31 _ f2.2
  have M1 := lmul_any ks us hk bk hu bu
  have M2 := lmul_any ((ks.set 0 A').set 31 C') (us.set 31 D') (by simp [hk]) bF (by simp [hu]) bH
  have M3 := lmul_any (clampL ks) us (by rw [clampL_length, hk]) (clampL_bytes ks bk hk) hu bu
  have e2 : prodL ((ks.set 0 A').set 31 C') (us.set 31 D') = prodL ks us := by unfold prodL prodN; rw [cf, ph]
  have e3 : prodL (clampL ks) us = prodL ks us := by unfold prodL prodN; rw [clamp_twice ks hk]
  rw [e2] at M2
  rw [e3] at M3
  have C1 := clamp_any ks hk bk
  have C2 := clamp_any (clampL ks) (by rw [clampL_length, hk]) (clampL_bytes ks bk hk)
  have C3 := clamp_any ((ks.set 0 A').set 31 C') (by simp [hk]) bF
  rw [clamp_twice ks hk] at C2
  rw [cf] at C3
  obtain ⟨l, hl⟩ : ∃ l, Int.tmod n 19 = l := ⟨_, rfl⟩
  have hl1 : -18 ≤ l ∧ l ≤ 18 := by
    rw [← hl]
    rcases Int.le_total 0 n with q | q
    · rw [Int.tmod_eq_emod_of_nonneg q]; omega
    · have := Int.neg_tmod (-n) 19
      rw [Int.neg_neg, Int.tmod_eq_emod_of_nonneg (a := -n) (by omega)] at this
      omega
  have HM : Hid (∀ x, 0 ≤ x ∧ x ≤ 18 → (∀ w, Calls Try.prog 32 #[.agg (u8s ks).toArray, .agg (u8s (lowL x)).toArray] w fun e w' => e = .returned (.agg (u8s (prodL ks (lowL x))).toArray) ∧ Below w.heap.size w w') ∧ (∀ w, Calls Try.prog 32 #[.agg (u8s ks).toArray, .agg (u8s (moreL x)).toArray] w fun e w' => e = .returned (.agg (u8s (prodL ks (lowL x))).toArray) ∧ Below w.heap.size w w')) := fun x hx => by
    have a1 := lmul_any ks (lowL x) hk bk rfl (low_bytes x hx)
    have a2 := lmul_any ks (moreL x) hk bk rfl (more_bytes x hx)
    have e : prodL ks (moreL x) = prodL ks (lowL x) := by unfold prodL prodN; rw [more_pub x hx, low_pub x hx]
    rw [e] at a2
    exact ⟨a1, a2⟩
  have N1 := prodL_length ks us
  have N2 : (clampL ks).length = 32 := by rw [clampL_length, hk]
  obtain ⟨ZZ, hZ⟩ : ∃ z, prodL ks us = z := ⟨_, rfl⟩
  rw [hZ] at M1 M2 M3 N1
  obtain ⟨CC, hCC⟩ : ∃ z, clampL ks = z := ⟨_, rfl⟩
  rw [hCC] at C1 C2 C3 M3 N2
  have qz : ∀ wx, (Op.equalIn 10000 58 (.agg (u8s ZZ).toArray) (.agg (u8s ZZ).toArray)).run Try.prog wx = .ok true wx := equal32A 58 32 Try.underlying58 9998 _ N1
  have qc : ∀ wx, (Op.equalIn 10000 58 (.agg (u8s CC).toArray) (.agg (u8s CC).toArray)).run Try.prog wx = .ok true wx := equal32A 58 32 Try.underlying58 9998 _ N2
  have HF : Hid (ks.getD 0 0 = A ∧ ks.getD 31 0 = C ∧ us.getD 31 0 = D ∧ ks.length = 32 ∧ us.length = 32) := ⟨hA, hC, hD, hk, hu⟩
  obtain ⟨FF, hFF⟩ : ∃ z, (ks.set 0 A').set 31 C' = z := ⟨_, rfl⟩
  obtain ⟨HH, hHH⟩ : ∃ z, us.set 31 D' = z := ⟨_, rfl⟩
  rw [hFF] at M2 C3
  rw [hHH] at M2
  have HE : Hid ((ks.set 0 A').set 31 C' = FF ∧ us.set 31 D' = HH) := ⟨hFF, hHH⟩
  have HL : Hid ((u8s ks).length = 32 ∧ (u8s us).length = 32 ∧ (u8s ZZ).length = 32 ∧ (u8s FF).length = 32 ∧ (u8s HH).length = 32) := ⟨by rw [u8s_length, hk], by rw [u8s_length, hu], by rw [u8s_length, N1], by rw [u8s_length, ← hFF]; simp [hk], by rw [u8s_length, ← hHH]; simp [hu]⟩
  clear hk bk hu bu hn hA hC hD bA bC bD f0 f1 f2 cf ph bF bH e2 e3 N1 N2 hZ hCC hFF hHH
  go_enter Try.func10, Try.ntmps10
  go_wp2_with (first | (refine wpList_box_new rfl 58 (.tmp 0) rfl (u8s ks) rfl ?_; intro x1 z1 s1 l1) | (refine wpList_box_new rfl 58 (.tmp 1) rfl (u8s us) rfl ?_; intro x2 z2 s2 l2; rw [s1] at z2) | ((with_reducible show wpList _ _ _ (({ dst := some 13, op := _, type := _, pos := _, after := _, guard := _ } : Oper) :: _) _ _); refine wpList_load_blk rfl 58 (.tmp 3) rfl w.heap.size rfl (u8s ks) _ (z1.later l2 (by omega)) Try.underlying58 rfl (by rw [HL.out.1]; exact sizeKey) ?_) | ((with_reducible show wpList _ _ _ (({ dst := some 7, op := _, type := _, pos := _, after := _, guard := _ } : Oper) :: _) _ _); refine wpList_alloc_new rfl 58 rfl 32 _ zeroKey ?_; intro x3 z3 s3 l3) | ((with_reducible show wpList _ _ _ (({ dst := none, op := .store 58 (.tmp 7) _, type := _, pos := _, after := _, guard := _ } : Oper) :: _) _ _); refine wpList_store_blk rfl 58 58 (.tmp 7) _ rfl _ rfl _ (u8s ks) rfl z3 (by rw [HL.out.1]; rfl) (by rw [HL.out.1]; exact sizeKey) (u8s_one _) ?_; intro x4 z4 s4 k4) | ((with_reducible show wpList _ _ _ (({ dst := some 14, op := _, type := _, pos := _, after := _, guard := _ } : Oper) :: _) _ _); refine Hid.out ?_))
  have ex2 : x2.heap.size = w.heap.size + 1 + 1 := by omega
  rw [ex2] at z4 k4
  try rw [ex2]
  have V4 : Hid (Below w.heap.size w x4 ∧ Blk x4 w.heap.size 58 (u8s ks) ∧ Blk x4 (w.heap.size + 1) 58 (u8s us) ∧ Blk x4 (w.heap.size + 1 + 1) 58 (u8s ks)) := ⟨below_kept (below_chain (below_chain l1 l2 (by omega)) l3 (by omega)) k4 (by omega) (fun j hj => by omega), ((z1.later l2 (by omega)).later l3 (by omega)).kept k4 (by omega), (z2.later l3 (by omega)).kept k4 (by omega), z4⟩
  have c0 : x4.cell? ⟨w.heap.size + 1 + 1, 0, none⟩ = some (.int .u8 A) := by rw [u8s_cell V4.out.2.2.2 0 (by rw [HF.out.2.2.2.1]; decide), HF.out.1]
  have c1 : x4.cell? ⟨w.heap.size + 1 + 1, 31, none⟩ = some (.int .u8 C) := by rw [u8s_cell V4.out.2.2.2 31 (by rw [HF.out.2.2.2.1]; decide), HF.out.2.1]
  have g0 := V4.out.2.2.2.frozen 0
  have g1 := V4.out.2.2.2.frozen 31
  clear z1 s1 l1 z2 s2 l2 z3 s3 l3 z4 s4 k4
  change wpList _ _ _ _ _ _
  go_wp2_with (first | ((with_reducible show wpList _ _ _ (({ dst := some 28, op := _, type := _, pos := _, after := _, guard := _ } : Oper) :: _) _ _); refine Hid.out ?_))
  change wpList _ _ _ _ _ _
  obtain ⟨x5, hx5⟩ : ∃ z, z = (x4.setCell ⟨w.heap.size + 1 + 1, 0, none⟩ (.int .u8 A')).setCell ⟨w.heap.size + 1 + 1, 31, none⟩ (.int .u8 C') := ⟨_, rfl⟩
  have V5 : Hid (Below w.heap.size w x5 ∧ Blk x5 w.heap.size 58 (u8s ks) ∧ Blk x5 (w.heap.size + 1) 58 (u8s us) ∧ Blk x5 (w.heap.size + 1 + 1) 58 (u8s FF)) := by
    have K := (((Kept.refl (fun k => k = w.heap.size + 1 + 1) x4).setCell (p := ⟨w.heap.size + 1 + 1, 0, none⟩) rfl (.int .u8 A')).setCell (p := ⟨w.heap.size + 1 + 1, 31, none⟩) rfl (.int .u8 C'))
    have R := (V4.out.2.2.2.set 0 (.int .u8 A')).set 31 (.int .u8 C')
    rw [u8s_set, u8s_set, HE.out.1] at R
    rw [← hx5] at K R
    exact ⟨below_kept V4.out.1 K V4.out.1.size (fun j hj => by omega), V4.out.2.1.kept K (by omega), V4.out.2.2.1.kept K (by omega), R⟩
  rw [← hx5]
  clear hx5 V4 c0 c1 g0 g1
  go_wp2_with (first | ((with_reducible show wpList _ _ _ (({ dst := some 28, op := _, type := _, pos := _, after := _, guard := _ } : Oper) :: _) _ _); refine wpList_load_blk rfl 58 (.tmp 4) rfl (w.heap.size + 1) rfl (u8s us) _ V5.out.2.2.1 Try.underlying58 rfl (by rw [HL.out.2.1]; exact sizeKey) ?_) | ((with_reducible show wpList _ _ _ (({ dst := some 8, op := _, type := _, pos := _, after := _, guard := _ } : Oper) :: _) _ _); refine wpList_alloc_new rfl 58 rfl 32 _ zeroKey ?_; intro x6 z6 s6 l6) | ((with_reducible show wpList _ _ _ (({ dst := none, op := .store 58 (.tmp 8) _, type := _, pos := _, after := _, guard := _ } : Oper) :: _) _ _); refine wpList_store_blk rfl 58 58 (.tmp 8) _ rfl _ rfl _ (u8s us) rfl z6 (by rw [HL.out.2.1]; rfl) (by rw [HL.out.2.1]; exact sizeKey) (u8s_one _) ?_; intro x7 z7 s7 k7) | ((with_reducible show wpList _ _ _ (({ dst := some 29, op := _, type := _, pos := _, after := _, guard := _ } : Oper) :: _) _ _); refine Hid.out ?_))
  obtain ⟨gh, hgh⟩ : ∃ q, x5.heap.size = q := ⟨_, rfl⟩
  rw [hgh] at z7 k7
  have V7 : Hid (Below w.heap.size w x7 ∧ Blk x7 w.heap.size 58 (u8s ks) ∧ Blk x7 (w.heap.size + 1) 58 (u8s us) ∧ Blk x7 (w.heap.size + 1 + 1) 58 (u8s FF) ∧ Blk x7 gh 58 (u8s us) ∧ w.heap.size + 1 + 1 < gh) := by
    obtain ⟨a1, a2, a3, a4⟩ := V5.out
    have q1 := a4.lt
    have q2 := a1.size
    have q3 := l6.size
    exact ⟨below_kept (below_chain a1 l6 (by omega)) k7 (by omega) (fun j hj => by omega), (a2.later l6 (by omega)).kept k7 (by omega), (a3.later l6 (by omega)).kept k7 (by omega), (a4.later l6 (by omega)).kept k7 (by omega), z7, by omega⟩
  rw [hgh]
  have c2 : x7.cell? ⟨gh, 31, none⟩ = some (.int .u8 D) := by rw [u8s_cell V7.out.2.2.2.2.1 31 (by rw [HF.out.2.2.2.2]; decide), HF.out.2.2.1]
  have g2 := V7.out.2.2.2.2.1.frozen 31
  clear z6 s6 l6 z7 s7 k7 hgh V5
  change wpList _ _ _ _ _ _
  go_wp2_with (first | ((with_reducible show wpList _ _ _ (({ dst := some 33, op := _, type := _, pos := _, after := _, guard := _ } : Oper) :: _) _ _); refine Hid.out ?_))
  change wpList _ _ _ _ _ _
  obtain ⟨x8, hx8⟩ : ∃ z, z = x7.setCell ⟨gh, 31, none⟩ (.int .u8 D') := ⟨_, rfl⟩
  have V8 : Hid (Below w.heap.size w x8 ∧ Blk x8 w.heap.size 58 (u8s ks) ∧ Blk x8 (w.heap.size + 1) 58 (u8s us) ∧ Blk x8 (w.heap.size + 1 + 1) 58 (u8s FF) ∧ Blk x8 gh 58 (u8s HH)) := by
    have K := (Kept.refl (fun k => k = gh) x7).setCell (p := ⟨gh, 31, none⟩) rfl (.int .u8 D')
    have R := V7.out.2.2.2.2.1.set 31 (.int .u8 D')
    rw [u8s_set, HE.out.2] at R
    rw [← hx8] at K R
    obtain ⟨a1, a2, a3, a4, a5, a6⟩ := V7.out
    exact ⟨below_kept a1 K a1.size (fun j hj => by omega), a2.kept K (by omega), a3.kept K (by omega), a4.kept K (by omega), R⟩
  rw [← hx8]
  clear hx8 V7 c2 g2
  go_wp2_with (first | ((with_reducible show wpList _ _ _ (({ dst := some 33, op := _, type := _, pos := _, after := _, guard := _ } : Oper) :: _) _ _); refine wpList_load_blk rfl 58 (.tmp 3) rfl w.heap.size rfl (u8s ks) _ V8.out.2.1 Try.underlying58 rfl (by rw [HL.out.1]; exact sizeKey) ?_) | ((with_reducible show wpList _ _ _ (({ dst := some 34, op := _, type := _, pos := _, after := _, guard := _ } : Oper) :: _) _ _); refine wpList_load_blk rfl 58 (.tmp 4) rfl (w.heap.size + 1) rfl (u8s us) _ V8.out.2.2.1 Try.underlying58 rfl (by rw [HL.out.2.1]; exact sizeKey) ?_) | (go_at_call 32; refine (M1 _).mono ?_; rintro e x9 ⟨rfl, l9⟩) | ((with_reducible show wpList _ _ _ (({ dst := some 9, op := _, type := _, pos := _, after := _, guard := _ } : Oper) :: _) _ _); refine wpList_alloc_new rfl 58 rfl 32 _ zeroKey ?_; intro y1 z1 s1 m1) | (refine wpList_store_blk rfl 58 58 (.tmp 9) _ rfl _ rfl _ (u8s ZZ) rfl z1 (by rw [HL.out.2.2.1]; rfl) (by rw [HL.out.2.2.1]; exact sizeKey) (u8s_one _) ?_; intro y2 z2 s2 k2))
  obtain ⟨gz, hgz⟩ : ∃ q, x9.heap.size = q := ⟨_, rfl⟩
  rw [hgz] at z2 k2
  have V9 : Hid (Below w.heap.size w y2 ∧ Blk y2 w.heap.size 58 (u8s ks) ∧ Blk y2 (w.heap.size + 1) 58 (u8s us) ∧ Blk y2 (w.heap.size + 1 + 1) 58 (u8s FF) ∧ Blk y2 gh 58 (u8s HH) ∧ Blk y2 gz 58 (u8s ZZ)) := by
    obtain ⟨a1, a2, a3, a4, a5⟩ := V8.out
    have q1 := a4.lt
    have q2 := a1.size
    have q3 := l9.size
    have q4 := a5.lt
    have q5 := m1.size
    exact ⟨below_kept (below_chain (below_chain a1 l9 (by omega)) m1 (by omega)) k2 (by omega) (fun j hj => by omega), ((a2.later l9 (by omega)).later m1 (by omega)).kept k2 (by omega), ((a3.later l9 (by omega)).later m1 (by omega)).kept k2 (by omega), ((a4.later l9 (by omega)).later m1 (by omega)).kept k2 (by omega), ((a5.later l9 (by omega)).later m1 (by omega)).kept k2 (by omega), z2⟩
  rw [hgz]
  clear z1 s1 m1 z2 s2 k2 l9 hgz V8
  try simp only [Act.put, List.setIfInBounds_toArray, List.set_cons_zero, List.set_cons_succ]
  refine region_invGT ((.val (.agg (u8s FF).toArray)) :: (.val (.agg (u8s HH).toArray)) :: (.val (.agg (u8s ZZ).toArray)) :: (.val (.agg (u8s ZZ).toArray)) :: (.val (.bool false)) :: (.val (.bool false)) :: (.val (.agg (u8s ks).toArray)) :: (.val (.agg (u8s CC).toArray)) :: (.val (.agg (u8s us).toArray)) :: (.val (.agg (u8s ZZ).toArray)) :: (.val (.agg (u8s ZZ).toArray)) :: (.val (.bool false)) :: (.val (.bool false)) :: (.val (.bool false)) :: (.val (.agg (u8s ks).toArray)) :: (.val (.agg (u8s CC).toArray)) :: (.val (.agg (u8s CC).toArray)) :: (.val (.agg (u8s ks).toArray)) :: (.val (.agg (u8s CC).toArray)) :: (.val (.bool false)) :: (.val (.bool false)) :: (.val (.bool false)) :: (.val (.agg (u8s FF).toArray)) :: (.val (.agg (u8s CC).toArray)) :: (.val (.agg (u8s ks).toArray)) :: (.val (.agg (u8s CC).toArray)) :: (.val (.bool false)) :: []) (by kernel_rfl) (by kernel_rfl) (by repeat (first | exact trivial | (refine ⟨by first | trivial | rfl, ?_⟩))) (by kernel_rfl) ?_ ?_
  · refine Steps'.cons ?_ (Steps'.cons ?_ (Steps'.cons ?_ (Steps'.cons ?_ (Steps'.cons ?_ (Steps'.cons ?_ (Steps'.cons ?_ (Steps'.cons ?_ (Steps'.cons ?_ (Steps'.cons ?_ (Steps'.cons ?_ (Steps'.cons ?_ (Steps'.cons ?_ (Steps'.cons ?_ (Steps'.cons ?_ (Steps'.cons ?_ (Steps'.cons ?_ (Steps'.cons ?_ (Steps'.cons ?_ (Steps'.cons ?_ (Steps'.cons ?_ (Steps'.cons ?_ (Steps'.cons ?_ (Steps'.cons ?_ (Steps'.cons ?_ (Steps'.cons ?_ (Steps'.cons ?_ (Steps'.one _ _ _ _ _ _ _)))))))))))))))))))))))))))
    · intro ax wx hb hs hd
      have h7 : ax.tmps.getD 7 undef = (.pointer (some ⟨(w.heap.size + 1 + 1), 0, none⟩)) := hs 7 (by kernel_rfl)
      exact Does.load 58 (.tmp 7) rfl (w.heap.size + 1 + 1) 0 h7 (u8s FF) _ ((Blk.later V9.out.2.2.2.1 hb (Blk.lt V9.out.2.2.2.1)).whole) Try.underlying58 rfl (by rw [HL.out.2.2.2.1]; exact sizeKey)
    · intro ax wx hb hs hd
      have h8 : ax.tmps.getD 8 undef = (.pointer (some ⟨gh, 0, none⟩)) := hs 8 (by kernel_rfl)
      exact Does.load 58 (.tmp 8) rfl gh 0 h8 (u8s HH) _ ((Blk.later V9.out.2.2.2.2.1 hb (Blk.lt V9.out.2.2.2.2.1)).whole) Try.underlying58 rfl (by rw [HL.out.2.2.2.2]; exact sizeKey)
    · intro ax wx hb hs hd
      have h36 : ax.tmps.getD 36 undef = (.agg (u8s FF).toArray) := hd 0 36 rfl (by kernel_rfl) (by decide)
      have h37 : ax.tmps.getD 37 undef = (.agg (u8s HH).toArray) := hd 1 37 rfl (by kernel_rfl) (by decide)
      refine Does.call 32 #[(.agg (u8s FF).toArray), (.agg (u8s HH).toArray)] (by clear hs hd; go_simp) ?_
      refine (M2 _).mono ?_
      rintro z w' ⟨rfl, l⟩
      exact ⟨_, rfl, rfl, l⟩
    · intro ax wx hb hs hd
      have h9 : ax.tmps.getD 9 undef = (.pointer (some ⟨gz, 0, none⟩)) := hs 9 (by kernel_rfl)
      exact Does.load 58 (.tmp 9) rfl gz 0 h9 (u8s ZZ) _ ((Blk.later V9.out.2.2.2.2.2 hb (Blk.lt V9.out.2.2.2.2.2)).whole) Try.underlying58 rfl (by rw [HL.out.2.2.1]; exact sizeKey)
    · intro ax wx hb hs hd
      have h38 : ax.tmps.getD 38 undef = (.agg (u8s ZZ).toArray) := hd 2 38 rfl (by kernel_rfl) (by decide)
      have h39 : ax.tmps.getD 39 undef = (.agg (u8s ZZ).toArray) := hd 3 39 rfl (by kernel_rfl) (by decide)
      refine Does.value (.bool false) ?_ rfl
      clear hs hd
      go_simp
    · intro ax wx hb hs hd
      have h40 : ax.tmps.getD 40 undef = (.bool false) := hd 4 40 rfl (by kernel_rfl) (by decide)
      refine Does.value (.bool false) ?_ rfl
      clear hs hd
      go_simp
    · intro ax wx hb hs hd
      have h3 : ax.tmps.getD 3 undef = (.pointer (some ⟨w.heap.size, 0, none⟩)) := hs 3 (by kernel_rfl)
      exact Does.load 58 (.tmp 3) rfl w.heap.size 0 h3 (u8s ks) _ ((Blk.later V9.out.2.1 hb (Blk.lt V9.out.2.1)).whole) Try.underlying58 rfl (by rw [HL.out.1]; exact sizeKey)
    · intro ax wx hb hs hd
      have h42 : ax.tmps.getD 42 undef = (.agg (u8s ks).toArray) := hd 6 42 rfl (by kernel_rfl) (by decide)
      refine Does.call 37 #[(.agg (u8s ks).toArray)] (by clear hs hd; go_simp) ?_
      refine (C1 _).mono ?_
      rintro z w' ⟨rfl, l⟩
      exact ⟨_, rfl, rfl, l⟩
    · intro ax wx hb hs hd
      have h4 : ax.tmps.getD 4 undef = (.pointer (some ⟨(w.heap.size + 1), 0, none⟩)) := hs 4 (by kernel_rfl)
      exact Does.load 58 (.tmp 4) rfl (w.heap.size + 1) 0 h4 (u8s us) _ ((Blk.later V9.out.2.2.1 hb (Blk.lt V9.out.2.2.1)).whole) Try.underlying58 rfl (by rw [HL.out.2.1]; exact sizeKey)
    · intro ax wx hb hs hd
      have h43 : ax.tmps.getD 43 undef = (.agg (u8s CC).toArray) := hd 7 43 rfl (by kernel_rfl) (by decide)
      have h44 : ax.tmps.getD 44 undef = (.agg (u8s us).toArray) := hd 8 44 rfl (by kernel_rfl) (by decide)
      refine Does.call 32 #[(.agg (u8s CC).toArray), (.agg (u8s us).toArray)] (by clear hs hd; go_simp) ?_
      refine (M3 _).mono ?_
      rintro z w' ⟨rfl, l⟩
      exact ⟨_, rfl, rfl, l⟩
    · intro ax wx hb hs hd
      have h9 : ax.tmps.getD 9 undef = (.pointer (some ⟨gz, 0, none⟩)) := hs 9 (by kernel_rfl)
      exact Does.load 58 (.tmp 9) rfl gz 0 h9 (u8s ZZ) _ ((Blk.later V9.out.2.2.2.2.2 hb (Blk.lt V9.out.2.2.2.2.2)).whole) Try.underlying58 rfl (by rw [HL.out.2.2.1]; exact sizeKey)
    · intro ax wx hb hs hd
      have h45 : ax.tmps.getD 45 undef = (.agg (u8s ZZ).toArray) := hd 9 45 rfl (by kernel_rfl) (by decide)
      have h46 : ax.tmps.getD 46 undef = (.agg (u8s ZZ).toArray) := hd 10 46 rfl (by kernel_rfl) (by decide)
      refine Does.value (.bool false) ?_ rfl
      clear hs hd
      go_simp
    · intro ax wx hb hs hd
      have h41 : ax.tmps.getD 41 undef = (.bool false) := hd 5 41 rfl (by kernel_rfl) (by decide)
      have h47 : ax.tmps.getD 47 undef = (.bool false) := hd 11 47 rfl (by kernel_rfl) (by decide)
      refine Does.value (.bool false) ?_ rfl
      clear hs hd
      go_simp
    · intro ax wx hb hs hd
      have h48 : ax.tmps.getD 48 undef = (.bool false) := hd 12 48 rfl (by kernel_rfl) (by decide)
      refine Does.value (.bool false) ?_ rfl
      clear hs hd
      go_simp
    · intro ax wx hb hs hd
      have h3 : ax.tmps.getD 3 undef = (.pointer (some ⟨w.heap.size, 0, none⟩)) := hs 3 (by kernel_rfl)
      exact Does.load 58 (.tmp 3) rfl w.heap.size 0 h3 (u8s ks) _ ((Blk.later V9.out.2.1 hb (Blk.lt V9.out.2.1)).whole) Try.underlying58 rfl (by rw [HL.out.1]; exact sizeKey)
    · intro ax wx hb hs hd
      have h50 : ax.tmps.getD 50 undef = (.agg (u8s ks).toArray) := hd 14 50 rfl (by kernel_rfl) (by decide)
      refine Does.call 37 #[(.agg (u8s ks).toArray)] (by clear hs hd; go_simp) ?_
      refine (C1 _).mono ?_
      rintro z w' ⟨rfl, l⟩
      exact ⟨_, rfl, rfl, l⟩
    · intro ax wx hb hs hd
      have h51 : ax.tmps.getD 51 undef = (.agg (u8s CC).toArray) := hd 15 51 rfl (by kernel_rfl) (by decide)
      refine Does.call 37 #[(.agg (u8s CC).toArray)] (by clear hs hd; go_simp) ?_
      refine (C2 _).mono ?_
      rintro z w' ⟨rfl, l⟩
      exact ⟨_, rfl, rfl, l⟩
    · intro ax wx hb hs hd
      have h3 : ax.tmps.getD 3 undef = (.pointer (some ⟨w.heap.size, 0, none⟩)) := hs 3 (by kernel_rfl)
      exact Does.load 58 (.tmp 3) rfl w.heap.size 0 h3 (u8s ks) _ ((Blk.later V9.out.2.1 hb (Blk.lt V9.out.2.1)).whole) Try.underlying58 rfl (by rw [HL.out.1]; exact sizeKey)
    · intro ax wx hb hs hd
      have h53 : ax.tmps.getD 53 undef = (.agg (u8s ks).toArray) := hd 17 53 rfl (by kernel_rfl) (by decide)
      refine Does.call 37 #[(.agg (u8s ks).toArray)] (by clear hs hd; go_simp) ?_
      refine (C1 _).mono ?_
      rintro z w' ⟨rfl, l⟩
      exact ⟨_, rfl, rfl, l⟩
    · intro ax wx hb hs hd
      have h52 : ax.tmps.getD 52 undef = (.agg (u8s CC).toArray) := hd 16 52 rfl (by kernel_rfl) (by decide)
      have h54 : ax.tmps.getD 54 undef = (.agg (u8s CC).toArray) := hd 18 54 rfl (by kernel_rfl) (by decide)
      refine Does.value (.bool false) ?_ rfl
      clear hs hd
      go_simp
    · intro ax wx hb hs hd
      have h49 : ax.tmps.getD 49 undef = (.bool false) := hd 13 49 rfl (by kernel_rfl) (by decide)
      have h55 : ax.tmps.getD 55 undef = (.bool false) := hd 19 55 rfl (by kernel_rfl) (by decide)
      refine Does.value (.bool false) ?_ rfl
      clear hs hd
      go_simp
    · intro ax wx hb hs hd
      have h56 : ax.tmps.getD 56 undef = (.bool false) := hd 20 56 rfl (by kernel_rfl) (by decide)
      refine Does.value (.bool false) ?_ rfl
      clear hs hd
      go_simp
    · intro ax wx hb hs hd
      have h7 : ax.tmps.getD 7 undef = (.pointer (some ⟨(w.heap.size + 1 + 1), 0, none⟩)) := hs 7 (by kernel_rfl)
      exact Does.load 58 (.tmp 7) rfl (w.heap.size + 1 + 1) 0 h7 (u8s FF) _ ((Blk.later V9.out.2.2.2.1 hb (Blk.lt V9.out.2.2.2.1)).whole) Try.underlying58 rfl (by rw [HL.out.2.2.2.1]; exact sizeKey)
    · intro ax wx hb hs hd
      have h58 : ax.tmps.getD 58 undef = (.agg (u8s FF).toArray) := hd 22 58 rfl (by kernel_rfl) (by decide)
      refine Does.call 37 #[(.agg (u8s FF).toArray)] (by clear hs hd; go_simp) ?_
      refine (C3 _).mono ?_
      rintro z w' ⟨rfl, l⟩
      exact ⟨_, rfl, rfl, l⟩
    · intro ax wx hb hs hd
      have h3 : ax.tmps.getD 3 undef = (.pointer (some ⟨w.heap.size, 0, none⟩)) := hs 3 (by kernel_rfl)
      exact Does.load 58 (.tmp 3) rfl w.heap.size 0 h3 (u8s ks) _ ((Blk.later V9.out.2.1 hb (Blk.lt V9.out.2.1)).whole) Try.underlying58 rfl (by rw [HL.out.1]; exact sizeKey)
    · intro ax wx hb hs hd
      have h60 : ax.tmps.getD 60 undef = (.agg (u8s ks).toArray) := hd 24 60 rfl (by kernel_rfl) (by decide)
      refine Does.call 37 #[(.agg (u8s ks).toArray)] (by clear hs hd; go_simp) ?_
      refine (C1 _).mono ?_
      rintro z w' ⟨rfl, l⟩
      exact ⟨_, rfl, rfl, l⟩
    · intro ax wx hb hs hd
      have h59 : ax.tmps.getD 59 undef = (.agg (u8s CC).toArray) := hd 23 59 rfl (by kernel_rfl) (by decide)
      have h61 : ax.tmps.getD 61 undef = (.agg (u8s CC).toArray) := hd 25 61 rfl (by kernel_rfl) (by decide)
      refine Does.value (.bool false) ?_ rfl
      clear hs hd
      go_simp
  · intro wx hb
    refine @Ends.val _ _ _ _ _ _ _ _ _ (.agg (u8s FF).toArray) rfl ?_
    refine @Ends.val _ _ _ _ _ _ _ _ _ (.agg (u8s HH).toArray) rfl ?_
    refine @Ends.val _ _ _ _ _ _ _ _ _ (.agg (u8s ZZ).toArray) rfl ?_
    refine @Ends.val _ _ _ _ _ _ _ _ _ (.agg (u8s ZZ).toArray) rfl ?_
    refine @Ends.val _ _ _ _ _ _ _ _ _ (.bool false) rfl ?_
    refine @Ends.val _ _ _ _ _ _ _ _ _ (.bool false) rfl ?_
    refine @Ends.val _ _ _ _ _ _ _ _ _ (.agg (u8s ks).toArray) rfl ?_
    refine @Ends.val _ _ _ _ _ _ _ _ _ (.agg (u8s CC).toArray) rfl ?_
    refine @Ends.val _ _ _ _ _ _ _ _ _ (.agg (u8s us).toArray) rfl ?_
    refine @Ends.val _ _ _ _ _ _ _ _ _ (.agg (u8s ZZ).toArray) rfl ?_
    refine @Ends.val _ _ _ _ _ _ _ _ _ (.agg (u8s ZZ).toArray) rfl ?_
    refine @Ends.val _ _ _ _ _ _ _ _ _ (.bool false) rfl ?_
    refine @Ends.val _ _ _ _ _ _ _ _ _ (.bool false) rfl ?_
    refine @Ends.val _ _ _ _ _ _ _ _ _ (.bool false) rfl ?_
    refine @Ends.val _ _ _ _ _ _ _ _ _ (.agg (u8s ks).toArray) rfl ?_
    refine @Ends.val _ _ _ _ _ _ _ _ _ (.agg (u8s CC).toArray) rfl ?_
    refine @Ends.val _ _ _ _ _ _ _ _ _ (.agg (u8s CC).toArray) rfl ?_
    refine @Ends.val _ _ _ _ _ _ _ _ _ (.agg (u8s ks).toArray) rfl ?_
    refine @Ends.val _ _ _ _ _ _ _ _ _ (.agg (u8s CC).toArray) rfl ?_
    refine @Ends.val _ _ _ _ _ _ _ _ _ (.bool false) rfl ?_
    refine @Ends.val _ _ _ _ _ _ _ _ _ (.bool false) rfl ?_
    refine @Ends.val _ _ _ _ _ _ _ _ _ (.bool false) rfl ?_
    refine @Ends.val _ _ _ _ _ _ _ _ _ (.agg (u8s FF).toArray) rfl ?_
    refine @Ends.val _ _ _ _ _ _ _ _ _ (.agg (u8s CC).toArray) rfl ?_
    refine @Ends.val _ _ _ _ _ _ _ _ _ (.agg (u8s ks).toArray) rfl ?_
    refine @Ends.val _ _ _ _ _ _ _ _ _ (.agg (u8s CC).toArray) rfl ?_
    refine @Ends.val _ _ _ _ _ _ _ _ _ (.bool false) rfl ?_
    refine @Ends.one _ _ _ _ _ _ _ ?_
    simp only [Act.put, List.setIfInBounds_toArray, List.set_cons_zero, List.set_cons_succ]
    refine last_value (some 63) rfl (.bool false) (by go_simp) ?_
    have V10 : Hid (Below w.heap.size w wx ∧ Blk wx w.heap.size 58 (u8s ks) ∧ Blk wx (w.heap.size + 1) 58 (u8s us) ∧ Blk wx (w.heap.size + 1 + 1) 58 (u8s FF) ∧ Blk wx gh 58 (u8s HH) ∧ Blk wx gz 58 (u8s ZZ)) := ⟨below_chain V9.out.1 hb V9.out.1.size, (V9.out.2.1.later hb V9.out.2.1.lt), (V9.out.2.2.1.later hb V9.out.2.2.1.lt), (V9.out.2.2.2.1.later hb V9.out.2.2.2.1.lt), (V9.out.2.2.2.2.1.later hb V9.out.2.2.2.2.1.lt), (V9.out.2.2.2.2.2.later hb V9.out.2.2.2.2.2.lt)⟩
    obtain ⟨yV10, rfl⟩ : ∃ q, q = wx := ⟨_, rfl⟩
    clear V9 hb 
    simp only [Act.put, List.setIfInBounds_toArray, List.set_cons_zero, List.set_cons_succ]
    have qq : ∀ z : List Int, z.length = 32 → ∀ wx, (Op.equalIn 10000 58 (.agg (u8s z).toArray) (.agg (u8s z).toArray)).run Try.prog wx = .ok true wx := fun z hz => equal32A 58 32 Try.underlying58 9998 _ hz
    by_cases hneg : l < 0
    · have hx : 0 ≤ (l + 19) ∧ (l + 19) ≤ 18 := by omega
      obtain ⟨X1, X2⟩ := HM.out (l + 19) hx
      obtain ⟨PP, hPP⟩ : ∃ z, prodL ks (lowL (l + 19)) = z := ⟨_, rfl⟩
      rw [hPP] at X1 X2
      have q1 := qq PP (by rw [← hPP]; exact prodL_length _ _)
      have hbl := build_low (l + 19)
      obtain ⟨LL, hLL⟩ : ∃ z, lowL (l + 19) = z := ⟨_, rfl⟩
      rw [hLL] at X1 hbl
      obtain ⟨MM, hMM⟩ : ∃ z, moreL (l + 19) = z := ⟨_, rfl⟩
      rw [hMM] at X2
      have v1 : IntKind.u8.wrap (l + 19) = (l + 19) := by rw [IntKind.wrap_u8']; omega
      have v2 : IntKind.u8.wrap (237 + (l + 19)) = 237 + (l + 19) := by rw [IntKind.wrap_u8']; omega
      have HMM : Hid (moreL (l + 19) = MM ∧ (u8s MM).length = 32) := ⟨hMM, by rw [← hMM]; rfl⟩
      have HLr : Hid ((List.replicate 32 (255 : Int)).length = 32) := rfl
      clear hPP hLL hMM qq HM
      go_wp2_with (first | ((with_reducible show wpList _ _ _ (({ dst := some 11, op := _, type := _, pos := _, after := _, guard := _ } : Oper) :: _) _ _); refine wpList_alloc_new rfl 58 rfl 32 _ zeroKey ?_; intro y3 z3 s3 l3))
      obtain ⟨gm, hgm⟩ : ∃ q, yV10.heap.size = q := ⟨_, rfl⟩
      rw [hgm] at z3 s3 ⊢
      have V11 : Hid (Below w.heap.size w y3 ∧ Blk y3 w.heap.size 58 (u8s ks) ∧ Blk y3 (w.heap.size + 1) 58 (u8s us) ∧ Blk y3 (w.heap.size + 1 + 1) 58 (u8s FF) ∧ Blk y3 gh 58 (u8s HH) ∧ Blk y3 gz 58 (u8s ZZ) ∧ Blk y3 gm 58 (u8s (List.replicate 32 0)) ∧ w.heap.size ≤ gm ∧ w.heap.size < gm ∧ (w.heap.size + 1) < gm ∧ (w.heap.size + 1 + 1) < gm ∧ gh < gm ∧ gz < gm) := by
        have q0 := V10.out.1.size
        have p0 := V10.out.2.1.lt
        have p1 := V10.out.2.2.1.lt
        have p2 := V10.out.2.2.2.1.lt
        have p3 := V10.out.2.2.2.2.1.lt
        have p4 := V10.out.2.2.2.2.2.lt
        exact ⟨below_chain V10.out.1 l3 (by omega), (V10.out.2.1).later l3 (by omega), (V10.out.2.2.1).later l3 (by omega), (V10.out.2.2.2.1).later l3 (by omega), (V10.out.2.2.2.2.1).later l3 (by omega), (V10.out.2.2.2.2.2).later l3 (by omega), z3, by omega, by omega, by omega, by omega, by omega, by omega⟩
      clear z3 s3 l3 hgm V10
      go_loopw [12] (fun i wr => ∃ (k : Nat), k ≤ 32 ∧ i = .int .i64 k ∧ Blk wr gm 58 (u8s (byK (List.replicate 32 255) k)) ∧ Kept (fun x => x = gm) y3 wr) (fun i _ => 32 - (intOf i).toNat)
      case atStart => exact ⟨0, by omega, rfl, by simpa [byK] using V11.out.2.2.2.2.2.2.1, Kept.refl _ _⟩
      case round =>
        obtain ⟨k, hk, rfl, hblk, hkp⟩ := hrel
        by_cases hlt : k < 32
        · have i1 : (k : Int) < 32 := by omega
          have i3 : (0 : Int) ≤ (k : Int) := by omega
          have c2 : wr.cell? ⟨gm, k, none⟩ = some (.int .u8 ((byK (List.replicate 32 255) k).getD k 0)) := u8s_cell hblk k (by rw [byK_length _ HLr.out k hk]; exact hlt)
          have fg := hblk.frozen k
          obtain ⟨Z, hZ⟩ : ∃ z, (byK (List.replicate 32 255) k).getD k 0 = z := ⟨_, rfl⟩
          rw [hZ] at c2
          have HQ : Hid (Blk wr gm 58 (u8s (byK (List.replicate 32 255) k)) ∧ Kept (fun x => x = gm) y3 wr) := ⟨hblk, hkp⟩
          clear hblk hkp hZ
          go_wp2_with fail
          go_roundw
          case rel =>
            have e : (List.replicate 32 (255 : Int)).getD k 0 = 255 := by rw [List.getD_eq_getElem?_getD, List.getElem?_replicate, if_pos hlt]; rfl
            have R := HQ.out.1.set k (.int .u8 255)
            have e2 := byK_set (List.replicate 32 255) HLr.out k hlt
            rw [e] at e2
            rw [u8s_set, e2] at R
            exact ⟨k + 1, by omega, by go_num, R, HQ.out.2.setCell rfl _⟩
          case measure => simp [intOf]; omega
        · have hk5 : k = 32 := by omega
          have i1 : ¬ ((k : Int) < 32) := by omega
          rw [hk5, byK_all _ HLr.out] at hblk
          have f0 := hblk.frozen 0
          have f31 := hblk.frozen 31
          have c0 : wr.cell? ⟨gm, 0, none⟩ = some (.int .u8 255) := hblk.cell 0
          have c31 : wr.cell? ⟨gm, 31, none⟩ = some (.int .u8 255) := hblk.cell 31
          obtain ⟨x12, hx12⟩ : ∃ z, z = (wr.setCell ⟨gm, 0, none⟩ (.int .u8 (237 + (l + 19)))).setCell ⟨gm, 31, none⟩ (.int .u8 127) := ⟨_, rfl⟩
          have V12 : Hid (Below w.heap.size w x12 ∧ Blk x12 w.heap.size 58 (u8s ks) ∧ Blk x12 gm 58 (u8s MM)) := by
            have R := (hblk.set 0 (.int .u8 (237 + (l + 19)))).set 31 (.int .u8 127)
            rw [u8s_set, u8s_set] at R
            have e : ((List.replicate 32 (255 : Int)).set 0 (237 + (l + 19))).set 31 127 = MM := HMM.out.1
            rw [e] at R
            have K := (hkp.setCell (p := ⟨gm, 0, none⟩) rfl (.int .u8 (237 + (l + 19)))).setCell (p := ⟨gm, 31, none⟩) rfl (.int .u8 127)
            rw [← hx12] at R K
            have g0 := V11.out.2.2.2.2.2.2.2.1
            have g1 := V11.out.2.2.2.2.2.2.2.2.1
            exact ⟨below_kept V11.out.1 K V11.out.1.size (fun j hj => by omega), V11.out.2.1.kept K (by omega), R⟩
          clear hblk hkp hk5 hlt hk
          go_wp2_with fail
          rw [← hx12]
          clear hx12 c0 c31 f0 f31 V11
          try simp only [Act.put, List.setIfInBounds_toArray, List.set_cons_zero, List.set_cons_succ]
          refine region_invG ((.val (.agg (u8s ks).toArray)) :: (.val (.int .i64 (l + 19))) :: (.val (.int .u8 (l + 19))) :: (.val (.agg (u8s LL).toArray)) :: (.val (.agg (u8s PP).toArray)) :: (.val (.agg (u8s ks).toArray)) :: (.val (.agg (u8s MM).toArray)) :: (.val (.agg (u8s PP).toArray)) :: (.val (.bool true)) :: (.val (.bool true)) :: (.val (.bool true)) :: (.val (.bool true)) :: []) (by kernel_rfl) (by kernel_rfl) (by repeat (first | exact trivial | (refine ⟨by first | trivial | rfl, ?_⟩))) (by kernel_rfl) ?_ ?_
          · refine Steps'.cons ?_ (Steps'.cons ?_ (Steps'.cons ?_ (Steps'.cons ?_ (Steps'.cons ?_ (Steps'.cons ?_ (Steps'.cons ?_ (Steps'.cons ?_ (Steps'.cons ?_ (Steps'.cons ?_ (Steps'.cons ?_ (Steps'.cons ?_ (Steps'.one _ _ _ _ _ _ _))))))))))))
            · intro ax wx hb hs hd
              have h3 : ax.tmps.getD 3 undef = (.pointer (some ⟨w.heap.size, 0, none⟩)) := hs 3 (by kernel_rfl)
              exact Does.load 58 (.tmp 3) rfl w.heap.size 0 h3 (u8s ks) _ ((Blk.later V12.out.2.1 hb (Blk.lt V12.out.2.1)).whole) Try.underlying58 rfl (by rw [HL.out.1]; exact sizeKey)
            · intro ax wx hb hs hd
              have h10 : ax.tmps.getD 10 undef = (.int .i64 (l + 19)) := hs 10 (by kernel_rfl)
              refine Does.value (.int .i64 (l + 19)) ?_ rfl
              clear hs hd
              go_simp
            · intro ax wx hb hs hd
              have h82 : ax.tmps.getD 82 undef = (.int .i64 (l + 19)) := hd 1 82 rfl (by kernel_rfl) (by decide)
              refine Does.value (.int .u8 (l + 19)) ?_ rfl
              clear hs hd
              go_simp
            · intro ax wx hb hs hd
              have h83 : ax.tmps.getD 83 undef = (.int .u8 (l + 19)) := hd 2 83 rfl (by kernel_rfl) (by decide)
              exact Does.build 58 _ rfl #[(0, .int .u8 (l + 19))] (by have e : ax.eval (.tmp 83) = .int .u8 (l + 19) := h83; simp [e]) _ (hbl _)
            · intro ax wx hb hs hd
              have h81 : ax.tmps.getD 81 undef = (.agg (u8s ks).toArray) := hd 0 81 rfl (by kernel_rfl) (by decide)
              have h84 : ax.tmps.getD 84 undef = (.agg (u8s LL).toArray) := hd 3 84 rfl (by kernel_rfl) (by decide)
              refine Does.call 32 #[(.agg (u8s ks).toArray), (.agg (u8s LL).toArray)] (by clear hs hd; go_simp) ?_
              refine (X1 _).mono ?_
              rintro z w' ⟨rfl, l⟩
              exact ⟨_, rfl, rfl, l⟩
            · intro ax wx hb hs hd
              have h3 : ax.tmps.getD 3 undef = (.pointer (some ⟨w.heap.size, 0, none⟩)) := hs 3 (by kernel_rfl)
              exact Does.load 58 (.tmp 3) rfl w.heap.size 0 h3 (u8s ks) _ ((Blk.later V12.out.2.1 hb (Blk.lt V12.out.2.1)).whole) Try.underlying58 rfl (by rw [HL.out.1]; exact sizeKey)
            · intro ax wx hb hs hd
              have h11 : ax.tmps.getD 11 undef = (.pointer (some ⟨gm, 0, none⟩)) := hs 11 (by kernel_rfl)
              exact Does.load 58 (.tmp 11) rfl gm 0 h11 (u8s MM) _ ((Blk.later V12.out.2.2 hb (Blk.lt V12.out.2.2)).whole) Try.underlying58 rfl (by rw [HMM.out.2]; exact sizeKey)
            · intro ax wx hb hs hd
              have h86 : ax.tmps.getD 86 undef = (.agg (u8s ks).toArray) := hd 5 86 rfl (by kernel_rfl) (by decide)
              have h87 : ax.tmps.getD 87 undef = (.agg (u8s MM).toArray) := hd 6 87 rfl (by kernel_rfl) (by decide)
              refine Does.call 32 #[(.agg (u8s ks).toArray), (.agg (u8s MM).toArray)] (by clear hs hd; go_simp) ?_
              refine (X2 _).mono ?_
              rintro z w' ⟨rfl, l⟩
              exact ⟨_, rfl, rfl, l⟩
            · intro ax wx hb hs hd
              have h85 : ax.tmps.getD 85 undef = (.agg (u8s PP).toArray) := hd 4 85 rfl (by kernel_rfl) (by decide)
              have h88 : ax.tmps.getD 88 undef = (.agg (u8s PP).toArray) := hd 7 88 rfl (by kernel_rfl) (by decide)
              refine Does.value (.bool true) ?_ rfl
              clear hs hd
              go_simp
            · intro ax wx hb hs hd
              have h89 : ax.tmps.getD 89 undef = (.bool true) := hd 8 89 rfl (by kernel_rfl) (by decide)
              refine Does.value (.bool true) ?_ rfl
              clear hs hd
              go_simp
            · intro ax wx hb hs hd
              refine Does.call 34 #[] (by clear hs hd; go_simp) ?_
              refine (works_any _).mono ?_
              rintro z w' ⟨rfl, l⟩
              exact ⟨_, rfl, rfl, l⟩
            · intro ax wx hb hs hd
              have h90 : ax.tmps.getD 90 undef = (.bool true) := hd 9 90 rfl (by kernel_rfl) (by decide)
              have h91 : ax.tmps.getD 91 undef = (.bool true) := hd 10 91 rfl (by kernel_rfl) (by decide)
              refine Does.value (.bool true) ?_ rfl
              clear hs hd
              go_simp
          · intro wx hb
            refine @Ends.val _ _ _ _ _ _ _ _ _ (.agg (u8s ks).toArray) rfl ?_
            refine @Ends.val _ _ _ _ _ _ _ _ _ (.int .i64 (l + 19)) rfl ?_
            refine @Ends.val _ _ _ _ _ _ _ _ _ (.int .u8 (l + 19)) rfl ?_
            refine @Ends.val _ _ _ _ _ _ _ _ _ (.agg (u8s LL).toArray) rfl ?_
            refine @Ends.val _ _ _ _ _ _ _ _ _ (.agg (u8s PP).toArray) rfl ?_
            refine @Ends.val _ _ _ _ _ _ _ _ _ (.agg (u8s ks).toArray) rfl ?_
            refine @Ends.val _ _ _ _ _ _ _ _ _ (.agg (u8s MM).toArray) rfl ?_
            refine @Ends.val _ _ _ _ _ _ _ _ _ (.agg (u8s PP).toArray) rfl ?_
            refine @Ends.val _ _ _ _ _ _ _ _ _ (.bool true) rfl ?_
            refine @Ends.val _ _ _ _ _ _ _ _ _ (.bool true) rfl ?_
            refine @Ends.val _ _ _ _ _ _ _ _ _ (.bool true) rfl ?_
            refine @Ends.val _ _ _ _ _ _ _ _ _ (.bool true) rfl ?_
            refine @Ends.one _ _ _ _ _ _ _ ?_
            simp only [Act.put, List.setIfInBounds_toArray, List.set_cons_zero, List.set_cons_succ]
            refine last_assign (.tmp 92) rfl (some 6) rfl (.bool true) rfl ?_
            have V13 : Hid (Below w.heap.size w wx ∧ Blk wx w.heap.size 58 (u8s ks) ∧ Blk wx gm 58 (u8s MM)) := ⟨below_chain V12.out.1 hb V12.out.1.size, (V12.out.2.1.later hb V12.out.2.1.lt), (V12.out.2.2.later hb V12.out.2.2.lt)⟩
            obtain ⟨yV13, rfl⟩ : ∃ q, q = wx := ⟨_, rfl⟩
            clear V12 hb 
            simp only [Act.put, List.setIfInBounds_toArray, List.set_cons_zero, List.set_cons_succ]
            go_wp2_with fail
            go_ret
            exact ⟨rfl, V13.out.1⟩
    · have hx : 0 ≤ l ∧ l ≤ 18 := by omega
      obtain ⟨X1, X2⟩ := HM.out l hx
      obtain ⟨PP, hPP⟩ : ∃ z, prodL ks (lowL l) = z := ⟨_, rfl⟩
      rw [hPP] at X1 X2
      have q1 := qq PP (by rw [← hPP]; exact prodL_length _ _)
      have hbl := build_low l
      obtain ⟨LL, hLL⟩ : ∃ z, lowL l = z := ⟨_, rfl⟩
      rw [hLL] at X1 hbl
      obtain ⟨MM, hMM⟩ : ∃ z, moreL l = z := ⟨_, rfl⟩
      rw [hMM] at X2
      have v1 : IntKind.u8.wrap l = l := by rw [IntKind.wrap_u8']; omega
      have v2 : IntKind.u8.wrap (237 + l) = 237 + l := by rw [IntKind.wrap_u8']; omega
      have HMM : Hid (moreL l = MM ∧ (u8s MM).length = 32) := ⟨hMM, by rw [← hMM]; rfl⟩
      have HLr : Hid ((List.replicate 32 (255 : Int)).length = 32) := rfl
      clear hPP hLL hMM qq HM
      go_wp2_with (first | ((with_reducible show wpList _ _ _ (({ dst := some 11, op := _, type := _, pos := _, after := _, guard := _ } : Oper) :: _) _ _); refine wpList_alloc_new rfl 58 rfl 32 _ zeroKey ?_; intro y3 z3 s3 l3))
      obtain ⟨gm, hgm⟩ : ∃ q, yV10.heap.size = q := ⟨_, rfl⟩
      rw [hgm] at z3 s3 ⊢
      have V11 : Hid (Below w.heap.size w y3 ∧ Blk y3 w.heap.size 58 (u8s ks) ∧ Blk y3 (w.heap.size + 1) 58 (u8s us) ∧ Blk y3 (w.heap.size + 1 + 1) 58 (u8s FF) ∧ Blk y3 gh 58 (u8s HH) ∧ Blk y3 gz 58 (u8s ZZ) ∧ Blk y3 gm 58 (u8s (List.replicate 32 0)) ∧ w.heap.size ≤ gm ∧ w.heap.size < gm ∧ (w.heap.size + 1) < gm ∧ (w.heap.size + 1 + 1) < gm ∧ gh < gm ∧ gz < gm) := by
        have q0 := V10.out.1.size
        have p0 := V10.out.2.1.lt
        have p1 := V10.out.2.2.1.lt
        have p2 := V10.out.2.2.2.1.lt
        have p3 := V10.out.2.2.2.2.1.lt
        have p4 := V10.out.2.2.2.2.2.lt
        exact ⟨below_chain V10.out.1 l3 (by omega), (V10.out.2.1).later l3 (by omega), (V10.out.2.2.1).later l3 (by omega), (V10.out.2.2.2.1).later l3 (by omega), (V10.out.2.2.2.2.1).later l3 (by omega), (V10.out.2.2.2.2.2).later l3 (by omega), z3, by omega, by omega, by omega, by omega, by omega, by omega⟩
      clear z3 s3 l3 hgm V10
      go_loopw [12] (fun i wr => ∃ (k : Nat), k ≤ 32 ∧ i = .int .i64 k ∧ Blk wr gm 58 (u8s (byK (List.replicate 32 255) k)) ∧ Kept (fun x => x = gm) y3 wr) (fun i _ => 32 - (intOf i).toNat)
      case atStart => exact ⟨0, by omega, rfl, by simpa [byK] using V11.out.2.2.2.2.2.2.1, Kept.refl _ _⟩
      case round =>
        obtain ⟨k, hk, rfl, hblk, hkp⟩ := hrel
        by_cases hlt : k < 32
        · have i1 : (k : Int) < 32 := by omega
          have i3 : (0 : Int) ≤ (k : Int) := by omega
          have c2 : wr.cell? ⟨gm, k, none⟩ = some (.int .u8 ((byK (List.replicate 32 255) k).getD k 0)) := u8s_cell hblk k (by rw [byK_length _ HLr.out k hk]; exact hlt)
          have fg := hblk.frozen k
          obtain ⟨Z, hZ⟩ : ∃ z, (byK (List.replicate 32 255) k).getD k 0 = z := ⟨_, rfl⟩
          rw [hZ] at c2
          have HQ : Hid (Blk wr gm 58 (u8s (byK (List.replicate 32 255) k)) ∧ Kept (fun x => x = gm) y3 wr) := ⟨hblk, hkp⟩
          clear hblk hkp hZ
          go_wp2_with fail
          go_roundw
          case rel =>
            have e : (List.replicate 32 (255 : Int)).getD k 0 = 255 := by rw [List.getD_eq_getElem?_getD, List.getElem?_replicate, if_pos hlt]; rfl
            have R := HQ.out.1.set k (.int .u8 255)
            have e2 := byK_set (List.replicate 32 255) HLr.out k hlt
            rw [e] at e2
            rw [u8s_set, e2] at R
            exact ⟨k + 1, by omega, by go_num, R, HQ.out.2.setCell rfl _⟩
          case measure => simp [intOf]; omega
        · have hk5 : k = 32 := by omega
          have i1 : ¬ ((k : Int) < 32) := by omega
          rw [hk5, byK_all _ HLr.out] at hblk
          have f0 := hblk.frozen 0
          have f31 := hblk.frozen 31
          have c0 : wr.cell? ⟨gm, 0, none⟩ = some (.int .u8 255) := hblk.cell 0
          have c31 : wr.cell? ⟨gm, 31, none⟩ = some (.int .u8 255) := hblk.cell 31
          obtain ⟨x12, hx12⟩ : ∃ z, z = (wr.setCell ⟨gm, 0, none⟩ (.int .u8 (237 + l))).setCell ⟨gm, 31, none⟩ (.int .u8 127) := ⟨_, rfl⟩
          have V12 : Hid (Below w.heap.size w x12 ∧ Blk x12 w.heap.size 58 (u8s ks) ∧ Blk x12 gm 58 (u8s MM)) := by
            have R := (hblk.set 0 (.int .u8 (237 + l))).set 31 (.int .u8 127)
            rw [u8s_set, u8s_set] at R
            have e : ((List.replicate 32 (255 : Int)).set 0 (237 + l)).set 31 127 = MM := HMM.out.1
            rw [e] at R
            have K := (hkp.setCell (p := ⟨gm, 0, none⟩) rfl (.int .u8 (237 + l))).setCell (p := ⟨gm, 31, none⟩) rfl (.int .u8 127)
            rw [← hx12] at R K
            have g0 := V11.out.2.2.2.2.2.2.2.1
            have g1 := V11.out.2.2.2.2.2.2.2.2.1
            exact ⟨below_kept V11.out.1 K V11.out.1.size (fun j hj => by omega), V11.out.2.1.kept K (by omega), R⟩
          clear hblk hkp hk5 hlt hk
          go_wp2_with fail
          rw [← hx12]
          clear hx12 c0 c31 f0 f31 V11
          try simp only [Act.put, List.setIfInBounds_toArray, List.set_cons_zero, List.set_cons_succ]
          refine region_invG ((.val (.agg (u8s ks).toArray)) :: (.val (.int .i64 l)) :: (.val (.int .u8 l)) :: (.val (.agg (u8s LL).toArray)) :: (.val (.agg (u8s PP).toArray)) :: (.val (.agg (u8s ks).toArray)) :: (.val (.agg (u8s MM).toArray)) :: (.val (.agg (u8s PP).toArray)) :: (.val (.bool true)) :: (.val (.bool true)) :: (.val (.bool true)) :: (.val (.bool true)) :: []) (by kernel_rfl) (by kernel_rfl) (by repeat (first | exact trivial | (refine ⟨by first | trivial | rfl, ?_⟩))) (by kernel_rfl) ?_ ?_
          · refine Steps'.cons ?_ (Steps'.cons ?_ (Steps'.cons ?_ (Steps'.cons ?_ (Steps'.cons ?_ (Steps'.cons ?_ (Steps'.cons ?_ (Steps'.cons ?_ (Steps'.cons ?_ (Steps'.cons ?_ (Steps'.cons ?_ (Steps'.cons ?_ (Steps'.one _ _ _ _ _ _ _))))))))))))
            · intro ax wx hb hs hd
              have h3 : ax.tmps.getD 3 undef = (.pointer (some ⟨w.heap.size, 0, none⟩)) := hs 3 (by kernel_rfl)
              exact Does.load 58 (.tmp 3) rfl w.heap.size 0 h3 (u8s ks) _ ((Blk.later V12.out.2.1 hb (Blk.lt V12.out.2.1)).whole) Try.underlying58 rfl (by rw [HL.out.1]; exact sizeKey)
            · intro ax wx hb hs hd
              have h10 : ax.tmps.getD 10 undef = (.int .i64 l) := hs 10 (by kernel_rfl)
              refine Does.value (.int .i64 l) ?_ rfl
              clear hs hd
              go_simp
            · intro ax wx hb hs hd
              have h82 : ax.tmps.getD 82 undef = (.int .i64 l) := hd 1 82 rfl (by kernel_rfl) (by decide)
              refine Does.value (.int .u8 l) ?_ rfl
              clear hs hd
              go_simp
            · intro ax wx hb hs hd
              have h83 : ax.tmps.getD 83 undef = (.int .u8 l) := hd 2 83 rfl (by kernel_rfl) (by decide)
              exact Does.build 58 _ rfl #[(0, .int .u8 l)] (by have e : ax.eval (.tmp 83) = .int .u8 l := h83; simp [e]) _ (hbl _)
            · intro ax wx hb hs hd
              have h81 : ax.tmps.getD 81 undef = (.agg (u8s ks).toArray) := hd 0 81 rfl (by kernel_rfl) (by decide)
              have h84 : ax.tmps.getD 84 undef = (.agg (u8s LL).toArray) := hd 3 84 rfl (by kernel_rfl) (by decide)
              refine Does.call 32 #[(.agg (u8s ks).toArray), (.agg (u8s LL).toArray)] (by clear hs hd; go_simp) ?_
              refine (X1 _).mono ?_
              rintro z w' ⟨rfl, l⟩
              exact ⟨_, rfl, rfl, l⟩
            · intro ax wx hb hs hd
              have h3 : ax.tmps.getD 3 undef = (.pointer (some ⟨w.heap.size, 0, none⟩)) := hs 3 (by kernel_rfl)
              exact Does.load 58 (.tmp 3) rfl w.heap.size 0 h3 (u8s ks) _ ((Blk.later V12.out.2.1 hb (Blk.lt V12.out.2.1)).whole) Try.underlying58 rfl (by rw [HL.out.1]; exact sizeKey)
            · intro ax wx hb hs hd
              have h11 : ax.tmps.getD 11 undef = (.pointer (some ⟨gm, 0, none⟩)) := hs 11 (by kernel_rfl)
              exact Does.load 58 (.tmp 11) rfl gm 0 h11 (u8s MM) _ ((Blk.later V12.out.2.2 hb (Blk.lt V12.out.2.2)).whole) Try.underlying58 rfl (by rw [HMM.out.2]; exact sizeKey)
            · intro ax wx hb hs hd
              have h86 : ax.tmps.getD 86 undef = (.agg (u8s ks).toArray) := hd 5 86 rfl (by kernel_rfl) (by decide)
              have h87 : ax.tmps.getD 87 undef = (.agg (u8s MM).toArray) := hd 6 87 rfl (by kernel_rfl) (by decide)
              refine Does.call 32 #[(.agg (u8s ks).toArray), (.agg (u8s MM).toArray)] (by clear hs hd; go_simp) ?_
              refine (X2 _).mono ?_
              rintro z w' ⟨rfl, l⟩
              exact ⟨_, rfl, rfl, l⟩
            · intro ax wx hb hs hd
              have h85 : ax.tmps.getD 85 undef = (.agg (u8s PP).toArray) := hd 4 85 rfl (by kernel_rfl) (by decide)
              have h88 : ax.tmps.getD 88 undef = (.agg (u8s PP).toArray) := hd 7 88 rfl (by kernel_rfl) (by decide)
              refine Does.value (.bool true) ?_ rfl
              clear hs hd
              go_simp
            · intro ax wx hb hs hd
              have h89 : ax.tmps.getD 89 undef = (.bool true) := hd 8 89 rfl (by kernel_rfl) (by decide)
              refine Does.value (.bool true) ?_ rfl
              clear hs hd
              go_simp
            · intro ax wx hb hs hd
              refine Does.call 34 #[] (by clear hs hd; go_simp) ?_
              refine (works_any _).mono ?_
              rintro z w' ⟨rfl, l⟩
              exact ⟨_, rfl, rfl, l⟩
            · intro ax wx hb hs hd
              have h90 : ax.tmps.getD 90 undef = (.bool true) := hd 9 90 rfl (by kernel_rfl) (by decide)
              have h91 : ax.tmps.getD 91 undef = (.bool true) := hd 10 91 rfl (by kernel_rfl) (by decide)
              refine Does.value (.bool true) ?_ rfl
              clear hs hd
              go_simp
          · intro wx hb
            refine @Ends.val _ _ _ _ _ _ _ _ _ (.agg (u8s ks).toArray) rfl ?_
            refine @Ends.val _ _ _ _ _ _ _ _ _ (.int .i64 l) rfl ?_
            refine @Ends.val _ _ _ _ _ _ _ _ _ (.int .u8 l) rfl ?_
            refine @Ends.val _ _ _ _ _ _ _ _ _ (.agg (u8s LL).toArray) rfl ?_
            refine @Ends.val _ _ _ _ _ _ _ _ _ (.agg (u8s PP).toArray) rfl ?_
            refine @Ends.val _ _ _ _ _ _ _ _ _ (.agg (u8s ks).toArray) rfl ?_
            refine @Ends.val _ _ _ _ _ _ _ _ _ (.agg (u8s MM).toArray) rfl ?_
            refine @Ends.val _ _ _ _ _ _ _ _ _ (.agg (u8s PP).toArray) rfl ?_
            refine @Ends.val _ _ _ _ _ _ _ _ _ (.bool true) rfl ?_
            refine @Ends.val _ _ _ _ _ _ _ _ _ (.bool true) rfl ?_
            refine @Ends.val _ _ _ _ _ _ _ _ _ (.bool true) rfl ?_
            refine @Ends.val _ _ _ _ _ _ _ _ _ (.bool true) rfl ?_
            refine @Ends.one _ _ _ _ _ _ _ ?_
            simp only [Act.put, List.setIfInBounds_toArray, List.set_cons_zero, List.set_cons_succ]
            refine last_assign (.tmp 92) rfl (some 6) rfl (.bool true) rfl ?_
            have V13 : Hid (Below w.heap.size w wx ∧ Blk wx w.heap.size 58 (u8s ks) ∧ Blk wx gm 58 (u8s MM)) := ⟨below_chain V12.out.1 hb V12.out.1.size, (V12.out.2.1.later hb V12.out.2.1.lt), (V12.out.2.2.later hb V12.out.2.2.lt)⟩
            obtain ⟨yV13, rfl⟩ : ∃ q, q = wx := ⟨_, rfl⟩
            clear V12 hb 
            simp only [Act.put, List.setIfInBounds_toArray, List.set_cons_zero, List.set_cons_succ]
            go_wp2_with fail
            go_ret
            exact ⟨rfl, V13.out.1⟩
end Go.Proofs.Ytnifolefhelmcaa
