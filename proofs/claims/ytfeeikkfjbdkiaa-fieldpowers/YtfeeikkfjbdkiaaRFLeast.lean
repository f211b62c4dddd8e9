/- The document's numbers: least. -/
import Derived.Test.YtfeeikkfjbdkiaaRFAh
import Derived.Test.YtfeeikkfjbdkiaaFRing
namespace Go.Proofs.Ytfeeikkfjbdkiaa
open Go.RowKit
set_option linter.unusedVariables false
set_option linter.unusedSimpArgs false

theorem sixteen {l : List Int} (h : l.length = 16) : ∃ z0 z1 z2 z3 z4 z5 z6 z7 z8 z9 z10 z11 z12 z13 z14 z15, l = [z0, z1, z2, z3, z4, z5, z6, z7, z8, z9, z10, z11, z12, z13, z14, z15] := by
  match l, h with
  | [z0, z1, z2, z3, z4, z5, z6, z7, z8, z9, z10, z11, z12, z13, z14, z15], _ => exact ⟨z0, z1, z2, z3, z4, z5, z6, z7, z8, z9, z10, z11, z12, z13, z14, z15, rfl⟩
set_option maxHeartbeats 4000000 in
theorem vd_big (l : List Int) (h : l.length = 16) (hz : ∀ z ∈ l, 0 ≤ z ∧ z < 1125899906842624) : 0 ≤ vd l ∧ vd l < 130370302485407109521180524058200202307293977194619920040712988758680403184853549195737432064 := by
  obtain ⟨z0, z1, z2, z3, z4, z5, z6, z7, z8, z9, z10, z11, z12, z13, z14, z15, rfl⟩ := sixteen h
  have h0 := hz z0 (by simp)
  have h1 := hz z1 (by simp)
  have h2 := hz z2 (by simp)
  have h3 := hz z3 (by simp)
  have h4 := hz z4 (by simp)
  have h5 := hz z5 (by simp)
  have h6 := hz z6 (by simp)
  have h7 := hz z7 (by simp)
  have h8 := hz z8 (by simp)
  have h9 := hz z9 (by simp)
  have h10 := hz z10 (by simp)
  have h11 := hz z11 (by simp)
  have h12 := hz z12 (by simp)
  have h13 := hz z13 (by simp)
  have h14 := hz z14 (by simp)
  have h15 := hz z15 (by simp)
  clear hz h
  simp only [vd]
  omega
/-- The lowest digit more by c. -/
theorem vd_first (l : List Int) (h : l.length = 16) (c : Int) : vd (l.set 0 (l.getD 0 0 + c)) = vd l + c := by
  obtain ⟨z0, z1, z2, z3, z4, z5, z6, z7, z8, z9, z10, z11, z12, z13, z14, z15, rfl⟩ := sixteen h
  simp only [List.set_cons_zero, List.getD_cons_zero, vd]
  omega
set_option maxHeartbeats 4000000 in
theorem vd_top (l : List Int) (h : l.length = 16) (hz : ∀ z ∈ l, 0 ≤ z ∧ z < 65536) : vd ((l.set 15 (l.getD 15 0 % 32768)).set 0 (l.getD 0 0 + 19 * (l.getD 15 0 / 32768))) % PR = vd l % PR ∧ 0 ≤ vd ((l.set 15 (l.getD 15 0 % 32768)).set 0 (l.getD 0 0 + 19 * (l.getD 15 0 / 32768))) ∧ vd ((l.set 15 (l.getD 15 0 % 32768)).set 0 (l.getD 0 0 + 19 * (l.getD 15 0 / 32768))) < 57896044618658097711785492504343953926634992332820282019728792003956564819987 := by
  obtain ⟨z0, z1, z2, z3, z4, z5, z6, z7, z8, z9, z10, z11, z12, z13, z14, z15, rfl⟩ := sixteen h
  have h0 := hz z0 (by simp)
  have h1 := hz z1 (by simp)
  have h2 := hz z2 (by simp)
  have h3 := hz z3 (by simp)
  have h4 := hz z4 (by simp)
  have h5 := hz z5 (by simp)
  have h6 := hz z6 (by simp)
  have h7 := hz z7 (by simp)
  have h8 := hz z8 (by simp)
  have h9 := hz z9 (by simp)
  have h10 := hz z10 (by simp)
  have h11 := hz z11 (by simp)
  have h12 := hz z12 (by simp)
  have h13 := hz z13 (by simp)
  have h14 := hz z14 (by simp)
  have h15 := hz z15 (by simp)
  clear hz h
  simp only [List.set_cons_zero, List.set_cons_succ, List.getD_cons_zero, List.getD_cons_succ, vd]
  unfold PR
  refine ⟨by omega, by omega, by omega⟩
theorem set_bd (l : List Int) (k : Nat) (v B : Int) (h : ∀ z ∈ l, 0 ≤ z ∧ z < B) (hv : 0 ≤ v ∧ v < B) : ∀ z ∈ l.set k v, 0 ≤ z ∧ z < B := by
  intro z hz
  rcases List.mem_or_eq_of_mem_set hz with h1 | h1
  · exact h z h1
  · rw [h1]; exact hv
theorem ldD16 (v : Int) (h : 0 ≤ v ∧ v < 115792089237316195423570985008687907853269984665640564039457584007913129639936) : vd (ldD 16 v) = v := by
  rw [vd_ldD, show (65536 : Int) ^ 16 = 115792089237316195423570985008687907853269984665640564039457584007913129639936 by decide]
  exact Int.emod_eq_of_lt h.1 h.2
theorem ldD16m (v : Int) : vd (ldD 16 v) = v % 115792089237316195423570985008687907853269984665640564039457584007913129639936 := by
  rw [vd_ldD, show (65536 : Int) ^ 16 = 115792089237316195423570985008687907853269984665640564039457584007913129639936 by decide]
/-- How far the turns have come. -/
structure Turn (V : Int) (k : Nat) (l : List Int) : Prop where
  len : l.length = 16
  bd : ∀ z ∈ l, 0 ≤ z ∧ z < 144115188075855872
  num : vd l % PR = V % PR
  lo : 0 ≤ vd l
  t0 : k = 0 → vd l < 130370302485407109521180524058200202307293977194619920040712988758680403184853549195737432064
  t1 : k = 1 → vd l < 115792089237316195423570985008687907853269984665640564039457656065507167567872
  t2 : 2 ≤ k → vd l < 115792089237316195423570985008687907853269984665640564039457584007913129639936
  t3 : 3 ≤ k → ∀ z ∈ l, z < 65536
theorem turn_step (V : Int) (k : Nat) (l : List Int) (h : Turn V k l) (hk : k < 4) : Turn V (k + 1) ((ldD 16 (vd l)).set 0 ((ldD 16 (vd l)).getD 0 0 + 38 * (vd l / 115792089237316195423570985008687907853269984665640564039457584007913129639936))) ∧ (0 ≤ vd l / 115792089237316195423570985008687907853269984665640564039457584007913129639936 ∧ vd l / 115792089237316195423570985008687907853269984665640564039457584007913129639936 ≤ 1125899906842624) := by
  have hl := ldD_length 16 (vd l)
  have hlo := h.lo
  have hc : 0 ≤ vd l / 115792089237316195423570985008687907853269984665640564039457584007913129639936 ∧ vd l / 115792089237316195423570985008687907853269984665640564039457584007913129639936 ≤ 1125899906842624 ∧ (1 ≤ k → vd l / 115792089237316195423570985008687907853269984665640564039457584007913129639936 ≤ 1) ∧ (2 ≤ k → vd l / 115792089237316195423570985008687907853269984665640564039457584007913129639936 = 0) := by
    have a0 := h.t0; have a1 := h.t1; have a2 := h.t2
    have : k = 0 ∨ k = 1 ∨ 2 ≤ k := by omega
    rcases this with rfl | rfl | h2
    · have := a0 rfl; refine ⟨by omega, by omega, by omega, by omega⟩
    · have := a1 rfl; refine ⟨by omega, by omega, by omega, by omega⟩
    · have := a2 h2; refine ⟨by omega, by omega, by omega, by omega⟩
  refine ⟨?_, hc.1, hc.2.1⟩
  have hv := vd_first (ldD 16 (vd l)) hl (38 * (vd l / 115792089237316195423570985008687907853269984665640564039457584007913129639936))
  rw [ldD16m] at hv
  have hd0 : 0 ≤ (ldD 16 (vd l)).getD 0 0 ∧ (ldD 16 (vd l)).getD 0 0 < 65536 := ldD_bd 16 (vd l) _ (by simp [List.getD, hl])
  generalize hC : vd l / 115792089237316195423570985008687907853269984665640564039457584007913129639936 = C at *
  refine ⟨by rw [List.length_set, hl], set_bd _ _ _ _ (fun z hz => by have := ldD_bd 16 (vd l) z hz; omega) (by omega), ?_, ?_, ?_, ?_, ?_, ?_⟩
  · rw [hv, ← h.num]; unfold PR; omega
  · rw [hv]; omega
  · intro e; omega
  · intro e; rw [hv]; omega
  · intro e
    rw [hv]
    have h1 := hc.2.2.1 (by omega)
    have a1 := h.t1; have a2 := h.t2
    have : k = 1 ∨ 2 ≤ k := by omega
    rcases this with rfl | h2
    · have := a1 rfl; omega
    · have := a2 h2; omega
  · intro e
    have h0 := hc.2.2.2 (by omega)
    rw [h0, Int.mul_zero, Int.add_zero]
    intro z hz
    have := set_bd (ldD 16 (vd l)) 0 _ 65536 (ldD_bd 16 (vd l)) hd0 z hz
    exact this.2
theorem ldD_at : ∀ (n k : Nat) (v : Int), k < n → (ldD n v).getD k 0 = v / 65536 ^ k % 65536
  | n + 1, 0, v, _ => by simp [ldD]
  | n + 1, k + 1, v, h => by
    rw [ldD, List.getD_cons_succ, ldD_at n k _ (by omega), Int.pow_succ', ← Int.ediv_ediv_of_nonneg (by decide)]
theorem two_bytes (X : Int) (k : Nat) (hk : k < 16) : (leB 32 X).getD (2 * k) 0 = (ldD 16 X).getD k 0 % 256 ∧ (leB 32 X).getD (2 * k + 1) 0 = (ldD 16 X).getD k 0 / 256 := by
  have e1 : (256 : Int) ^ (2 * k) = 65536 ^ k := by rw [Int.pow_mul]; rfl
  have e2 : (256 : Int) ^ (2 * k + 1) = 65536 ^ k * 256 := by rw [Int.pow_succ, e1]
  rw [leB_at 32 X _ (by omega), leB_at 32 X _ (by omega), ldD_at 16 k X hk, e1, e2, ← Int.ediv_ediv_of_nonneg (Int.le_of_lt (Int.pow_pos (by decide)))]
  generalize X / 65536 ^ k = Y
  omega
theorem prime_vd : vd (dgs (primeL 0)) = PR := by decide +kernel
set_option maxRecDepth 20000 in
set_option maxHeartbeats 4000000 in
theorem least_any (l : List Int) (hl : l.length = 16) (hz : ∀ z ∈ l, 0 ≤ z ∧ z < 1125899906842624) (w : World) :
    Calls Try.prog 41 #[.agg (i64s l).toArray] w fun e w' => e = .returned (.agg (u8s (leB 32 (vd l % PR))).toArray) ∧ Below w.heap.size w w' := by
  have hbig := vd_big l hl hz
  obtain ⟨V, hV⟩ : ∃ z, vd l = z := ⟨_, rfl⟩
  have HT : Hid (Turn V 0 l) := by
    refine ⟨hl, fun z h => by have := hz z h; omega, by rw [hV], by omega, fun _ => by omega, fun e => by omega, fun e => by omega, fun e => by omega⟩
  have HPR : Hid ((primeL 0).length = 32 ∧ Bytes (primeL 0) ∧ vd (dgs (primeL 0)) = PR ∧ (dgs (primeL 0)).length = 16 ∧ (∀ z ∈ dgs (primeL 0), 0 ≤ z ∧ z < 65536)) := ⟨primeL_length 0, primeL_bytes 0 (by decide), prime_vd, dgs_length 16 _ (primeL_length 0), dgs_bd _ (primeL_bytes 0 (by decide))⟩
  rw [hV]
  clear hl hz hbig hV
  go_enter Try.func41, Try.ntmps41
  go_wp2_with (first | (refine wpList_box_new rfl 69 (.tmp 0) rfl (i64s l) rfl ?_; intro x1 z1 s1 l1) | (refine wpList_alloc_new rfl 29 rfl 32 _ zeroNum ?_; intro x2 z2 s2 l2; rw [s1] at z2))
  have WW : Hid (Below w.heap.size w x2 ∧ Blk x2 w.heap.size 69 (i64s l) ∧ Blk x2 (w.heap.size + 1) 29 (u8s (List.replicate 32 0)) ∧ w.heap.size + 2 ≤ x2.heap.size) := ⟨below_chain l1 l2 (by omega), z1.later l2 (by omega), z2, by omega⟩
  clear z1 s1 l1 z2 s2 l2
  go_loopw [3, 4] (fun o i wr => ∃ (k : Nat) (c : Int) (m : List Int), k ≤ 4 ∧ i = .int .i64 k ∧ o = .int .i64 c ∧ Blk wr w.heap.size 69 (i64s m) ∧ Turn V k m ∧ Kept (fun x => x = w.heap.size) x2 wr) (fun _ i _ => 4 - (intOf i).toNat)
  case atStart => exact ⟨0, 0, l, by omega, rfl, rfl, WW.out.2.1, HT.out, Kept.refl _ _⟩
  case round =>
    obtain ⟨k, c, m, hk, rfl, rfl, hblk, htn, hkp⟩ := hrel
    by_cases hlt : k < 4
    · have i1 : (k : Int) < 4 := by omega
      have i3 : (0 : Int) ≤ (k : Int) := by omega
      have hst := turn_step V k m htn hlt
      have HM : Hid (Blk wr w.heap.size 69 (i64s m) ∧ Kept (fun x => x = w.heap.size) x2 wr ∧ (i64s m).length = 16 ∧ (∀ z ∈ m, 0 ≤ z ∧ z < 1152921504606846976) ∧ m.length = 16) := ⟨hblk, hkp, by rw [i64s_length, htn.len], fun z hz => by have := htn.bd z hz; omega, htn.len⟩
      obtain ⟨C, hC⟩ : ∃ z, vd m / 115792089237316195423570985008687907853269984665640564039457584007913129639936 = z := ⟨_, rfl⟩
      obtain ⟨D, hD⟩ : ∃ z, ldD 16 (vd m) = z := ⟨_, rfl⟩
      have hcar := carried_any m HM.out.2.2.2.2 HM.out.2.2.2.1
      rw [hC, hD] at hcar hst
      have hD16 : (i64s D).length = 16 := by rw [← hD, i64s_length, ldD_length]
      have hX : 0 ≤ D.getD 0 0 ∧ D.getD 0 0 < 65536 := by rw [← hD]; exact ldD_bd 16 (vd m) _ (by simp [List.getD, ldD_length])
      obtain ⟨X, hXX⟩ : ∃ z, D.getD 0 0 = z := ⟨_, rfl⟩
      have HC : Hid (∀ w, Calls Try.prog 58 #[.agg (i64s m).toArray] w fun e w' => e = .returned (.tuple #[.agg (i64s D).toArray, .int .i64 C]) ∧ Below w.heap.size w w') := hcar
      have HD : Hid ((i64s D).length = 16 ∧ D.length = 16 ∧ D.getD 0 0 = X) := ⟨hD16, by rw [i64s_length] at hD16; exact hD16, hXX⟩
      rw [hXX] at hst hX
      have v1 : IntKind.i64.wrap (38 * C) = 38 * C := wi64 _ (by omega)
      have v2 : IntKind.i64.wrap (X + 38 * C) = X + 38 * C := wi64 _ (by omega)
      have HS : Hid (Turn V (k + 1) (D.set 0 (X + 38 * C))) := hst.1
      clear hblk htn hkp hst hC hD hcar hD16 hX hXX
      go_wp2_with (first | (refine wpList_load_blk rfl 69 (.tmp 1) rfl w.heap.size rfl (i64s m) _ HM.out.1 Try.underlying69 rfl (by rw [HM.out.2.2.1]; exact sizeA16) ?_) | (go_at_call 58; refine (HC.out _).mono ?_; rintro e y1 ⟨rfl, l1⟩) | (refine wpList_store_blk rfl 69 69 _ _ rfl _ rfl _ (i64s D) rfl (HM.out.1.later l1 HM.out.1.lt) (by rw [HD.out.1, HM.out.2.2.1]) (by rw [HD.out.1]; exact sizeA16) (i64s_one _) ?_; intro y2 b2 s2 k2; have c0 := i64s_cell b2 0 (by rw [HD.out.2.1]; decide); rw [HD.out.2.2] at c0; have f0 := b2.frozen 0))
      go_roundw
      case rel =>
        have R := b2.set 0 (.int .i64 (X + 38 * C))
        rw [i64s_set] at R
        exact ⟨k + 1, C, _, by omega, by go_num, rfl, R, HS.out, (HM.out.2.1.trans ((Kept.new _ l1).trans k2)).setCell rfl _⟩
      case measure => simp [intOf]; omega
    · have hk5 : k = 4 := by omega
      have i1 : ¬ ((k : Int) < 4) := by omega
      have h4 := htn.t3 (by omega)
      have h5 := htn.t2 (by omega)
      have hbd : ∀ z ∈ m, 0 ≤ z ∧ z < 65536 := fun z hz => ⟨(htn.bd z hz).1, h4 z hz⟩
      have htop := vd_top m htn.len hbd
      have hQ : 0 ≤ m.getD 15 0 ∧ m.getD 15 0 < 65536 := hbd _ (by simp [List.getD, htn.len])
      have hX : 0 ≤ m.getD 0 0 ∧ m.getD 0 0 < 65536 := hbd _ (by simp [List.getD, htn.len])
      have c15 := i64s_cell hblk 15 (by rw [htn.len]; decide)
      have c0 := i64s_cell hblk 0 (by rw [htn.len]; decide)
      have f15 := hblk.frozen 15
      have f0 := hblk.frozen 0
      have B0 := (hblk.set 15 (.int .i64 (m.getD 15 0 % 32768))).set 0 (.int .i64 (m.getD 0 0 + 19 * (m.getD 15 0 / 32768)))
      rw [i64s_set, i64s_set] at B0
      have K0 := (hkp.setCell (p := ⟨w.heap.size, 15, none⟩) rfl (.int .i64 (m.getD 15 0 % 32768))).setCell (p := ⟨w.heap.size, 0, none⟩) rfl (.int .i64 (m.getD 0 0 + 19 * (m.getD 15 0 / 32768)))
      have hm5 : ∀ z ∈ (m.set 15 (m.getD 15 0 % 32768)).set 0 (m.getD 0 0 + 19 * (m.getD 15 0 / 32768)), 0 ≤ z ∧ z < 1152921504606846976 := set_bd _ _ _ _ (set_bd _ _ _ _ (fun z hz => by have := hbd z hz; omega) (by omega)) (by omega)
      have hl5 : ((m.set 15 (m.getD 15 0 % 32768)).set 0 (m.getD 0 0 + 19 * (m.getD 15 0 / 32768))).length = 16 := by rw [List.length_set, List.length_set, htn.len]
      obtain ⟨m5, h5m⟩ : ∃ z, (m.set 15 (m.getD 15 0 % 32768)).set 0 (m.getD 0 0 + 19 * (m.getD 15 0 / 32768)) = z := ⟨_, rfl⟩
      rw [h5m] at htop hm5 hl5 B0
      obtain ⟨Q, hQQ⟩ : ∃ z, m.getD 15 0 = z := ⟨_, rfl⟩
      obtain ⟨X, hXX⟩ : ∃ z, m.getD 0 0 = z := ⟨_, rfl⟩
      rw [hQQ] at hQ c15 B0 K0
      rw [hXX] at hX c0 B0 K0
      have hcar := carried_any m5 hl5 hm5
      obtain ⟨v5, hv5⟩ : ∃ z, vd m5 = z := ⟨_, rfl⟩
      rw [hv5] at hcar htop
      have hnum : v5 % PR = V % PR := by rw [htop.1, htn.num]
      have hD16 := ldD16 v5 (by have := htop.2; omega)
      obtain ⟨D5, hD5⟩ : ∃ z, ldD 16 v5 = z := ⟨_, rfl⟩
      have hDb : ∀ z ∈ D5, 0 ≤ z ∧ z < 65536 := by rw [← hD5]; exact ldD_bd 16 v5
      have hDl : D5.length = 16 := by rw [← hD5]; exact ldD_length 16 v5
      rw [hD5] at hcar hD16
      obtain ⟨c5, hc5⟩ : ∃ z, v5 / 115792089237316195423570985008687907853269984665640564039457584007913129639936 = z := ⟨_, rfl⟩
      rw [hc5] at hcar
      have hah := ahead_any D5 (dgs (primeL 0)) hDl HPR.out.2.2.2.1 hDb HPR.out.2.2.2.2
      have hle := less_any D5 (dgs (primeL 0)) hDl HPR.out.2.2.2.1 hDb HPR.out.2.2.2.2
      have hdg := digits_any (primeL 0) HPR.out.1 HPR.out.2.1
      rw [hD16, HPR.out.2.2.1] at hah hle
      obtain ⟨PD, hPD⟩ : ∃ z, dgs (primeL 0) = z := ⟨_, rfl⟩
      rw [hPD] at hah hle hdg
      have e1 : Int.tdiv Q 32768 = Q / 32768 := Int.tdiv_eq_ediv_of_nonneg hQ.1
      have e2 : Int.tmod Q 32768 = Q % 32768 := Int.tmod_eq_emod_of_nonneg hQ.1
      have e3 : wrap64 (Q / 32768) = Q / 32768 := w64 _ (by omega)
      have e4 : IntKind.i64.wrap (19 * (Q / 32768)) = 19 * (Q / 32768) := wi64 _ (by omega)
      have e5 : IntKind.i64.wrap (X + 19 * (Q / 32768)) = X + 19 * (Q / 32768) := wi64 _ (by omega)
      have HC5 : Hid (∀ w, Calls Try.prog 58 #[.agg (i64s m5).toArray] w fun e w' => e = .returned (.tuple #[.agg (i64s D5).toArray, .int .i64 c5]) ∧ Below w.heap.size w w') := hcar
      have HDG : Hid (∀ w, Calls Try.prog 42 #[.agg (u8s (primeL 0)).toArray] w fun e w' => e = .returned (.agg (i64s PD).toArray) ∧ Below w.heap.size w w') := hdg
      have HM5 : Hid (Blk ((wr.setCell ⟨w.heap.size, 15, none⟩ (.int .i64 (Q % 32768))).setCell ⟨w.heap.size, 0, none⟩ (.int .i64 (X + 19 * (Q / 32768)))) w.heap.size 69 (i64s m5) ∧ Kept (fun x => x = w.heap.size) x2 ((wr.setCell ⟨w.heap.size, 15, none⟩ (.int .i64 (Q % 32768))).setCell ⟨w.heap.size, 0, none⟩ (.int .i64 (X + 19 * (Q / 32768)))) ∧ (i64s m5).length = 16 ∧ (i64s D5).length = 16 ∧ (i64s PD).length = 16 ∧ ldD 16 v5 = D5) := ⟨B0, K0, by rw [i64s_length, hl5], by rw [i64s_length, hDl], by rw [← hPD, i64s_length, HPR.out.2.2.2.1], hD5⟩
      have hv5b := htop.2
      clear hblk htn hkp h4 h5 hbd htop hQ hX B0 K0 hm5 hl5 h5m hQQ hXX hcar hD16 hDb hDl hD5 hc5 hdg hPD hk5 hlt hk
      by_cases hahd : v5 < PR
      · have HAH : Hid (∀ w, Calls Try.prog 59 #[.agg (i64s D5).toArray, .agg (i64s PD).toArray] w fun e w' => e = .returned (.bool true) ∧ Below w.heap.size w w') := fun w => by
          have h := hah w
          rwa [decide_eq_true hahd] at h
        obtain ⟨E, hE⟩ : ∃ z, D5 = z := ⟨_, rfl⟩
        have HE : Hid (ldD 16 (V % PR) = E ∧ (i64s E).length = 16) := by
          rw [← hE]
          refine ⟨?_, HM5.out.2.2.2.1⟩
          rw [← HM5.out.2.2.2.2.2, ← hnum, mod_id ⟨hv5b.1, hahd⟩]
        have HEQ : Hid (D5 = E) := hE
        clear hah hle hnum hv5b hahd hE
        go_wp2_with (first | ((with_reducible show wpList _ _ _ (({ dst := some 38, op := _, type := _, pos := _, after := _, guard := _ } : Oper) :: _) _ _); refine wpList_load_blk rfl 69 (.tmp 1) rfl w.heap.size rfl (i64s m5) _ HM5.out.1 Try.underlying69 rfl (by rw [HM5.out.2.2.1]; exact sizeA16) ?_) | (go_at_call 58; refine (HC5.out _).mono ?_; rintro e y1 ⟨rfl, l1⟩) | ((with_reducible show wpList _ _ _ _ _ y1); (with_reducible show wpList _ _ _ (({ dst := none, op := _, type := _, pos := _, after := _, guard := _ } : Oper) :: _) _ _); refine wpList_store_blk rfl 69 69 _ _ rfl _ rfl _ (i64s D5) rfl (HM5.out.1.later l1 HM5.out.1.lt) (by rw [HM5.out.2.2.2.1, HM5.out.2.2.1]) (by rw [HM5.out.2.2.2.1]; exact sizeA16) (i64s_one _) ?_; intro y2 b2 s2 k2) | (go_at_call 50; refine (rprime_any 0 (by decide) _).mono ?_; rintro e y3 ⟨rfl, l3⟩) | (go_at_call 42; refine (HDG.out _).mono ?_; rintro e y4 ⟨rfl, l4⟩) | ((with_reducible show wpList _ _ _ _ _ y4); refine wpList_alloc_new rfl 69 rfl 16 _ zeroA16 ?_; intro y5 b5 s5 l5) | ((with_reducible show wpList _ _ _ _ _ y5); refine wpList_store_blk rfl 69 69 _ _ rfl _ rfl _ (i64s PD) rfl b5 (by rw [HM5.out.2.2.2.2.1]; rfl) (by rw [HM5.out.2.2.2.2.1]; exact sizeA16) (i64s_one _) ?_; intro y6 b6 s6 k6; obtain ⟨G, hG⟩ : ∃ z, y4.heap.size = z := ⟨_, rfl⟩; rw [hG] at b6 k6; rw [hG]; have V6 : Hid (Below w.heap.size w y6 ∧ Blk y6 w.heap.size 69 (i64s D5) ∧ Blk y6 (w.heap.size + 1) 29 (u8s (List.replicate 32 0)) ∧ Blk y6 G 69 (i64s PD) ∧ w.heap.size + 2 ≤ G) := (by have q0 := HM5.out.2.1.size; have q1 := l1.size; have q3 := l3.size; have q4 := l4.size; have qW := WW.out.2.2.2; have qk := k2.size; have kk := HM5.out.2.1.trans ((Kept.new _ l1).trans k2); have A := ((b2.later l3 (by omega)).later l4 (by omega)).later l5 (by omega); have B := (((WW.out.2.2.1.kept kk (by omega)).later l3 (by omega)).later l4 (by omega)).later l5 (by omega); exact ⟨below_kept (below_chain (below_chain (below_chain (below_kept WW.out.1 kk WW.out.1.size (fun j hj => by omega)) l3 (by omega)) l4 (by omega)) l5 (by omega)) k6 (by omega) (fun j hj => by omega), A.kept k6 (by omega), B.kept k6 (by omega), b6, by omega⟩); clear l1 b2 s2 k2 l3 l4 b5 s5 l5 b6 s6 k6 hG) | ((with_reducible show wpList _ _ _ (({ dst := some 44, op := _, type := _, pos := _, after := _, guard := _ } : Oper) :: _) _ _); refine wpList_load_blk rfl 69 (.tmp 1) rfl w.heap.size rfl (i64s D5) _ V6.out.2.1 Try.underlying69 rfl (by rw [HM5.out.2.2.2.1]; exact sizeA16) ?_) | ((with_reducible show wpList _ _ _ (({ dst := some 45, op := _, type := _, pos := _, after := _, guard := _ } : Oper) :: _) _ _); refine wpList_load_blk rfl 69 (.tmp 6) rfl G rfl (i64s PD) _ V6.out.2.2.2.1 Try.underlying69 rfl (by rw [HM5.out.2.2.2.2.1]; exact sizeA16) ?_) | (go_at_call 59; refine (HAH.out _).mono ?_; rintro e y7 ⟨rfl, l7⟩) | ((with_reducible show wpList _ _ _ _ _ y7); (with_reducible show wpList _ _ _ (({ dst := some 7, op := _, type := _, pos := _, after := _, guard := _ } : Oper) :: _) _ _); refine wpList_alloc_new rfl 29 rfl 32 _ zeroNum ?_; intro ya ba sa la))
        obtain ⟨N, hN⟩ : ∃ z, y7.heap.size = z := ⟨_, rfl⟩
        rw [hN] at ba ⊢
        have VA : Hid (Below w.heap.size w ya ∧ Blk ya w.heap.size 69 (i64s E) ∧ Blk ya (w.heap.size + 1) 29 (u8s (List.replicate 32 0)) ∧ Blk ya N 29 (u8s (List.replicate 32 0)) ∧ w.heap.size + 2 ≤ N) := by
          have q := V6.out.1.size
          have q7 := l7.size
          have g0 := V6.out.2.2.2.1.lt
          have g1 := V6.out.2.2.2.2
          rw [← HEQ.out]
          exact ⟨below_chain (below_chain V6.out.1 l7 q) la (by omega), (V6.out.2.1.later l7 V6.out.2.1.lt).later la (Nat.lt_of_lt_of_le V6.out.2.1.lt q7), (V6.out.2.2.1.later l7 V6.out.2.2.1.lt).later la (Nat.lt_of_lt_of_le V6.out.2.2.1.lt q7), ba, by omega⟩
        clear V6 l7 ba sa la hN HEQ HM5 HAH
        go_loopw [8] (fun i wr => ∃ (k : Nat), k ≤ 16 ∧ i = .int .i64 k ∧ Blk wr N 29 (u8s (byK (leB 32 (V % PR)) (2 * k))) ∧ Kept (fun x => x = N) ya wr) (fun i _ => 16 - (intOf i).toNat)
        case atStart => exact ⟨0, by omega, rfl, by simpa [byK] using VA.out.2.2.2.1, Kept.refl _ _⟩
        case round =>
          obtain ⟨k, hk, rfl, hblk, hkp⟩ := hrel
          by_cases hlt : k < 16
          · have i1 : (k : Int) < 16 := by omega
            have i3 : (0 : Int) ≤ (k : Int) := by omega
            have hl32 := leB_length 32 (V % PR)
            obtain ⟨p, hp⟩ : ∃ p : Nat, 2 * k = p := ⟨_, rfl⟩
            obtain ⟨q, hq⟩ : ∃ q : Nat, p + 1 = q := ⟨_, rfl⟩
            have tb := two_bytes (V % PR) k hlt
            rw [HE.out.1, hp, hq] at tb
            have cX := i64s_cell (VA.out.2.1.kept hkp (by have := VA.out.2.2.2.2; omega)) k (by rw [← i64s_length, HE.out.2]; exact hlt)
            have hEl : E.length = 16 := by rw [← i64s_length, HE.out.2]
            have hne : w.heap.size ≠ N := by have := VA.out.2.2.2.2; omega
            have bX : 0 ≤ E.getD k 0 ∧ E.getD k 0 < 65536 := by
              have h := ldD_bd 16 (V % PR)
              rw [HE.out.1] at h
              exact h _ (by simp [List.getD, hEl, hlt])
            have cp := u8s_cell hblk p (by rw [byK_length _ hl32 (2 * k) (by omega)]; omega)
            have cq := u8s_cell hblk q (by rw [byK_length _ hl32 (2 * k) (by omega)]; omega)
            have fp := hblk.frozen p
            have fq := hblk.frozen q
            obtain ⟨Zp, hZp⟩ : ∃ z, (byK (leB 32 (V % PR)) (2 * k)).getD p 0 = z := ⟨_, rfl⟩
            obtain ⟨Zq, hZq⟩ : ∃ z, (byK (leB 32 (V % PR)) (2 * k)).getD q 0 = z := ⟨_, rfl⟩
            rw [hZp] at cp
            rw [hZq] at cq
            obtain ⟨D, hD⟩ : ∃ z, E.getD k 0 = z := ⟨_, rfl⟩
            rw [hD] at cX bX tb
            have j1 : 2 * (k : Int) = (p : Int) := by omega
            have j2 : (p : Int) + 1 = (q : Int) := by omega
            have j3 : IntKind.i64.wrap (p : Int) = (p : Int) := wi64 _ (by omega)
            have j4 : IntKind.i64.wrap (q : Int) = (q : Int) := wi64 _ (by omega)
            have j5 : (0 : Int) ≤ (p : Int) := by omega
            have j6 : (0 : Int) ≤ (q : Int) := by omega
            have j7 : (p : Int) < 32 := by omega
            have j8 : (q : Int) < 32 := by omega
            have hpq : q ≠ p := by omega
            have v1 : Int.tmod D 256 = D % 256 := Int.tmod_eq_emod_of_nonneg bX.1
            have v2 : Int.tdiv D 256 = D / 256 := Int.tdiv_eq_ediv_of_nonneg bX.1
            have v3 : wrap64 (D / 256) = D / 256 := w64 _ (by omega)
            have v4 : IntKind.u8.wrap (D % 256) = D % 256 := by rw [IntKind.wrap_u8']; omega
            have v5 : IntKind.u8.wrap (D / 256) = D / 256 := by rw [IntKind.wrap_u8']; omega
            have v6 : D / 256 % 256 = D / 256 := by omega
            have HQ : Hid (Blk wr N 29 (u8s (byK (leB 32 (V % PR)) p)) ∧ Kept (fun x => x = N) ya wr ∧ ((byK (leB 32 (V % PR)) p).set p (D % 256)).set q (D / 256) = byK (leB 32 (V % PR)) (2 * (k + 1))) := by
              refine ⟨by rw [← hp]; exact hblk, hkp, ?_⟩
              have g1 := byK_set (leB 32 (V % PR)) hl32 p (by omega)
              have g2 := byK_set (leB 32 (V % PR)) hl32 q (by omega)
              rw [tb.1] at g1
              rw [tb.2] at g2
              rw [g1, hq, g2]; congr 1; omega
            clear hblk hkp tb hD hZp hZq hp hq bX hl32 hEl
            go_wp2_with fail
            go_roundw
            case rel =>
              have R := (HQ.out.1.set p (.int .u8 (D % 256))).set q (.int .u8 (D / 256))
              rw [u8s_set, u8s_set, HQ.out.2.2] at R
              exact ⟨k + 1, by omega, by go_num, R, (HQ.out.2.1.setCell rfl _).setCell rfl _⟩
            case measure => simp [intOf]; omega
          · have hk5 : k = 16 := by omega
            have i1 : ¬ ((k : Int) < 16) := by omega
            have X1 : Hid (Blk wr N 29 (u8s (leB 32 (V % PR))) ∧ Blk wr (w.heap.size + 1) 29 (u8s (List.replicate 32 0)) ∧ Below w.heap.size w wr ∧ (u8s (leB 32 (V % PR))).length = 32) := ⟨by rw [hk5, byK_all _ (leB_length _ _)] at hblk; exact hblk, VA.out.2.2.1.kept hkp (by have := VA.out.2.2.2.2; omega), below_kept VA.out.1 hkp VA.out.1.size (fun j hj => by have := VA.out.2.2.2.2; omega), by rw [u8s_length, leB_length]⟩
            clear hblk hkp hk5 hlt hk
            go_wp2_with (first | (refine wpList_load_blk rfl 29 _ rfl N rfl (u8s (leB 32 (V % PR))) _ X1.out.1 Try.underlying29 rfl (by rw [X1.out.2.2.2]; exact sizeNum) ?_) | (refine wpList_store_blk rfl 29 29 _ _ rfl _ rfl _ (u8s (leB 32 (V % PR))) rfl X1.out.2.1 (by rw [X1.out.2.2.2]; rfl) (by rw [X1.out.2.2.2]; exact sizeNum) (u8s_one _) ?_; intro w6 b6 s6 k6))
            exact ret_blk rfl (w.heap.size + 1) (u8s (leB 32 (V % PR))) _ rfl b6 Try.underlying29 rfl (by rw [X1.out.2.2.2]; exact sizeNum) rfl ⟨rfl, below_kept X1.out.2.2.1 k6 X1.out.2.2.1.size (fun j hj => by omega)⟩
      · have HAH : Hid (∀ w, Calls Try.prog 59 #[.agg (i64s D5).toArray, .agg (i64s PD).toArray] w fun e w' => e = .returned (.bool false) ∧ Below w.heap.size w w') := fun w => by
          have h := hah w
          rwa [decide_eq_false hahd] at h
        obtain ⟨E, hE⟩ : ∃ z, ldD 16 (v5 - PR) = z := ⟨_, rfl⟩
        rw [hE] at hle
        have HLE : Hid (∀ w, Calls Try.prog 60 #[.agg (i64s D5).toArray, .agg (i64s PD).toArray] w fun e w' => e = .returned (.agg (i64s E).toArray) ∧ Below w.heap.size w w') := hle
        have HE : Hid (ldD 16 (V % PR) = E ∧ (i64s E).length = 16) := by
          rw [← hE, i64s_length, ldD_length, ← hnum]
          refine ⟨?_, rfl⟩
          congr 1
          unfold PR at *
          omega
        clear hah hle hnum hv5b hahd hE
        go_wp2_with (first | ((with_reducible show wpList _ _ _ (({ dst := some 38, op := _, type := _, pos := _, after := _, guard := _ } : Oper) :: _) _ _); refine wpList_load_blk rfl 69 (.tmp 1) rfl w.heap.size rfl (i64s m5) _ HM5.out.1 Try.underlying69 rfl (by rw [HM5.out.2.2.1]; exact sizeA16) ?_) | (go_at_call 58; refine (HC5.out _).mono ?_; rintro e y1 ⟨rfl, l1⟩) | ((with_reducible show wpList _ _ _ _ _ y1); (with_reducible show wpList _ _ _ (({ dst := none, op := _, type := _, pos := _, after := _, guard := _ } : Oper) :: _) _ _); refine wpList_store_blk rfl 69 69 _ _ rfl _ rfl _ (i64s D5) rfl (HM5.out.1.later l1 HM5.out.1.lt) (by rw [HM5.out.2.2.2.1, HM5.out.2.2.1]) (by rw [HM5.out.2.2.2.1]; exact sizeA16) (i64s_one _) ?_; intro y2 b2 s2 k2) | (go_at_call 50; refine (rprime_any 0 (by decide) _).mono ?_; rintro e y3 ⟨rfl, l3⟩) | (go_at_call 42; refine (HDG.out _).mono ?_; rintro e y4 ⟨rfl, l4⟩) | ((with_reducible show wpList _ _ _ _ _ y4); refine wpList_alloc_new rfl 69 rfl 16 _ zeroA16 ?_; intro y5 b5 s5 l5) | ((with_reducible show wpList _ _ _ _ _ y5); refine wpList_store_blk rfl 69 69 _ _ rfl _ rfl _ (i64s PD) rfl b5 (by rw [HM5.out.2.2.2.2.1]; rfl) (by rw [HM5.out.2.2.2.2.1]; exact sizeA16) (i64s_one _) ?_; intro y6 b6 s6 k6; obtain ⟨G, hG⟩ : ∃ z, y4.heap.size = z := ⟨_, rfl⟩; rw [hG] at b6 k6; rw [hG]; have V6 : Hid (Below w.heap.size w y6 ∧ Blk y6 w.heap.size 69 (i64s D5) ∧ Blk y6 (w.heap.size + 1) 29 (u8s (List.replicate 32 0)) ∧ Blk y6 G 69 (i64s PD) ∧ w.heap.size + 2 ≤ G) := (by have q0 := HM5.out.2.1.size; have q1 := l1.size; have q3 := l3.size; have q4 := l4.size; have qW := WW.out.2.2.2; have qk := k2.size; have kk := HM5.out.2.1.trans ((Kept.new _ l1).trans k2); have A := ((b2.later l3 (by omega)).later l4 (by omega)).later l5 (by omega); have B := (((WW.out.2.2.1.kept kk (by omega)).later l3 (by omega)).later l4 (by omega)).later l5 (by omega); exact ⟨below_kept (below_chain (below_chain (below_chain (below_kept WW.out.1 kk WW.out.1.size (fun j hj => by omega)) l3 (by omega)) l4 (by omega)) l5 (by omega)) k6 (by omega) (fun j hj => by omega), A.kept k6 (by omega), B.kept k6 (by omega), b6, by omega⟩); clear l1 b2 s2 k2 l3 l4 b5 s5 l5 b6 s6 k6 hG) | ((with_reducible show wpList _ _ _ (({ dst := some 44, op := _, type := _, pos := _, after := _, guard := _ } : Oper) :: _) _ _); refine wpList_load_blk rfl 69 (.tmp 1) rfl w.heap.size rfl (i64s D5) _ V6.out.2.1 Try.underlying69 rfl (by rw [HM5.out.2.2.2.1]; exact sizeA16) ?_) | ((with_reducible show wpList _ _ _ (({ dst := some 45, op := _, type := _, pos := _, after := _, guard := _ } : Oper) :: _) _ _); refine wpList_load_blk rfl 69 (.tmp 6) rfl G rfl (i64s PD) _ V6.out.2.2.2.1 Try.underlying69 rfl (by rw [HM5.out.2.2.2.2.1]; exact sizeA16) ?_) | (go_at_call 59; refine (HAH.out _).mono ?_; rintro e y7 ⟨rfl, l7⟩) | ((with_reducible show wpList _ _ _ (({ dst := some 48, op := _, type := _, pos := _, after := _, guard := _ } : Oper) :: _) _ _); refine wpList_load_blk rfl 69 (.tmp 1) rfl w.heap.size rfl (i64s D5) _ (V6.out.2.1.later l7 V6.out.2.1.lt) Try.underlying69 rfl (by rw [HM5.out.2.2.2.1]; exact sizeA16) ?_) | ((with_reducible show wpList _ _ _ (({ dst := some 49, op := _, type := _, pos := _, after := _, guard := _ } : Oper) :: _) _ _); refine wpList_load_blk rfl 69 (.tmp 6) rfl G rfl (i64s PD) _ (V6.out.2.2.2.1.later l7 V6.out.2.2.2.1.lt) Try.underlying69 rfl (by rw [HM5.out.2.2.2.2.1]; exact sizeA16) ?_) | (go_at_call 60; refine (HLE.out _).mono ?_; rintro e y8 ⟨rfl, l8⟩) | ((with_reducible show wpList _ _ _ _ _ y8); (with_reducible show wpList _ _ _ (({ dst := none, op := _, type := _, pos := _, after := _, guard := _ } : Oper) :: _) _ _); refine wpList_store_blk rfl 69 69 _ _ rfl _ rfl _ (i64s E) rfl ((V6.out.2.1.later l7 V6.out.2.1.lt).later l8 (Nat.lt_of_lt_of_le V6.out.2.1.lt l7.size)) (by rw [HE.out.2, HM5.out.2.2.2.1]) (by rw [HE.out.2]; exact sizeA16) (i64s_one _) ?_; intro y9 b9 s9 k9) | ((with_reducible show wpList _ _ _ _ _ y9); (with_reducible show wpList _ _ _ (({ dst := some 7, op := _, type := _, pos := _, after := _, guard := _ } : Oper) :: _) _ _); refine wpList_alloc_new rfl 29 rfl 32 _ zeroNum ?_; intro ya ba sa la))
        rw [s9] at ba
        obtain ⟨N, hN⟩ : ∃ z, y8.heap.size = z := ⟨_, rfl⟩
        rw [hN] at ba ⊢
        have VA : Hid (Below w.heap.size w ya ∧ Blk ya w.heap.size 69 (i64s E) ∧ Blk ya (w.heap.size + 1) 29 (u8s (List.replicate 32 0)) ∧ Blk ya N 29 (u8s (List.replicate 32 0)) ∧ w.heap.size + 2 ≤ N) := by
          have q := V6.out.1.size
          have q7 := l7.size
          have q8 := l8.size
          have q9 := k9.size
          have g0 := V6.out.2.2.2.1.lt
          have g1 := V6.out.2.2.2.2
          exact ⟨below_chain (below_kept (below_chain (below_chain V6.out.1 l7 q) l8 (by omega)) k9 (by omega) (fun j hj => by omega)) la (by omega), b9.later la b9.lt, (((V6.out.2.2.1.later l7 V6.out.2.2.1.lt).later l8 (Nat.lt_of_lt_of_le V6.out.2.2.1.lt q7)).kept k9 (by omega)).later la (by omega), ba, by omega⟩
        clear V6 l7 l8 b9 s9 k9 ba sa la hN HM5 HAH HLE
        go_loopw [8] (fun i wr => ∃ (k : Nat), k ≤ 16 ∧ i = .int .i64 k ∧ Blk wr N 29 (u8s (byK (leB 32 (V % PR)) (2 * k))) ∧ Kept (fun x => x = N) ya wr) (fun i _ => 16 - (intOf i).toNat)
        case atStart => exact ⟨0, by omega, rfl, by simpa [byK] using VA.out.2.2.2.1, Kept.refl _ _⟩
        case round =>
          obtain ⟨k, hk, rfl, hblk, hkp⟩ := hrel
          by_cases hlt : k < 16
          · have i1 : (k : Int) < 16 := by omega
            have i3 : (0 : Int) ≤ (k : Int) := by omega
            have hl32 := leB_length 32 (V % PR)
            obtain ⟨p, hp⟩ : ∃ p : Nat, 2 * k = p := ⟨_, rfl⟩
            obtain ⟨q, hq⟩ : ∃ q : Nat, p + 1 = q := ⟨_, rfl⟩
            have tb := two_bytes (V % PR) k hlt
            rw [HE.out.1, hp, hq] at tb
            have cX := i64s_cell (VA.out.2.1.kept hkp (by have := VA.out.2.2.2.2; omega)) k (by rw [← i64s_length, HE.out.2]; exact hlt)
            have hEl : E.length = 16 := by rw [← i64s_length, HE.out.2]
            have hne : w.heap.size ≠ N := by have := VA.out.2.2.2.2; omega
            have bX : 0 ≤ E.getD k 0 ∧ E.getD k 0 < 65536 := by
              have h := ldD_bd 16 (V % PR)
              rw [HE.out.1] at h
              exact h _ (by simp [List.getD, hEl, hlt])
            have cp := u8s_cell hblk p (by rw [byK_length _ hl32 (2 * k) (by omega)]; omega)
            have cq := u8s_cell hblk q (by rw [byK_length _ hl32 (2 * k) (by omega)]; omega)
            have fp := hblk.frozen p
            have fq := hblk.frozen q
            obtain ⟨Zp, hZp⟩ : ∃ z, (byK (leB 32 (V % PR)) (2 * k)).getD p 0 = z := ⟨_, rfl⟩
            obtain ⟨Zq, hZq⟩ : ∃ z, (byK (leB 32 (V % PR)) (2 * k)).getD q 0 = z := ⟨_, rfl⟩
            rw [hZp] at cp
            rw [hZq] at cq
            obtain ⟨D, hD⟩ : ∃ z, E.getD k 0 = z := ⟨_, rfl⟩
            rw [hD] at cX bX tb
            have j1 : 2 * (k : Int) = (p : Int) := by omega
            have j2 : (p : Int) + 1 = (q : Int) := by omega
            have j3 : IntKind.i64.wrap (p : Int) = (p : Int) := wi64 _ (by omega)
            have j4 : IntKind.i64.wrap (q : Int) = (q : Int) := wi64 _ (by omega)
            have j5 : (0 : Int) ≤ (p : Int) := by omega
            have j6 : (0 : Int) ≤ (q : Int) := by omega
            have j7 : (p : Int) < 32 := by omega
            have j8 : (q : Int) < 32 := by omega
            have hpq : q ≠ p := by omega
            have v1 : Int.tmod D 256 = D % 256 := Int.tmod_eq_emod_of_nonneg bX.1
            have v2 : Int.tdiv D 256 = D / 256 := Int.tdiv_eq_ediv_of_nonneg bX.1
            have v3 : wrap64 (D / 256) = D / 256 := w64 _ (by omega)
            have v4 : IntKind.u8.wrap (D % 256) = D % 256 := by rw [IntKind.wrap_u8']; omega
            have v5 : IntKind.u8.wrap (D / 256) = D / 256 := by rw [IntKind.wrap_u8']; omega
            have v6 : D / 256 % 256 = D / 256 := by omega
            have HQ : Hid (Blk wr N 29 (u8s (byK (leB 32 (V % PR)) p)) ∧ Kept (fun x => x = N) ya wr ∧ ((byK (leB 32 (V % PR)) p).set p (D % 256)).set q (D / 256) = byK (leB 32 (V % PR)) (2 * (k + 1))) := by
              refine ⟨by rw [← hp]; exact hblk, hkp, ?_⟩
              have g1 := byK_set (leB 32 (V % PR)) hl32 p (by omega)
              have g2 := byK_set (leB 32 (V % PR)) hl32 q (by omega)
              rw [tb.1] at g1
              rw [tb.2] at g2
              rw [g1, hq, g2]; congr 1; omega
            clear hblk hkp tb hD hZp hZq hp hq bX hl32 hEl
            go_wp2_with fail
            go_roundw
            case rel =>
              have R := (HQ.out.1.set p (.int .u8 (D % 256))).set q (.int .u8 (D / 256))
              rw [u8s_set, u8s_set, HQ.out.2.2] at R
              exact ⟨k + 1, by omega, by go_num, R, (HQ.out.2.1.setCell rfl _).setCell rfl _⟩
            case measure => simp [intOf]; omega
          · have hk5 : k = 16 := by omega
            have i1 : ¬ ((k : Int) < 16) := by omega
            have X1 : Hid (Blk wr N 29 (u8s (leB 32 (V % PR))) ∧ Blk wr (w.heap.size + 1) 29 (u8s (List.replicate 32 0)) ∧ Below w.heap.size w wr ∧ (u8s (leB 32 (V % PR))).length = 32) := ⟨by rw [hk5, byK_all _ (leB_length _ _)] at hblk; exact hblk, VA.out.2.2.1.kept hkp (by have := VA.out.2.2.2.2; omega), below_kept VA.out.1 hkp VA.out.1.size (fun j hj => by have := VA.out.2.2.2.2; omega), by rw [u8s_length, leB_length]⟩
            clear hblk hkp hk5 hlt hk
            go_wp2_with (first | (refine wpList_load_blk rfl 29 _ rfl N rfl (u8s (leB 32 (V % PR))) _ X1.out.1 Try.underlying29 rfl (by rw [X1.out.2.2.2]; exact sizeNum) ?_) | (refine wpList_store_blk rfl 29 29 _ _ rfl _ rfl _ (u8s (leB 32 (V % PR))) rfl X1.out.2.1 (by rw [X1.out.2.2.2]; rfl) (by rw [X1.out.2.2.2]; exact sizeNum) (u8s_one _) ?_; intro w6 b6 s6 k6))
            exact ret_blk rfl (w.heap.size + 1) (u8s (leB 32 (V % PR))) _ rfl b6 Try.underlying29 rfl (by rw [X1.out.2.2.2]; exact sizeNum) rfl ⟨rfl, below_kept X1.out.2.2.1 k6 X1.out.2.2.1.size (fun j hj => by omega)⟩
end Go.Proofs.Ytfeeikkfjbdkiaa
