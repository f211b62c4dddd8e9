import Derived.Test.YtnifolefhelmcaaQOf
import Derived.BigQuiet
import Derived.Test.YtnifolefhelmcaaFBytes
import Derived.Test.YtnifolefhelmcaaRInvT
import Derived.Test.YtnifolefhelmcaaQProd
import Derived.Test.YtnifolefhelmcaaBJB
namespace Go.Proofs.Ytnifolefhelmcaa
open Go.RowKit
set_option linter.unusedVariables false
set_option linter.unusedSimpArgs false

theorem p2_bits : ∀ t : Fin 255, p2.testBit t.val = (decide (t.val ≠ 2) && decide (t.val ≠ 4)) := by decide +kernel
theorem p2_top : p2 / 2 ^ 255 = 0 := by decide +kernel
/-- x to the upper bits of p - 2. -/
def pwI (x : Int) (m : Nat) : Int := x ^ (p2 / 2 ^ m) % PR
theorem pwI_top (x : Int) : pwI x 255 = 1 := by unfold pwI; rw [p2_top, Int.pow_zero]; rfl
theorem pwI_all (x : Int) : pwI x 0 = inv x := by unfold pwI inv; rw [Nat.pow_zero, Nat.div_one]
theorem pwI_step (x : Int) (t : Nat) (ht : t < 255) : pwI x t = if t = 2 ∨ t = 4 then pwI x (t + 1) * pwI x (t + 1) % PR else (pwI x (t + 1) * pwI x (t + 1) % PR) * x % PR := by
  have hb := p2_bits ⟨t, ht⟩
  have hd := EC.testBit_nat p2 t
  simp only at hb
  rw [hb] at hd
  unfold pwI
  rw [hd]
  generalize p2 / 2 ^ (t + 1) = e
  have sq : x ^ (2 * e) % PR = (x ^ e % PR) * (x ^ e % PR) % PR := by
    rw [Nat.two_mul, Int.pow_add, pm_l, pm_r]
  by_cases h : t = 2 ∨ t = 4
  · rw [if_pos h]
    have : (decide (t ≠ 2) && decide (t ≠ 4)) = false := by
      rcases h with h | h <;> subst h <;> rfl
    rw [this]
    exact sq
  · rw [if_neg h]
    have : (decide (t ≠ 2) && decide (t ≠ 4)) = true := by
      rw [Bool.and_eq_true]; exact ⟨decide_eq_true (fun q => h (.inl q)), decide_eq_true (fun q => h (.inr q))⟩
    rw [this]
    show x ^ (2 * e + 1) % PR = _
    rw [Int.pow_succ, ← pm_l, sq]
set_option maxRecDepth 20000 in
set_option maxHeartbeats 2000000 in
theorem qinv_any (l : List Int) (x : Int) (hl : Nd l x) (w : World) :
    Calls Try.prog 115 #[.agg (i64s l).toArray] w fun e w' => ∃ r, e = .returned (.agg (i64s r).toArray) ∧ Nd r (inv x) ∧ Below w.heap.size w w' := by
  have HL : Hid (Nd l x ∧ Nd (smL 1) 1 ∧ (i64s (smL 1)).length = 16) := ⟨hl, sm_nd 1 (by decide), rfl⟩
  have HS := qsmall_any 1
  obtain ⟨o, ho⟩ : ∃ z, smL 1 = z := ⟨_, rfl⟩
  rw [ho] at HS HL
  have LN : Hid (∀ (l : List Int) (x : Int), Nd l x → (Try.prog.info? 140).map (·.size) = some (i64s l).length) := fun l x h => by rw [i64s_length, h.len]; exact sizeNm
  clear hl ho
  go_enter Try.func115, Try.ntmps115
  go_wp2_with (first | (refine wpList_box_new rfl 140 (.tmp 0) rfl (i64s l) rfl ?_; intro x1 z1 s1 l1) | ((with_reducible show wpList _ _ _ (({ dst := some 2, op := _, type := _, pos := _, after := _, guard := _ } : Oper) :: _) _ _); refine wpList_alloc_new rfl 140 rfl 16 _ zeroNm ?_; intro x2 z2 s2 l2; rw [s1] at z2) | (go_at_call 123; refine (HS _).mono ?_; rintro e x3 ⟨rfl, l3⟩) | ((with_reducible show wpList _ _ _ (({ dst := some 3, op := _, type := _, pos := _, after := _, guard := _ } : Oper) :: _) _ _); refine wpList_alloc_new rfl 140 rfl 16 _ zeroNm ?_; intro x4 z4 s4 l4) | (refine wpList_store_blk rfl 140 140 _ _ rfl _ rfl _ (i64s o) rfl z4 (by rw [HL.out.2.2]; rfl) (by rw [HL.out.2.2]; exact sizeNm) (i64s_one _) ?_; intro x5 z5 s5 k5))
  obtain ⟨go, hgo⟩ : ∃ q, x3.heap.size = q := ⟨_, rfl⟩
  rw [hgo] at z5 k5 ⊢
  have WW : Hid (Below w.heap.size w x5 ∧ Blk x5 w.heap.size 140 (i64s l) ∧ Blk x5 (w.heap.size + 1) 140 (i64s (List.replicate 16 0)) ∧ Blk x5 go 140 (i64s o) ∧ w.heap.size + 1 < go) := by
    have q1 := l3.size
    have q2 := l4.size
    exact ⟨below_kept (below_chain (below_chain (below_chain l1 l2 (by omega)) l3 (by omega)) l4 (by omega)) k5 (by omega) (fun j hj => by omega), (((z1.later l2 (by omega)).later l3 (by omega)).later l4 (by omega)).kept k5 (by omega), ((z2.later l3 (by omega)).later l4 (by omega)).kept k5 (by omega), z5, by omega⟩
  clear z1 s1 l1 z2 s2 l2 l3 z4 s4 l4 z5 s5 k5 hgo
  go_loopw [4] (fun i wr => ∃ (m : Nat) (r : List Int), m ≤ 255 ∧ i = .int .i64 ((m : Int) - 1) ∧ Nd r (pwI x m) ∧ Blk wr go 140 (i64s r) ∧ Kept (fun k => k = go) x5 wr) (fun i _ => ((intOf i) + 1).toNat)
  case atStart => exact ⟨255, o, by omega, rfl, by rw [pwI_top]; exact HL.out.2.1, WW.out.2.2.2.1, Kept.refl _ _⟩
  case round =>
    obtain ⟨m, r, hm, rfl, hr, hblk, hkp⟩ := hrel
    by_cases hlt : 0 < m
    · obtain ⟨t, rfl⟩ : ∃ t, m = t + 1 := ⟨m - 1, by omega⟩
      have i0 : (((t + 1 : Nat) : Int) - 1) = (t : Int) := by omega
      rw [i0]
      have ht : t < 255 := by omega
      have i3 : (0 : Int) ≤ (t : Int) := by omega
      have T1 := qtimes_any r r _ _ hr.w hr.w
      have hst := pwI_step x t ht
      have HQ : Hid (Blk wr go 140 (i64s r) ∧ Kept (fun k => k = go) x5 wr ∧ Nd r (pwI x (t + 1)) ∧ Blk wr w.heap.size 140 (i64s l)) := ⟨hblk, hkp, hr, WW.out.2.1.kept hkp (by have := WW.out.2.2.2.2; omega)⟩
      clear hblk hkp hr hm hlt i0
      by_cases h2 : t = 2
      · rw [if_pos (.inl h2)] at hst
        rw [← hst] at T1
        have c2 : ((t : Int) != 2) = false := by simp [h2]
        have c3 : (t : Int) = 2 := by omega
        clear hst h2
        go_wp2_with (first | ((with_reducible show wpList _ _ _ (({ dst := some 10, op := _, type := _, pos := _, after := _, guard := _ } : Oper) :: _) _ _); refine wpList_load_blk rfl 140 _ rfl go rfl (i64s r) _ HQ.out.1 Try.underlying140 rfl (LN.out _ _ HQ.out.2.2.1) ?_) | ((with_reducible show wpList _ _ _ (({ dst := some 11, op := _, type := _, pos := _, after := _, guard := _ } : Oper) :: _) _ _); refine wpList_load_blk rfl 140 _ rfl go rfl (i64s r) _ HQ.out.1 Try.underlying140 rfl (LN.out _ _ HQ.out.2.2.1) ?_) | ((with_reducible show Calls _ _ #[.agg (i64s r).toArray, .agg (i64s r).toArray] _ _); refine (T1 _).mono ?_; rintro e y1 ⟨r1, rfl, N1, u1⟩) | ((with_reducible show wpList _ _ _ (({ dst := none, op := .store _ _ (.tmp 12), type := _, pos := _, after := _, guard := _ } : Oper) :: _) _ _); refine wpList_store_blk rfl 140 140 _ _ rfl go rfl _ (i64s r1) rfl (HQ.out.1.later u1 HQ.out.1.lt) (by rw [i64s_length, i64s_length, N1.len, HQ.out.2.2.1.len]) (LN.out _ _ N1) (i64s_one _) ?_; intro y2 b2 s2 k2))
        go_roundw
        case rel => exact ⟨t, r1, by omega, by go_num, N1, b2, (HQ.out.2.1.trans (Kept.new _ u1)).trans k2⟩
        case measure => show (_ : Nat) < _; simp only [intOf]; omega
      · by_cases h4 : t = 4
        · rw [if_pos (.inr h4)] at hst
          rw [← hst] at T1
          have c2 : ((t : Int) != 2) = true := by simp; omega
          have c4 : ((t : Int) != 4) = false := by simp [h4]
          have c3 : ¬ (t : Int) = 2 := by omega
          have c5 : (t : Int) = 4 := by omega
          clear hst h2 h4
          go_wp2_with (first | ((with_reducible show wpList _ _ _ (({ dst := some 10, op := _, type := _, pos := _, after := _, guard := _ } : Oper) :: _) _ _); refine wpList_load_blk rfl 140 _ rfl go rfl (i64s r) _ HQ.out.1 Try.underlying140 rfl (LN.out _ _ HQ.out.2.2.1) ?_) | ((with_reducible show wpList _ _ _ (({ dst := some 11, op := _, type := _, pos := _, after := _, guard := _ } : Oper) :: _) _ _); refine wpList_load_blk rfl 140 _ rfl go rfl (i64s r) _ HQ.out.1 Try.underlying140 rfl (LN.out _ _ HQ.out.2.2.1) ?_) | ((with_reducible show Calls _ _ #[.agg (i64s r).toArray, .agg (i64s r).toArray] _ _); refine (T1 _).mono ?_; rintro e y1 ⟨r1, rfl, N1, u1⟩) | ((with_reducible show wpList _ _ _ (({ dst := none, op := .store _ _ (.tmp 12), type := _, pos := _, after := _, guard := _ } : Oper) :: _) _ _); refine wpList_store_blk rfl 140 140 _ _ rfl go rfl _ (i64s r1) rfl (HQ.out.1.later u1 HQ.out.1.lt) (by rw [i64s_length, i64s_length, N1.len, HQ.out.2.2.1.len]) (LN.out _ _ N1) (i64s_one _) ?_; intro y2 b2 s2 k2))
          go_roundw
          case rel => exact ⟨t, r1, by omega, by go_num, N1, b2, (HQ.out.2.1.trans (Kept.new _ u1)).trans k2⟩
          case measure => show (_ : Nat) < _; simp only [intOf]; omega
        · rw [if_neg (fun q => q.elim h2 h4)] at hst
          have c2 : ((t : Int) != 2) = true := by simp; omega
          have c4 : ((t : Int) != 4) = true := by simp; omega
          have c3 : ¬ (t : Int) = 2 := by omega
          have c5 : ¬ (t : Int) = 4 := by omega
          have T2 : Hid (∀ r1, Nd r1 (pwI x (t + 1) * pwI x (t + 1) % PR) → ∀ w, Calls Try.prog 114 #[.agg (i64s r1).toArray, .agg (i64s l).toArray] w fun e w' => ∃ r, e = .returned (.agg (i64s r).toArray) ∧ Nd r (pwI x t) ∧ Below w.heap.size w w') := fun r1 h1 w => by
            have h := qtimes_any r1 l _ _ h1.w HL.out.1.w w
            rw [← hst] at h
            exact h
          clear hst h2 h4
          go_wp2_with (first | ((with_reducible show wpList _ _ _ (({ dst := some 10, op := _, type := _, pos := _, after := _, guard := _ } : Oper) :: _) _ _); refine wpList_load_blk rfl 140 _ rfl go rfl (i64s r) _ HQ.out.1 Try.underlying140 rfl (LN.out _ _ HQ.out.2.2.1) ?_) | ((with_reducible show wpList _ _ _ (({ dst := some 11, op := _, type := _, pos := _, after := _, guard := _ } : Oper) :: _) _ _); refine wpList_load_blk rfl 140 _ rfl go rfl (i64s r) _ HQ.out.1 Try.underlying140 rfl (LN.out _ _ HQ.out.2.2.1) ?_) | ((with_reducible show Calls _ _ #[.agg (i64s r).toArray, .agg (i64s r).toArray] _ _); refine (T1 _).mono ?_; rintro e y1 ⟨r1, rfl, N1, u1⟩) | ((with_reducible show wpList _ _ _ (({ dst := none, op := .store _ _ (.tmp 12), type := _, pos := _, after := _, guard := _ } : Oper) :: _) _ _); refine wpList_store_blk rfl 140 140 _ _ rfl go rfl _ (i64s r1) rfl (HQ.out.1.later u1 HQ.out.1.lt) (by rw [i64s_length, i64s_length, N1.len, HQ.out.2.2.1.len]) (LN.out _ _ N1) (i64s_one _) ?_; intro y2 b2 s2 k2; have H2 : Hid (Blk y2 go 140 (i64s r1) ∧ Blk y2 w.heap.size 140 (i64s l) ∧ Kept (fun k => k = go) x5 y2) := ⟨b2, (HQ.out.2.2.2.later u1 HQ.out.2.2.2.lt).kept k2 (by have := WW.out.2.2.2.2; omega), (HQ.out.2.1.trans (Kept.new _ u1)).trans k2⟩; have T3 := T2.out r1 N1; clear b2 s2 k2 u1) | ((with_reducible show wpList _ _ _ (({ dst := some 19, op := _, type := _, pos := _, after := _, guard := _ } : Oper) :: _) _ _); refine wpList_load_blk rfl 140 _ rfl go rfl (i64s r1) _ H2.out.1 Try.underlying140 rfl (LN.out _ _ N1) ?_) | ((with_reducible show wpList _ _ _ (({ dst := some 20, op := _, type := _, pos := _, after := _, guard := _ } : Oper) :: _) _ _); refine wpList_load_blk rfl 140 _ rfl w.heap.size rfl (i64s l) _ H2.out.2.1 Try.underlying140 rfl (LN.out _ _ HL.out.1) ?_) | ((with_reducible show Calls _ _ #[.agg (i64s r1).toArray, .agg (i64s l).toArray] _ _); refine (T3 _).mono ?_; rintro e y3 ⟨r2, rfl, N2, u3⟩) | (refine wpList_store_blk rfl 140 140 _ (.tmp 21) rfl go rfl _ (i64s r2) rfl (H2.out.1.later u3 H2.out.1.lt) (by rw [i64s_length, i64s_length, N2.len, N1.len]) (LN.out _ _ N2) (i64s_one _) ?_; intro y4 b4 s4 k4))
          go_roundw
          case rel => exact ⟨t, r2, by omega, by go_num, N2, b4, (H2.out.2.2.trans (Kept.new _ u3)).trans k4⟩
          case measure => show (_ : Nat) < _; simp only [intOf]; omega
    · obtain rfl : m = 0 := by omega
      have i1 : ¬ (0 ≤ (((0 : Nat) : Int) - 1)) := by omega
      rw [pwI_all] at hr
      have X1 : Hid (Blk wr go 140 (i64s r) ∧ Blk wr (w.heap.size + 1) 140 (i64s (List.replicate 16 0)) ∧ Below w.heap.size w wr ∧ Nd r (inv x)) := ⟨hblk, WW.out.2.2.1.kept hkp (by have := WW.out.2.2.2.2; omega), below_kept WW.out.1 hkp WW.out.1.size (fun j hj => by have := WW.out.2.2.2.2; omega), hr⟩
      clear hblk hkp hr hm hlt
      go_wp2_with (first | (refine wpList_load_blk rfl 140 _ rfl go rfl (i64s r) _ X1.out.1 Try.underlying140 rfl (LN.out _ _ X1.out.2.2.2) ?_) | (refine wpList_store_blk rfl 140 140 _ _ rfl _ rfl _ (i64s r) rfl X1.out.2.1 (by rw [i64s_length, X1.out.2.2.2.len]; rfl) (LN.out _ _ X1.out.2.2.2) (i64s_one _) ?_; intro y6 b6 s6 k6))
      exact ret_blk rfl (w.heap.size + 1) (i64s r) _ rfl b6 Try.underlying140 rfl (LN.out _ _ X1.out.2.2.2) rfl ⟨r, rfl, X1.out.2.2.2, below_kept X1.out.2.2.1 k6 X1.out.2.2.1.size (fun j hj => by omega)⟩
end Go.Proofs.Ytnifolefhelmcaa

namespace Go.Proofs.Ytnifolefhelmcaa
open Go.RowKit
set_option linter.unusedVariables false
set_option linter.unusedSimpArgs false

theorem ldD_at : ∀ (n : Nat) (V : Int) (i : Nat), i < n → (ldD n V).getD i 0 = V / 65536 ^ i % 65536
  | n + 1, V, 0, _ => by rw [ldD, Int.pow_zero, Int.ediv_one]; rfl
  | n + 1, V, i + 1, h => by
    rw [ldD, List.getD_cons_succ, ldD_at n _ i (by omega), Int.pow_succ', ← Int.ediv_ediv_of_nonneg (by decide)]
theorem prD_eq : prD = ldD 16 PR := by decide +kernel
/-- Above place m both are alike. -/
theorem like_next (V W : Int) (m : Nat) (h : V / 65536 ^ (m + 1) = W / 65536 ^ (m + 1)) (hd : V / 65536 ^ m % 65536 = W / 65536 ^ m % 65536) : V / 65536 ^ m = W / 65536 ^ m := by
  rw [Int.pow_succ, ← Int.ediv_ediv_of_nonneg (Int.le_of_lt (Int.pow_pos (by decide))), ← Int.ediv_ediv_of_nonneg (Int.le_of_lt (Int.pow_pos (by decide)))] at h
  omega
theorem unlike (V W : Int) (m : Nat) (h : V / 65536 ^ (m + 1) = W / 65536 ^ (m + 1)) (hd : V / 65536 ^ m % 65536 ≠ W / 65536 ^ m % 65536) : decide (V / 65536 ^ m % 65536 < W / 65536 ^ m % 65536) = decide (V < W) := by
  have hp : (0 : Int) < 65536 ^ m := Int.pow_pos (by decide)
  rw [Int.pow_succ, ← Int.ediv_ediv_of_nonneg (Int.le_of_lt hp), ← Int.ediv_ediv_of_nonneg (Int.le_of_lt hp)] at h
  have h1 := Int.emod_add_mul_ediv V (65536 ^ m)
  have h2 := Int.emod_add_mul_ediv W (65536 ^ m)
  have h3 := Int.emod_nonneg V (Int.ne_of_gt hp)
  have h4 := Int.emod_lt_of_pos V hp
  have h5 := Int.emod_nonneg W (Int.ne_of_gt hp)
  have h6 := Int.emod_lt_of_pos W hp
  generalize (65536 : Int) ^ m = P at *
  have key : ∀ a b c d : Int, 0 ≤ c → c < P → 0 ≤ d → a < b → c + P * a < d + P * b := fun a b c d hc hcP hd hab => by
    have : P * a + P ≤ P * b := by
      have : P * (a + 1) ≤ P * b := Int.mul_le_mul_of_nonneg_left (by omega) (by omega)
      rwa [Int.mul_add, Int.mul_one] at this
    omega
  rcases Int.lt_or_gt_of_ne (show V / P ≠ W / P from fun e => hd (by rw [e])) with q | q
  · have := key _ _ _ _ h3 h4 h5 q
    rw [decide_eq_true (by omega : V / P % 65536 < W / P % 65536), decide_eq_true (by omega)]
  · have := key _ _ _ _ h5 h6 h3 q
    rw [decide_eq_false (by omega : ¬ V / P % 65536 < W / P % 65536), decide_eq_false (by omega)]
set_option maxRecDepth 20000 in
set_option maxHeartbeats 2000000 in
theorem qbelow_any (V : Int) (hV : 0 ≤ V ∧ V < 115792089237316195423570985008687907853269984665640564039457584007913129639936) (w : World) :
    Calls Try.prog 127 #[.agg (i64s (ldD 16 V)).toArray] w fun e w' => e = .returned (.bool (decide (V < PR))) ∧ Below w.heap.size w w' := by
  have HV : Hid (V / 65536 ^ 16 = PR / 65536 ^ 16) := by
    show V / 65536 ^ 16 = PR / 65536 ^ 16
    rw [show (65536 : Int) ^ 16 = 115792089237316195423570985008687907853269984665640564039457584007913129639936 by decide]
    unfold PR; omega
  have HP := qprime_any
  rw [prD_eq] at HP
  obtain ⟨L, hL⟩ : ∃ z, ldD 16 V = z := ⟨_, rfl⟩
  obtain ⟨Q, hQ⟩ : ∃ z, ldD 16 PR = z := ⟨_, rfl⟩
  obtain ⟨B, hB⟩ : ∃ z, decide (V < PR) = z := ⟨_, rfl⟩
  have HL : Hid (ldD 16 V = L ∧ ldD 16 PR = Q ∧ L.length = 16 ∧ Q.length = 16 ∧ (i64s Q).length = 16 ∧ decide (V < PR) = B) := ⟨hL, hQ, by rw [← hL, ldD_length], by rw [← hQ, ldD_length], by rw [i64s_length, ← hQ, ldD_length], hB⟩
  rw [hL, hB]
  rw [hQ] at HP
  clear hL hQ hV hB
  go_enter Try.func127, Try.ntmps127
  go_wp2_with (first | (refine wpList_box_new rfl 140 (.tmp 0) rfl (i64s L) rfl ?_; intro x1 z1 s1 l1) | (go_at_call 128; refine (HP _).mono ?_; rintro e x2 ⟨rfl, l2⟩) | (refine wpList_alloc_new rfl 140 rfl 16 _ zeroNm ?_; intro x3 z3 s3 l3) | (refine wpList_store_blk rfl 140 140 _ _ rfl _ rfl _ (i64s Q) rfl z3 (by rw [HL.out.2.2.2.2.1]; rfl) (by rw [HL.out.2.2.2.2.1]; exact sizeNm) (i64s_one _) ?_; intro x4 z4 s4 k4))
  obtain ⟨gp, hgp⟩ : ∃ q, x2.heap.size = q := ⟨_, rfl⟩
  rw [hgp] at z4 k4 ⊢
  have WW : Hid (Below w.heap.size w x4 ∧ Blk x4 w.heap.size 140 (i64s L) ∧ Blk x4 gp 140 (i64s Q)) := by
    have q1 := l2.size
    have q2 := l3.size
    exact ⟨below_kept (below_chain (below_chain l1 l2 (by omega)) l3 (by omega)) k4 (by omega) (fun j hj => by omega), ((z1.later l2 (by omega)).later l3 (by omega)).kept k4 (by omega), z4⟩
  clear z1 s1 l1 l2 z3 s3 l3 z4 s4 k4 hgp
  go_loopw [4] (fun i wr => ∃ (m : Nat), m ≤ 16 ∧ i = .int .i64 ((m : Int) - 1) ∧ V / 65536 ^ m = PR / 65536 ^ m ∧ Hid (Below w.heap.size w wr ∧ Blk wr w.heap.size 140 (i64s L) ∧ Blk wr gp 140 (i64s Q))) (fun i _ => ((intOf i) + 1).toNat)
  case atStart => exact ⟨16, by omega, rfl, HV.out, WW⟩
  case round =>
    obtain ⟨m, hm, rfl, hlike, HW⟩ := hrel
    by_cases hlt : 0 < m
    · obtain ⟨t, rfl⟩ : ∃ t, m = t + 1 := ⟨m - 1, by omega⟩
      have i0 : (((t + 1 : Nat) : Int) - 1) = (t : Int) := by omega
      rw [i0]
      have ht : t < 16 := by omega
      have i1 : (t : Int) < 16 := by omega
      have i3 : (0 : Int) ≤ (t : Int) := by omega
      have c0 := i64s_cell HW.out.2.1 t (by rw [HL.out.2.2.1]; exact ht)
      have c1 := i64s_cell HW.out.2.2 t (by rw [HL.out.2.2.2.1]; exact ht)
      have d0 := ldD_at 16 V t ht
      have d1 := ldD_at 16 PR t ht
      rw [HL.out.1] at d0
      rw [HL.out.2.1] at d1
      have hn := like_next V PR t hlike
      have hu := unlike V PR t hlike
      rw [← d0, ← d1] at hn hu
      obtain ⟨X, hX⟩ : ∃ z, L.getD t 0 = z := ⟨_, rfl⟩
      obtain ⟨Y, hY⟩ : ∃ z, Q.getD t 0 = z := ⟨_, rfl⟩
      rw [hX] at c0 hn hu
      rw [hY] at c1 hn hu
      clear d0 d1 hX hY hm hlt i0 hlike
      by_cases hxy : X = Y
      · have hb : (X == Y) = true := by simpa using hxy
        have HN : Hid (V / 65536 ^ t = PR / 65536 ^ t) := hn hxy
        clear hn hu
        subst hxy
        go_wp2_with fail
        go_quiet (fail)
        go_wp2_with fail
        go_roundw
        case rel => exact ⟨t, by omega, by go_num, HN.out, ⟨below_dn HW.out.1 nq, HW.out.2.1.drewN nq, HW.out.2.2.drewN nq⟩⟩
        case measure => simp [intOf]
      · have hb : (X == Y) = false := by simpa using hxy
        have HN : Hid (decide (X < Y) = decide (V < PR)) := hu hxy
        clear hn hu
        go_wp2_with fail
        go_quiet (fail)
        go_wp2_with fail
        obtain ⟨w5, hw5⟩ : ∃ z, z = wr.drewN nq := ⟨_, rfl⟩
        have e0 : w5.cell? ⟨w.heap.size, t, none⟩ = some (.int .i64 X) := by rw [hw5]; exact c0
        have e1 : w5.cell? ⟨gp, t, none⟩ = some (.int .i64 Y) := by rw [hw5]; exact c1
        have H5 : Hid (Below w.heap.size w w5) := by rw [hw5]; exact below_dn HW.out.1 nq
        rw [← hw5]
        clear hw5 c0 c1 HW
        go_quiet (fail)
        go_wp2_with fail
        go_ret
        exact ⟨by rw [← HL.out.2.2.2.2.2, ← HN.out]; rfl, below_dn H5.out _⟩
    · have hm0 : m = 0 := by omega
      subst hm0
      have i1 : ¬ (0 ≤ (((0 : Nat) : Int) - 1)) := by omega
      have HN : Hid (B = false) := by
        show B = false
        rw [← HL.out.2.2.2.2.2]
        rw [Int.pow_zero, Int.ediv_one, Int.ediv_one] at hlike
        exact decide_eq_false (by omega)
      clear hlike
      go_wp2_with fail
      go_ret
      exact ⟨by rw [HN.out]; rfl, HW.out.1⟩
end Go.Proofs.Ytnifolefhelmcaa

namespace Go.Proofs.Ytnifolefhelmcaa
open Go.RowKit
set_option linter.unusedVariables false
set_option linter.unusedSimpArgs false

/-- Below 2^256. -/
def In256 (V : Int) : Prop := 0 ≤ V ∧ V < 115792089237316195423570985008687907853269984665640564039457584007913129639936
theorem p16 : (65536 : Int) ^ 16 = 115792089237316195423570985008687907853269984665640564039457584007913129639936 := by decide
theorem p15 : (65536 : Int) ^ 15 = 1766847064778384329583297500742918515827483896875618958121606201292619776 := by decide
theorem carL_small (V : Int) (h : In256 V) : carL V = ldD 16 V := by
  unfold carL
  rw [Int.ediv_eq_zero_of_lt h.1 h.2, Int.mul_zero, Int.add_zero]
  rfl
theorem vd_small (V : Int) (h : In256 V) : vd (ldD 16 V) = V := by
  rw [vd_ldD, p16, Int.emod_eq_of_lt h.1 h.2]
theorem three (l : List Int) (x : Int) (h : Nd l x) : In256 (fV (vd l)) ∧ fV (vd l) % PR = x ∧ carL (vd (carL (vd l))) = ldD 16 (fV (vd l)) ∧ carL (vd (ldD 16 (fV (vd l)))) = ldD 16 (fV (vd l)) ∧ Dg 1152921504606846976 l ∧ Dg 1152921504606846976 (carL (vd l)) ∧ Dg 1152921504606846976 (ldD 16 (fV (vd l))) := by
  have h1 := vd_abs l 64 65600 (by decide) (by decide) h.lim
  rw [h.len, p16] at h1
  have hI : In256 (fV (vd l)) := by unfold In256 fV; omega
  refine ⟨hI, by rw [fV_mod]; exact h.num, by rw [vd_carL]; exact carL_small _ hI, by rw [vd_small _ hI]; exact carL_small _ hI, ⟨h.len, fun z hz => by have := h.lim z hz; omega⟩, ⟨carL_length _, fun z hz => ?_⟩, ldD_length _ _, fun z hz => by have := ldD_bd 16 _ z hz; omega⟩
  have := carL_bd (vd l) 1 (by omega) (by decide) z hz; omega
theorem csK_last (l : List Int) (hl : l.length = 16) (h : In256 (vd l)) : csK l 15 = ldD 16 (vd l) := by
  have h1 := caK_all l
  have h2 := caC_all l
  rw [hl] at h1 h2
  rw [p16, Int.ediv_eq_zero_of_lt h.1 h.2, caC_succ l 15 (by omega)] at h2
  have h3 := caK_set l 15 (by omega)
  rw [h1] at h3
  rw [← h3]
  unfold csK
  have : (l.getD 15 0 + chC (l.take 15) 0) % 65536 = l.getD 15 0 + chC (l.take 15) 0 := by omega
  rw [this]
theorem csK_length (l : List Int) (hl : l.length = 16) (k : Nat) (hk : k ≤ 16) : (csK l k).length = 16 := by
  unfold csK; rw [List.length_set, caK_length l k (by omega)]; exact hl
theorem less_prime (V : Int) (h : In256 V) (hp : ¬ V < PR) : In256 (V - PR) ∧ (V - PR) % PR = V % PR ∧ vd (List.zipWith (fun a b => a - b) (ldD 16 V) (ldD 16 PR)) = V - PR ∧ Dg 65536 (List.zipWith (fun a b => a - b) (ldD 16 V) (ldD 16 PR)) ∧ ((ldD 16 (V - PR)).getD 15 0).toNat < ((ldD 16 V).getD 15 0).toNat := by
  have hP : In256 PR := by unfold In256 PR; omega
  refine ⟨?_, ?_, ?_, ⟨by simp [ldD_length], zip_all _ (fun z => 0 ≤ z ∧ z < 65536) (fun z => 0 ≤ z ∧ z < 65536) _ (fun a b ha hb => by omega) _ _ (ldD_bd 16 _) (ldD_bd 16 _)⟩, ?_⟩
  · have := h.2; unfold In256; unfold PR at *; omega
  · rw [Int.sub_emod, Int.emod_self, Int.sub_zero, Int.emod_emod_of_dvd _ (Int.dvd_refl _)]
  · rw [vd_minus _ _ (by rw [ldD_length, ldD_length]), vd_small _ h, vd_small _ hP]
  · rw [ldD_at 16 _ 15 (by decide), ldD_at 16 _ 15 (by decide), p15]
    have h1 := h.1
    have h2 := h.2
    unfold PR at *
    omega
theorem p2k (k : Nat) : (256 : Int) ^ (2 * k) = 65536 ^ k := by
  induction k with
  | zero => rfl
  | succ n ih => rw [show 2 * (n + 1) = 2 * n + 1 + 1 by omega, Int.pow_succ, Int.pow_succ, ih, Int.pow_succ, Int.mul_assoc]; rfl
theorem by_low (V : Int) (k : Nat) (hk : k < 16) : (ldD 16 V).getD k 0 % 256 = (leB 32 V).getD (2 * k) 0 := by
  rw [ldD_at 16 V k hk, leB_at 32 V (2 * k) (by omega), p2k]
  omega
theorem by_high (V : Int) (k : Nat) (hk : k < 16) : (ldD 16 V).getD k 0 / 256 % 256 = (leB 32 V).getD (2 * k + 1) 0 := by
  rw [ldD_at 16 V k hk, leB_at 32 V (2 * k + 1) (by omega), Int.pow_succ, p2k, ← Int.ediv_ediv_of_nonneg (Int.le_of_lt (Int.pow_pos (by decide)))]
  omega
end Go.Proofs.Ytnifolefhelmcaa

namespace Go.Proofs.Ytnifolefhelmcaa
open Go.RowKit
set_option linter.unusedVariables false
set_option linter.unusedSimpArgs false

set_option maxRecDepth 20000 in
set_option maxHeartbeats 4000000 in
theorem qbytes_any (l : List Int) (x : Int) (hl : Nd l x) (w : World) :
    Calls Try.prog 113 #[.agg (i64s l).toArray] w fun e w' => e = .returned (.agg (u8s (leB 32 x)).toArray) ∧ Below w.heap.size w w' := by
  obtain ⟨hI, hx, t2, t3, d1, d2, d3⟩ := three l x hl
  have C1 := qcarry_any l d1.1 d1.2
  have C2 := qcarry_any _ d2.1 d2.2
  have C3 := qcarry_any _ d3.1 d3.2
  rw [t2] at C2
  rw [t3] at C3
  obtain ⟨V0, hV0⟩ : ∃ z, fV (vd l) = z := ⟨_, rfl⟩
  obtain ⟨A, hA⟩ : ∃ z, carL (vd l) = z := ⟨_, rfl⟩
  obtain ⟨D0, hD0⟩ : ∃ z, ldD 16 V0 = z := ⟨_, rfl⟩
  rw [hV0] at C2 C3 hI hx
  rw [hA] at C1 C2
  rw [hD0] at C2 C3
  have LN : Hid (∀ (l : List Int), l.length = 16 → (Try.prog.info? 140).map (·.size) = some (i64s l).length) := fun l h => by rw [i64s_length, h]; exact sizeNm
  have HL : Hid (In256 V0 ∧ V0 % PR = x ∧ ldD 16 V0 = D0 ∧ l.length = 16 ∧ D0.length = 16) := ⟨hI, hx, hD0, hl.len, by rw [← hD0, ldD_length]⟩
  clear hl hI hx t2 t3 d1 d2 d3 hV0 hA hD0
  go_enter Try.func113, Try.ntmps113
  go_wp2_with (first | (refine wpList_box_new rfl 140 (.tmp 0) rfl (i64s l) rfl ?_; intro x1 z1 s1 l1) | ((with_reducible show wpList _ _ _ (({ dst := some 2, op := _, type := _, pos := _, after := _, guard := _ } : Oper) :: _) _ _); refine wpList_alloc_new rfl 29 rfl 32 _ zero32 ?_; intro x2 z2 s2 l2; rw [s1] at z2; have zz := z1.later l2 (by omega)) | ((with_reducible show wpList _ _ _ (({ dst := some 7, op := _, type := _, pos := _, after := _, guard := _ } : Oper) :: _) _ _); refine wpList_load_blk rfl 140 _ rfl w.heap.size rfl (i64s l) _ zz Try.underlying140 rfl (LN.out _ HL.out.2.2.2.1) ?_) | ((with_reducible show Calls _ _ #[.agg (i64s l).toArray] _ _); refine (C1 _).mono ?_; rintro e x3 ⟨rfl, l3⟩) | ((with_reducible show Calls _ _ #[.agg (i64s A).toArray] _ _); refine (C2 _).mono ?_; rintro e x4 ⟨rfl, l4⟩) | ((with_reducible show Calls _ _ #[.agg (i64s D0).toArray] _ _); refine (C3 _).mono ?_; rintro e x5 ⟨rfl, l5⟩) | (refine wpList_store_blk rfl 140 140 _ (.tmp 10) rfl w.heap.size rfl _ (i64s D0) rfl (((zz.later l3 (by omega)).later l4 (by have := l3.size; omega)).later l5 (by have := l3.size; have := l4.size; omega)) (by rw [i64s_length, i64s_length, HL.out.2.2.2.1, HL.out.2.2.2.2]) (LN.out _ HL.out.2.2.2.2) (i64s_one _) ?_; intro x6 z6 s6 k6))
  have WW : Hid (Below w.heap.size w x6 ∧ Blk x6 w.heap.size 140 (i64s (ldD 16 V0)) ∧ Blk x6 (w.heap.size + 1) 29 (u8s (List.replicate 32 0))) := by
    have q1 := l3.size
    have q2 := l4.size
    have q3 := l5.size
    exact ⟨below_kept (below_chain (below_chain (below_chain (below_chain l1 l2 (by omega)) l3 (by omega)) l4 (by omega)) l5 (by omega)) k6 (by omega) (fun j hj => by omega), by rw [HL.out.2.2.1]; exact z6, (((z2.later l3 (by omega)).later l4 (by omega)).later l5 (by omega)).kept k6 (by omega)⟩
  clear z1 s1 l1 z2 s2 l2 zz l3 l4 l5 z6 s6 k6 C1 C2 C3
  simp only [Act.put, List.setIfInBounds_toArray, List.set_cons_zero, List.set_cons_succ]
  go_loopw [3] (fun _ wr => ∃ (V : Int), In256 V ∧ V % PR = x ∧ Hid (Below w.heap.size w wr ∧ Blk wr w.heap.size 140 (i64s (ldD 16 V)) ∧ Blk wr (w.heap.size + 1) 29 (u8s (List.replicate 32 0)))) (fun _ wr => (intOf ((wr.cell? ⟨w.heap.size, 15, none⟩).getD undef)).toNat)
  case atStart => exact ⟨V0, HL.out.1, HL.out.2.1, WW⟩
  case round =>
    obtain ⟨V, hV, hVx, HR⟩ := hrel
    obtain ⟨wo, hwo⟩ : ∃ wo : World, wo = wr := ⟨_, rfl⟩
    subst hwo
    have HB := qbelow_any V hV
    have m0 := i64s_cell HR.out.2.1 15 (by rw [ldD_length]; decide)
    clear HL WW
    by_cases hlt : V < PR
    · rw [decide_eq_true hlt] at HB
      have hVe : V = x := by rw [← hVx, Int.emod_eq_of_lt hV.1 hlt]
      rw [hVe] at HR HB
      have bl := by_low x
      have bh := by_high x
      have dl := ldD_bd 16 x
      obtain ⟨D, hD⟩ : ∃ z, ldD 16 x = z := ⟨_, rfl⟩
      rw [hD] at HR HB bl bh dl
      have HD : Hid (D.length = 16 ∧ (∀ k, k < 16 → D.getD k 0 % 256 = (leB 32 x).getD (2 * k) 0) ∧ (∀ k, k < 16 → D.getD k 0 / 256 % 256 = (leB 32 x).getD (2 * k + 1) 0) ∧ (∀ z ∈ D, 0 ≤ z ∧ z < 65536)) := ⟨by rw [← hD, ldD_length], bl, bh, dl⟩
      clear m0 hVe hD bl bh dl hVx hlt hV
      go_wp2_with (first | ((with_reducible show wpList _ _ _ (({ dst := some 11, op := _, type := _, pos := _, after := _, guard := _ } : Oper) :: _) _ _); refine wpList_load_blk rfl 140 _ rfl w.heap.size rfl (i64s D) _ HR.out.2.1 Try.underlying140 rfl (LN.out _ HD.out.1) ?_) | (go_at_call 127; refine (HB _).mono ?_; rintro e y1 ⟨rfl, l1⟩) | (refine wpList_alloc_new rfl 29 rfl 32 _ zero32 ?_; intro y2 z2 s2 l2))
      obtain ⟨go, hgo⟩ : ∃ q, y1.heap.size = q := ⟨_, rfl⟩
      rw [hgo] at z2 ⊢
      have W2 : Hid (Below w.heap.size w y2 ∧ Blk y2 w.heap.size 140 (i64s D) ∧ Blk y2 (w.heap.size + 1) 29 (u8s (List.replicate 32 0)) ∧ Blk y2 go 29 (u8s (byK (leB 32 x) 0)) ∧ w.heap.size + 1 < go) := by
        have q1 := HR.out.2.1.lt
        have q2 := HR.out.2.2.lt
        have q3 := l1.size
        have q4 := HR.out.1.size
        exact ⟨below_chain (below_chain HR.out.1 l1 (by omega)) l2 (by omega), (HR.out.2.1.later l1 q1).later l2 (by omega), (HR.out.2.2.later l1 q2).later l2 (by omega), z2, by omega⟩
      clear HR HB l1 z2 s2 l2 hgo
      go_loopw [6] (fun i wr => ∃ (k : Nat), k ≤ 16 ∧ i = .int .i64 k ∧ Blk wr go 29 (u8s (byK (leB 32 x) (2 * k))) ∧ Kept (fun x => x = go) y2 wr) (fun i _ => 16 - (intOf i).toNat)
      case atStart => exact ⟨0, by omega, rfl, W2.out.2.2.2.1, Kept.refl _ _⟩
      case round =>
        obtain ⟨k, hk, rfl, hblk, hkp⟩ := hrel
        by_cases hlt : k < 16
        · have i1 : (k : Int) < 16 := by omega
          have i3 : (0 : Int) ≤ (k : Int) := by omega
          have hN := W2.out.2.1.kept hkp (by have := W2.out.2.2.2.2; omega)
          have c0 := i64s_cell hN k (by rw [HD.out.1]; exact hlt)
          have hX := HD.out.2.2.2 (D.getD k 0) (by simp [List.getD, show k < D.length by rw [HD.out.1]; exact hlt])
          have e0 := HD.out.2.1 k hlt
          have e1 := HD.out.2.2.1 k hlt
          have g0 := hblk.frozen (2 * k)
          have g1 := hblk.frozen (2 * k + 1)
          have a0 := u8s_cell hblk (2 * k) (by rw [byK_length _ (leB_length _ _) _ (by omega)]; omega)
          have a1 := u8s_cell hblk (2 * k + 1) (by rw [byK_length _ (leB_length _ _) _ (by omega)]; omega)
          have st0 := byK_set (leB 32 x) (leB_length _ _) (2 * k) (by omega)
          have st1 := byK_set (leB 32 x) (leB_length _ _) (2 * k + 1) (by omega)
          rw [← e0] at st0
          rw [← e1] at st1
          have hgw : w.heap.size ≠ go := by have := W2.out.2.2.2.2; omega
          obtain ⟨X, hXX⟩ : ∃ z, D.getD k 0 = z := ⟨_, rfl⟩
          rw [hXX] at c0 hX st0 st1
          have v0 : IntKind.i64.wrap (2 * (k : Int)) = 2 * (k : Int) := by simp only [IntKind.wrap, IntKind.bits, IntKind.signed]; simp; omega
          have v1 : IntKind.i64.wrap (2 * (k : Int) + 1) = 2 * (k : Int) + 1 := by simp only [IntKind.wrap, IntKind.bits, IntKind.signed]; simp; omega
          have t0 : (2 * (k : Int)).toNat = 2 * k := by omega
          have t1 : (2 * (k : Int) + 1).toNat = 2 * k + 1 := by omega
          have j0 : 2 * (k : Int) < 32 := by omega
          have j1 : 2 * (k : Int) + 1 < 32 := by omega
          have j2 : (0 : Int) ≤ 2 * (k : Int) := by omega
          have j3 : (0 : Int) ≤ 2 * (k : Int) + 1 := by omega
          have HQ : Hid (Blk wr go 29 (u8s (byK (leB 32 x) (2 * k))) ∧ Kept (fun x => x = go) y2 wr ∧ (byK (leB 32 x) (2 * k)).set (2 * k) (X % 256) = byK (leB 32 x) (2 * k + 1) ∧ (byK (leB 32 x) (2 * k + 1)).set (2 * k + 1) (X / 256 % 256) = byK (leB 32 x) (2 * k + 1 + 1)) := ⟨hblk, hkp, st0, st1⟩
          have x2 : X / 256 % 256 = X / 256 := by omega
          rw [x2] at HQ
          clear hblk hkp st0 st1 hXX e0 e1 hN x2
          go_wp2_with fail
          go_roundw
          case rel =>
            have R := (HQ.out.1.set (2 * k) (.int .u8 (X % 256))).set (2 * k + 1) (.int .u8 (X / 256))
            rw [u8s_set, HQ.out.2.2.1, u8s_set, HQ.out.2.2.2] at R
            exact ⟨k + 1, by omega, by go_num, R, (HQ.out.2.1.setCell (p := ⟨go, 2 * k, none⟩) rfl _).setCell (p := ⟨go, 2 * k + 1, none⟩) rfl _⟩
          case measure => simp [intOf]; omega
        · obtain rfl : k = 16 := by omega
          have i1 : ¬ (((16 : Nat) : Int) < 16) := by omega
          have X1 : Hid (Blk wr go 29 (u8s (leB 32 x)) ∧ Blk wr (w.heap.size + 1) 29 (u8s (List.replicate 32 0)) ∧ Below w.heap.size w wr ∧ (u8s (leB 32 x)).length = 32) := ⟨by rw [byK_all _ (leB_length _ _)] at hblk; exact hblk, W2.out.2.2.1.kept hkp (by have := W2.out.2.2.2.2; omega), below_kept W2.out.1 hkp W2.out.1.size (fun j hj => by have := W2.out.2.2.2.2; omega), by rw [u8s_length, leB_length]⟩
          clear hblk hkp
          go_wp2_with (first | (refine wpList_load_blk rfl 29 _ rfl go rfl (u8s (leB 32 x)) _ X1.out.1 Try.underlying29 rfl (by rw [X1.out.2.2.2]; exact size32) ?_) | (refine wpList_store_blk rfl 29 29 _ _ rfl _ rfl _ (u8s (leB 32 x)) rfl X1.out.2.1 (by rw [X1.out.2.2.2]; rfl) (by rw [X1.out.2.2.2]; exact size32) (u8s_one _) ?_; intro y6 b6 s6 k6))
          exact ret_blk rfl (w.heap.size + 1) (u8s (leB 32 x)) _ rfl b6 Try.underlying29 rfl (by rw [X1.out.2.2.2]; exact size32) rfl ⟨rfl, below_kept X1.out.2.2.1 k6 X1.out.2.2.1.size (fun j hj => by omega)⟩
    · rw [decide_eq_false hlt] at HB
      obtain ⟨n1, n2, n3, n4, n5⟩ := less_prime V hV hlt
      have cl := csK_last _ n4.1 (by rw [n3]; exact n1)
      rw [n3] at cl
      have HP0 := qprime_any
      rw [prD_eq] at HP0
      have HM0 := qminus_any (ldD 16 V) (ldD 16 PR) ⟨ldD_length _ _, fun z hz => by have := ldD_bd 16 _ z hz; omega⟩ ⟨ldD_length _ _, fun z hz => by have := ldD_bd 16 _ z hz; omega⟩
      obtain ⟨D, hD⟩ : ∃ z, ldD 16 V = z := ⟨_, rfl⟩
      obtain ⟨Q, hQ⟩ : ∃ z, ldD 16 PR = z := ⟨_, rfl⟩
      obtain ⟨Z, hZ⟩ : ∃ z, List.zipWith (fun a b => a - b) D Q = z := ⟨_, rfl⟩
      have hDl : D.length = 16 := by rw [← hD, ldD_length]
      rw [hD] at HR HB HM0 n4 cl n5 m0
      rw [hQ] at HP0 HM0 n4 cl
      rw [hZ] at HM0 n4 cl
      have HP : Hid (∀ w, Calls Try.prog 128 #[] w fun e w' => e = .returned (.agg (i64s Q).toArray) ∧ Below w.heap.size w w') := HP0
      have HM : Hid (∀ w, Calls Try.prog 125 #[.agg (i64s D).toArray, .agg (i64s Q).toArray] w fun e w' => e = .returned (.agg (i64s Z).toArray) ∧ Below w.heap.size w w') := HM0
      have HD : Hid (V % PR = x ∧ D.length = 16 ∧ In256 (V - PR) ∧ (V - PR) % PR = V % PR ∧ Dg 65536 Z ∧ csK Z 15 = ldD 16 (V - PR) ∧ ((ldD 16 (V - PR)).getD 15 0).toNat < (D.getD 15 0).toNat ∧ wo.cell? ⟨w.heap.size, 15, none⟩ = some (.int .i64 (D.getD 15 0))) := ⟨hVx, hDl, n1, n2, n4, cl, n5, m0⟩
      clear m0 n1 n2 n3 n4 n5 cl HP0 HM0 hD hQ hZ hDl hVx hlt hV
      have HR0 := HR
      go_wp2_with (first | ((with_reducible show wpList _ _ _ (({ dst := some 11, op := _, type := _, pos := _, after := _, guard := _ } : Oper) :: _) _ _); refine wpList_load_blk rfl 140 _ rfl w.heap.size rfl (i64s D) _ HR.out.2.1 Try.underlying140 rfl (LN.out _ HD.out.2.1) ?_) | (go_at_call 127; refine (HB _).mono ?_; rintro e y1 ⟨rfl, l1⟩))
      replace HR : Hid (Below w.heap.size w y1 ∧ Blk y1 w.heap.size 140 (i64s D) ∧ Blk y1 (w.heap.size + 1) 29 (u8s (List.replicate 32 0))) := ⟨below_chain HR0.out.1 l1 HR0.out.1.size, HR0.out.2.1.later l1 HR0.out.2.1.lt, HR0.out.2.2.later l1 HR0.out.2.2.lt⟩
      clear HR0 l1 HB
      refine region_invT ((.val (.agg (i64s D).toArray)) :: (.val (.agg (i64s Q).toArray)) :: (.val (.agg (i64s Z).toArray)) :: []) (by kernel_rfl) (by kernel_rfl) (by kernel_rfl) ?_ ?_
      · refine Steps'.cons ?_ (Steps'.cons ?_ (Steps'.cons ?_ (Steps'.one _ _ _ _ _ _ _)))
        · intro ax wx hb hs hd
          have h1 : ax.tmps.getD 1 undef = (.pointer (some ⟨w.heap.size, 0, none⟩)) := hs 1 (by kernel_rfl)
          exact Does.load 140 (.tmp 1) rfl w.heap.size 0 h1 (i64s D) _ ((Blk.later HR.out.2.1 hb (Blk.lt HR.out.2.1)).whole) Try.underlying140 rfl (LN.out _ HD.out.2.1)
        · intro ax wx hb hs hd
          refine Does.call 128 #[] (by clear hs hd; go_simp) ?_
          refine (HP.out _).mono ?_
          rintro z w' ⟨rfl, l⟩
          exact ⟨_, rfl, rfl, l⟩
        · intro ax wx hb hs hd
          have h14 : ax.tmps.getD 14 undef = (.agg (i64s D).toArray) := hd 0 14 rfl (by kernel_rfl) (by decide)
          have h15 : ax.tmps.getD 15 undef = (.agg (i64s Q).toArray) := hd 1 15 rfl (by kernel_rfl) (by decide)
          refine Does.call 125 #[(.agg (i64s D).toArray), (.agg (i64s Q).toArray)] (by clear hs hd; go_simp) ?_
          refine (HM.out _).mono ?_
          rintro z w' ⟨rfl, l⟩
          exact ⟨_, rfl, rfl, l⟩
      · intro wx hb
        refine @Ends.val _ _ _ _ _ _ _ _ _ (.agg (i64s D).toArray) rfl ?_
        refine @Ends.val _ _ _ _ _ _ _ _ _ (.agg (i64s Q).toArray) rfl ?_
        refine @Ends.val _ _ _ _ _ _ _ _ _ (.agg (i64s Z).toArray) rfl ?_
        refine @Ends.one _ _ _ _ _ _ _ ?_
        simp only [Act.put, List.setIfInBounds_toArray, List.set_cons_zero, List.set_cons_succ]
        refine last_store 140 (.tmp 1) (.tmp 16) rfl rfl w.heap.size rfl 140 _ (i64s Z) rfl (HR.out.2.1.later hb HR.out.2.1.lt) (by rw [i64s_length, i64s_length, HD.out.2.1, HD.out.2.2.2.2.1.1]) (LN.out _ HD.out.2.2.2.2.1.1) (i64s_one _) ?_
        intro y2 b2 s2 k2
        have W2 : Hid (Below w.heap.size w y2 ∧ Blk y2 w.heap.size 140 (i64s Z) ∧ Blk y2 (w.heap.size + 1) 29 (u8s (List.replicate 32 0))) := by
          have q1 := HR.out.1.size
          have q2 := hb.size
          exact ⟨below_kept (below_chain HR.out.1 hb (by omega)) k2 (by omega) (fun j hj => by omega), b2, (HR.out.2.2.later hb HR.out.2.2.lt).kept k2 (by omega)⟩
        clear HR HP HM b2 s2 k2 hb
        go_wp2_with fail
        go_loopw [3] (fun i wi => ∃ (k : Nat), k ≤ 15 ∧ i = .int .i64 k ∧ Blk wi w.heap.size 140 (i64s (csK Z k)) ∧ Kept (fun x => x = w.heap.size) y2 wi) (fun i _ => 15 - (intOf i).toNat)
        case atStart => exact ⟨0, by omega, rfl, by rw [csK_zero Z HD.out.2.2.2.2.1.1]; exact W2.out.2.1, Kept.refl _ _⟩
        case round =>
          obtain ⟨k, hk, rfl, hblk, hkp⟩ := hrel
          by_cases hlt : k < 15
          · have hZl := HD.out.2.2.2.2.1.1
            have hk2 : k < Z.length := by rw [hZl]; omega
            have i1 : (k : Int) < 15 := by omega
            have i3 : (0 : Int) ≤ (k : Int) := by omega
            have hc := chC_bd2 (Z.take k) 0 65536 (fun z hz => HD.out.2.2.2.2.1.2 z (List.mem_of_mem_take hz)) ⟨by decide, by decide⟩ (by decide)
            have hX := HD.out.2.2.2.2.1.2 (Z.getD k 0) (by simp [List.getD, hk2])
            have hY := HD.out.2.2.2.2.1.2 (Z.getD (k + 1) 0) (by simp [List.getD, show k + 1 < Z.length by rw [hZl]; omega])
            have ck := i64s_cell hblk k (by rw [csK_length Z hZl k (by omega)]; omega)
            have ck1 := i64s_cell hblk (k + 1) (by rw [csK_length Z hZl k (by omega)]; omega)
            have fg := hblk.frozen k
            have fg1 := hblk.frozen (k + 1)
            have lo := csK_low Z k hk2
            have nx := csK_next Z k (by rw [hZl]; omega)
            have e1 : (csK Z k).getD (k + 1) 0 = Z.getD (k + 1) 0 := by
              have h1 := caK_at Z (k + 1) (by rw [hZl]; omega)
              rw [← lo] at h1
              rw [← h1]
              simp only [List.getD]
              rw [List.getElem?_set_ne (by omega)]
            rw [e1] at ck1
            rw [csK_at Z k hk2] at ck
            obtain ⟨X, hXX⟩ : ∃ z, Z.getD k 0 + chC (Z.take k) 0 = z := ⟨_, rfl⟩
            obtain ⟨Y, hYY⟩ : ∃ z, Z.getD (k + 1) 0 = z := ⟨_, rfl⟩
            have hXb : -131072 ≤ X ∧ X ≤ 131072 := by omega
            rw [hXX] at ck lo nx
            rw [hYY] at ck1 hY nx
            have m1 : X - X / 65536 * 65536 = X % 65536 := by omega
            have HQ : Hid (Blk wr w.heap.size 140 (i64s (csK Z k)) ∧ Kept (fun x => x = w.heap.size) y2 wr ∧ (csK Z k).set k (X % 65536) = caK Z (k + 1) ∧ (caK Z (k + 1)).set (k + 1) (Y + X / 65536) = csK Z (k + 1)) := ⟨hblk, hkp, lo, nx⟩
            clear hblk hkp lo nx hXX hYY e1 hc hX hZl hk2
            go_wp2_with fail
            go_roundw
            case rel =>
              have R := (HQ.out.1.set k (.int .i64 (X % 65536))).set (k + 1) (.int .i64 (Y + X / 65536))
              rw [i64s_set, HQ.out.2.2.1, i64s_set, HQ.out.2.2.2] at R
              exact ⟨k + 1, by omega, by go_num, R, (HQ.out.2.1.setCell (p := ⟨w.heap.size, k, none⟩) rfl _).setCell (p := ⟨w.heap.size, k + 1, none⟩) rfl _⟩
            case measure => simp [intOf]; omega
          · obtain rfl : k = 15 := by omega
            have i1 : ¬ (((15 : Nat) : Int) < 15) := by omega
            rw [HD.out.2.2.2.2.2.1] at hblk
            have X1 : Hid (Below w.heap.size w wr ∧ Blk wr w.heap.size 140 (i64s (ldD 16 (V - PR))) ∧ Blk wr (w.heap.size + 1) 29 (u8s (List.replicate 32 0))) := ⟨below_kept W2.out.1 hkp W2.out.1.size (fun j hj => by omega), hblk, W2.out.2.2.kept hkp (by omega)⟩
            have m2 : Hid (wr.cell? ⟨w.heap.size, 15, none⟩ = some (.int .i64 ((ldD 16 (V - PR)).getD 15 0))) := i64s_cell hblk 15 (by rw [ldD_length]; decide)
            clear hblk hkp
            go_wp2_with fail
            go_roundw
            case rel => exact ⟨V - PR, HD.out.2.2.1, by rw [HD.out.2.2.2.1]; exact HD.out.1, X1⟩
            case measure =>
              rw [m2.out, HD.out.2.2.2.2.2.2.2]
              exact HD.out.2.2.2.2.2.2.1
end Go.Proofs.Ytnifolefhelmcaa

namespace Go.Proofs.Ytnifolefhelmcaa
open Go.RowKit
set_option linter.unusedVariables false
set_option linter.unusedSimpArgs false

set_option maxRecDepth 20000 in
set_option maxHeartbeats 2000000 in
theorem qmul_any (ks us : List Int) (hk : ks.length = 32) (bk : Bytes ks) (hu : us.length = 32) (bu : Bytes us) (w : World) :
    Calls Try.prog 79 #[.agg (u8s ks).toArray, .agg (u8s us).toArray] w fun e w' => e = .returned (.agg (u8s (prodL ks us)).toArray) ∧ Below w.heap.size w w' := by
  have HP := qprod_any ks us hk bk hu bu
  unfold prodL prodN mulI
  obtain ⟨x, hx⟩ : ∃ q, (ladI (pubN us) (le (clampL ks)).toNat 255).1 = q := ⟨_, rfl⟩
  obtain ⟨z, hz⟩ : ∃ q, (ladI (pubN us) (le (clampL ks)).toNat 255).2.1 = q := ⟨_, rfl⟩
  rw [hx, hz] at HP ⊢
  have LN : Hid (∀ l : List Int, l.length = 16 → (Try.prog.info? 140).map (·.size) = some (i64s l).length) := fun l h => by rw [i64s_length, h]; exact sizeNm
  have HK : Hid ((Try.prog.info? 58).map (·.size) = some (u8s ks).length ∧ (Try.prog.info? 58).map (·.size) = some (u8s us).length) := ⟨by rw [u8s_length, hk]; exact sizeKey, by rw [u8s_length, hu]; exact sizeKey⟩
  clear hk bk hu bu hx hz
  go_enter Try.func79, Try.ntmps79
  go_wp2_with (first | (refine wpList_box_new rfl 58 (.tmp 0) rfl (u8s ks) rfl ?_; intro x0 z0 s0 l0) | (refine wpList_box_new rfl 58 (.tmp 1) rfl (u8s us) rfl ?_; intro x1 z1 s1 l1; have z1q := z1; rw [s0] at z1) | ((with_reducible show wpList _ _ _ (({ dst := some 4, op := _, type := _, pos := _, after := _, guard := _ } : Oper) :: _) _ _); refine wpList_alloc_new rfl 58 rfl 32 _ zeroKey ?_; intro x2 z2 s2 l2; rw [s1, s0] at z2) | ((with_reducible show wpList _ _ _ (({ dst := some 8, op := _, type := _, pos := _, after := _, guard := _ } : Oper) :: _) _ _); refine wpList_load_blk rfl 58 _ rfl w.heap.size rfl (u8s ks) _ ((z0.later l1 (by omega)).later l2 (by omega)) Try.underlying58 rfl HK.out.1 ?_) | ((with_reducible show wpList _ _ _ (({ dst := some 9, op := _, type := _, pos := _, after := _, guard := _ } : Oper) :: _) _ _); first | refine wpList_load_blk rfl 58 _ rfl (w.heap.size + 1) rfl (u8s us) _ (z1.later l2 (by omega)) Try.underlying58 rfl HK.out.2 ?_ | refine wpList_load_blk rfl 58 _ rfl x0.heap.size rfl (u8s us) _ (z1q.later l2 (by omega)) Try.underlying58 rfl HK.out.2 ?_) | (go_at_call 112; refine (HP _).mono ?_; rintro e x3 ⟨a, b, rfl, Fa, Fb, l3⟩) | ((with_reducible show wpList _ _ _ (({ dst := some 5, op := _, type := _, pos := _, after := _, guard := _ } : Oper) :: _) _ _); refine wpList_alloc_new rfl 140 rfl 16 _ zeroNm ?_; intro x4 z4 s4 l4) | ((with_reducible show wpList _ _ _ (({ dst := some 6, op := _, type := _, pos := _, after := _, guard := _ } : Oper) :: _) _ _); refine wpList_alloc_new rfl 140 rfl 16 _ zeroNm ?_; intro x5 z5 s5 l5; have z5q := z5; rw [s4] at z5; have y4 := z4.later l5 (by omega)) | ((with_reducible show wpList _ _ _ (({ dst := none, op := .store _ (.tmp 5) (.tmp 11), type := _, pos := _, after := _, guard := _ } : Oper) :: _) _ _); refine wpList_store_blk rfl 140 140 _ _ rfl _ rfl _ (i64s a) rfl y4 (by rw [i64s_length, Fa.len]; rfl) (LN.out _ Fa.len) (i64s_one _) ?_; intro x6 z6 s6 k6; have y5 := z5.kept k6 (by omega); have y5q := z5q.kept k6 (by omega)) | ((with_reducible show wpList _ _ _ (({ dst := none, op := .store _ (.tmp 6) (.tmp 12), type := _, pos := _, after := _, guard := _ } : Oper) :: _) _ _); first | (refine wpList_store_blk rfl 140 140 _ _ rfl _ rfl _ (i64s b) rfl y5 (by rw [i64s_length, Fb.len]; rfl) (LN.out _ Fb.len) (i64s_one _) ?_; intro x7 z7 s7 k7) | (refine wpList_store_blk rfl 140 140 _ _ rfl _ rfl _ (i64s b) rfl y5q (by rw [i64s_length, Fb.len]; rfl) (LN.out _ Fb.len) (i64s_one _) ?_; intro x7 z7 s7 k7; rw [s4] at z7 k7)))
  have HF : Hid (Nd a x ∧ Nd b z) := ⟨Fa, Fb⟩
  obtain ⟨ga, hga⟩ : ∃ q, x3.heap.size = q := ⟨_, rfl⟩
  obtain ⟨gb, hgb⟩ : ∃ q, ga + 1 = q := ⟨_, rfl⟩
  have s4b := s4
  rw [hga] at z6 z7 k6 k7 s4b
  rw [hgb] at z7 k7
  have V : Hid (Below w.heap.size w x7 ∧ Blk x7 (w.heap.size + 1 + 1) 58 (u8s (List.replicate 32 0)) ∧ Blk x7 ga 140 (i64s a) ∧ Blk x7 gb 140 (i64s b)) := by
    have q3 := l3.size
    exact ⟨below_kept (below_kept (below_chain (below_chain (below_chain (below_chain (below_chain l0 l1 (by omega)) l2 (by omega)) l3 (by omega)) l4 (by omega)) l5 (by omega)) k6 (by omega) (fun j hj => by omega)) k7 (by omega) (fun j hj => by omega), ((((z2.later l3 (by omega)).later l4 (by omega)).later l5 (by omega)).kept k6 (by omega)).kept k7 (by omega), z6.kept k7 (by omega), z7⟩
  simp only [Act.put, List.setIfInBounds_toArray, List.set_cons_zero, List.set_cons_succ, s4, hga, hgb]
  clear z0 s0 l0 z1 z1q s1 l1 z2 s2 l2 l3 z4 s4 l4 z5 z5q s5 l5 y4 y5 y5q z6 s6 k6 z7 s7 k7 Fa Fb hga hgb HP s4b
  refine region_invP 5 ((.val (.agg (i64s a).toArray)) :: (.val (.agg (i64s b).toArray)) :: (.any (isNd (inv z)) (isNd_later (inv z))) :: (.any (isNd (x * inv z % PR)) (isNd_later (x * inv z % PR))) :: (.val (.agg (u8s (leB 32 (x * inv z % PR))).toArray)) :: []) (by kernel_rfl) (by kernel_rfl) (by kernel_rfl) [] ⟨.inl rfl, .inl rfl, .inl rfl, .inl rfl, .inl rfl, trivial⟩ (by kernel_rfl) ?_ ?_
  · refine Steps'.cons ?_ (Steps'.cons ?_ (Steps'.cons ?_ (Steps'.cons ?_ (Steps'.cons ?_ (Steps'.one _ _ _ _ _ _ _)))))
    · intro ax wx hb hs hd
      have h5 : ax.tmps.getD 5 undef = (.pointer (some ⟨ga, 0, none⟩)) := hs 5 (by kernel_rfl)
      exact Does.load 140 (.tmp 5) rfl ga 0 h5 (i64s a) _ ((Blk.later V.out.2.2.1 hb (Blk.lt V.out.2.2.1)).whole) Try.underlying140 rfl (LN.out _ HF.out.1.len)
    · intro ax wx hb hs hd
      have h6 : ax.tmps.getD 6 undef = (.pointer (some ⟨gb, 0, none⟩)) := hs 6 (by kernel_rfl)
      exact Does.load 140 (.tmp 6) rfl gb 0 h6 (i64s b) _ ((Blk.later V.out.2.2.2 hb (Blk.lt V.out.2.2.2)).whole) Try.underlying140 rfl (LN.out _ HF.out.2.len)
    · intro ax wx hb hs hd
      have h14 : ax.tmps.getD 14 undef = (.agg (i64s b).toArray) := hd 1 14 rfl (by kernel_rfl) (by decide)
      refine Does.call 115 #[(.agg (i64s b).toArray)] (by clear hs hd; go_simp) ?_
      refine (qinv_any b z HF.out.2 _).mono ?_
      rintro y w' ⟨r, rfl, fr, l⟩
      exact ⟨_, rfl, ⟨r, rfl, fr⟩, l⟩
    · intro ax wx hb hs hd
      have h13 : ax.tmps.getD 13 undef = (.agg (i64s a).toArray) := hd 0 13 rfl (by kernel_rfl) (by decide)
      obtain ⟨l15, h15, f15⟩ : isNd (inv z) (ax.tmps.getD 15 undef) wx := hd 2 15 rfl (by kernel_rfl) (by decide)
      refine Does.call 114 #[(.agg (i64s a).toArray), (.agg (i64s l15).toArray)] (by clear hs hd; go_simp) ?_
      refine (qtimes_any _ _ _ _ HF.out.1.w f15.w _).mono ?_
      rintro y w' ⟨r, rfl, fr, l⟩
      exact ⟨_, rfl, ⟨r, rfl, fr⟩, l⟩
    · intro ax wx hb hs hd
      obtain ⟨l16, h16, f16⟩ : isNd (x * inv z % PR) (ax.tmps.getD 16 undef) wx := hd 3 16 rfl (by kernel_rfl) (by decide)
      refine Does.call 113 #[(.agg (i64s l16).toArray)] (by clear hs hd; go_simp) ?_
      refine (qbytes_any _ _ f16 _).mono ?_
      rintro y w' ⟨rfl, l⟩
      exact ⟨_, rfl, rfl, l⟩
  · intro wx hb
    refine @EndsP.val _ _ _ _ _ _ _ _ (.agg (i64s a).toArray) rfl ?_
    refine @EndsP.val _ _ _ _ _ _ _ _ (.agg (i64s b).toArray) rfl ?_
    refine @EndsP.any _ _ _ _ _ _ _ _ (isNd (inv z)) (isNd_later (inv z)) rfl ?_
    intro v2 p2
    refine @EndsP.any _ _ _ _ _ _ _ _ (isNd (x * inv z % PR)) (isNd_later (x * inv z % PR)) rfl ?_
    intro v3 p3
    refine @EndsP.val _ _ _ _ _ _ _ _ (.agg (u8s (leB 32 (x * inv z % PR))).toArray) rfl ?_
    intro hD nf hn
    obtain ⟨mf, rfl⟩ : ∃ mf, nf = mf + 1 := ⟨nf - 1, by have h3 : 1 ≤ nf := hn; omega⟩
    clear hD hn
    simp only [Act.put, List.setIfInBounds_toArray, List.set_cons_zero, List.set_cons_succ]
    refine wpAny_ready (rs := [5]) (by kernel_rfl) (by simp) (AllReady.cons rfl (fun K hK => ?_) AllReady.nil)
    rw [if_pos (by rfl)]
    have HB : Hid ((u8s (leB 32 (x * inv z % PR))).length = 32) := by show (u8s (leB 32 (x * inv z % PR))).length = 32; rw [u8s_length, leB_length]
    refine last_store 58 (.tmp 4) (.tmp 17) rfl rfl (w.heap.size + 1 + 1) rfl 58 _ (u8s (leB 32 (x * inv z % PR))) rfl (V.out.2.1.later hb V.out.2.1.lt) (by rw [HB.out]; rfl) (by rw [HB.out]; exact sizeKey) (u8s_one _) ?_
    intro y6 b6 s6 k6
    refine hK _ _ ?_
    clear hK K
    refine wpAny_done (by kernel_rfl) (NoPanic.normal ?_) _
    have q1 := V.out.1.size
    have q2 := hb.size
    go_wp2_with fail
    exact ret_blk rfl (w.heap.size + 1 + 1) (u8s (leB 32 (x * inv z % PR))) _ rfl b6 Try.underlying58 rfl (by rw [HB.out]; exact sizeKey) rfl ⟨rfl, below_kept (below_chain V.out.1 hb q1) k6 (by omega) (fun j hj => by omega)⟩
set_option maxRecDepth 20000 in
set_option maxHeartbeats 1000000 in
theorem qbase_any (ks : List Int) (hk : ks.length = 32) (bk : Bytes ks) (w : World) :
    Calls Try.prog 40 #[.agg (u8s ks).toArray] w fun e w' => e = .returned (.agg (u8s (prodL ks nineL)).toArray) ∧ Below w.heap.size w w' := by
  have HM := qmul_any ks nineL hk bk nine_len nine_bytes
  have HL : Hid ((u8s (prodL ks nineL)).length = 32 ∧ (Try.prog.info? 58).map (·.size) = some (u8s ks).length) := ⟨by rw [u8s_length, prodL_length], by rw [u8s_length, hk]; exact sizeKey⟩
  obtain ⟨rs, hr⟩ : ∃ z, prodL ks nineL = z := ⟨_, rfl⟩
  rw [hr] at HM HL ⊢
  clear hk bk hr
  go_enter Try.func40, Try.ntmps40
  go_wp2_with (first | (refine wpList_box_new rfl 58 (.tmp 0) rfl (u8s ks) rfl ?_; intro w1 b1 s1 l1) | (refine wpList_alloc_new rfl 58 rfl 32 _ zeroKey ?_; intro w2 b2 s2 l2) | (refine wpList_load_blk rfl 58 (.tmp 1) rfl w.heap.size rfl (u8s ks) _ (b1.later l2 (by omega)) Try.underlying58 rfl HL.out.2 ?_) | (refine wpList_build rfl 58 _ rfl #[(0, .int .u8 9)] (by simp [Act.eval]) _ (build_nine _) ?_) | (go_at_call 79; refine (HM _).mono ?_; rintro e w3 ⟨rfl, l3⟩) | (refine wpList_store_blk rfl 58 58 _ _ rfl (w.heap.size + 1) rfl _ (u8s rs) rfl (by rw [s1] at b2; exact b2.later l3 (by omega)) (by rw [HL.out.1]; rfl) (by rw [HL.out.1]; exact sizeKey) (u8s_one _) ?_; intro y7 b7 s7 k7))
  exact ret_blk rfl (w.heap.size + 1) (u8s rs) _ rfl b7 Try.underlying58 rfl (by rw [HL.out.1]; exact sizeKey) rfl ⟨rfl, below_kept (below_chain (below_chain l1 l2 (by omega)) l3 (by omega)) k7 (by have := l3.size; omega) (fun j hj => by omega)⟩
end Go.Proofs.Ytnifolefhelmcaa

namespace Go.Proofs.Ytnifolefhelmcaa
open Go.RowKit
set_option linter.unusedVariables false
set_option linter.unusedSimpArgs false

set_option maxRecDepth 20000 in
set_option maxHeartbeats 2000000 in
theorem qagree_any (ks us : List Int) (hk : ks.length = 32) (bk : Bytes ks) (hu : us.length = 32) (bu : Bytes us) (w : World) :
    Calls Try.prog 35 #[.agg (u8s ks).toArray, .agg (u8s us).toArray] w fun e w' => e = .returned (.tuple #[.agg (u8s (prodL ks us)).toArray, .int .u64 (validN ks us)]) ∧ Below w.heap.size w w' := by
  have HM := qmul_any ks us hk bk hu bu
  have HL : Hid ((u8s (prodL ks us)).length = 32 ∧ (Try.prog.info? 58).map (·.size) = some (u8s ks).length ∧ (Try.prog.info? 58).map (·.size) = some (u8s us).length) := ⟨by rw [u8s_length, prodL_length], by rw [u8s_length, hk]; exact sizeKey, by rw [u8s_length, hu]; exact sizeKey⟩
  have hb0 := build_zero
  have hq : ∀ wx, (Op.equalIn 10000 58 (.agg (u8s (prodL ks us)).toArray) (.agg (u8s zK32).toArray)).run Try.prog wx = .ok (decide (prodN ks us = 0)) wx := fun wx => by
    rw [equalK_dec 9998 _ _ (prodL_length _ _) zK_length wx]
    have e : (prodL ks us = zK32) = (prodN ks us = 0) := propext (prodL_zero ks us)
    simp only [e]
  by_cases hz : prodN ks us = 0
  · rw [decide_eq_true hz] at hq
    rw [valid_no hz]
    obtain ⟨rs, hr⟩ : ∃ z, prodL ks us = z := ⟨_, rfl⟩
    obtain ⟨zs, hzs⟩ : ∃ z, zK32 = z := ⟨_, rfl⟩
    rw [hr] at HM HL hq ⊢
    rw [hzs] at hq hb0
    clear hk bk hu bu hr hz hzs
    go_enter Try.func35, Try.ntmps35
    go_wp2_with (first | (refine wpList_box_new rfl 58 (.tmp 0) rfl (u8s ks) rfl ?_; intro w1 b1 s1 l1) | (refine wpList_box_new rfl 58 (.tmp 1) rfl (u8s us) rfl ?_; intro w2 b2 s2 l2) | ((with_reducible show wpList _ _ _ (({ dst := some 4, op := _, type := _, pos := _, after := _, guard := _ } : Oper) :: _) _ _); refine wpList_alloc_new rfl 58 rfl 32 _ zeroKey ?_; intro w3 b3 s3 l3; rw [s1] at b2; rw [s2, s1] at b3) | ((with_reducible show wpList _ _ _ (({ dst := some 7, op := _, type := _, pos := _, after := _, guard := _ } : Oper) :: _) _ _); refine wpList_load_blk rfl 58 (.tmp 2) rfl w.heap.size rfl (u8s ks) _ ((b1.later l2 (by omega)).later l3 (by omega)) Try.underlying58 rfl HL.out.2.1 ?_) | ((with_reducible show wpList _ _ _ (({ dst := some 8, op := _, type := _, pos := _, after := _, guard := _ } : Oper) :: _) _ _); refine wpList_load_blk rfl 58 (.tmp 3) rfl (w.heap.size + 1) rfl (u8s us) _ (b2.later l3 (by omega)) Try.underlying58 rfl HL.out.2.2 ?_) | (go_at_call 79; refine (HM _).mono ?_; rintro e w4 ⟨rfl, l4⟩) | ((with_reducible show wpList _ _ _ (({ dst := some 6, op := _, type := _, pos := _, after := _, guard := _ } : Oper) :: _) _ _); refine wpList_alloc_new rfl 58 rfl 32 _ zeroKey ?_; intro w5 b5 s5 l5) | ((with_reducible show wpList _ _ _ (({ dst := none, op := .store _ (.tmp 6) (.tmp 9), type := _, pos := _, after := _, guard := _ } : Oper) :: _) _ _); refine wpList_store_blk rfl 58 58 (.tmp 6) _ rfl _ rfl _ (u8s rs) rfl b5 (by rw [HL.out.1]; rfl) (by rw [HL.out.1]; exact sizeKey) (u8s_one _) ?_; intro w6 b6 s6 k6; have c6 := ((b3.later l4 (by omega)).later l5 (by have := l4.size; omega)).kept k6 (by have := l4.size; omega)) | ((with_reducible show wpList _ _ _ (({ dst := some 10, op := _, type := _, pos := _, after := _, guard := _ } : Oper) :: _) _ _); refine wpList_load_blk rfl 58 (.tmp 6) rfl _ rfl (u8s rs) _ b6 Try.underlying58 rfl (by rw [HL.out.1]; exact sizeKey) ?_) | ((with_reducible show wpList _ _ _ (({ dst := some 11, op := _, type := _, pos := _, after := _, guard := _ } : Oper) :: _) _ _); refine wpList_build rfl 58 _ rfl #[] (by simp) _ (hb0 _) ?_) | ((with_reducible show wpList _ _ _ (({ dst := some 13, op := _, type := _, pos := _, after := _, guard := _ } : Oper) :: _) _ _); refine wpList_load_blk rfl 58 (.tmp 6) rfl _ rfl (u8s rs) _ b6 Try.underlying58 rfl (by rw [HL.out.1]; exact sizeKey) ?_) | ((with_reducible show wpList _ _ _ (({ dst := none, op := .store _ (.tmp 4) (.tmp 13), type := _, pos := _, after := _, guard := _ } : Oper) :: _) _ _); refine wpList_store_blk rfl 58 58 (.tmp 4) _ rfl (w.heap.size + 1 + 1) rfl _ (u8s rs) rfl c6 (by rw [HL.out.1]; rfl) (by rw [HL.out.1]; exact sizeKey) (u8s_one _) ?_; intro w7 b7 s7 k7))
    have q1 := l4.size
    have q2 := l5.size
    exact ret_blkt rfl (w.heap.size + 1 + 1) (u8s rs) _ _ rfl rfl b7 Try.underlying58 rfl (by rw [HL.out.1]; exact sizeKey) rfl ⟨rfl, below_kept (below_kept (below_chain (below_chain (below_chain (below_chain l1 l2 (by omega)) l3 (by omega)) l4 (by omega)) l5 (by omega)) k6 (by omega) (fun j hj => by omega)) k7 (by omega) (fun j hj => by omega)⟩
  · rw [decide_eq_false hz] at hq
    rw [valid_yes hz]
    obtain ⟨rs, hr⟩ : ∃ z, prodL ks us = z := ⟨_, rfl⟩
    obtain ⟨zs, hzs⟩ : ∃ z, zK32 = z := ⟨_, rfl⟩
    rw [hr] at HM HL hq ⊢
    rw [hzs] at hq hb0
    clear hk bk hu bu hr hz hzs
    go_enter Try.func35, Try.ntmps35
    go_wp2_with (first | (refine wpList_box_new rfl 58 (.tmp 0) rfl (u8s ks) rfl ?_; intro w1 b1 s1 l1) | (refine wpList_box_new rfl 58 (.tmp 1) rfl (u8s us) rfl ?_; intro w2 b2 s2 l2) | ((with_reducible show wpList _ _ _ (({ dst := some 4, op := _, type := _, pos := _, after := _, guard := _ } : Oper) :: _) _ _); refine wpList_alloc_new rfl 58 rfl 32 _ zeroKey ?_; intro w3 b3 s3 l3; rw [s1] at b2; rw [s2, s1] at b3) | ((with_reducible show wpList _ _ _ (({ dst := some 7, op := _, type := _, pos := _, after := _, guard := _ } : Oper) :: _) _ _); refine wpList_load_blk rfl 58 (.tmp 2) rfl w.heap.size rfl (u8s ks) _ ((b1.later l2 (by omega)).later l3 (by omega)) Try.underlying58 rfl HL.out.2.1 ?_) | ((with_reducible show wpList _ _ _ (({ dst := some 8, op := _, type := _, pos := _, after := _, guard := _ } : Oper) :: _) _ _); refine wpList_load_blk rfl 58 (.tmp 3) rfl (w.heap.size + 1) rfl (u8s us) _ (b2.later l3 (by omega)) Try.underlying58 rfl HL.out.2.2 ?_) | (go_at_call 79; refine (HM _).mono ?_; rintro e w4 ⟨rfl, l4⟩) | ((with_reducible show wpList _ _ _ (({ dst := some 6, op := _, type := _, pos := _, after := _, guard := _ } : Oper) :: _) _ _); refine wpList_alloc_new rfl 58 rfl 32 _ zeroKey ?_; intro w5 b5 s5 l5) | ((with_reducible show wpList _ _ _ (({ dst := none, op := .store _ (.tmp 6) (.tmp 9), type := _, pos := _, after := _, guard := _ } : Oper) :: _) _ _); refine wpList_store_blk rfl 58 58 (.tmp 6) _ rfl _ rfl _ (u8s rs) rfl b5 (by rw [HL.out.1]; rfl) (by rw [HL.out.1]; exact sizeKey) (u8s_one _) ?_; intro w6 b6 s6 k6; have c6 := ((b3.later l4 (by omega)).later l5 (by have := l4.size; omega)).kept k6 (by have := l4.size; omega)) | ((with_reducible show wpList _ _ _ (({ dst := some 10, op := _, type := _, pos := _, after := _, guard := _ } : Oper) :: _) _ _); refine wpList_load_blk rfl 58 (.tmp 6) rfl _ rfl (u8s rs) _ b6 Try.underlying58 rfl (by rw [HL.out.1]; exact sizeKey) ?_) | ((with_reducible show wpList _ _ _ (({ dst := some 11, op := _, type := _, pos := _, after := _, guard := _ } : Oper) :: _) _ _); refine wpList_build rfl 58 _ rfl #[] (by simp) _ (hb0 _) ?_) | ((with_reducible show wpList _ _ _ (({ dst := some 14, op := _, type := _, pos := _, after := _, guard := _ } : Oper) :: _) _ _); refine wpList_load_blk rfl 58 (.tmp 6) rfl _ rfl (u8s rs) _ b6 Try.underlying58 rfl (by rw [HL.out.1]; exact sizeKey) ?_) | ((with_reducible show wpList _ _ _ (({ dst := none, op := .store _ (.tmp 4) (.tmp 14), type := _, pos := _, after := _, guard := _ } : Oper) :: _) _ _); refine wpList_store_blk rfl 58 58 (.tmp 4) _ rfl (w.heap.size + 1 + 1) rfl _ (u8s rs) rfl c6 (by rw [HL.out.1]; rfl) (by rw [HL.out.1]; exact sizeKey) (u8s_one _) ?_; intro w7 b7 s7 k7))
    have q1 := l4.size
    have q2 := l5.size
    exact ret_blkt rfl (w.heap.size + 1 + 1) (u8s rs) _ _ rfl rfl b7 Try.underlying58 rfl (by rw [HL.out.1]; exact sizeKey) rfl ⟨rfl, below_kept (below_kept (below_chain (below_chain (below_chain (below_chain l1 l2 (by omega)) l3 (by omega)) l4 (by omega)) l5 (by omega)) k6 (by omega) (fun j hj => by omega)) k7 (by omega) (fun j hj => by omega)⟩
end Go.Proofs.Ytnifolefhelmcaa
