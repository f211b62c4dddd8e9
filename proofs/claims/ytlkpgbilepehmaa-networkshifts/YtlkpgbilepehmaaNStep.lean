/- Layer network: steps: the k and the j of each row of gates. -/
import Derived.Test.YtlkpgbilepehmaaNRow
namespace Go.Proofs.Ytlkpgbilepehmaa
open Go.RowKit Go.Shelf
set_option linter.unusedVariables false
set_option linter.unusedSimpArgs false
attribute [local go_sem] Oper.semAt_some

abbrev Stp := Fin 17 × Fin 16
def stp (f i : Nat) : Stp := (Fin.ofNat 17 (f + 1), Fin.ofNat 16 (f - i))
/-- The rows of k = 2^(f + 1). -/
def stepsF (f : Nat) : List Stp := (List.range (f + 1)).map (stp f)
def stepsK : Nat → List Stp
  | 0 => []
  | f + 1 => stepsK f ++ stepsF f
def stpV (x : Stp) : Array Value := #[.int .i64 ((2 ^ x.1.val : Nat) : Int), .int .i64 ((2 ^ x.2.val : Nat) : Int)]
theorem stepsF_take (f i : Nat) (h : i ≤ f) : (stepsF f).take (i + 1) = (stepsF f).take i ++ [stp f i] := by
  have hl : i < (stepsF f).length := by simp [stepsF]; omega
  rw [List.take_add_one, List.getElem?_eq_getElem hl]
  simp [stepsF]
theorem stepsK_pre (a b : Nat) (h : a ≤ b) : stepsK a <+: stepsK b := by
  induction b with
  | zero => have : a = 0 := by omega
            subst this; exact List.prefix_refl _
  | succ b ih =>
    rcases Nat.lt_or_ge a (b + 1) with h1 | h1
    · exact (ih (by omega)).trans (List.prefix_append _ _)
    · have : a = b + 1 := by omega
      subst this; exact List.prefix_refl _
theorem steps_mid (f i L : Nat) (hf : f < L) (h : i ≤ f) : stepsK f ++ (stepsF f).take i ++ [stp f i] <+: stepsK L := by
  rw [List.append_assoc, ← stepsF_take f i h]
  refine List.IsPrefix.trans ?_ (stepsK_pre (f + 1) L (by omega))
  exact (List.prefix_append_right_inj _).2 (List.take_prefix _ _)
theorem stp_fst (f i : Nat) (hf : f < 16) : (stp f i).1.val = f + 1 := by simp [stp, Fin.ofNat]; omega
theorem stp_snd (f i : Nat) (hf : f < 16) : (stp f i).2.val = f - i := by simp [stp, Fin.ofNat]; omega
theorem step_low (f L : Nat) (hf : f ≤ L) (hL : L ≤ 16) : ∀ x, x ∈ stepsK f → x.2.val < L := by
  induction f with
  | zero => intro x hx; simp [stepsK] at hx
  | succ f ih =>
    intro x hx
    rw [stepsK] at hx
    rcases List.mem_append.1 hx with h | h
    · exact ih (by omega) x h
    · simp only [stepsF, List.mem_map, List.mem_range] at h
      obtain ⟨i, hi, rfl⟩ := h
      rw [stp_snd f i (by omega)]; omega
/-- A step whose j is below 2^L, whatever step it is. -/
def clS (L : Nat) (x : Stp) : Stp := if x.2.val < L then x else (x.1, 0)
theorem clS_low (L : Nat) (h : 0 < L) (x : Stp) : (clS L x).2.val < L := by
  unfold clS; split
  · assumption
  · exact h
theorem clS_stp (L f i : Nat) (hL : L ≤ 16) (hf : f < L) (hi : i ≤ f) : clS L (stp f i) = stp f i := by
  unfold clS; rw [if_pos]; rw [stp_snd f i (by omega)]; omega
theorem clS_steps (L : Nat) (hL : L ≤ 16) : (stepsK L).map (clS L) = stepsK L := by
  have : ∀ x ∈ stepsK L, clS L x = x := fun x hx => by unfold clS; rw [if_pos (step_low L L (Nat.le_refl _) hL x hx)]
  exact (List.map_congr_left this).trans (List.map_id _)
theorem low_bit (q M r : Nat) (hr : r < M) : (q * (M + M) + r) / M % 2 = 0 := by
  have : q * (M + M) + r = r + M * (2 * q) := by rw [Nat.mul_add, Nat.mul_comm q M, Nat.mul_comm 2 q, Nat.mul_comm q 2, Nat.two_mul, Nat.mul_add]; omega
  rw [this, Nat.add_mul_div_left _ _ (by omega), Nat.div_eq_of_lt hr]; omega
theorem high_bit (q M r : Nat) (hr : r < M) : (q * (M + M) + (M + r)) / M % 2 = 1 := by
  have : q * (M + M) + (M + r) = r + M * (2 * q + 1) := by rw [Nat.mul_add, Nat.mul_add, Nat.mul_one, Nat.mul_comm q M, Nat.two_mul, Nat.mul_add]; omega
  rw [this, Nat.add_mul_div_left _ _ (by omega), Nat.div_eq_of_lt hr]; omega
theorem rowN_blk (f e q : Nat) : ∀ j, j ≤ 2 ^ e → (rowN f e (q * (2 ^ e + 2 ^ e) + j)).length = (rowN f e (q * (2 ^ e + 2 ^ e))).length + j := by
  intro j
  induction j with
  | zero => intro _; rfl
  | succ j ih =>
    intro hj
    rw [← Nat.add_assoc, rowN, if_pos (low_bit q _ j (by omega)), List.length_append, ih (by omega)]
    simp
    omega
theorem rowN_blk2 (f e q : Nat) : ∀ j, j ≤ 2 ^ e → (rowN f e (q * (2 ^ e + 2 ^ e) + (2 ^ e + j))).length = (rowN f e (q * (2 ^ e + 2 ^ e))).length + 2 ^ e := by
  intro j
  induction j with
  | zero => intro _; rw [Nat.add_zero]; exact rowN_blk f e q _ (Nat.le_refl _)
  | succ j ih =>
    intro hj
    rw [← Nat.add_assoc, ← Nat.add_assoc, rowN, if_neg (by rw [Nat.add_assoc, high_bit q _ j (by omega)]; decide), Nat.add_assoc, ih (by omega)]
theorem rowN_blks (f e : Nat) : ∀ q, (rowN f e (q * (2 ^ e + 2 ^ e))).length = q * 2 ^ e := by
  intro q
  induction q with
  | zero => simp [rowN]
  | succ q ih =>
    have := rowN_blk2 f e q (2 ^ e) (Nat.le_refl _)
    rw [Nat.succ_mul, this, ih, Nat.succ_mul]
theorem rowN_half (f e L : Nat) (he : e < L) : (rowN f e (2 ^ L)).length = 2 ^ (L - 1) := by
  have e1 : 2 ^ L = 2 ^ (L - e - 1) * (2 ^ e + 2 ^ e) := by rw [← Nat.two_mul, ← Nat.pow_succ', ← Nat.pow_add]; congr 1; omega
  rw [e1, rowN_blks, ← Nat.pow_add]; congr 1; omega
theorem stepsK_count (L : Nat) : 2 * (stepsK L).length = L * (L + 1) := by
  induction L with
  | zero => rfl
  | succ L ih =>
    rw [stepsK, List.length_append, Nat.mul_add, ih]
    simp only [stepsF, List.length_map, List.length_range]
    rw [← Nat.add_mul, Nat.mul_comm]
theorem half_pow (f i : Nat) : 2 ^ f / 2 ^ i / 2 = 2 ^ f / 2 ^ (i + 1) := by rw [Nat.div_div_eq_div_mul, Nat.pow_succ]
theorem pow_le (f i : Nat) (h : i ≤ f) : 2 ^ f / 2 ^ i = 2 ^ (f - i) := Nat.pow_div h (by decide)

set_option maxRecDepth 100000 in
set_option maxHeartbeats 2000000 in
theorem steps1_in (m : Nat) (hm : 1 ≤ m) (l Bn L : Nat) (hL : L ≤ 16) (N : Nat) (hN : 2 ^ L = N) (vs : Stp → Stp) (hvs : ∀ f i, f < L → i ≤ f → vs (stp f i) = stp f i) (J Jx : List Stp → World → Prop)
    (hS : ∀ w, Calls Try.prog 37 #[.int .i64 (N : Int)] w fun e w' => e = .returned (.bool true) ∧ w = w')
    (hY : ∀ pre x W, J pre W → pre.length < (stepsK L).length → YieldAt Fence.wide (m - 1) Try.prog l (stpV (vs x)) W fun e W' =>
      (e = .returned (.bool true) ∧ J (pre ++ [x]) W' ∧ KpB Bn N W W') ∨ (e = .returned (.bool false) ∧ Jx (pre ++ [x]) W'))
    (W : World) (hB : Boxed W Bn 3 (.int .i64 (N : Int))) (h0 : J [] W) :
    CallsIn Fence.wide m Try.prog 49 #[.func (.yield l) #[] #[], .pointer (some ⟨Bn, 0, none⟩)] W fun e W' => (∃ v, e = .returned v) ∧
      ((∃ ys, ys = stepsK L ∧ J ys W') ∨ (∃ pre, pre <+: stepsK L ∧ Jx pre W')) := by
  have c0 := hB.cell
  have hN2 : N ≤ 65536 := by rw [← hN]; exact Nat.pow_le_pow_right (by decide) hL
  refine callsIn_of_wp Try.func49 rfl trivial ?_ rfl
  simp only [Try.ntmps49, List.size_toArray, List.length_cons, List.length_nil, Nat.reduceAdd, Nat.reduceSub, Array.replicate_succ, Array.replicate_zero, List.push_toArray, List.append_toArray, List.nil_append, List.cons_append]
  gi_wp2
  refine wpIn_scope ?_
  have HN : Hid (2 ^ L = N) := hN
  clear hN
  gi_wp2_with (refine ⟨trivial, ?_⟩; gi_at_call 37; refine (callsIn_wide.2 (hS _)).mono ?_; rintro e w' ⟨rfl, rfl⟩)
  refine wpIn_label ?_
  gi_wp2
  gi_loopw [3] (fun v wr => ∃ f : Nat, v = .int .i64 ((2 ^ (f + 1) : Nat) : Int) ∧ f ≤ L ∧ J (stepsK f) wr ∧ Boxed wr Bn 3 (.int .i64 (N : Int))) (fun v _ => (131073 - intOf v).toNat)
  case atStart => exact ⟨0, rfl, by omega, h0, hB⟩
  case round =>
    obtain ⟨f, rfl, hf, hJ, hB1⟩ := hrel
    obtain ⟨K, hK⟩ : ∃ K, 2 ^ (f + 1) = K := ⟨_, rfl⟩
    rw [hK]
    have c1 := hB1.cell
    have hKN : K ≤ N ↔ f + 1 ≤ L := by rw [← hK, ← HN.out]; exact Nat.pow_le_pow_iff_right (by decide)
    have HK : Hid (2 ^ (f + 1) = K ∧ f ≤ L ∧ (K ≤ N ↔ f + 1 ≤ L)) := ⟨hK, hf, hKN⟩
    clear hK hf hKN c0
    by_cases hlt : K ≤ N
    · have HF : Hid (f + 1 ≤ L) := HK.out.2.2.1 hlt
      have i2 : (K : Int) ≤ (N : Int) := by omega
      obtain ⟨D, hD⟩ : ∃ D, 2 ^ f = D := ⟨_, rfl⟩
      have i3 : K = 2 * D := by rw [← HK.out.1, ← hD, Nat.pow_succ]; omega
      have HD : Hid (2 ^ f = D) := hD
      have i5 : (K : Int) / 2 = (D : Int) := by omega
      have i4 : (K : Int).tdiv 2 = (D : Int) := by rw [Int.tdiv_eq_ediv_of_nonneg (by omega)]; exact i5
      have HKD : Hid (K = 2 * D) := i3
      clear hD i3
      gi_wp2
      gi_loopw [4] (fun v wr => ∃ i : Nat, v = .int .i64 ((2 ^ f / 2 ^ i : Nat) : Int) ∧ i ≤ f + 1 ∧ J (stepsK f ++ (stepsF f).take i) wr ∧ Boxed wr Bn 3 (.int .i64 (N : Int))) (fun v _ => (intOf v).toNat)
      case atStart => exact ⟨0, by rw [Nat.pow_zero, Nat.div_one, HD.out], by omega, by simpa using hJ, hB1⟩
      case round =>
        obtain ⟨i, rfl, hi, hJ2, hB2⟩ := hrel
        have c2 := hB2.cell
        obtain ⟨G, hG⟩ : ∃ G, 2 ^ f / 2 ^ i = G := ⟨_, rfl⟩
        rw [hG]
        have HG : Hid (2 ^ f / 2 ^ i = G ∧ i ≤ f + 1) := ⟨hG, hi⟩
        clear hG hi
        by_cases hif : i ≤ f
        · have hG0 : 0 < G := by rw [← HG.out.1, pow_le f i hif]; exact Nat.pow_pos (by decide)
          have hGb : G ≤ D := by rw [← HG.out.1, ← HD.out]; exact Nat.div_le_self _ _
          have hf15 : f < 16 := by have := HF.out; omega
          have hpre := steps_mid f i L (by have := HF.out; omega) hif
          have HP : Hid (stepsK f ++ (stepsF f).take i ++ [stp f i] <+: stepsK L ∧ (stepsF f).take (i + 1) = (stepsF f).take i ++ [stp f i]) := ⟨hpre, stepsF_take f i hif⟩
          clear hpre
          obtain ⟨fn, tmps, assign, body, hy, hR⟩ := hY _ (stp f i) wr hJ2 (len_of_pre HP.out.1)
          have ev : stpV (stp f i) = #[.int .i64 (K : Int), .int .i64 (G : Int)] := by rw [stpV, stp_fst f i hf15, stp_snd f i hf15, HK.out.1, ← pow_le f i hif, HG.out.1]
          rw [hvs f i (by have := HF.out; omega) hif, ev] at hy
          have hf15' : Hid (f < 16) := hf15
          have HI : Hid (i ≤ f) := hif
          clear ev hf15 hif
          obtain ⟨G2, hG2⟩ : ∃ G2, G / 2 = G2 := ⟨_, rfl⟩
          have i8 : (G : Int) / 2 = (G2 : Int) := by omega
          have i7 : (G : Int).tdiv 2 = (G2 : Int) := by rw [Int.tdiv_eq_ediv_of_nonneg (by omega)]; exact i8
          have HH : Hid (2 ^ f / 2 ^ (i + 1) = G2 ∧ G2 < G) := ⟨by rw [← half_pow, HG.out.1]; exact hG2, by omega⟩
          clear hG2
          gi_wp2
          refine hR.mono ?_
          rintro e3 W3 (⟨rfl, hJ3, hk3⟩ | ⟨rfl, hJx3⟩)
          · have c3 := (hk3 hB2).cell
            gi_wp2
            go_roundw
            case rel => exact ⟨i + 1, by rw [HH.out.1], by have := HI.out; omega, by rw [HP.out.2, ← List.append_assoc]; exact hJ3, hk3 hB2⟩
            case measure => have := HH.out.2; simp [intOf]; omega
          · gi_wp2
            simp only [Exit.noGoto]
            go_end0
            exact ⟨⟨_, rfl⟩, .inr ⟨_, HP.out.1, hJx3⟩⟩
        · have hG0 : G = 0 := by rw [← HG.out.1]; have h1 := HG.out.2; have : i = f + 1 := by omega
                                 rw [this]; exact Nat.div_eq_of_lt (Nat.pow_lt_pow_right (by decide) (by omega))
          subst hG0
          have hfull : (stepsF f).take i = stepsF f := List.take_of_length_le (by simp [stepsF]; omega)
          rw [hfull] at hJ2
          have HJ : Hid (J (stepsK (f + 1)) wr) := hJ2
          clear hfull hJ2
          gi_wp2
          go_roundw
          case rel => exact ⟨f + 1, by have := HK.out.1; rw [Nat.pow_succ, this]; simp, HF.out, HJ.out, hB2⟩
          case measure => have hp : 0 < K := (by rw [← HK.out.1]; exact Nat.pow_pos (by decide)); simp [intOf]; omega
    · have i2 : ¬ (K : Int) ≤ (N : Int) := by omega
      gi_wp2
      try simp only [Exit.noGoto]
      go_end0
      have : f = L := by have h1 := HK.out.2.1; have h2 := HK.out.2.2; omega
      exact ⟨⟨_, rfl⟩, .inl ⟨_, by rw [this], hJ⟩⟩
end Go.Proofs.Ytlkpgbilepehmaa
