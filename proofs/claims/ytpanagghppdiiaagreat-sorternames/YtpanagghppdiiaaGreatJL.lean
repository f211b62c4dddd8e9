/- Joined by program: what the theorem reaches. -/
import Derived.Shelf.Spec.BitsCarry
import Derived.Test.YtpanagghppdiiaaGreatJA
import Derived.Test.YtpanagghppdiiaaGreatJB
import Derived.Test.YtpanagghppdiiaaGreatJC
import Derived.Test.YtpanagghppdiiaaGreatJK
namespace Go.Proofs.YtpanagghppdiiaaGreat
open Go.RowKit Go.Shelf
set_option linter.unusedVariables false
set_option linter.unusedSimpArgs false
set_option maxRecDepth 200000
set_option maxHeartbeats 4000000
attribute [local go_sem] Oper.semAt_some
def gateN (f e i : Nat) : Int × Int := if i / 2 ^ f % 2 = 0 then (((i : Nat) : Int), ((i + 2 ^ e : Nat) : Int)) else (((i + 2 ^ e : Nat) : Int), ((i : Nat) : Int))
def rowN (f e : Nat) : Nat → List (Int × Int)
  | 0 => []
  | m + 1 => if m / 2 ^ e % 2 = 0 then rowN f e m ++ [gateN f e m] else rowN f e m
theorem rowN_pre (f e a b : Nat) (h : a ≤ b) : rowN f e a <+: rowN f e b := by
  induction b with
  | zero => have : a = 0 := by omega
            subst this; exact List.prefix_refl _
  | succ b ih =>
    rcases Nat.lt_or_ge a (b + 1) with h1 | h1
    · refine (ih (by omega)).trans ?_
      rw [rowN]
      split
      · exact List.prefix_append _ _
      · exact List.prefix_refl _
    · have : a = b + 1 := by omega
      subst this; exact List.prefix_refl _
theorem steps_in (F : Fence) (m : Nat) (hf : F.fn 72) (hro : F.round = none) (n : Int) (w : World) :
    CallsIn F m Tryz.prog 72 #[.int .i64 n] w fun e w' => e = .returned (.func (.func 94) #[] #[.pointer (some ⟨w.heap.size, 0, none⟩)]) ∧ w' = w.alloc (.cells #[.int .i64 n] 3) := by
  refine callsIn_of_wp Tryz.func72 rfl hf ?_ hro
  simp only [Tryz.ntmps72, List.size_toArray, List.length_cons, List.length_nil, Nat.reduceAdd, Nat.reduceSub, Array.replicate_succ, Array.replicate_zero, List.push_toArray, List.append_toArray, List.nil_append, List.cons_append]
  gi_wp2
  go_ret
  exact ⟨rfl, rfl⟩
theorem row_in (F : Fence) (m : Nat) (hf : F.fn 73) (hro : F.round = none) (n k j : Int) (w : World) :
    CallsIn F m Tryz.prog 73 #[.int .i64 n, .int .i64 k, .int .i64 j] w fun e w' => e = .returned (.func (.func 96) #[] #[.pointer (some ⟨w.heap.size, 0, none⟩), .pointer (some ⟨w.heap.size + 1 + 1, 0, none⟩), .pointer (some ⟨w.heap.size + 1, 0, none⟩)]) ∧ w' = ((w.alloc (.cells #[.int .i64 n] 3)).alloc (.cells #[.int .i64 k] 3)).alloc (.cells #[.int .i64 j] 3) := by
  refine callsIn_of_wp Tryz.func73 rfl hf ?_ hro
  simp only [Tryz.ntmps73, List.size_toArray, List.length_cons, List.length_nil, Nat.reduceAdd, Nat.reduceSub, Array.replicate_succ, Array.replicate_zero, List.push_toArray, List.append_toArray, List.nil_append, List.cons_append]
  gi_wp2
  go_ret
  exact ⟨rfl, rfl⟩
theorem i64_and_nat (a b : Nat) (ha : a < 131072) (hb : b < 131072) : bits .and .i64 (a : Int) (b : Int) = ((a &&& b : Nat) : Int) := by
  have hx : a &&& b < 2 ^ 17 := Nat.and_lt_two_pow _ (by omega)
  have o1 : ∀ c : Nat, c < 131072 → (BitVec.ofInt 64 (c : Int)).toNat = c := fun c hc => by rw [BitVec.ofInt_natCast, BitVec.toNat_ofNat]; exact Nat.mod_eq_of_lt (by omega)
  show IntKind.i64.wrap ((BitVec.ofInt 64 (a : Int) &&& BitVec.ofInt 64 (b : Int)).toNat : Int) = _
  rw [BitVec.toNat_and, o1 a ha, o1 b hb]
  simp only [IntKind.wrap, IntKind.signed, IntKind.bits]
  simp
  omega
theorem and_pow (i f : Nat) (hi : i < 131072) (hf : f ≤ 16) : bits .and .i64 (i : Int) ((2 ^ f : Nat) : Int) = if i / 2 ^ f % 2 = 0 then 0 else ((2 ^ f : Nat) : Int) := by
  have h1 : 2 ^ f ≤ 2 ^ 16 := Nat.pow_le_pow_right (by decide) hf
  rw [i64_and_nat i (2 ^ f) hi (by omega)]
  rcases Nat.mod_two_eq_zero_or_one (i / 2 ^ f) with h | h
  · rw [if_pos h]
    have : i &&& 2 ^ f = 0 := by
      refine Nat.eq_of_testBit_eq fun k => ?_
      rw [Nat.testBit_and, Nat.testBit_two_pow, Nat.zero_testBit]
      by_cases hk : f = k
      · subst hk; simp [Nat.testBit_eq_decide_div_mod_eq, h]
      · simp [hk]
    rw [this]; rfl
  · rw [if_neg (by omega)]
    have : i &&& 2 ^ f = 2 ^ f := by
      refine Nat.eq_of_testBit_eq fun k => ?_
      rw [Nat.testBit_and, Nat.testBit_two_pow]
      by_cases hk : f = k
      · subst hk; simp [Nat.testBit_eq_decide_div_mod_eq, h]
      · simp [hk]
    rw [this]
theorem ret_two {R : Ending → World → Prop} {w : World} {b : Nat} {x y : Value} {a : Act} (ha : a.tmps.getD 6 undef = .pointer (some ⟨b, 0, none⟩)) (hb : w.heap[b]? = some (.cells #[x, y] 83 (0, 0))) (h : R (.returned (.agg #[x, y])) w) (hd : a.defers = [] := by rfl) : bodyPost Tryz.prog Tryz.f97 R .ret a w := by
  refine bodyPost_ret (v := .agg #[x, y]) ?_ hd h
  have c0 : w.cell? ⟨b, 0, none⟩ = some x := by simp [World.cell?, hb]
  have c1 : w.cell? ⟨b, 1, none⟩ = some y := by simp [World.cell?, hb]
  have ha' : a.tmps[6]?.getD undef = .pointer (some ⟨b, 0, none⟩) := by simpa using ha
  simp [results, Tryz.f97, go_sem, ha', c0, c1]
theorem gate_any (i f e : Nat) (hi : i < 65536) (hf : f ≤ 16) (he : e ≤ 15) (w : World) :
    Calls Tryz.prog 97 #[.int .i64 i, .int .i64 ((2 ^ f : Nat) : Int), .int .i64 ((2 ^ e : Nat) : Int)] w fun r w' => r = .returned (.agg #[.int .i64 (gateN f e i).1, .int .i64 (gateN f e i).2]) ∧ w' = w.alloc (.cells #[.int .i64 (gateN f e i).1, .int .i64 (gateN f e i).2] 83) := by
  have hA := and_pow i f (by omega) hf
  have h1 : 2 ^ f ≤ 2 ^ 16 := Nat.pow_le_pow_right (by decide) hf
  have h2 : 2 ^ e ≤ 2 ^ 15 := Nat.pow_le_pow_right (by decide) he
  have h3 : 0 < 2 ^ f := Nat.pow_pos (by decide)
  unfold gateN
  obtain ⟨K, hK⟩ : ∃ K, 2 ^ f = K := ⟨_, rfl⟩
  obtain ⟨J, hJ⟩ : ∃ J, 2 ^ e = J := ⟨_, rfl⟩
  rw [hK] at hA h1 h3 ⊢
  rw [hJ] at h2 ⊢
  clear hK hJ
  by_cases hb : i / K % 2 = 0
  · rw [if_pos hb] at hA
    simp only [hb, if_true]
    clear hb
    go_enter Tryz.func97, Tryz.ntmps97
    go_wp2
    refine ret_two rfl (World.alloc_heap_new w _) ⟨?_, ?_⟩
    · simp
    · simp
  · rw [if_neg hb] at hA
    simp only [hb, if_false]
    clear hb
    have h4 : ((K : Int) == 0) = false := by simp; omega
    have h5 : ¬ (K : Int) = 0 := by omega
    go_enter Tryz.func97, Tryz.ntmps97
    go_wp2
    refine ret_two rfl (World.alloc_heap_new w _) ⟨?_, ?_⟩
    · simp
    · simp
def Kp2 (b2 : Nat) (j : Int) (b3 : Nat) (k : Int) (W W' : World) : Prop := KpB b2 j W W' ∧ KpB b3 k W W'
theorem rowN_at (f e i N : Nat) (hi : i < N) (hb : i / 2 ^ e % 2 = 0) : rowN f e i ++ [gateN f e i] <+: rowN f e N := by
  have := rowN_pre f e (i + 1) N (by omega)
  rwa [rowN, if_pos hb] at this
theorem row1_in (m : Nat) (hm : 1 ≤ m) (l b1 b2 b3 N f e : Nat) (hn : N ≤ 65536) (hf : f ≤ 16) (he : e ≤ 15) (vl : Int × Int → Int × Int) (hvl : ∀ i, i < N → i / 2 ^ e % 2 = 0 → vl (gateN f e i) = gateN f e i) (J Jx : List (Int × Int) → World → Prop) (W : World) (hJ : ∀ s A B row, J s A → A.grownBy B row → (∀ r, row = some r → False) → J s B)
    (hY : ∀ pre x W, J pre W → pre.length < (rowN f e N).length → YieldAt Fence.wide (m - 1) Tryz.prog l #[.agg #[.int .i64 (vl x).1, .int .i64 (vl x).2]] W fun r W' =>
      (r = .returned (.bool true) ∧ J (pre ++ [x]) W' ∧ Kp2 b2 ((2 ^ e : Nat) : Int) b3 ((2 ^ f : Nat) : Int) W W') ∨ (r = .returned (.bool false) ∧ Jx (pre ++ [x]) W'))
    (hB1 : Boxed W b1 3 (.int .i64 (N : Int))) (hB2 : Boxed W b2 3 (.int .i64 ((2 ^ e : Nat) : Int))) (hB3 : Boxed W b3 3 (.int .i64 ((2 ^ f : Nat) : Int))) (h0 : J [] W) :
    CallsIn Fence.wide m Tryz.prog 96 #[.func (.yield l) #[] #[], .pointer (some ⟨b1, 0, none⟩), .pointer (some ⟨b2, 0, none⟩), .pointer (some ⟨b3, 0, none⟩)] W fun r W' => (∃ v, r = .returned v) ∧
      ((∃ ys, ys = rowN f e N ∧ J ys W') ∨ (∃ pre, pre <+: rowN f e N ∧ Jx pre W')) := by
  have q1 : 2 ^ e ≤ 2 ^ 15 := Nat.pow_le_pow_right (by decide) he
  have q2 : 2 ^ f ≤ 2 ^ 16 := Nat.pow_le_pow_right (by decide) hf
  have HA : Hid (∀ i : Nat, i < 131072 → bits .and .i64 (i : Int) ((2 ^ e : Nat) : Int) = if i / 2 ^ e % 2 = 0 then 0 else ((2 ^ e : Nat) : Int)) := fun i hi => and_pow i e hi (by omega)
  have HG : Hid (∀ (i : Nat) (w : World), i < 65536 → Calls Tryz.prog 97 #[.int .i64 i, .int .i64 ((2 ^ f : Nat) : Int), .int .i64 ((2 ^ e : Nat) : Int)] w fun r w' => r = .returned (.agg #[.int .i64 (gateN f e i).1, .int .i64 (gateN f e i).2]) ∧ w' = w.alloc (.cells #[.int .i64 (gateN f e i).1, .int .i64 (gateN f e i).2] 83)) := fun i w hi => gate_any i f e hi hf he w
  have hE : 0 < 2 ^ e := Nat.pow_pos (by decide)
  obtain ⟨E, hEE⟩ : ∃ E : Int, ((2 ^ e : Nat) : Int) = E := ⟨_, rfl⟩
  obtain ⟨K, hKK⟩ : ∃ K : Int, ((2 ^ f : Nat) : Int) = K := ⟨_, rfl⟩
  rw [hEE] at HA HG hB2 hY
  rw [hKK] at HG hB3 hY
  have hE0 : 0 < E := by omega
  clear hEE hKK q1 q2 hE
  have c1 := hB1.cell
  refine callsIn_of_wp Tryz.func96 rfl trivial ?_ rfl
  simp only [Tryz.ntmps96, List.size_toArray, List.length_cons, List.length_nil, Nat.reduceAdd, Nat.reduceSub, Array.replicate_succ, Array.replicate_zero, List.push_toArray, List.append_toArray, List.nil_append, List.cons_append]
  gi_wp2
  gi_loopw [7] (fun v wr => ∃ i : Nat, v = .int .i64 (i : Int) ∧ i ≤ N ∧ J (rowN f e i) wr ∧ Boxed wr b2 3 (.int .i64 E) ∧ Boxed wr b3 3 (.int .i64 K)) (fun v _ => (65537 - intOf v).toNat)
  case atStart => exact ⟨0, rfl, by omega, h0, hB2, hB3⟩
  case round =>
    obtain ⟨i, rfl, hi, hJ1, hb2, hb3⟩ := hrel
    by_cases hlt : i < N
    · have i1 : (i : Int) < (N : Int) := by omega
      have c2 := hb2.cell
      have c3 := hb3.cell
      have hA := HA.out i (by omega)
      by_cases hb : i / 2 ^ e % 2 = 0
      · rw [if_pos hb] at hA
        have HR : Hid (rowN f e (i + 1) = rowN f e i ++ [gateN f e i] ∧ rowN f e i ++ [gateN f e i] <+: rowN f e N) := ⟨by rw [rowN, if_pos hb], rowN_at f e i N hlt hb⟩
        have hJ2 : J (rowN f e i) (wr.alloc (.cells #[.int .i64 (gateN f e i).1, .int .i64 (gateN f e i).2] 83)) := hJ _ _ _ none hJ1 (World.grownBy_alloc wr _ none) (fun r e => by cases e)
        obtain ⟨fn, tmps, assign, body, hy, hR⟩ := hY _ (gateN f e i) _ hJ2 (len_of_pre HR.out.2)
        rw [hvl i hlt hb] at hy
        clear hb
        have hGi := HG.out i wr (by omega)
        obtain ⟨gp, hgp⟩ : ∃ gp, gateN f e i = gp := ⟨_, rfl⟩
        have HP : Hid (gateN f e i = gp) := hgp
        rw [hgp] at hGi hy hR hJ2
        clear hgp
        gi_wp2_with (refine ⟨trivial, ?_⟩; gi_at_call 97; refine (callsIn_wide.2 hGi).mono ?_; clear hGi; rintro r w' ⟨rfl, rfl⟩)
        refine hR.mono ?_
        rintro r W3 (⟨rfl, hJ3, hk3⟩ | ⟨rfl, hJx3⟩)
        · have b23 := hk3.1 (hb2.alloc _)
          have b33 := hk3.2 (hb3.alloc _)
          gi_wp2
          go_roundw
          case rel => exact ⟨i + 1, by simp, by omega, by rw [HR.out.1, HP.out]; exact hJ3, b23, b33⟩
          case measure => simp [intOf]; omega
        · gi_wp2
          refine bodyPost_ret (results_none rfl _ _ _) rfl ?_
          exact ⟨⟨_, rfl⟩, .inr ⟨_, HR.out.2, by rw [HP.out]; exact hJx3⟩⟩
      · rw [if_neg hb] at hA
        have HR : Hid (rowN f e (i + 1) = rowN f e i) := by show rowN f e (i + 1) = rowN f e i; rw [rowN, if_neg hb]
        clear hb
        have z1 : (E == 0) = false := by simp; omega
        have z2 : ¬ E = 0 := by omega
        gi_wp2
        refine ⟨trivial, ?_⟩
        gi_wp2
        refine ⟨fun _ h => (by cases h), ?_⟩
        gi_wp2
        go_roundw
        case rel => exact ⟨i + 1, by simp, by omega, by rw [HR.out]; exact hJ1, hb2, hb3⟩
        case measure => simp [intOf]; omega
    · have hie : i = N := by omega
      subst hie
      gi_wp2
      go_end0
      exact ⟨⟨_, rfl⟩, .inl ⟨_, rfl, hJ1⟩⟩
attribute [local go_sem] Oper.semAt_some
abbrev NStp := Fin 17 × Fin 16
def stp (f i : Nat) : NStp := (Fin.ofNat 17 (f + 1), Fin.ofNat 16 (f - i))
def stepsF (f : Nat) : List NStp := (List.range (f + 1)).map (stp f)
def stepsK : Nat → List NStp
  | 0 => []
  | f + 1 => stepsK f ++ stepsF f
def stpV (x : NStp) : Array Value := #[.int .i64 ((2 ^ x.1.val : Nat) : Int), .int .i64 ((2 ^ x.2.val : Nat) : Int)]
theorem stepsF_take (f i : Nat) (h : i ≤ f) : (stepsF f).take (i + 1) = (stepsF f).take i ++ [stp f i] := by
  have hl : i < (stepsF f).length := by simp [stepsF]; omega
  rw [List.take_add_one, List.getElem?_eq_getElem hl]
  simp [stepsF]
theorem stepsK_pre (a b : Nat) (h : a ≤ b) : stepsK a <+: stepsK b := by
  induction b with
  | zero => have : a = 0 := by omega
            subst this; exact List.prefix_refl _
  | succ b ih =>
    rcases Nat.lt_or_ge a (b + 1) with h1 | h1
    · exact (ih (by omega)).trans (List.prefix_append _ _)
    · have : a = b + 1 := by omega
      subst this; exact List.prefix_refl _
theorem steps_mid (f i L : Nat) (hf : f < L) (h : i ≤ f) : stepsK f ++ (stepsF f).take i ++ [stp f i] <+: stepsK L := by
  rw [List.append_assoc, ← stepsF_take f i h]
  refine List.IsPrefix.trans ?_ (stepsK_pre (f + 1) L (by omega))
  exact (List.prefix_append_right_inj _).2 (List.take_prefix _ _)
theorem stp_fst (f i : Nat) (hf : f < 16) : (stp f i).1.val = f + 1 := by simp [stp, Fin.ofNat]; omega
theorem stp_snd (f i : Nat) (hf : f < 16) : (stp f i).2.val = f - i := by simp [stp, Fin.ofNat]; omega
theorem step_low (f L : Nat) (hf : f ≤ L) (hL : L ≤ 16) : ∀ x, x ∈ stepsK f → x.2.val < L := by
  induction f with
  | zero => intro x hx; simp [stepsK] at hx
  | succ f ih =>
    intro x hx
    rw [stepsK] at hx
    rcases List.mem_append.1 hx with h | h
    · exact ih (by omega) x h
    · simp only [stepsF, List.mem_map, List.mem_range] at h
      obtain ⟨i, hi, rfl⟩ := h
      rw [stp_snd f i (by omega)]; omega
def clS (L : Nat) (x : NStp) : NStp := if x.2.val < L then x else (x.1, 0)
theorem clS_low (L : Nat) (h : 0 < L) (x : NStp) : (clS L x).2.val < L := by
  unfold clS; split
  · assumption
  · exact h
theorem clS_stp (L f i : Nat) (hL : L ≤ 16) (hf : f < L) (hi : i ≤ f) : clS L (stp f i) = stp f i := by
  unfold clS; rw [if_pos]; rw [stp_snd f i (by omega)]; omega
theorem clS_steps (L : Nat) (hL : L ≤ 16) : (stepsK L).map (clS L) = stepsK L := by
  have : ∀ x ∈ stepsK L, clS L x = x := fun x hx => by unfold clS; rw [if_pos (step_low L L (Nat.le_refl _) hL x hx)]
  exact (List.map_congr_left this).trans (List.map_id _)
theorem low_bit (q M r : Nat) (hr : r < M) : (q * (M + M) + r) / M % 2 = 0 := by
  have : q * (M + M) + r = r + M * (2 * q) := by rw [Nat.mul_add, Nat.mul_comm q M, Nat.mul_comm 2 q, Nat.mul_comm q 2, Nat.two_mul, Nat.mul_add]; omega
  rw [this, Nat.add_mul_div_left _ _ (by omega), Nat.div_eq_of_lt hr]; omega
theorem high_bit (q M r : Nat) (hr : r < M) : (q * (M + M) + (M + r)) / M % 2 = 1 := by
  have : q * (M + M) + (M + r) = r + M * (2 * q + 1) := by rw [Nat.mul_add, Nat.mul_add, Nat.mul_one, Nat.mul_comm q M, Nat.two_mul, Nat.mul_add]; omega
  rw [this, Nat.add_mul_div_left _ _ (by omega), Nat.div_eq_of_lt hr]; omega
theorem rowN_blk (f e q : Nat) : ∀ j, j ≤ 2 ^ e → (rowN f e (q * (2 ^ e + 2 ^ e) + j)).length = (rowN f e (q * (2 ^ e + 2 ^ e))).length + j := by
  intro j
  induction j with
  | zero => intro _; rfl
  | succ j ih =>
    intro hj
    rw [← Nat.add_assoc, rowN, if_pos (low_bit q _ j (by omega)), List.length_append, ih (by omega)]
    simp
    omega
theorem rowN_blk2 (f e q : Nat) : ∀ j, j ≤ 2 ^ e → (rowN f e (q * (2 ^ e + 2 ^ e) + (2 ^ e + j))).length = (rowN f e (q * (2 ^ e + 2 ^ e))).length + 2 ^ e := by
  intro j
  induction j with
  | zero => intro _; rw [Nat.add_zero]; exact rowN_blk f e q _ (Nat.le_refl _)
  | succ j ih =>
    intro hj
    rw [← Nat.add_assoc, ← Nat.add_assoc, rowN, if_neg (by rw [Nat.add_assoc, high_bit q _ j (by omega)]; decide), Nat.add_assoc, ih (by omega)]
theorem rowN_blks (f e : Nat) : ∀ q, (rowN f e (q * (2 ^ e + 2 ^ e))).length = q * 2 ^ e := by
  intro q
  induction q with
  | zero => simp [rowN]
  | succ q ih =>
    have := rowN_blk2 f e q (2 ^ e) (Nat.le_refl _)
    rw [Nat.succ_mul, this, ih, Nat.succ_mul]
theorem rowN_half (f e L : Nat) (he : e < L) : (rowN f e (2 ^ L)).length = 2 ^ (L - 1) := by
  have e1 : 2 ^ L = 2 ^ (L - e - 1) * (2 ^ e + 2 ^ e) := by rw [← Nat.two_mul, ← Nat.pow_succ', ← Nat.pow_add]; congr 1; omega
  rw [e1, rowN_blks, ← Nat.pow_add]; congr 1; omega
theorem half_pow (f i : Nat) : 2 ^ f / 2 ^ i / 2 = 2 ^ f / 2 ^ (i + 1) := by rw [Nat.div_div_eq_div_mul, Nat.pow_succ]
theorem pow_le (f i : Nat) (h : i ≤ f) : 2 ^ f / 2 ^ i = 2 ^ (f - i) := Nat.pow_div h (by decide)
theorem steps1_in (m : Nat) (hm : 1 ≤ m) (l Bn L : Nat) (hL : L ≤ 16) (N : Nat) (hN : 2 ^ L = N) (vs : NStp → NStp) (hvs : ∀ f i, f < L → i ≤ f → vs (stp f i) = stp f i) (J Jx : List NStp → World → Prop)
    (hS : ∀ w, Calls Tryz.prog 95 #[.int .i64 (N : Int)] w fun e w' => e = .returned (.bool true) ∧ w = w')
    (hY : ∀ pre x W, J pre W → pre.length < (stepsK L).length → YieldAt Fence.wide (m - 1) Tryz.prog l (stpV (vs x)) W fun e W' =>
      (e = .returned (.bool true) ∧ J (pre ++ [x]) W' ∧ KpB Bn N W W') ∨ (e = .returned (.bool false) ∧ Jx (pre ++ [x]) W'))
    (W : World) (hB : Boxed W Bn 3 (.int .i64 (N : Int))) (h0 : J [] W) :
    CallsIn Fence.wide m Tryz.prog 94 #[.func (.yield l) #[] #[], .pointer (some ⟨Bn, 0, none⟩)] W fun e W' => (∃ v, e = .returned v) ∧
      ((∃ ys, ys = stepsK L ∧ J ys W') ∨ (∃ pre, pre <+: stepsK L ∧ Jx pre W')) := by
  have c0 := hB.cell
  have hN2 : N ≤ 65536 := by rw [← hN]; exact Nat.pow_le_pow_right (by decide) hL
  refine callsIn_of_wp Tryz.func94 rfl trivial ?_ rfl
  simp only [Tryz.ntmps94, List.size_toArray, List.length_cons, List.length_nil, Nat.reduceAdd, Nat.reduceSub, Array.replicate_succ, Array.replicate_zero, List.push_toArray, List.append_toArray, List.nil_append, List.cons_append]
  gi_wp2
  refine wpIn_scope ?_
  have HN : Hid (2 ^ L = N) := hN
  clear hN
  gi_wp2_with (refine ⟨trivial, ?_⟩; gi_at_call 95; refine (callsIn_wide.2 (hS _)).mono ?_; rintro e w' ⟨rfl, rfl⟩)
  refine wpIn_label ?_
  gi_wp2
  gi_loopw [3] (fun v wr => ∃ f : Nat, v = .int .i64 ((2 ^ (f + 1) : Nat) : Int) ∧ f ≤ L ∧ J (stepsK f) wr ∧ Boxed wr Bn 3 (.int .i64 (N : Int))) (fun v _ => (131073 - intOf v).toNat)
  case atStart => exact ⟨0, rfl, by omega, h0, hB⟩
  case round =>
    obtain ⟨f, rfl, hf, hJ, hB1⟩ := hrel
    obtain ⟨K, hK⟩ : ∃ K, 2 ^ (f + 1) = K := ⟨_, rfl⟩
    rw [hK]
    have c1 := hB1.cell
    have hKN : K ≤ N ↔ f + 1 ≤ L := by rw [← hK, ← HN.out]; exact Nat.pow_le_pow_iff_right (by decide)
    have HK : Hid (2 ^ (f + 1) = K ∧ f ≤ L ∧ (K ≤ N ↔ f + 1 ≤ L)) := ⟨hK, hf, hKN⟩
    clear hK hf hKN c0
    by_cases hlt : K ≤ N
    · have HF : Hid (f + 1 ≤ L) := HK.out.2.2.1 hlt
      have i2 : (K : Int) ≤ (N : Int) := by omega
      obtain ⟨D, hD⟩ : ∃ D, 2 ^ f = D := ⟨_, rfl⟩
      have i3 : K = 2 * D := by rw [← HK.out.1, ← hD, Nat.pow_succ]; omega
      have HD : Hid (2 ^ f = D) := hD
      have i5 : (K : Int) / 2 = (D : Int) := by omega
      have i4 : (K : Int).tdiv 2 = (D : Int) := by rw [Int.tdiv_eq_ediv_of_nonneg (by omega)]; exact i5
      have HKD : Hid (K = 2 * D) := i3
      clear hD i3
      gi_wp2
      gi_loopw [4] (fun v wr => ∃ i : Nat, v = .int .i64 ((2 ^ f / 2 ^ i : Nat) : Int) ∧ i ≤ f + 1 ∧ J (stepsK f ++ (stepsF f).take i) wr ∧ Boxed wr Bn 3 (.int .i64 (N : Int))) (fun v _ => (intOf v).toNat)
      case atStart => exact ⟨0, by rw [Nat.pow_zero, Nat.div_one, HD.out], by omega, by simpa using hJ, hB1⟩
      case round =>
        obtain ⟨i, rfl, hi, hJ2, hB2⟩ := hrel
        have c2 := hB2.cell
        obtain ⟨G, hG⟩ : ∃ G, 2 ^ f / 2 ^ i = G := ⟨_, rfl⟩
        rw [hG]
        have HG : Hid (2 ^ f / 2 ^ i = G ∧ i ≤ f + 1) := ⟨hG, hi⟩
        clear hG hi
        by_cases hif : i ≤ f
        · have hG0 : 0 < G := by rw [← HG.out.1, pow_le f i hif]; exact Nat.pow_pos (by decide)
          have hGb : G ≤ D := by rw [← HG.out.1, ← HD.out]; exact Nat.div_le_self _ _
          have hf15 : f < 16 := by have := HF.out; omega
          have hpre := steps_mid f i L (by have := HF.out; omega) hif
          have HP : Hid (stepsK f ++ (stepsF f).take i ++ [stp f i] <+: stepsK L ∧ (stepsF f).take (i + 1) = (stepsF f).take i ++ [stp f i]) := ⟨hpre, stepsF_take f i hif⟩
          clear hpre
          obtain ⟨fn, tmps, assign, body, hy, hR⟩ := hY _ (stp f i) wr hJ2 (len_of_pre HP.out.1)
          have ev : stpV (stp f i) = #[.int .i64 (K : Int), .int .i64 (G : Int)] := by rw [stpV, stp_fst f i hf15, stp_snd f i hf15, HK.out.1, ← pow_le f i hif, HG.out.1]
          rw [hvs f i (by have := HF.out; omega) hif, ev] at hy
          have hf15' : Hid (f < 16) := hf15
          have HI : Hid (i ≤ f) := hif
          clear ev hf15 hif
          obtain ⟨G2, hG2⟩ : ∃ G2, G / 2 = G2 := ⟨_, rfl⟩
          have i8 : (G : Int) / 2 = (G2 : Int) := by omega
          have i7 : (G : Int).tdiv 2 = (G2 : Int) := by rw [Int.tdiv_eq_ediv_of_nonneg (by omega)]; exact i8
          have HH : Hid (2 ^ f / 2 ^ (i + 1) = G2 ∧ G2 < G) := ⟨by rw [← half_pow, HG.out.1]; exact hG2, by omega⟩
          clear hG2
          gi_wp2
          refine hR.mono ?_
          rintro e3 W3 (⟨rfl, hJ3, hk3⟩ | ⟨rfl, hJx3⟩)
          · have c3 := (hk3 hB2).cell
            gi_wp2
            go_roundw
            case rel => exact ⟨i + 1, by rw [HH.out.1], by have := HI.out; omega, by rw [HP.out.2, ← List.append_assoc]; exact hJ3, hk3 hB2⟩
            case measure => have := HH.out.2; simp [intOf]; omega
          · gi_wp2
            simp only [Exit.noGoto]
            go_end0
            exact ⟨⟨_, rfl⟩, .inr ⟨_, HP.out.1, hJx3⟩⟩
        · have hG0 : G = 0 := by rw [← HG.out.1]; have h1 := HG.out.2; have : i = f + 1 := by omega
                                 rw [this]; exact Nat.div_eq_of_lt (Nat.pow_lt_pow_right (by decide) (by omega))
          subst hG0
          have hfull : (stepsF f).take i = stepsF f := List.take_of_length_le (by simp [stepsF]; omega)
          rw [hfull] at hJ2
          have HJ : Hid (J (stepsK (f + 1)) wr) := hJ2
          clear hfull hJ2
          gi_wp2
          go_roundw
          case rel => exact ⟨f + 1, by have := HK.out.1; rw [Nat.pow_succ, this]; simp, HF.out, HJ.out, hB2⟩
          case measure => have hp : 0 < K := (by rw [← HK.out.1]; exact Nat.pow_pos (by decide)); simp [intOf]; omega
    · have i2 : ¬ (K : Int) ≤ (N : Int) := by omega
      gi_wp2
      try simp only [Exit.noGoto]
      go_end0
      have : f = L := by have h1 := HK.out.2.1; have h2 := HK.out.2.2; omega
      exact ⟨⟨_, rfl⟩, .inl ⟨_, by rw [this], hJ⟩⟩
attribute [local go_sem] Oper.semAt_some
def gts (N : Nat) (l : List NStp) : List (Int × Int) := l.flatMap fun x => rowN x.1.val x.2.val N
theorem gts_snoc (N : Nat) (l : List NStp) (x : NStp) : gts N (l ++ [x]) = gts N l ++ rowN x.1.val x.2.val N := by unfold gts; simp
theorem gts_half (L : Nat) (hL : 0 < L) (l : List NStp) : (gts (2 ^ L) (List.map (clS L) l)).length = l.length * 2 ^ (L - 1) := by
 induction l with
 | nil => unfold gts; simp
 | cons a r ih =>
  have e : gts (2 ^ L) (List.map (clS L) (a :: r)) = rowN (clS L a).1.val (clS L a).2.val (2 ^ L) ++ gts (2 ^ L) (List.map (clS L) r) := by unfold gts; simp
  rw [e, List.length_append, ih, rowN_half _ _ L (clS_low L hL a), List.length_cons, Nat.succ_mul]; omega
def gatesL (L : Nat) : List (Int × Int) := gts (2 ^ L) (stepsK L)
theorem gatesL_length (L : Nat) (hL : L ≤ 16) : (gatesL L).length = (stepsK L).length * 2 ^ (L - 1) := by
 rcases Nat.eq_zero_or_pos L with h | h
 ·subst h; rfl
 ·have := gts_half L h (stepsK L)
  rwa [clS_steps L hL] at this
def TwoG (W : World) (B : Nat) (x : Int × Int) : Prop := W.heap[B]? = some (.cells #[.int .i64 x.1, .int .i64 x.2] 83 (0, 0))
theorem TwoG.fst {W : World} {B : Nat} {x : Int × Int} (h : TwoG W B x) : W.cell? ⟨B, 0, none⟩ = some (.int .i64 x.1) := by simp [World.cell?, show W.heap[B]? = _ from h]
theorem TwoG.snd {W : World} {B : Nat} {x : Int × Int} (h : TwoG W B x) : W.cell? ⟨B, 1, none⟩ = some (.int .i64 x.2) := by simp [World.cell?, show W.heap[B]? = _ from h]
theorem bit_in (F : Fence) (m : Nat) (hf : F.fn 41) (hro : F.round = none) (n : Int) (w : World) :
  CallsIn F m Tryz.prog 41 #[.int .i64 n] w fun e w' => e = .returned (.func (.func 71) #[] #[.pointer (some ⟨w.heap.size, 0, none⟩)]) ∧ w' = w.alloc (.cells #[.int .i64 n] 3) := by
 refine callsIn_of_wp Tryz.func41 rfl hf ?_ hro
 simp only [Tryz.ntmps41, List.size_toArray, List.length_cons, List.length_nil, Nat.reduceAdd, Nat.reduceSub, Array.replicate_succ, Array.replicate_zero, List.push_toArray, List.append_toArray, List.nil_append, List.cons_append]
 gi_wp2
 go_ret
 exact ⟨rfl, rfl⟩
attribute [local go_sem] Oper.semAt_some
theorem seqF_of {α : Type} {F : Fence} {n : Nat} {P : Program} {g : Nat} {lb : Array Value} {encs : α → Array Value} {Kp : World → World → Prop} {S Sp : List α → Prop} {N : Nat} {w : World} {X : Nat → Prop} (hXl : ∀ b, X b → b < w.heap.size)
  (hKp : ∀ (T : Nat → Prop) (V V' : World), Kept T V V' → (∀ b, X b → ¬ T b) → Kp V V')
  (H : ∀ (l : Nat) (J : List α → World → Prop) (W : World), Below w.heap.size w W → (∀ s A B row, J s A → A.grownBy B row → (∀ r, row = some r → False) → J s B) →
   (∀ pre x V, J pre V → pre.length < N → YieldAt F (n - 1) P l (encs x) V fun e V' => (e = .returned (.bool true) ∧ J (pre ++ [x]) V' ∧ Kp V V') ∨ (e = .returned (.bool false) ∧ (fun (_ : List α) (_ : World) => False) (pre ++ [x]) V')) → J [] W →
   CallsIn F n P g (#[.func (.yield l) #[] #[]] ++ lb) W fun e V => (∃ v, e = .returned v) ∧ ((∃ xs, S xs ∧ J xs V) ∨ (∃ pre, Sp pre ∧ (fun (_ : List α) (_ : World) => False) pre V))) :
  SeqF F n P g lb encs S N w X := fun l J W T0 fJ hW hY h0 hX => by
 refine (H l (fun pre V => ∃ T, J pre T V ∧ (∀ b, T b → ¬ X b) ∧ W.heap.size ≤ V.heap.size ∧ Kept T0 W V ∧ ∀ b, T b → T0 b ∨ W.heap.size ≤ b) W hW ?_ ?_ ⟨T0, h0, hX, Nat.le_refl _, Kept.refl _ _, fun b h => .inl h⟩).mono ?_
 ·rintro s A B row ⟨T, h1, h2, h3, h4, h5⟩ hg hr
  have k : Kept (fun _ => False) A B := ⟨hg.os, hg.tape, hg.output, hg.size, fun k hk _ => hg.block k hk (fun e => hr _ e.symm)⟩
  exact ⟨T, fJ.off _ _ _ _ _ h1 k (fun b e => e.elim), h2, Nat.le_trans h3 hg.size, h4.trans (k.mono (fun b e => e.elim)), h5⟩
 ·rintro pre x V ⟨T, h1, h2, h3, h4, h5⟩ hl
  obtain ⟨fn, tmps, assign, body, hy, hR⟩ := hY pre x V T h1 hl
  refine ⟨fn, tmps, assign, body, hy, hR.mono ?_⟩
  rintro e V' ⟨rfl, T', k1, k2, k3⟩
  refine .inl ⟨rfl, ⟨T', k1, fun b hb hx => ?_, Nat.le_trans h3 k2.size, ⟨k2.os.trans h4.os, k2.tape.trans h4.tape, k2.output.trans h4.output, Nat.le_trans h4.size k2.size, fun k hk hn => ?_⟩, fun b hb => ?_⟩, hKp T V V' k2 (fun b hx ht => h2 b ht hx)⟩
  ·have := hXl b hx; have := hW.size
   exact (k3 b hb).elim (fun h => h2 b h hx) (fun h => by omega)
  ·exact (k2.block k (Nat.lt_of_lt_of_le hk h3) (fun ht => (h5 k ht).elim hn (fun h => by omega))).trans (h4.block k hk hn)
  ·exact (k3 b hb).elim (h5 b) (fun h => .inr (Nat.le_trans h3 h))
 ·rintro e V ⟨hv, (⟨xs, hS, T, h1, h2, h3, h4, h5⟩ | ⟨_, _, h⟩)⟩
  ·exact ⟨hv, xs, T, hS, h1, h4, h5⟩
  ·exact h.elim
theorem kpB_off {Bn : Nat} {n : Int} {T : Nat → Prop} {V V' : World} (k : Kept T V V') (h : ¬ T Bn) : KpB Bn n V V' := fun x => (k.block Bn x.lt h).trans x
theorem steps_F (m : Nat) (hm : 1 ≤ m) (Bn L : Nat) (hL : L ≤ 16) (N : Nat) (hN : 2 ^ L = N) (w : World)
  (hS : ∀ w, Calls Tryz.prog 95 #[.int .i64 (N : Int)] w fun e w' => e = .returned (.bool true) ∧ w = w') (hB : Boxed w Bn 3 (.int .i64 (N : Int))) :
  SeqF Fence.wide m Tryz.prog 94 #[.pointer (some ⟨Bn, 0, none⟩)] (fun x => stpV (clS L x)) (fun ys => ys = stepsK L) (stepsK L).length w (fun b => b = Bn) :=
 seqF_of (Kp := KpB Bn N) (Sp := fun pre => pre <+: stepsK L) (fun b e => e ▸ hB.lt) (fun T V V' k h => kpB_off k (h Bn rfl)) fun l J W hW _ hY h0 =>
  steps1_in m hm l Bn L hL N hN (clS L) (fun f i hf hi => clS_stp L f i hL hf hi) J _ hS hY W ((hW.block Bn hB.lt).trans hB) h0
theorem row_F (m : Nat) (hm : 1 ≤ m) (b1 b2 b3 N f e : Nat) (hn : N ≤ 65536) (hf : f ≤ 16) (he : e ≤ 15) (vl : Int × Int → Int × Int) (hvl : ∀ i, i < N → i / 2 ^ e % 2 = 0 → vl (gateN f e i) = gateN f e i) (w : World)
  (hB1 : Boxed w b1 3 (.int .i64 (N : Int))) (hB2 : Boxed w b2 3 (.int .i64 ((2 ^ e : Nat) : Int))) (hB3 : Boxed w b3 3 (.int .i64 ((2 ^ f : Nat) : Int))) :
  SeqF Fence.wide m Tryz.prog 96 #[.pointer (some ⟨b1, 0, none⟩), .pointer (some ⟨b2, 0, none⟩), .pointer (some ⟨b3, 0, none⟩)] (fun x => hopV (vl x)) (fun ys => ys = rowN f e N) (rowN f e N).length w (fun b => b = b1 ∨ b = b2 ∨ b = b3) :=
 seqF_of (Kp := Kp2 b2 ((2 ^ e : Nat) : Int) b3 ((2 ^ f : Nat) : Int)) (Sp := fun pre => pre <+: rowN f e N) (fun b h => by rcases h with rfl | rfl | rfl; exact hB1.lt; exact hB2.lt; exact hB3.lt) (fun T V V' k h => ⟨kpB_off k (h b2 (.inr (.inl rfl))), kpB_off k (h b3 (.inr (.inr rfl)))⟩) fun l J W hW hN hY h0 =>
  row1_in m hm l b1 b2 b3 N f e hn hf he vl hvl J _ W hN hY ((hW.block b1 hB1.lt).trans hB1) ((hW.block b2 hB2.lt).trans hB2) ((hW.block b3 hB3.lt).trans hB3) h0
theorem SeqF.inRound {α : Type} {F : Fence} {n : Nat} {P : Program} {g : Nat} {lb : Array Value} {encs : α → Array Value} {S : List α → Prop} {N : Nat} {w : World} {X : Nat → Prop} (l : Nat) (h : SeqF F n P g lb encs S N w X) : SeqF (F.inRound l) n P g lb encs S N w X := h
def BitI {β : Type} (J : List (Int × Int) → (Nat → Prop) → World → Prop) (Bn Yb N l : Nat) (f : List β → List (Int × Int)) (pre : List β) (TI : Nat → Prop) (V : World) : Prop :=
 ∃ T, (∀ b, TI b ↔ T b ∨ b = Bn ∨ b = Yb) ∧ ¬ T Bn ∧ ¬ T Yb ∧ J (f pre) T V ∧ Boxed V Bn 3 (.int .i64 (N : Int)) ∧ Boxed V Yb 128 (.func (.yield l) #[] #[])
theorem bitI_foot {β : Type} {J : List (Int × Int) → (Nat → Prop) → World → Prop} (fJ : Foot J) (Bn Yb N l : Nat) (f : List β → List (Int × Int)) : Foot (BitI J Bn Yb N l f) := by
 refine ⟨fun pre TI A A' U hx hk hd => ?_, fun pre TI A hx b hb => ?_⟩
 ·obtain ⟨T, h1, h2, h3, h4, h5, h6⟩ := hx
  exact ⟨T, h1, h2, h3, fJ.off _ _ _ _ _ h4 hk (fun b hu ht => hd b hu ((h1 b).2 (.inl ht))), (hk.block Bn h5.lt (fun hu => hd _ hu ((h1 _).2 (.inr (.inl rfl))))).trans h5, (hk.block Yb h6.lt (fun hu => hd _ hu ((h1 _).2 (.inr (.inr rfl))))).trans h6⟩
 ·obtain ⟨T, h1, h2, h3, h4, h5, h6⟩ := hx
  rcases (h1 b).1 hb with h | rfl | rfl
  ·exact fJ.lt _ _ _ h4 b h
  ·exact h5.lt
  ·exact h6.lt
theorem bit1_f (l Bn L N : Nat) (hL : L ≤ 16) (hN : 2 ^ L = N) (vl : Int × Int → Int × Int) (hvl : ∀ f e i, e < L → i < N → i / 2 ^ e % 2 = 0 → vl (gateN f e i) = gateN f e i) (J : List (Int × Int) → (Nat → Prop) → World → Prop) (fJ : Foot J)
  (hS : ∀ w, Calls Tryz.prog 95 #[.int .i64 (N : Int)] w fun e w' => e = .returned (.bool true) ∧ w = w')
  (W : World) (T0 : Nat → Prop)
  (hY : ∀ pre x V T, J pre T V → pre.length < (gatesL L).length → YieldAt Fence.wide 19 Tryz.prog l #[.agg #[.int .i64 (vl x).1, .int .i64 (vl x).2]] V fun e V' =>
   e = .returned (.bool true) ∧ ∃ T', J (pre ++ [x]) T' V' ∧ Kept T V V' ∧ ∀ b, T' b → T b ∨ V.heap.size ≤ b)
  (hB : Boxed W Bn 3 (.int .i64 (N : Int))) (h0 : J [] T0 W) (hX : ¬ T0 Bn) :
  CallsIn Fence.wide 20 Tryz.prog 71 #[.func (.yield l) #[] #[], .pointer (some ⟨Bn, 0, none⟩)] W fun e V => (∃ v, e = .returned v) ∧
   ∃ T, J (gatesL L) T V ∧ Kept T0 W V ∧ ∀ b, T b → T0 b ∨ W.heap.size ≤ b := by
 have HB : Hid (Boxed W Bn 3 (.int .i64 (N : Int)) ∧ ∀ b, T0 b → b < W.heap.size) := ⟨hB, fJ.lt _ _ _ h0⟩
 have c0 := hB.cell
 have hN2 : N ≤ 65536 := by rw [← hN]; exact Nat.pow_le_pow_right (by decide) hL
 have HN : Hid (2 ^ L = N) := hN
 clear hN
 refine callsIn_of_wp_marks Tryz.func71 rfl trivial ?_ rfl
 simp only [Tryz.ntmps71, List.size_toArray, List.length_cons, List.length_nil, Nat.reduceAdd, Nat.reduceSub, Array.replicate_succ, Array.replicate_zero, List.push_toArray, List.append_toArray, List.nil_append, List.cons_append]
 gi_wp2
 refine wpIn_scope ?_
 gi_wp2
 refine wpIn_label ?_
 have c0' : ∀ o, (W.alloc o).cell? ⟨Bn, 0, none⟩ = some (.int .i64 (N : Int)) := fun o => (hB.alloc o).cell
 gi_wp2_with (refine ⟨trivial, ?_⟩; gi_at_call 72; refine (steps_in _ _ trivial rfl _ _).mono ?_; rintro e w' ⟨rfl, rfl⟩)
 have bY := (Boxed.new W 128 (.func (.yield l) #[] #[])).alloc (.cells #[.int .i64 (N : Int)] 3)
 have bS := Boxed.new (W.alloc (.cells #[.func (.yield l) #[] #[]] 128)) 3 (.int .i64 (N : Int))
 have bN := (hB.alloc (.cells #[.func (.yield l) #[] #[]] 128)).alloc (.cells #[.int .i64 (N : Int)] 3)
 have bel0 : Below W.heap.size W ((W.alloc (.cells #[.func (.yield l) #[] #[]] 128)).alloc (.cells #[.int .i64 (N : Int)] 3)) := ((Below.refl _ W).alloc (Nat.le_refl _) _).alloc (by simp) _
 have j0 := fJ.new h0 bel0
 simp only [World.size_alloc] at bS
 have hsz : ((W.alloc (.cells #[.func (.yield l) #[] #[]] 128)).alloc (.cells #[.int .i64 (N : Int)] 3)).heap.size = W.heap.size + 2 := by simp
 obtain ⟨W0, hW0⟩ : ∃ W0, (W.alloc (.cells #[.func (.yield l) #[] #[]] 128)).alloc (.cells #[.int .i64 (N : Int)] 3) = W0 := ⟨_, rfl⟩
 rw [hW0] at bY bS bN j0 hsz bel0 ⊢
 have HZ : Hid (W0.heap.size = W.heap.size + 2 ∧ Below W.heap.size W W0) := ⟨hsz, bel0⟩
 have HSi : Hid (∀ w, Calls Tryz.prog 95 #[.int .i64 (N : Int)] w fun e w' => e = .returned (.bool true) ∧ w = w') := hS
 clear hW0 hsz bel0 hS c0 c0' hB h0
 refine range_foot rfl (by omega) (gf := 94) (lb := #[.pointer (some ⟨W.heap.size + 1, 0, none⟩)]) rfl trivial (enters_of Tryz.func94 (by kernel_rfl) rfl)
  (steps_F 19 (by omega) (W.heap.size + 1) L hL N HN.out W0 HSi.out bS) (fun b e => e ▸ bS.lt) (fun _ => rfl)
  (BitI J Bn W.heap.size N l (fun pre => gts N (List.map (clS L) pre))) (bitI_foot fJ _ _ _ _ _) (fun b => T0 b ∨ b = Bn ∨ b = W.heap.size)
  ⟨T0, fun b => Iff.rfl, hX, fun h => by have := HB.out.2 _ h; omega, j0, bN, bY⟩ (fun b hb e => by have := HB.out.1.lt; rcases hb with h | h | h; have := HB.out.2 _ h; omega; omega; omega)
  (fun x0 _ a' _ => a' = { tmps := #[.func (.yield l) #[] #[], .pointer (some ⟨Bn, 0, none⟩), .pointer (some ⟨W.heap.size, 0, none⟩), .int .i64 ((2 ^ (clS L x0).1.val : Nat) : Int), .int .i64 ((2 ^ (clS L x0).2.val : Nat) : Int), undef, .int .i64 (N : Int), .func (.func 94) #[] #[.pointer (some ⟨W.heap.size + 1, 0, none⟩)], .int .i64 ((2 ^ (clS L x0).1.val : Nat) : Int), .int .i64 ((2 ^ (clS L x0).2.val : Nat) : Int), undef, undef, undef, undef, undef, undef, undef, undef, undef], defers := [] })
  (fun _ _ _ _ _ _ _ _ hs => hs)
  ?assign ?body ?done
 case assign =>
  rintro l1 pre x0 T V K hi _ hK
  simp only [stpV]
  gi_wp2
  exact hK _ _ (Below.refl _ _) rfl
 case body =>
  rintro l1 pre0 x0 TI a' V ⟨r1, hr1⟩ hnl hVl ⟨T, hTI, n1, n2, hj, bN1, bY1⟩ rfl hlt
  have HT : Hid (BitI J Bn W.heap.size N l (fun pre => gts N (List.map (clS L) pre)) pre0 TI V) := ⟨T, hTI, n1, n2, hj, bN1, bY1⟩
  replace hj : J (gts N (List.map (clS L) pre0)) T V := hj
  have hL0 : 0 < L := by
   rcases Nat.eq_zero_or_pos L with h | h
   ·subst h; simp [stepsK] at hlt
   ·exact h
  have hxl := clS_low L hL0 x0
  obtain ⟨x, hx⟩ : ∃ x, clS L x0 = x := ⟨_, rfl⟩
  obtain ⟨pre, hpre⟩ : ∃ pre, List.map (clS L) pre0 = pre := ⟨_, rfl⟩
  rw [hpre] at hj
  rw [hx] at hxl ⊢
  have hlt : pre.length < (stepsK L).length := by rw [← hpre]; simpa using hlt
  have HXP : Hid (List.map (clS L) (pre0 ++ [x0]) = pre ++ [x] ∧ x.2.val < L ∧ (gts N pre).length = pre.length * 2 ^ (L - 1)) := ⟨by rw [List.map_append, hpre, List.map_cons, List.map_nil, hx], hxl, by rw [← hpre, ← HN.out, gts_half L hL0, List.length_map]⟩
  clear hpre hx hxl hL0
  have cN := bN1.cell
  have hx1 : x.1.val ≤ 16 := by have := x.1.isLt; omega
  have hx2 : x.2.val ≤ 15 := by have := x.2.isLt; omega
  obtain ⟨K, hK⟩ : ∃ K, 2 ^ x.1.val = K := ⟨_, rfl⟩
  obtain ⟨E, hE⟩ : ∃ E, 2 ^ x.2.val = E := ⟨_, rfl⟩
  rw [hK, hE]
  have HX : Hid (2 ^ x.1.val = K ∧ 2 ^ x.2.val = E ∧ x.1.val ≤ 16 ∧ x.2.val ≤ 15 ∧ pre.length < (stepsK L).length) := ⟨hK, hE, hx1, hx2, hlt⟩
  clear hK hE hx1 hx2 hlt
  gi_wp2_with (refine ⟨trivial, ?_⟩; gi_at_call 73; refine (CallsIn.inRound l1 (row_in _ _ trivial rfl _ _ _ _)).mono ?_; rintro e w' ⟨rfl, rfl⟩)
  have b1 := ((Boxed.new V 3 (.int .i64 (N : Int))).alloc (.cells #[.int .i64 (K : Int)] 3)).alloc (.cells #[.int .i64 (E : Int)] 3)
  have b3 := (Boxed.new (V.alloc (.cells #[.int .i64 (N : Int)] 3)) 3 (.int .i64 (K : Int))).alloc (.cells #[.int .i64 (E : Int)] 3)
  have b2 := Boxed.new ((V.alloc (.cells #[.int .i64 (N : Int)] 3)).alloc (.cells #[.int .i64 (K : Int)] 3)) 3 (.int .i64 (E : Int))
  have bNv := ((bN1.alloc (.cells #[.int .i64 (N : Int)] 3)).alloc (.cells #[.int .i64 (K : Int)] 3)).alloc (.cells #[.int .i64 (E : Int)] 3)
  have bYv := ((bY1.alloc (.cells #[.int .i64 (N : Int)] 3)).alloc (.cells #[.int .i64 (K : Int)] 3)).alloc (.cells #[.int .i64 (E : Int)] 3)
  have bel1 : Below V.heap.size V (((V.alloc (.cells #[.int .i64 (N : Int)] 3)).alloc (.cells #[.int .i64 (K : Int)] 3)).alloc (.cells #[.int .i64 (E : Int)] 3)) := (((Below.refl _ V).alloc (Nat.le_refl _) _).alloc (by simp) _).alloc (by simp; omega) _
  have jv := fJ.new hj bel1
  have hr1v : (((V.alloc (.cells #[.int .i64 (N : Int)] 3)).alloc (.cells #[.int .i64 (K : Int)] 3)).alloc (.cells #[.int .i64 (E : Int)] 3)).heap[l1]? = some (.loop r1) := by
   have h1 := (Array.getElem?_eq_some_iff.1 hr1).1
   rw [Below.heap_alloc _ _ _ (by simp; omega), Below.heap_alloc _ _ _ (by simp; omega), Below.heap_alloc _ _ _ h1]
   exact hr1
  have hszv : (((V.alloc (.cells #[.int .i64 (N : Int)] 3)).alloc (.cells #[.int .i64 (K : Int)] 3)).alloc (.cells #[.int .i64 (E : Int)] 3)).heap.size = V.heap.size + 3 := by simp
  simp only [World.size_alloc] at b2 b3
  obtain ⟨U0, hU0⟩ : ∃ U0, ((V.alloc (.cells #[.int .i64 (N : Int)] 3)).alloc (.cells #[.int .i64 (K : Int)] 3)).alloc (.cells #[.int .i64 (E : Int)] 3) = U0 := ⟨_, rfl⟩
  rw [hU0] at b1 b2 b3 bNv bYv jv hr1v bel1 hszv ⊢
  have HU : Hid (U0.heap.size = V.heap.size + 3 ∧ W.heap.size + 1 < V.heap.size ∧ Below V.heap.size V U0) := ⟨hszv, by have := HZ.out.1; omega, bel1⟩
  clear hU0 hszv hVl cN bel1
  have hst : SeqF (Fence.wide.inRound l1) 17 Tryz.prog 96 #[.pointer (some ⟨V.heap.size, 0, none⟩), .pointer (some ⟨V.heap.size + 1 + 1, 0, none⟩), .pointer (some ⟨V.heap.size + 1, 0, none⟩)] (fun y => hopV (vl y)) (fun ys => ys = rowN x.1.val x.2.val N) (rowN x.1.val x.2.val N).length U0 (fun b => b = V.heap.size ∨ b = V.heap.size + 1 + 1 ∨ b = V.heap.size + 1) := by
   have := row_F 17 (by omega) V.heap.size (V.heap.size + 1 + 1) (V.heap.size + 1) N x.1.val x.2.val hN2 HX.out.2.2.1 HX.out.2.2.2.1 vl (fun i hi hb => hvl x.1.val x.2.val i HXP.out.2.1 hi hb) U0 b1 (by rw [HX.out.2.1]; exact b2) (by rw [HX.out.1]; exact b3)
   exact this.inRound l1
  refine range_footN (l₀ := l1) (r₀ := r1) rfl hr1v (by omega) (gf := 96) (lb := #[.pointer (some ⟨V.heap.size, 0, none⟩), .pointer (some ⟨V.heap.size + 1 + 1, 0, none⟩), .pointer (some ⟨V.heap.size + 1, 0, none⟩)]) rfl trivial (enters_of Tryz.func96 (by kernel_rfl) rfl)
   hst (fun b e => by have := HU.out.1; omega) (fun _ => rfl)
   (BitI J Bn W.heap.size N l (fun p2 => gts N pre ++ p2)) (bitI_foot fJ _ _ _ _ _) TI
   ⟨T, hTI, n1, n2, by simpa using jv, bNv, bYv⟩ (fun b hb e => by have := (bitI_foot fJ Bn W.heap.size N l (fun pre => gts N (List.map (clS L) pre))).lt _ _ _ HT.out b hb; omega)
   (fun y _ a'' U => ∃ Bx, TwoG U Bx (vl y) ∧ a'' = { tmps := #[.func (.yield l) #[] #[], .pointer (some ⟨Bn, 0, none⟩), .pointer (some ⟨W.heap.size, 0, none⟩), .int .i64 (K : Int), .int .i64 (E : Int), .pointer (some ⟨Bx, 0, none⟩), .int .i64 (N : Int), .func (.func 94) #[] #[.pointer (some ⟨W.heap.size + 1, 0, none⟩)], .int .i64 (K : Int), .int .i64 (E : Int), .int .i64 (N : Int), .int .i64 (K : Int), .int .i64 (E : Int), .func (.func 96) #[] #[.pointer (some ⟨V.heap.size, 0, none⟩), .pointer (some ⟨V.heap.size + 1 + 1, 0, none⟩), .pointer (some ⟨V.heap.size + 1, 0, none⟩)], .agg #[.int .i64 (vl y).1, .int .i64 (vl y).2], undef, undef, undef, undef], defers := [] })
   (fun y _ a'' A q r o hq hs => by obtain ⟨Bx, h2, h3⟩ := hs; refine ⟨Bx, ?_, h3⟩; exact (World.putObj_heap_other (fun e => by subst e; unfold TwoG at h2; rw [hq] at h2; cases h2)).trans h2)
   ?assign2 ?body2 ?done2
  case assign2 =>
   rintro l2 p2 y T2 U K2 _ _ hK2
   simp only [hopV]
   gi_wp2
   refine hK2 _ _ ((Below.refl _ U).alloc (Nat.le_refl _) _) ⟨U.heap.size, ?_, rfl⟩
   exact World.alloc_heap_new U _
  case body2 =>
   rintro l2 p2 y T2 a'' U hr2 hnl2 hU2 ⟨T', hT2, m1, m2, hj2, bN2, bY2⟩ ⟨Bx, bX, rfl⟩ hlt2
   replace hj2 : J (gts N pre ++ p2) T' U := hj2
   have cY := bY2.cell
   have c0 := bX.fst
   have c1 := bX.snd
   have hlen : (gts N pre ++ p2).length < (gatesL L).length := by
    have h1 : (gts N pre).length = pre.length * 2 ^ (L - 1) := HXP.out.2.2
    have h2 : (rowN x.1.val x.2.val N).length = 2 ^ (L - 1) := by rw [← HN.out]; exact rowN_half _ _ L HXP.out.2.1
    have h3 : (pre.length + 1) * 2 ^ (L - 1) ≤ (stepsK L).length * 2 ^ (L - 1) := Nat.mul_le_mul_right _ HX.out.2.2.2.2
    rw [Nat.succ_mul] at h3
    rw [gatesL_length L hL, List.length_append]; omega
   obtain ⟨fn, tmps, assign, body, hy, hR⟩ := hY _ y U T' hj2 hlen
   clear hlen
   gi_wp2
   have hR' : RoundIn ((Fence.wide.inRound l1).inRound l2) 15 Tryz.prog l fn tmps assign body U _ := ⟨trivial, fun c cs _ => hR.2 c cs (room_wide _)⟩
   refine hR'.mono ?_
   rintro e3 U3 ⟨rfl, T3, hJ3, hk3, hs3⟩
   gi_wp2
   have l1' := bN2.lt
   have l2' := bY2.lt
   refine ⟨fun b => T3 b ∨ b = Bn ∨ b = W.heap.size, ⟨T3, fun b => Iff.rfl, fun h => (hs3 _ h).elim m1 (fun e => by omega), fun h => (hs3 _ h).elim m2 (fun e => by omega), ?_, (hk3.block _ l1' m1).trans bN2, (hk3.block _ l2' m2).trans bY2⟩, hk3.mono (fun b h => (hT2 b).2 (.inl h)), fun b h => ?_⟩
   ·show J (gts N pre ++ (p2 ++ [y])) T3 U3
    rw [← List.append_assoc]; exact hJ3
   ·rcases h with h | h | h
    ·exact (hs3 b h).imp (fun h => .inl h) (fun h => h)
    ·exact .inl (.inr (.inl h))
    ·exact .inl (.inr (.inr h))
  case done2 =>
   rintro p2 T2 U hp2 ⟨T', hT2, m1, m2, hj2, bN2, bY2⟩ hk2 hs2
   replace hj2 : J (gts N pre ++ p2) T' U := hj2
   gi_wp2
   refine ⟨T2, ⟨T', hT2, m1, m2, ?_, bN2, bY2⟩, (Kept.new TI HU.out.2.2).trans hk2, fun b h => (hs2 b h).imp (fun h => (hTI b).1 h) (fun h => by have := HU.out.1; omega)⟩
   show J (gts N (List.map (clS L) (pre0 ++ [x0]))) T' U
   rw [HXP.out.1, gts_snoc, ← hp2]; exact hj2
 case done =>
  rintro D xs TI V hD hxs ⟨T, hTI, n1, n2, hj, bN1, bY1⟩ hnD hk hs hK
  replace hj : J (gts N (List.map (clS L) xs)) T V := hj
  have hnT : ¬ T D := fun h => hnD ((hTI D).2 (.inl h))
  have hj2 : J (gts N (List.map (clS L) xs)) T (V.putObj D (.deferred none)) := fJ.off _ _ _ _ _ hj (kept_put (S := fun b => b = D) _ _ _ rfl) (fun b e => e ▸ hnT)
  try simp only [Exit.noGoto]
  gi_wp2
  refine ⟨by simp, .inl ⟨_, _, rfl, run_takeDeferred hK, ?_⟩⟩
  have hz := HZ.out.1
  refine ⟨_, results_none rfl _ _ _, ⟨_, rfl⟩, T, by rw [hxs, clS_steps L hL] at hj2; rw [gatesL, HN.out]; exact hj2, ⟨hk.os.trans HZ.out.2.os, hk.tape.trans HZ.out.2.tape, hk.output.trans HZ.out.2.output, ?_, fun k hlt hn => ?_⟩, fun b h => ?_⟩
  ·have := hk.size; simp [World.putObj]; omega
  ·rw [World.putObj_heap_other (by omega)]
   by_cases e : k = Bn
   ·subst e; exact Eq.trans bN1 (Eq.symm HB.out.1)
   ·exact (hk.block k (by omega) (by rintro (h | h | h); exact hn h; exact e h; omega)).trans (HZ.out.2.block k hlt)
  ·rcases hs b ((hTI b).2 (.inl h)) with (h2 | h2 | h2) | h2
   ·exact .inl h2
   ·exact absurd (h2 ▸ h) n1
   ·exact .inr (by omega)
   ·exact .inr (by omega)
theorem bit_F (m : Nat) (Bn L N : Nat) (hL : L ≤ 16) (hN : 2 ^ L = N) (vl : Int × Int → Int × Int) (hvl : ∀ f e i, e < L → i < N → i / 2 ^ e % 2 = 0 → vl (gateN f e i) = gateN f e i) (w : World) (hS : ∀ w, Calls Tryz.prog 95 #[.int .i64 (N : Int)] w fun e w' => e = .returned (.bool true) ∧ w = w') (hB : Boxed w Bn 3 (.int .i64 (N : Int))) :
  SeqF Fence.wide m Tryz.prog 71 #[.pointer (some ⟨Bn, 0, none⟩)] (fun x => hopV (vl x)) (fun ys => ys = gatesL L) (gatesL L).length w (fun b => b = Bn) := fun l J W T0 fJ hW hY h0 hX => by
 refine callsIn_wide.2 ((callsIn_wide (n := 20)).1 ?_)
 refine (bit1_f l Bn L N hL hN vl hvl J fJ hS W T0 (fun pre x V T hj hl => ?_) ((hW.block Bn hB.lt).trans hB) h0 (fun h => hX Bn h rfl)).mono ?_
 ·obtain ⟨fn, tmps, assign, body, hy, hR⟩ := hY pre x V T hj hl
  exact ⟨fn, tmps, assign, body, hy, trivial, fun c cs _ => hR.2 c cs (room_wide _)⟩
 ·rintro e V ⟨hv, T, h1, h2, h3⟩
  exact ⟨hv, _, T, rfl, h1, h2, h3⟩
variable {α : Type} [Inhabited α]
def tradeA (l : List α) (i j : Nat) : List α := (l.set i (l.getD j default)).set j (l.getD i default)
def gstep (lt : α → α → Bool) (l : List α) (g : Int × Int) : List α := if lt (l.getD g.2.toNat default) (l.getD g.1.toNat default) then tradeA l g.1.toNat g.2.toNat else l
def gfold (lt : α → α → Bool) (l : List α) (gs : List (Int × Int)) : List α := gs.foldl (gstep lt) l
theorem tradeA_length (l : List α) (i j : Nat) : (tradeA l i j).length = l.length := by simp [tradeA]
theorem gstep_length (lt : α → α → Bool) (l : List α) (g : Int × Int) : (gstep lt l g).length = l.length := by
  unfold gstep; split
  · exact tradeA_length _ _ _
  · rfl
theorem gfold_length (lt : α → α → Bool) (gs : List (Int × Int)) : ∀ l, (gfold lt l gs).length = l.length := by
  induction gs with
  | nil => intro l; rfl
  | cons g gs ih => intro l; exact (ih _).trans (gstep_length lt l g)
theorem gfold_snoc (lt : α → α → Bool) (l : List α) (gs : List (Int × Int)) (g : Int × Int) : gfold lt l (gs ++ [g]) = gstep lt (gfold lt l gs) g := by simp [gfold]
omit [Inhabited α] in
theorem getD_set (l : List α) (i k : Nat) (x d : α) (hi : i < l.length) : (l.set i x).getD k d = if k = i then x else l.getD k d := by
  rw [List.getD_eq_getElem?_getD, List.getD_eq_getElem?_getD, List.getElem?_set]
  by_cases h : i = k
  · subst h; simp [hi]
  · rw [if_neg h, if_neg (fun e => h e.symm)]
theorem tradeA_get (l : List α) (i j k : Nat) (hi : i < l.length) (hj : j < l.length) : (tradeA l i j).getD k default = if k = j then l.getD i default else if k = i then l.getD j default else l.getD k default := by
  unfold tradeA
  rw [getD_set _ j k _ _ (by simpa using hj), getD_set _ i k _ _ hi]
theorem in_range (L e m : Nat) (he : e < L) (hm : m < 2 ^ L) (hb : m / 2 ^ e % 2 = 0) : m + 2 ^ e < 2 ^ L := by
  have e1 : 2 ^ L = 2 ^ e * (2 * 2 ^ (L - e - 1)) := by rw [← Nat.pow_succ', ← Nat.pow_add]; congr 1; omega
  obtain ⟨C, hC⟩ : ∃ C, 2 ^ (L - e - 1) = C := ⟨_, rfl⟩
  rw [hC] at e1
  have hp : 0 < 2 ^ e := Nat.pow_pos (by decide)
  obtain ⟨M, hM⟩ : ∃ M, 2 ^ e = M := ⟨_, rfl⟩
  rw [hM] at e1 hp hb ⊢
  rw [e1] at hm ⊢
  have h1 : m / M < 2 * C := Nat.div_lt_of_lt_mul hm
  have h2 : m / M + 2 ≤ 2 * C := by omega
  have h3 : m < M * (m / M) + M := by have := Nat.mod_lt m hp; have := Nat.div_add_mod m M; omega
  have h4 : M * (m / M + 2) ≤ M * (2 * C) := Nat.mul_le_mul_left _ h2
  rw [Nat.mul_add] at h4
  omega
theorem gate_in (f e L m : Nat) (he : e < L) : ∀ g, g ∈ rowN f e m → m ≤ 2 ^ L → ∃ a b : Nat, g = ((a : Int), (b : Int)) ∧ a < 2 ^ L ∧ b < 2 ^ L ∧ a ≠ b := by
  induction m with
  | zero => intro g hg _; simp [rowN] at hg
  | succ m ih =>
    intro g hg hm
    rw [rowN] at hg
    split at hg
    · rename_i hb
      rcases List.mem_append.1 hg with h | h
      · exact ih g h (by omega)
      · have hr := in_range L e m he (by omega) hb
        have hp2 : 0 < 2 ^ e := Nat.pow_pos (by decide)
        have : g = gateN f e m := by simpa using h
        rw [this, gateN]
        split
        · exact ⟨m, m + 2 ^ e, rfl, by omega, hr, by omega⟩
        · exact ⟨m + 2 ^ e, m, rfl, hr, by omega, by omega⟩
    · exact ih g hg (by omega)
theorem gates_in (L : Nat) (hL : L ≤ 16) (g : Int × Int) (hg : g ∈ gatesL L) : ∃ a b : Nat, g = ((a : Int), (b : Int)) ∧ a < 2 ^ L ∧ b < 2 ^ L ∧ a ≠ b := by
  unfold gatesL gts at hg
  obtain ⟨x, hx, hg⟩ := List.mem_flatMap.1 hg
  exact gate_in _ _ L _ (step_low L L (Nat.le_refl _) hL x hx) g hg (Nat.le_refl _)
def clG (N : Nat) (x : Int × Int) : Int × Int := if 0 ≤ x.1 ∧ x.1 < N ∧ 0 ≤ x.2 ∧ x.2 < N ∧ x.1 ≠ x.2 then x else (0, 1)
theorem clG_in (N : Nat) (hN : 2 ≤ N) (x : Int × Int) : ∃ a b : Nat, clG N x = ((a : Int), (b : Int)) ∧ a < N ∧ b < N ∧ a ≠ b := by
 unfold clG
 split
 ·rename_i h
  exact ⟨x.1.toNat, x.2.toNat, Prod.ext (by simp; omega) (by simp; omega), by omega, by omega, by omega⟩
 ·exact ⟨0, 1, rfl, by omega, by omega, by omega⟩
theorem clG_id (N : Nat) (a b : Nat) (ha : a < N) (hb : b < N) (hab : a ≠ b) : clG N ((a : Int), (b : Int)) = ((a : Int), (b : Int)) := by
 unfold clG; rw [if_pos]; exact ⟨by simp, by simp; omega, by simp, by simp; omega, by simp; omega⟩
theorem clG_gate (L N : Nat) (hN : 2 ^ L = N) (f e i : Nat) (he : e < L) (hi : i < N) (hb : i / 2 ^ e % 2 = 0) : clG N (gateN f e i) = gateN f e i := by
 subst hN
 have hr := in_range L e i he hi hb
 have hp : 0 < 2 ^ e := Nat.pow_pos (by decide)
 unfold gateN
 split
 ·exact clG_id _ _ _ hi hr (by omega)
 ·exact clG_id _ _ _ hr hi (by omega)
theorem clG_gates (L : Nat) (hL : L ≤ 16) : (gatesL L).map (clG (2 ^ L)) = gatesL L := by
 have : ∀ x ∈ gatesL L, clG (2 ^ L) x = x := fun x hx => by
  obtain ⟨a, b, rfl, ha, hb, hab⟩ := gates_in L hL x hx
  exact clG_id _ a b ha hb hab
 exact (List.map_congr_left this).trans (List.map_id _)
def blen (x : Nat) : Nat := if x = 0 then 0 else x.log2 + 1
theorem byte_at (T : ByteArray) (x : Nat) (h : x < T.size) : T[x]'h = T.data.toList.getD x 0 := by
 have h2 : x < T.data.size := h
 show T.data[x]'h2 = _
 simp only [List.getD_eq_getElem?_getD, Array.getElem?_toList]
 rw [Array.getElem?_eq_getElem h2]
 rfl
theorem len64_low (x : Nat) (hx : x < 256) (w : World) : Calls Tryz.prog 92 #[.int .u64 x] w fun e w' => e = .returned (.int .i64 (blen x)) ∧ w = w' := by
 have i1 : ¬ (4294967296 : Int) ≤ (x : Int) := by omega
 have i2 : ¬ (65536 : Int) ≤ (x : Int) := by omega
 have i3 : ¬ (256 : Int) ≤ (x : Int) := by omega
 go_enter Tryz.func92, Tryz.ntmps92
 go_wp2
 go_ret
 refine ⟨?_, rfl⟩
 refine congrArg (fun z => Ending.returned (Value.int .i64 z)) (a₁ := wrap64 (wrap64 _)) ?_
 rw [byte_at]
 clear i1 i2 i3
 clear w
 revert x
 decide +kernel
theorem log2_half (x : Nat) (h : 2 ≤ x) : x.log2 = (x / 2).log2 + 1 := by
 rw [Nat.log2_def, if_pos h]
theorem blen_shift (x : Nat) (h : 256 ≤ x) : blen x = blen (x / 256) + 8 := by
 have h0 : x / 256 ≠ 0 := by omega
 unfold blen
 rw [if_neg (by omega), if_neg h0, log2_half x (by omega), log2_half (x / 2) (by omega), log2_half (x / 2 / 2) (by omega), log2_half (x / 2 / 2 / 2) (by omega), log2_half (x / 2 / 2 / 2 / 2) (by omega), log2_half (x / 2 / 2 / 2 / 2 / 2) (by omega), log2_half (x / 2 / 2 / 2 / 2 / 2 / 2) (by omega), log2_half (x / 2 / 2 / 2 / 2 / 2 / 2 / 2) (by omega)]
 have e : x / 2 / 2 / 2 / 2 / 2 / 2 / 2 / 2 = x / 256 := by omega
 rw [e]
theorem len64_mid (X : Int) (y : Nat) (hy : y < 256) (hy0 : 1 ≤ y) (h1 : 256 ≤ X) (h2 : X < 65536) (hq : X / 256 = (y : Int)) (w : World) : Calls Tryz.prog 92 #[.int .u64 X] w fun e w' => e = .returned (.int .i64 ((blen y + 8 : Nat) : Int)) ∧ w = w' := by
 have i1 : ¬ (4294967296 : Int) ≤ X := by omega
 have i2 : ¬ (65536 : Int) ≤ X := by omega
 have i3 : (256 : Int) ≤ X := by omega
 go_enter Tryz.func92, Tryz.ntmps92
 go_wp2
 go_ret
 refine ⟨?_, rfl⟩
 refine congrArg (fun z => Ending.returned (Value.int .i64 z)) (a₁ := wrap64 (8 + wrap64 _)) ?_
 rw [byte_at]
 clear i1 i2 i3 hq h1 h2 hy0
 clear w X
 revert y
 decide +kernel
theorem len64_top (w : World) : Calls Tryz.prog 92 #[.int .u64 65536] w fun e w' => e = .returned (.int .i64 17) ∧ w = w' := by
 go_enter Tryz.func92, Tryz.ntmps92
 go_wp2
 go_ret
 exact ⟨by kernel_rfl, rfl⟩
theorem len64_any (x : Nat) (hx : x ≤ 65536) (w : World) : Calls Tryz.prog 92 #[.int .u64 x] w fun e w' => e = .returned (.int .i64 (blen x)) ∧ w = w' := by
 rcases Nat.lt_or_ge x 256 with h | h
 ·exact len64_low x h w
 ·rcases Nat.lt_or_ge x 65536 with h2 | h2
  ·rw [blen_shift x h]
   exact len64_mid x (x / 256) (by omega) (by omega) (by omega) (by omega) (by omega) w
  ·have : x = 65536 := by omega
   subst this
   have e : blen 65536 = 17 := by decide +kernel
   rw [e]
   exact len64_top w
theorem nlen_any (x : Nat) (hx : x ≤ 65536) (w : World) : Calls Tryz.prog 68 #[.int .u64 x] w fun e w' => e = .returned (.int .i64 (blen x)) ∧ w = w' := by
 go_enter Tryz.func68, Tryz.ntmps68
 go_wp2_with (go_at_call 92; refine (len64_any x hx _).mono ?_; rintro e w' ⟨rfl, rfl⟩)
 go_ret
 exact ⟨rfl, rfl⟩
theorem blen_le (x k : Nat) (h : x < 2 ^ k) : blen x ≤ k := by
 unfold blen
 split
 ·omega
 ·rename_i h0
  have := (Nat.log2_lt h0).2 h
  omega
theorem blen_lt (x : Nat) : x < 2 ^ blen x := by
 unfold blen
 split
 ·rename_i h; subst h; decide
 ·rename_i h; exact Nat.lt_log2_self
def padI (n : Int) : Int := if n < 1 ∨ 65536 < n then 0 else ((2 ^ blen (n - 1).toNat : Nat) : Int)
theorem pad_in (n : Int) (h1 : 1 ≤ n) (h2 : n ≤ 65536) : padI n = ((2 ^ blen (n - 1).toNat : Nat) : Int) := by unfold padI; rw [if_neg (by omega)]
theorem pad_out (n : Int) (h : n < 1 ∨ 65536 < n) : padI n = 0 := by unfold padI; rw [if_pos h]
theorem pad_any (n : Int) (w : World) : Calls Tryz.prog 39 #[.int .i64 n] w fun e w' => e = .returned (.int .i64 (padI n)) ∧ w = w' := by
 by_cases h : n < 1 ∨ 65536 < n
 ·rw [pad_out n h]
  rcases h with h | h
  ·go_enter Tryz.func39, Tryz.ntmps39
   go_wp2_with (fail)
   go_ret
   exact ⟨rfl, rfl⟩
  ·have h2 : ¬ n < 1 := by omega
   go_enter Tryz.func39, Tryz.ntmps39
   go_wp2_with (fail)
   go_ret
   exact ⟨rfl, rfl⟩
 ·rw [pad_in n (by omega) (by omega)]
  obtain ⟨x, hx⟩ : ∃ x : Nat, n = (x : Int) + 1 := ⟨(n - 1).toNat, by omega⟩
  have e0 : (n - 1).toNat = x := by omega
  rw [e0]
  have hx2 : x ≤ 65535 := by omega
  subst hx
  clear e0
  have b1 : blen x ≤ 16 := blen_le x 16 (by omega)
  have HL : ∀ w, Calls Tryz.prog 68 #[.int .u64 x] w fun e w' => e = .returned (.int .i64 (blen x)) ∧ w = w' := fun w => nlen_any x (by omega) w
  obtain ⟨b, hb⟩ : ∃ b, blen x = b := ⟨_, rfl⟩
  rw [hb] at HL b1 ⊢
  clear hb
  have h1 : ¬ (x : Int) + 1 < 1 := by omega
  have h2 : ¬ (65536 : Int) < (x : Int) + 1 := by omega
  have e1 : (x : Int) + 1 - 1 = (x : Int) := by omega
  go_enter Tryz.func39, Tryz.ntmps39
  go_wp2_with (go_at_call 68; refine (HL _).mono ?_; rintro e w' ⟨rfl, rfl⟩)
  go_ret
  refine ⟨?_, rfl⟩
  have e2 : ∀ b : Nat, b < 17 → wrap64 ((2 : Int) ^ b) = ((2 ^ b : Nat) : Int) := by decide +kernel
  show Ending.returned (Value.int IntKind.i64 (wrap64 ((2 : Int) ^ b))) = _
  rw [e2 b (by omega)]
theorem blen_pred (L : Nat) : blen (2 ^ L - 1) = L := by
 have hp : 0 < 2 ^ L := Nat.pow_pos (by decide)
 have h1 := blen_le (2 ^ L - 1) L (by omega)
 have h2 := blen_lt (2 ^ L - 1)
 have h3 : L ≤ blen (2 ^ L - 1) := (Nat.pow_le_pow_iff_right (by decide : 1 < 2)).1 (by omega)
 omega
theorem pow_le16 (L : Nat) (h : L ≤ 16) : 1 ≤ 2 ^ L ∧ 2 ^ L ≤ 65536 := ⟨Nat.pow_pos (by decide), Nat.pow_le_pow_right (by decide) h⟩
theorem pad_pow (L : Nat) (h : L ≤ 16) : padI ((2 ^ L : Nat) : Int) = ((2 ^ L : Nat) : Int) := by
 have hp := pow_le16 L h
 rw [pad_in _ (by omega) (by omega)]
 have : (((2 ^ L : Nat) : Int) - 1).toNat = 2 ^ L - 1 := by omega
 rw [this, blen_pred]
theorem isSize_yes (L : Nat) (hL : L ≤ 16) (w : World) : Calls Tryz.prog 95 #[.int .i64 ((2 ^ L : Nat) : Int)] w fun e w' => e = .returned (.bool true) ∧ w = w' := by
 have hp := pow_le16 L hL
 have HP : ∀ w, Calls Tryz.prog 39 #[.int .i64 ((2 ^ L : Nat) : Int)] w fun e w' => e = .returned (.int .i64 ((2 ^ L : Nat) : Int)) ∧ w = w' := fun w => by
  have := pad_any ((2 ^ L : Nat) : Int) w
  rwa [pad_pow L hL] at this
 obtain ⟨n, hn⟩ : ∃ n, 2 ^ L = n := ⟨_, rfl⟩
 rw [hn] at HP hp ⊢
 clear hn
 have i1 : (0 : Int) < (n : Int) := by omega
 go_enter Tryz.func95, Tryz.ntmps95
 go_wp2_with (go_at_call 39; refine (HP _).mono ?_; rintro e w' ⟨rfl, rfl⟩)
 go_ret
 exact ⟨rfl, rfl⟩
attribute [local go_sem] Oper.semAt_some
theorem results_cell1 {fn : Func} {p : Tmp} {ty : TypeId} (h : fn.results = #[.cell p ty]) (tmps : Array Value) (P : Program) (w : World) :
  (results fn tmps).run P w = ((asAddr (tmps.getD p undef)).run P w).andThen fun a w₁ => ((loadVar ty a).run P w₁) := by
 simp only [results, h]
 simp [Sem.run_bind, Result.andThen]
theorem boxed_frozen {W : World} {b : Nat} {t : TypeId} {v : Value} (h : Boxed W b t v) (j : Nat) : W.frozen? ⟨b, j, none⟩ = false := frozen_of_row W b j _ t h
theorem store_new_func (W : World) (t : TypeId) (v0 : Value) (f : Fn) (ca ps : Array Value) (m : Mode) : (store ⟨W.heap.size, 0, none⟩ (.func f ca ps) m).run Tryz.prog (W.alloc (.cells #[v0] t)) = .ok () (W.alloc (.cells #[.func f ca ps] t)) := by
 have hb : Boxed (W.alloc (.cells #[v0] t)) W.heap.size t v0 := Boxed.new W t v0
 have hc := hb.cell
 have hf : (W.alloc (.cells #[v0] t)).frozen? ⟨W.heap.size, 0, none⟩ = false := boxed_frozen hb 0
 rw [run_store Tryz.prog _ _ _ _ rfl, hc]
 simp only [hf]
 have := World.setCell_alloc_at (w := W) #[v0] t W.heap.size 0 (.func f ca ps) rfl
 simp only [this]
 rfl
attribute [local go_sem] store_new_func
def SoI {β : Type} (cf : Cf) (v : SlV) (g h : Nat) (f : List β → Sn) (R : List β → Nat → List Int) (S : Nat → Prop) (Z : Nat) (bs : List (Nat × TypeId × Value)) (pre : List β) (T : Nat → Prop) (W : World) : Prop :=
 ∃ T1, (∀ b, T b ↔ T1 b ∨ ∃ x ∈ bs, b = x.1) ∧ (∀ b, T1 b → S b ∨ Z ≤ b) ∧ Lr W cf v g h (f pre) (R pre) T1 ∧ ∀ x ∈ bs, Boxed W x.1 x.2.1 x.2.2
theorem soI_foot {β : Type} (cf : Cf) (v : SlV) (g h : Nat) (f : List β → Sn) (R : List β → Nat → List Int) (S : Nat → Prop) (Z : Nat) (bs : List (Nat × TypeId × Value)) : Foot (SoI cf v g h f R S Z bs) := by
 refine ⟨fun pre T A A' U hx hk hd => ?_, fun pre T A hx b hb => ?_⟩
 ·obtain ⟨T1, h1, h2, h3, h4⟩ := hx
  exact ⟨T1, h1, h2, h3.off hk (fun b hu ht => hd b hu ((h1 b).2 (.inl ht))), fun x hx => (hk.block x.1 (h4 x hx).lt (fun hu => hd _ hu ((h1 _).2 (.inr ⟨x, hx, rfl⟩)))).trans (h4 x hx)⟩
 ·obtain ⟨T1, h1, h2, h3, h4⟩ := hx
  rcases (h1 b).1 hb with h | ⟨x, hx, rfl⟩
  ·exact h3.lt b h
  ·exact (h4 x hx).lt
def snG (cf : Cf) (v : SlV) (s : Sn) (gs : List (Int × Int)) : Sn := gs.foldl (fun s x => s.pair cf v x.1.toNat x.2.toNat) s
theorem snG_snoc (cf : Cf) (v : SlV) (s : Sn) (gs : List (Int × Int)) (a b : Nat) : snG cf v s (gs ++ [((a : Int), (b : Int))]) = (snG cf v s gs).pair cf v a b := by simp [snG]
theorem bnG {cf : Cf} (hw : 2 ≤ cf.win) (v : SlV) (gs : List (Int × Int)) : ∀ (s : Sn) (m : Nat), Bn cf s m → Bn cf (snG cf v s gs) (m + gs.length) := by
 induction gs with
 | nil => intro s m b; exact b
 | cons x gs ih =>
  intro s m b
  have := ih (s.pair cf v x.1.toNat x.2.toNat) (m + 1) (b.pair hw v _ _)
  rw [List.length_cons, show m + (gs.length + 1) = m + 1 + gs.length by omega]
  exact this
def rowG (lt : List Int → List Int → Bool) (N : Nat) (R : Nat → List Int) (gs : List (Int × Int)) (i : Nat) : List Int := if i < N then (gfold lt ((List.range N).map R) gs).getD i default else R i
theorem rowG_nil (lt : List Int → List Int → Bool) (N : Nat) (R : Nat → List Int) (i : Nat) : rowG lt N R [] i = R i := by
 unfold rowG
 split
 ·rename_i h; simp [gfold, h]
 ·rfl
theorem rowG_snoc (lt : List Int → List Int → Bool) (N : Nat) (R : Nat → List Int) (gs : List (Int × Int)) (a b : Nat) (ha : a < N) (hb : b < N) (hab : a ≠ b) (i : Nat) :
  upn (upn (rowG lt N R gs) a (if lt (rowG lt N R gs b) (rowG lt N R gs a) then rowG lt N R gs b else rowG lt N R gs a)) b (if lt (rowG lt N R gs b) (rowG lt N R gs a) then rowG lt N R gs a else rowG lt N R gs b) i = rowG lt N R (gs ++ [((a : Int), (b : Int))]) i := by
 obtain ⟨Y, hY⟩ : ∃ Y, gfold lt ((List.range N).map R) gs = Y := ⟨_, rfl⟩
 have hl : Y.length = N := by rw [← hY, gfold_length]; simp
 have hr : ∀ k, rowG lt N R gs k = if k < N then Y.getD k default else R k := fun k => by unfold rowG; rw [hY]
 have hs : rowG lt N R (gs ++ [((a : Int), (b : Int))]) i = if i < N then (gstep lt Y ((a : Int), (b : Int))).getD i default else R i := by unfold rowG; rw [gfold_snoc, hY]
 rw [hs]
 have ea : rowG lt N R gs a = Y.getD a default := by rw [hr, if_pos ha]
 have eb : rowG lt N R gs b = Y.getD b default := by rw [hr, if_pos hb]
 rw [ea, eb]
 unfold gstep
 simp only [Int.toNat_natCast]
 cases hc : lt (Y.getD b default) (Y.getD a default) with
 | true =>
  simp only [if_true]
  by_cases hi : i < N
  ·rw [if_pos hi, tradeA_get Y a b i (by omega) (by omega)]
   unfold upn
   by_cases h1 : i = b
   ·rw [if_pos h1, if_pos h1]
   ·rw [if_neg h1, if_neg h1]
    by_cases h2 : i = a
    ·rw [if_pos h2, if_pos h2]
    ·rw [if_neg h2, if_neg h2, hr, if_pos hi]
  ·rw [if_neg hi]
   unfold upn
   rw [if_neg (by omega), if_neg (by omega), hr, if_neg hi]
 | false =>
  simp only [Bool.false_eq_true, if_false]
  unfold upn
  by_cases h1 : i = b
  ·subst h1; rw [if_pos rfl, if_pos hb]
  ·rw [if_neg h1]
   by_cases h2 : i = a
   ·subst h2; rw [if_pos rfl, if_pos ha]
   ·rw [if_neg h2, hr]
section
variable {w w' : World} {cf : Cf} {v : SlV} {g h : Nat} {s : Sn} {R : Nat → List Int} {S T : Nat → Prop}
theorem socheck_yes (x : Lr w cf v g h s R S) (n : Nat) (hn : n ≤ v.n) : Calls Tryz.prog 28 #[.pointer (some ⟨g, 0, none⟩), .int .i64 (n : Int)] w fun e w' => e = .returned (.int .i64 0) ∧ w = w' := by
 have HL : Hid (Calls Tryz.prog 48 #[.pointer (some ⟨g, 0, none⟩)] w fun e w' => e = .returned (.int .i64 (v.n : Int)) ∧ w = w') := len_R x
 have h1 : ¬ ((n : Int) < 0) := by omega
 have h2 : ¬ ((v.n : Int) < (n : Int)) := by omega
 clear x hn
 go_enter Tryz.func28, Tryz.ntmps28
 go_wp2_with (go_at_call 48; refine HL.out.mono ?_; rintro e w' ⟨rfl, rfl⟩)
 go_ret
 exact ⟨rfl, rfl⟩
theorem sort_R (x : Lr w cf v g h s R S) (hn : SlN v cf) (L N m : Nat) (hL : L ≤ 16) (hN : 2 ^ L = N) (hv : N ≤ v.n) (B : FuncId) (lt : List Int → List Int → Bool) (hB : OrdB B v.size lt) (b : Bn cf s m) (hm : m + (gatesL L).length ≤ 100000000) :
  Calls Tryz.prog 10 #[.pointer (some ⟨g, 0, none⟩), .int .i64 (N : Int), .func (.func B) #[] #[]] w fun e w' => e = .returned (.int .i64 0) ∧ ∃ S', Lr w' cf v g h (snG cf v s (gatesL L)) (rowG lt N R (gatesL L)) S' ∧ Kept S w w' ∧ ∀ b, S' b → S b ∨ w.heap.size ≤ b := by
 have hN2 : N ≤ 65536 := by rw [← hN]; exact Nat.pow_le_pow_right (by decide) hL
 have hN1 : 1 ≤ N := by rw [← hN]; exact Nat.pow_pos (by decide)
 have hg := x.good
 have hsz : v.size ≤ 1048576 := by have h1 := hn.each; have h2 := hn.fit; have h3 := hg.text.2; have : v.size ≤ v.each * v.size := Nat.le_mul_of_pos_left _ h1; omega
 have HX : Hid (Lr w cf v g h s R S ∧ SlN v cf ∧ N ≤ v.n ∧ OrdB B v.size lt ∧ Bn cf s m ∧ m + (gatesL L).length ≤ 100000000 ∧ 2 ≤ cf.win ∧ v.size ≤ 1048576) := ⟨x, hn, hv, hB, b, hm, hg.win.1, hsz⟩
 have HI : Hid (∀ w, Calls Tryz.prog 95 #[.int .i64 (N : Int)] w fun e w' => e = .returned (.bool true) ∧ w = w') := by
  show ∀ w, Calls Tryz.prog 95 #[.int .i64 (N : Int)] w fun e w' => e = .returned (.bool true) ∧ w = w'
  rw [← hN]; exact fun w => isSize_yes L hL w
 have HP : Hid (∀ w, Calls Tryz.prog 39 #[.int .i64 (N : Int)] w fun e w' => e = .returned (.int .i64 (N : Int)) ∧ w = w') := by
  show ∀ w, Calls Tryz.prog 39 #[.int .i64 (N : Int)] w fun e w' => e = .returned (.int .i64 (N : Int)) ∧ w = w'
  intro w
  have := pad_any (N : Int) w
  rw [← hN, pad_pow L hL] at this
  rw [← hN]; exact this
 have HN : Hid (2 ^ L = N) := hN
 have CC : Hid (∀ W, Below w.heap.size w W → Calls Tryz.prog 28 #[.pointer (some ⟨g, 0, none⟩), .int .i64 (N : Int)] W fun e w' => e = .returned (.int .i64 0) ∧ W = w') := fun W hW => socheck_yes (x.later hW) N hv
 clear hN x hn hB b hm hsz hg hv
 refine (callsIn_wide (n := 30)).1 ?_
 refine callsIn_of_wp_marks Tryz.func10 rfl trivial ?_ rfl
 simp only [Tryz.ntmps10, List.size_toArray, List.length_cons, List.length_nil, Nat.reduceAdd, Nat.reduceSub, Array.replicate_succ, Array.replicate_zero, List.push_toArray, List.append_toArray, List.nil_append, List.cons_append]
 gi_wp2_with (first | (refine ⟨trivial, ?_⟩; gi_at_call 28; refine (callsIn_wide.2 (CC.out _ (((Below.refl _ w).alloc (Nat.le_refl _) _).alloc (by simp) _))).mono ?_; rintro e w' ⟨rfl, rfl⟩) | (refine ⟨trivial, ?_⟩; gi_at_call 39; refine (callsIn_wide.2 (HP.out _)).mono ?_; rintro e w' ⟨rfl, rfl⟩) | (refine ⟨trivial, ?_⟩; gi_at_call 40; refine (callsIn_wide.2 (trader_any B _)).mono ?_; rintro e w3 ⟨rfl, b3, l3⟩) | (refine ⟨trivial, ?_⟩; gi_at_call 41; refine (bit_in _ _ trivial rfl _ _).mono ?_; rintro e w' ⟨rfl, rfl⟩))
 have hb3 : Below w.heap.size w w3 := below_chain (((Below.refl _ w).alloc (Nat.le_refl _) _).alloc (by simp) _) l3 (by simp; omega)
 have hs3 := l3.size
 simp only [World.size_alloc] at b3 hs3
 have B0 : Boxed w3 w.heap.size 43 (.pointer (some ⟨g, 0, none⟩)) := (l3.block _ (by simp; omega)).trans ((Boxed.new w _ _).alloc _)
 have B1 : Boxed w3 (w.heap.size + 1) 22 (.int .i64 0) := (l3.block _ (by simp)).trans (by have := Boxed.new (w.alloc (.cells #[.pointer (some ⟨g, 0, none⟩)] 43)) 22 (.int .i64 0); rwa [World.size_alloc] at this)
 have bel : Below w.heap.size w ((w3.alloc (.cells #[.func (.func 69) #[] #[.pointer (some ⟨w.heap.size + 1 + 1, 0, none⟩)]] 77)).alloc (.cells #[.int .i64 (N : Int)] 3)) := (hb3.alloc (by omega) _).alloc (by simp; omega) _
 have D0 := (B0.alloc (.cells #[.func (.func 69) #[] #[.pointer (some ⟨w.heap.size + 1 + 1, 0, none⟩)]] 77)).alloc (.cells #[.int .i64 (N : Int)] 3)
 have D1 := (B1.alloc (.cells #[.func (.func 69) #[] #[.pointer (some ⟨w.heap.size + 1 + 1, 0, none⟩)]] 77)).alloc (.cells #[.int .i64 (N : Int)] 3)
 have D2 := (b3.alloc (.cells #[.func (.func 69) #[] #[.pointer (some ⟨w.heap.size + 1 + 1, 0, none⟩)]] 77)).alloc (.cells #[.int .i64 (N : Int)] 3)
 have D3 := (Boxed.new w3 77 (.func (.func 69) #[] #[.pointer (some ⟨w.heap.size + 1 + 1, 0, none⟩)])).alloc (.cells #[.int .i64 (N : Int)] 3)
 have D4 := Boxed.new (w3.alloc (.cells #[.func (.func 69) #[] #[.pointer (some ⟨w.heap.size + 1 + 1, 0, none⟩)]] 77)) 3 (.int .i64 (N : Int))
 simp only [World.size_alloc] at D4
 have hsz : ((w3.alloc (.cells #[.func (.func 69) #[] #[.pointer (some ⟨w.heap.size + 1 + 1, 0, none⟩)]] 77)).alloc (.cells #[.int .i64 (N : Int)] 3)).heap.size = w3.heap.size + 2 := by simp
 obtain ⟨W0, hW0⟩ : ∃ W0, (w3.alloc (.cells #[.func (.func 69) #[] #[.pointer (some ⟨w.heap.size + 1 + 1, 0, none⟩)]] 77)).alloc (.cells #[.int .i64 (N : Int)] 3) = W0 := ⟨_, rfl⟩
 rw [hW0] at bel D0 D1 D2 D3 D4 hsz ⊢
 have b2lt : w.heap.size + 1 + 1 < w3.heap.size := by have := b3.lt; exact this
 have HZ : Hid (W0.heap.size = w3.heap.size + 2 ∧ w.heap.size + 1 + 1 < w3.heap.size ∧ Below w.heap.size w W0) := ⟨hsz, b2lt, bel⟩
 clear hW0 hsz b2lt bel B0 B1 b3 hs3 hb3 l3
 obtain ⟨bs, hbs⟩ : ∃ bs : List (Nat × TypeId × Value), bs = [(w.heap.size, 43, .pointer (some ⟨g, 0, none⟩)), (w.heap.size + 1, 22, .int .i64 0), (w.heap.size + 1 + 1, 25, .func (.func B) #[] #[]), (w3.heap.size, 77, .func (.func 69) #[] #[.pointer (some ⟨w.heap.size + 1 + 1, 0, none⟩)])] := ⟨_, rfl⟩
 have HBS : Hid ((∀ x, x ∈ bs → w.heap.size ≤ x.1 ∧ x.1 < W0.heap.size ∧ x.1 ≠ w3.heap.size + 1) ∧ (w.heap.size, 43, Value.pointer (some ⟨g, 0, none⟩)) ∈ bs ∧ (w.heap.size + 1, 22, Value.int .i64 0) ∈ bs ∧ (w.heap.size + 1 + 1, 25, Value.func (.func B) #[] #[]) ∈ bs ∧ (w3.heap.size, 77, Value.func (.func 69) #[] #[.pointer (some ⟨w.heap.size + 1 + 1, 0, none⟩)]) ∈ bs) := by
  rw [hbs]
  refine ⟨fun x hx => ?_, by simp, by simp, by simp, by simp⟩
  have := HZ.out
  simp only [List.mem_cons, List.not_mem_nil, or_false] at hx
  rcases hx with rfl | rfl | rfl | rfl <;> simp only <;> omega
 have hall : ∀ x ∈ bs, Boxed W0 x.1 x.2.1 x.2.2 := by
  rw [hbs]
  intro x hx
  simp only [List.mem_cons, List.not_mem_nil, or_false] at hx
  rcases hx with rfl | rfl | rfl | rfl
  ·exact D0
  ·exact D1
  ·exact D2
  ·exact D3
 clear hbs D0 D1 D2 D3
 have hN2' : 1 ≤ N := hN1
 refine range_foot rfl (by omega) (gf := 71) (lb := #[.pointer (some ⟨w3.heap.size + 1, 0, none⟩)]) rfl trivial (enters_of Tryz.func71 (by kernel_rfl) rfl)
  (bit_F 29 (w3.heap.size + 1) L N hL HN.out (clG N) (fun f e i he hi hb => clG_gate L N HN.out f e i he hi hb) W0 HI.out D4) (fun b e => e ▸ D4.lt) (fun _ => rfl)
  (SoI cf v g h (fun pre => snG cf v s (List.map (clG N) pre)) (fun pre => rowG lt N R (List.map (clG N) pre)) S W0.heap.size bs) (soI_foot _ _ _ _ _ _ _ _ _) (fun b => S b ∨ ∃ x ∈ bs, b = x.1)
  ⟨S, fun b => Iff.rfl, fun b hb => .inl hb, (HX.out.1.later HZ.out.2.2).rows (fun i _ => (rowG_nil lt N R i).symm), hall⟩
  (fun b hb e => by
   rcases hb with hb | ⟨x, hx, hb⟩
   ·have := HX.out.1.lt b hb; have := HZ.out; omega
   ·have := HBS.out.1 x hx; omega)
  (fun x _ a' W => ∃ Bx, TwoG W Bx (clG N x) ∧ a' = { tmps := #[.pointer (some ⟨g, 0, none⟩), .int .i64 N, .func (.func B) #[] #[], .pointer (some ⟨w.heap.size, 0, none⟩), undef, undef, .pointer (some ⟨w.heap.size + 1, 0, none⟩), .int .i64 0, .pointer (some ⟨w3.heap.size, 0, none⟩), .pointer (some ⟨Bx, 0, none⟩), undef, .pointer (some ⟨g, 0, none⟩), .int .i64 N, .int .i64 0, .int .i64 0, .bool false, undef, .int .i64 N, .int .i64 N, .int .i64 N, .bool false, .func (.func B) #[] #[], .func (.func 69) #[] #[.pointer (some ⟨w.heap.size + 1 + 1, 0, none⟩)], .int .i64 N, .func (.func 71) #[] #[.pointer (some ⟨w3.heap.size + 1, 0, none⟩)], .agg #[.int .i64 (clG N x).1, .int .i64 (clG N x).2], undef, undef, undef, undef, undef, undef, undef, undef, undef, undef], defers := [] })
  (fun x _ a' A q r o hq hs => by obtain ⟨Bx, h2, h3⟩ := hs; refine ⟨Bx, ?_, h3⟩; exact (World.putObj_heap_other (fun e => by subst e; unfold TwoG at h2; rw [hq] at h2; cases h2)).trans h2)
  ?assign ?body ?done
 case assign =>
  rintro l pre x T W K _ _ hK
  simp only [hopV]
  gi_wp2
  refine hK _ _ ((Below.refl _ W).alloc (Nat.le_refl _) _) ⟨W.heap.size, ?_, rfl⟩
  exact World.alloc_heap_new W _
 case body =>
  rintro l pre x T a' W hr0 hnl hW ⟨T1, hT, hsub, hlr, hbx⟩ ⟨Bx, bX, rfl⟩ hlt
  have hNN : 2 ≤ N := by
   rw [← HN.out]
   rcases Nat.eq_zero_or_pos L with h | h
   ·subst h; simp [gatesL, gts, stepsK] at hlt
   ·exact Nat.le_trans (by decide : 2 ≤ 2 ^ 1) (Nat.pow_le_pow_right (by decide) h)
  obtain ⟨a, b, hab, ha, hb, hne⟩ := clG_in N hNN x
  obtain ⟨gs, hgs⟩ : ∃ gs, List.map (clG N) pre = gs := ⟨_, rfl⟩
  have hgl : gs.length < (gatesL L).length := by rw [← hgs]; simpa using hlt
  replace hlr : Lr W cf v g h (snG cf v s (List.map (clG N) pre)) (rowG lt N R (List.map (clG N) pre)) T1 := hlr
  rw [hgs] at hlr
  have HG : Hid (List.map (clG N) (pre ++ [x]) = gs ++ [((a : Int), (b : Int))]) := by show _ = _; rw [List.map_append, List.map_cons, List.map_nil, hgs, hab]
  rw [hab] at bX ⊢
  have c0 : W.cell? ⟨w.heap.size, 0, none⟩ = _ := (hbx _ HBS.out.2.1).cell
  have c3 : W.cell? ⟨w3.heap.size, 0, none⟩ = _ := (hbx _ HBS.out.2.2.2.2).cell
  have cx : W.cell? ⟨Bx, 0, none⟩ = _ := bX.fst
  have cy : W.cell? ⟨Bx, 1, none⟩ = _ := bX.snd
  have av : a < v.n := Nat.lt_of_lt_of_le ha HX.out.2.2.1
  have bv : b < v.n := Nat.lt_of_lt_of_le hb HX.out.2.2.1
  have ra := hlr.row HX.out.2.1 a av
  have rb := hlr.row HX.out.2.1 b bv
  have CP := pair_R hlr HX.out.2.1 a b (m + gs.length) (bnG HX.out.2.2.2.2.2.2.1 v gs s m HX.out.2.2.2.2.1) (by have := HX.out.2.2.2.2.2.1; omega) av bv hne 69 #[.pointer (some ⟨w.heap.size + 1 + 1, 0, none⟩)]
   (if lt (rowG lt N R gs b) (rowG lt N R gs a) then rowG lt N R gs b else rowG lt N R gs a) (if lt (rowG lt N R gs b) (rowG lt N R gs a) then rowG lt N R gs a else rowG lt N R gs b) enter_trader1
   (by split <;> exact ⟨by first | exact rb.1 | exact ra.1, by first | exact rb.2 | exact ra.2, by first | exact ra.1 | exact rb.1, by first | exact ra.2 | exact rb.2⟩)
   (fun W' hW' => trader1_any B v.size lt HX.out.2.2.2.1 (w.heap.size + 1 + 1) _ _ W' ra rb HX.out.2.2.2.2.2.2.2 ((hW'.block _ (hbx _ HBS.out.2.2.2.1).lt (fun ht => (hsub _ ht).elim (fun hs => by have := HX.out.1.lt _ hs; omega) (fun hz => by have := HZ.out; omega))).trans (hbx _ HBS.out.2.2.2.1)))
  have HCP : Hid _ := CP
  have HJ : Hid ((∀ b, T b ↔ T1 b ∨ ∃ x ∈ bs, b = x.1) ∧ (∀ b, T1 b → S b ∨ W0.heap.size ≤ b) ∧ (∀ x ∈ bs, Boxed W x.1 x.2.1 x.2.2) ∧ W0.heap.size ≤ W.heap.size) := ⟨hT, hsub, hbx, hW⟩
  clear CP hlr hT hsub hbx hab hgs hlt hgl ra rb av bv bX
  gi_wp2_with (refine ⟨trivial, ?_⟩; gi_at_call 42; refine (CallsIn.inRound l (callsIn_wide.2 HCP.out)).mono ?_; rintro e W2 ⟨rfl, T2, l2, k2, s2⟩)
  refine ⟨fun b => T2 b ∨ ∃ x ∈ bs, b = x.1, ⟨T2, fun b => Iff.rfl, fun b hb => ?_, ?_, fun x hx => ?_⟩, k2.mono (fun b hb => (HJ.out.1 b).2 (.inl hb)), fun b hb => ?_⟩
  ·exact (s2 b hb).elim (HJ.out.2.1 b) (fun h => .inr (Nat.le_trans HJ.out.2.2.2 h))
  ·show Lr W2 cf v g h (snG cf v s (List.map (clG N) (pre ++ [x]))) (rowG lt N R (List.map (clG N) (pre ++ [x]))) T2
   rw [HG.out, snG_snoc]
   exact l2.rows (fun i _ => rowG_snoc lt N R gs a b ha hb hne i)
  ·refine (k2.block x.1 (HJ.out.2.2.1 x hx).lt (fun ht => ?_)).trans (HJ.out.2.2.1 x hx)
   have h1 := HBS.out.1 x hx
   exact (HJ.out.2.1 _ ht).elim (fun hs => by have := HX.out.1.lt _ hs; omega) (fun hz => by omega)
  ·rcases hb with hb | hb
   ·exact (s2 b hb).imp (fun h => (HJ.out.1 b).2 (.inl h)) (fun h => h)
   ·exact .inl ((HJ.out.1 b).2 (.inr hb))
 case done =>
  rintro D xs T W hD rfl ⟨T1, hT, hsub, hlr, hbx⟩ hnD hk hs hK
  have hmm : List.map (clG N) (gatesL L) = gatesL L := by rw [← HN.out]; exact clG_gates L hL
  replace hlr : Lr W cf v g h (snG cf v s (List.map (clG N) (gatesL L))) (rowG lt N R (List.map (clG N) (gatesL L))) T1 := hlr
  rw [hmm] at hlr
  clear hmm
  have bE := hbx _ HBS.out.2.2.1
  have c1 : W.cell? ⟨w.heap.size + 1, 0, none⟩ = _ := bE.cell
  have f1 : W.frozen? ⟨w.heap.size + 1, 0, none⟩ = false := boxed_frozen bE 0
  gi_wp2
  have hDn : D ≠ w.heap.size + 1 := by have := HZ.out; omega
  have hK2 : (W.setCell ⟨w.heap.size + 1, 0, none⟩ (.int .i64 0)).heap[D]? = some (.deferred (some [])) := (Below.heap_setCell _ _ _ _ hDn).trans hK
  refine ⟨by simp, .inl ⟨_, _, rfl, run_takeDeferred hK2, ?_⟩⟩
  have hc5 : ((W.setCell ⟨w.heap.size + 1, 0, none⟩ (.int .i64 0)).putObj D (.deferred none)).cell? ⟨w.heap.size + 1, 0, none⟩ = some (.int .i64 0) := by
   rw [World.cell?_of_block (w := W.setCell ⟨w.heap.size + 1, 0, none⟩ (.int .i64 0)) (World.putObj_heap_other hDn.symm)]
   have hb : Blk W (w.heap.size + 1) 22 [.int .i64 0] := bE
   exact (hb.set 0 (.int .i64 0)).cell 0
  refine ⟨.int .i64 0, ?_, rfl, T1, ?_, ?_, ?_⟩
  ·rw [results_cell1 (p := 6) (ty := 22) rfl]
   simp [go_sem, hc5]
  ·have k1 : Kept (fun b => b = w.heap.size + 1 ∨ b = D) W ((W.setCell ⟨w.heap.size + 1, 0, none⟩ (.int .i64 0)).putObj D (.deferred none)) := ((Kept.refl _ W).setCell (by exact Or.inl rfl) _).trans (kept_put _ _ _ (Or.inr rfl))
   refine hlr.off k1 (fun b hb ht => ?_)
   rcases hb with rfl | rfl
   ·exact (hsub _ ht).elim (fun hs => by have := HX.out.1.lt _ hs; omega) (fun hz => by have := HZ.out; omega)
   ·exact hnD ((hT _).2 (.inl ht))
  ·have hz := HZ.out
   have hsz2 := hk.size
   refine ⟨hk.os.trans hz.2.2.os, hk.tape.trans hz.2.2.tape, hk.output.trans hz.2.2.output, ?_, fun k hlt hn => ?_⟩
   ·simp [World.putObj, World.setCell]; omega
   ·rw [World.putObj_heap_other (by omega), Below.heap_setCell _ _ _ _ (by simp; omega), hk.block k (by omega) (by rintro (h | ⟨x, hx, h⟩); exact hn h; have := HBS.out.1 x hx; omega)]
    exact hz.2.2.block k hlt
  ·intro b hb
   exact (hsub b hb).imp (fun h => h) (fun h => by have := HZ.out; omega)
end
structure Hd where
 live : Int
 flag : Int
 index : Int
 rank : Int
 group : List Int
deriving DecidableEq
structure HdOk (h : Hd) : Prop where
 live : 0 ≤ h.live ∧ h.live < 256
 flag : 0 ≤ h.flag ∧ h.flag < 256
 index : 0 ≤ h.index ∧ h.index < 4294967296
 rank : 0 ≤ h.rank ∧ h.rank < 4294967296
 len : h.group.length = 16
 bytes : Bytes h.group
def hdC (h : Hd) : List Value := .int .u8 h.live :: .int .u8 h.flag :: .int .u32 h.index :: .int .u32 h.rank :: u8s h.group
theorem hdC_length {h : Hd} (k : h.group.length = 16) : (hdC h).length = 20 := by simp [hdC, u8s_length, k]
theorem hdC_one (h : Hd) : ∀ v ∈ hdC h, v.oneCell' = true := by
 intro v hv
 simp only [hdC, List.mem_cons] at hv
 rcases hv with rfl | rfl | rfl | rfl | hv
 ·rfl
 ·rfl
 ·rfl
 ·rfl
 ·exact u8s_one _ v hv
def hdB (h : Hd) : List Int := [h.live, h.flag] ++ leB 4 h.index ++ leB 4 h.rank ++ h.group
theorem hdB_length {h : Hd} (k : h.group.length = 16) : (hdB h).length = 26 := by simp [hdB, leB_length, k]
theorem bytes_two {a b : List Int} (h : Bytes a) (k : Bytes b) : Bytes (a ++ b) := fun z hz => (List.mem_append.1 hz).elim (h z) (k z)
theorem hdB_bytes {h : Hd} (k : HdOk h) : Bytes (hdB h) := by
 have h2 : Bytes [h.live, h.flag] := by
  intro z hz
  simp only [List.mem_cons, List.not_mem_nil, or_false] at hz
  rcases hz with rfl | rfl
  ·exact k.live
  ·exact k.flag
 exact bytes_two (bytes_two (bytes_two h2 (leB_bytes _ _)) (leB_bytes _ _)) k.bytes
def hdZ : Hd := ⟨0, 0, 0, 0, List.replicate 16 0⟩
theorem hdZ_ok : HdOk hdZ := ⟨by decide, by decide, by decide, by decide, by decide, fun z hz => by rw [hdZ] at hz; have := List.eq_of_mem_replicate hz; omega⟩
def hdOf (zs : List Int) : Hd := ⟨zs.getD 0 0, zs.getD 1 0, le ((zs.drop 2).take 4), le ((zs.drop 6).take 4), (zs.drop 10).take 16⟩
def hdV (zs : List Int) : Hd := if zs.length < 26 then hdZ else hdOf zs
def isR (zs : List Int) : Bool := decide (26 ≤ zs.length) && (decide (zs.getD 0 0 < 2) && decide (zs.getD 1 0 < 2))
theorem bytes_mid {zs : List Int} (hb : Bytes zs) (k n : Nat) : Bytes ((zs.drop k).take n) := fun z hz => hb z (List.mem_of_mem_drop (List.mem_of_mem_take hz))
theorem hdOf_ok {zs : List Int} (hb : Bytes zs) (hl : 26 ≤ zs.length) : HdOk (hdOf zs) := by
 have e1 : ((zs.drop 2).take 4).length = 4 := by simp; omega
 have e2 : ((zs.drop 6).take 4).length = 4 := by simp; omega
 have b1 := le_bd _ (bytes_mid hb 2 4)
 have b2 := le_bd _ (bytes_mid hb 6 4)
 rw [e1] at b1
 rw [e2] at b2
 exact ⟨hb.at 0 (by omega), hb.at 1 (by omega), b1, b2, by simp [hdOf]; omega, bytes_mid hb 10 16⟩
theorem hdV_ok {zs : List Int} (hb : Bytes zs) : HdOk (hdV zs) := by
 unfold hdV
 split
 ·exact hdZ_ok
 ·exact hdOf_ok hb (by omega)
theorem or_two (a b : Int) (ha : 0 ≤ a ∧ a < 256) (hb : 0 ≤ b ∧ b < 256) : (0 ≤ bits .or .u8 a b ∧ bits .or .u8 a b < 256) ∧ decide (bits .or .u8 a b < 2) = (decide (a < 2) && decide (b < 2)) := by
 obtain ⟨x, rfl⟩ := Int.eq_ofNat_of_zero_le ha.1
 obtain ⟨y, rfl⟩ := Int.eq_ofNat_of_zero_le hb.1
 have e : bits .or .u8 (x : Int) (y : Int) = ((x ||| y : Nat) : Int) := by rw [u8_or (x : Int) (y : Int) ha.1 ha.2 hb.1 hb.2, Int.toNat_natCast, Int.toNat_natCast]
 have h3 : x ||| y < 256 := Nat.or_lt_two_pow (n := 8) (by omega) (by omega)
 rw [e]
 refine ⟨⟨by omega, by omega⟩, ?_⟩
 by_cases h : x < 2 ∧ y < 2
 ·have h4 : x ||| y < 2 := Nat.or_lt_two_pow (n := 1) h.1 h.2
  rw [decide_eq_true (by omega : ((x ||| y : Nat) : Int) < 2), decide_eq_true (by omega : (x : Int) < 2), decide_eq_true (by omega : (y : Int) < 2)]
  rfl
 ·have l1 : x ≤ x ||| y := Nat.left_le_or
  have l2 : y ≤ x ||| y := Nat.right_le_or
  rw [decide_eq_false (by omega : ¬ ((x ||| y : Nat) : Int) < 2)]
  by_cases hx : x < 2
  ·rw [decide_eq_true (by omega : (x : Int) < 2), decide_eq_false (by omega : ¬ (y : Int) < 2)]; rfl
  ·rw [decide_eq_false (by omega : ¬ (x : Int) < 2)]; rfl
theorem mk_and (p q : Bool) : bits .and .u64 (mk p) (mk q) = mk (p && q) := by cases p <;> cases q <;> decide
theorem mk_or (p q : Bool) : bits .or .u64 (mk p) (mk q) = mk (p || q) := by cases p <;> cases q <;> decide
theorem mk_andNot (p q : Bool) : bits .andNot .u64 (mk p) (mk q) = mk (p && !q) := by cases p <;> cases q <;> decide
def lvB (h : Hd) : Bool := h.live % 2 == 1
def lowB (x y : Hd) : Bool := decide (x.index < y.index)
def samB (x y : Hd) : Bool := decide (x.group = y.group)
def byI (xs ys : List Int) : Bool := isR xs && isR ys && lowB (hdV xs) (hdV ys)
def byG (xs ys : List Int) : Bool := isR xs && isR ys && (lvB (hdV xs) && !lvB (hdV ys) || lvB (hdV xs) && lvB (hdV ys) && (bef (hdV xs).group (hdV ys).group || samB (hdV xs) (hdV ys) && lowB (hdV xs) (hdV ys)) || !lvB (hdV xs) && !lvB (hdV ys) && lowB (hdV xs) (hdV ys))
theorem infoByteR : (Tryz.prog.info? 5).map (fun i => (i.zero, i.size)) = some (some (.int .u8 0), 1) := by kernel_rfl
theorem equalD_self (d : Nat) (zs : List Int) (hl : zs.length = 16) (w : World) : (Op.equalIn (d + 2) 67 (.agg (u8s zs).toArray) (.agg (u8s zs).toArray)).run Tryz.prog w = .ok true w := by
 have hsz : ∀ w, (sizeOf 5).run Tryz.prog w = .ok 1 w := fun w => by
  have h := infoByteR
  cases hq : Tryz.prog.info? 5 with
  | none => simp [hq] at h
  | some i => simp [hq] at h; simp [sizeOf, typeInfo, hq, h.2]
 have ht := Tryz.underlying67
 have he := Tryz.underlying5
 rw [Op.equalIn]
 simp only [Sem.run_bind, run_underlying ht, Result.andThen_ok, hsz, Std.Legacy.Range.forIn_eq_forIn_range', Std.Legacy.Range.size, Nat.sub_zero, Nat.add_sub_cancel, Nat.div_one]
 have hlr : ∀ i ∈ List.range' 0 16 1, i < 16 := fun i hi => by simpa using (List.mem_range'_1.1 hi).2
 generalize List.range' 0 16 1 = l at hlr ⊢
 induction l with
 | nil => simp
 | cons i l ih =>
  have hi : i < 16 := hlr i (by simp)
  have px : (Go.part 5 (u8s zs).toArray (i * 1)).run Tryz.prog w = .ok (.int .u8 (zs.getD i 0)) w := by
   simp [Go.part, isAgg, run_underlying he, u8s, List.getD, List.getElem?_eq_getElem (show i < zs.length by omega)]
  have pe : (Op.equalIn (d + 1) 5 (.int .u8 (zs.getD i 0)) (.int .u8 (zs.getD i 0))).run Tryz.prog w = .ok true w := by
   rw [run_equalIn_int w d 5 .u8 .u8 _ _ he]; simp
  simp only [List.forIn_cons, Sem.run_bind, px, pe, Result.andThen_ok]
  simp only [Bool.not_true, Bool.false_eq_true, if_false, Sem.run_pure, Result.andThen_ok]
  exact ih fun j hj => hlr j (by simp [hj])
theorem equalD_no (d : Nat) (zs ys : List Int) (hl : zs.length = 16) (hm : ys.length = 16) (hne : zs ≠ ys) (w : World) : (Op.equalIn (d + 2) 67 (.agg (u8s zs).toArray) (.agg (u8s ys).toArray)).run Tryz.prog w = .ok false w := by
 have hsz : ∀ w, (sizeOf 5).run Tryz.prog w = .ok 1 w := fun w => by
  have h := infoByteR
  cases hq : Tryz.prog.info? 5 with
  | none => simp [hq] at h
  | some i => simp [hq] at h; simp [sizeOf, typeInfo, hq, h.2]
 have ht := Tryz.underlying67
 have he := Tryz.underlying5
 rw [Op.equalIn]
 simp only [Sem.run_bind, run_underlying ht, Result.andThen_ok, hsz, Std.Legacy.Range.forIn_eq_forIn_range', Std.Legacy.Range.size, Nat.sub_zero, Nat.add_sub_cancel, Nat.div_one]
 have hlr : ∀ i ∈ List.range' 0 16 1, i < 16 := fun i hi => by simpa using (List.mem_range'_1.1 hi).2
 have hex : ∃ i ∈ List.range' 0 16 1, zs.getD i 0 ≠ ys.getD i 0 := by
  apply Classical.byContradiction
  intro hno
  refine hne (List.ext_getElem (by rw [hl, hm]) fun i h1 h2 => ?_)
  have := Classical.not_not.1 fun h => hno ⟨i, List.mem_range'_1.2 ⟨by omega, by omega⟩, h⟩
  simpa [List.getD, h1, h2] using this
 generalize List.range' 0 16 1 = l at hlr hex ⊢
 induction l with
 | nil => obtain ⟨i, hi, _⟩ := hex; cases hi
 | cons i l ih =>
  have hi : i < 16 := hlr i (by simp)
  have px : (Go.part 5 (u8s zs).toArray (i * 1)).run Tryz.prog w = .ok (.int .u8 (zs.getD i 0)) w := by
   simp [Go.part, isAgg, run_underlying he, u8s, List.getD, List.getElem?_eq_getElem (show i < zs.length by omega)]
  have py : (Go.part 5 (u8s ys).toArray (i * 1)).run Tryz.prog w = .ok (.int .u8 (ys.getD i 0)) w := by
   simp [Go.part, isAgg, run_underlying he, u8s, List.getD, List.getElem?_eq_getElem (show i < ys.length by omega)]
  by_cases hxy : zs.getD i 0 = ys.getD i 0
  ·have pe : (Op.equalIn (d + 1) 5 (.int .u8 (zs.getD i 0)) (.int .u8 (ys.getD i 0))).run Tryz.prog w = .ok true w := by
    rw [run_equalIn_int w d 5 .u8 .u8 _ _ he, hxy]; simp
   simp only [List.forIn_cons, Sem.run_bind, px, py, pe, Result.andThen_ok]
   simp only [Bool.not_true, Bool.false_eq_true, if_false, Sem.run_pure, Result.andThen_ok]
   refine ih (fun j hj => hlr j (by simp [hj])) ?_
   obtain ⟨j, hj, hd⟩ := hex
   rcases List.mem_cons.1 hj with rfl | hj
   ·exact absurd hxy hd
   ·exact ⟨j, hj, hd⟩
  ·have pe : (Op.equalIn (d + 1) 5 (.int .u8 (zs.getD i 0)) (.int .u8 (ys.getD i 0))).run Tryz.prog w = .ok false w := by
    rw [run_equalIn_int w d 5 .u8 .u8 _ _ he, show (zs.getD i 0 == ys.getD i 0) = false by rw [beq_eq_false_iff_ne]; exact hxy]
   simp only [List.forIn_cons, Sem.run_bind, px, py, pe, Result.andThen_ok]
   simp
theorem equalD_dec (d : Nat) (zs ys : List Int) (hl : zs.length = 16) (hm : ys.length = 16) (w : World) : (Op.equalIn (d + 2) 67 (.agg (u8s zs).toArray) (.agg (u8s ys).toArray)).run Tryz.prog w = .ok (decide (ys = zs)) w := by
 by_cases h : ys = zs
 ·subst h
  rw [equalD_self d ys hl w]; simp
 ·rw [equalD_no d zs ys hl hm (fun e => h e.symm) w]; simp [h]
theorem hsize : (Tryz.prog.info? 69).map (·.size) = some 20 := by kernel_rfl
theorem hzero : (Tryz.prog.info? 69).map (fun i => (i.zero, i.size)) = some (some (.agg (hdC hdZ).toArray), 20) := by kernel_rfl
theorem hbuild0 (w : World) : (Instr.build 69 #[]).run Tryz.prog w = .ok (.agg (hdC hdZ).toArray) w := by kernel_rfl
theorem dsize : (Tryz.prog.info? 67).map (·.size) = some 16 := by kernel_rfl
theorem hsizeC {h : Hd} (k : h.group.length = 16) : (Tryz.prog.info? 69).map (·.size) = some (hdC h).length := by rw [hdC_length k]; exact hsize
theorem hdC_group {h : Hd} : hdC h = [.int .u8 h.live, .int .u8 h.flag, .int .u32 h.index, .int .u32 h.rank] ++ (u8s h.group ++ []) := by simp [hdC]
theorem ret_blkt {fn : Func} {p q : Tmp} {ty : TypeId} (h : fn.results = #[.cell p ty, .tmp q]) {R : Ending → World → Prop} {a : Act} {w : World} (g : Nat) (vs : List Value) (d : TypeDesc) (v : Value) (hp : a.tmps.getD p undef = .pointer (some ⟨g, 0, none⟩)) (hq : a.tmps.getD q undef = v)
  (hb : Blk w g ty vs) (hu : Tryz.prog.underlying ty = some d) (hd : d.isRow = true) (hi : (Tryz.prog.info? ty).map (·.size) = some vs.length) (hdef : a.defers = []) (hR : R (.returned (.tuple #[.agg vs.toArray, v])) w) : bodyPost Tryz.prog fn R .ret a w := by
 refine bodyPost_ret (v := .tuple #[.agg vs.toArray, v]) ?_ hdef hR
 have hp' : a.tmps[p]?.getD undef = .pointer (some ⟨g, 0, none⟩) := by simpa using hp
 have hq' : a.tmps[q]?.getD undef = v := by simpa using hq
 have hl := run_loadVar_row (P := Tryz.prog) w g ty ty vs.toArray (0, 0) d hb hu (by cases d <;> simp_all) (by simpa using hi)
 simp [results, h, hp', hq', asAddr, hl]
theorem ret_bbt {fn : Func} {p q r : Tmp} {ty tz : TypeId} (h : fn.results = #[.cell p ty, .cell q tz, .tmp r]) {R : Ending → World → Prop} {a : Act} {w : World} (g g2 : Nat) (vs us : List Value) (d d2 : TypeDesc) (u : Value) (hp : a.tmps.getD p undef = .pointer (some ⟨g, 0, none⟩)) (hq : a.tmps.getD q undef = .pointer (some ⟨g2, 0, none⟩)) (hr : a.tmps.getD r undef = u)
  (hb : Blk w g ty vs) (hb2 : Blk w g2 tz us) (hu : Tryz.prog.underlying ty = some d) (hu2 : Tryz.prog.underlying tz = some d2) (hd : d.isRow = true) (hd2 : d2.isRow = true) (hi : (Tryz.prog.info? ty).map (·.size) = some vs.length) (hi2 : (Tryz.prog.info? tz).map (·.size) = some us.length) (hdef : a.defers = []) (hR : R (.returned (.tuple #[.agg vs.toArray, .agg us.toArray, u])) w) : bodyPost Tryz.prog fn R .ret a w := by
 refine bodyPost_ret (v := .tuple #[.agg vs.toArray, .agg us.toArray, u]) ?_ hdef hR
 have hp' : a.tmps[p]?.getD undef = .pointer (some ⟨g, 0, none⟩) := by simpa using hp
 have hq' : a.tmps[q]?.getD undef = .pointer (some ⟨g2, 0, none⟩) := by simpa using hq
 have hr' : a.tmps[r]?.getD undef = u := by simpa using hr
 have hl := run_loadVar_row (P := Tryz.prog) w g ty ty vs.toArray (0, 0) d hb hu (by cases d <;> simp_all) (by simpa using hi)
 have hl2 := run_loadVar_row (P := Tryz.prog) w g2 tz tz us.toArray (0, 0) d2 hb2 hu2 (by cases d2 <;> simp_all) (by simpa using hi2)
 simp [results, h, hp', hq', hr', asAddr, hl, hl2]
theorem rcbit_any (x : Int) (hx : Word x) (w : World) :
  Calls Tryz.prog 57 #[.int .u64 x] w fun e w' => e = .returned (.int .u64 (mk (x % 2 == 1))) ∧ w' = w := by
 have H : Hid (IntKind.u64.wrap (wrap64 (-wrap64 (bits .and .u64 x 1))) = mk (x % 2 == 1)) := bit_code x hx
 go_enter Tryz.func57, Tryz.ntmps57
 go_wp2
 go_ret
 exact ⟨ret_int H.out, rfl⟩
theorem rczero_any (x : Int) (hx : Word x) (w : World) :
  Calls Tryz.prog 81 #[.int .u64 x] w fun e w' => e = .returned (.int .u64 (mk (x == 0))) ∧ w' = w := by
 have hb : Word (bits .or .u64 x (IntKind.u64.wrap (-x)) / 9223372036854775808) := by rw [top_code x hx]; split <;> decide
 have H : Hid (bits .xor .u64 IntKind.u64.max (mk (bits .or .u64 x (IntKind.u64.wrap (-x)) / 9223372036854775808 % 2 == 1)) = mk (x == 0)) := by
  show _ = _
  rw [not_mk, top_code x hx]
  by_cases h : x = 0
  ·simp [h]
  ·have h' : (x == 0) = false := by simpa using h
   simp [h, h']
 go_enter Tryz.func81, Tryz.ntmps81
 go_wp2_with (go_at_call 57; refine (rcbit_any _ hb _).mono ?_; rintro e w' ⟨rfl, rfl⟩)
 go_ret
 exact ⟨ret_int H.out, rfl⟩
theorem equal_any (x y : Int) (hx : Word x) (hy : Word y) (w : World) :
  Calls Tryz.prog 60 #[.int .u64 x, .int .u64 y] w fun e w' => e = .returned (.int .u64 (mk (x == y))) ∧ w' = w := by
 have hb : Word (bits .xor .u64 x y) := xor_bd x y hx hy
 have H : Hid ((bits .xor .u64 x y == 0) = (x == y)) := xor_zero_iff x y hx hy
 go_enter Tryz.func60, Tryz.ntmps60
 go_wp2_with (go_at_call 81; refine (rczero_any _ hb _).mono ?_; rintro e w' ⟨rfl, rfl⟩)
 go_ret
 exact ⟨ret_int (by rw [H.out]), rfl⟩
def rcbor (x y : Int) : Int := if x < y then 1 else 0
theorem rcsub64_0 (x y : Int) (hx : Word x) (hy : Word y) (w : World) : (callFunc 79 #[.int .u64 x, .int .u64 y, .int .u64 0]).run Tryz.prog w =
  .ok (.value (.tuple #[.int .u64 ((x - y) % 18446744073709551616), .int .u64 (rcbor x y)])) w := by
 obtain ⟨h1, h2⟩ := hx
 obtain ⟨h3, h4⟩ := hy
 obtain ⟨x, rfl⟩ := Int.eq_ofNat_of_zero_le h1
 obtain ⟨y, rfl⟩ := Int.eq_ofNat_of_zero_le h3
 rw [run_callFunc_extern Tryz.func79 (by kernel_rfl) (by kernel_rfl) (by kernel_rfl) (e := sub64Entry) (by kernel_rfl)]
 have e0 : (Value.int .u64 0) = .int .u64 ((0 : Nat) : Int) := rfl
 rw [e0, run_sub64 x y 0 (by decide)]
 have e1 : (((x + 18446744073709551616 - y - 0) % 18446744073709551616 : Nat) : Int) = ((x : Int) - y) % 18446744073709551616 := by omega
 have e2 : ((if x < y + 0 then 1 else 0 : Nat) : Int) = rcbor x y := by unfold rcbor; split <;> split <;> omega
 rw [e1, e2]
 rfl
theorem less_any (x y : Int) (hx : Word x) (hy : Word y) (w : World) :
  Calls Tryz.prog 58 #[.int .u64 x, .int .u64 y] w fun e w' => e = .returned (.int .u64 (mk (decide (x < y)))) ∧ w' = w := by
 have hb : Word (rcbor x y) := by unfold rcbor; split <;> decide
 have H : Hid ((rcbor x y % 2 == 1) = decide (x < y)) := by show _ = _; unfold rcbor; split <;> simp [*]
 go_enter Tryz.func58, Tryz.ntmps58
 go_wp2_with (first | simp only [rcsub64_0 x y hx hy] | (go_at_call 57; refine (rcbit_any _ hb _).mono ?_; rintro e w' ⟨rfl, rfl⟩))
 go_ret
 exact ⟨ret_int (by rw [H.out]), rfl⟩
theorem rcch64_any (m x y : Int) (hm : Word m) (hx : Word x) (hy : Word y) (w : World) :
  Calls Tryz.prog 80 #[.int .u64 m, .int .u64 x, .int .u64 y] w fun e w' => e = .returned (.int .u64 (pk m x y)) ∧ w' = w := by
 have H : Hid (bits .xor .u64 y (bits .and .u64 (bits .xor .u64 x y) m) = pk m x y) := choose_u64 m x y hm hx hy
 go_enter Tryz.func80, Tryz.ntmps80
 go_wp2
 go_ret
 exact ⟨ret_int H.out, rfl⟩
theorem rcpick_any (m x y : Int) (hm : Word m) (hx : Word x) (hy : Word y) (w : World) :
  Calls Tryz.prog 59 #[.int .u64 m, .int .u64 x, .int .u64 y] w fun e w' => e = .returned (.int .u64 (pk m x y)) ∧ w' = w := by
 go_enter Tryz.func59, Tryz.ntmps59
 go_wp2_with (go_at_call 80; refine (rcch64_any _ _ _ hm hx hy _).mono ?_; rintro e w' ⟨rfl, rfl⟩)
 go_ret
 exact ⟨rfl, rfl⟩
theorem before_step (xs ys : List Int) (k : Nat) (hx : k < xs.length) (hy : k < ys.length) (bx : Bytes xs) (by' : Bytes ys) :
  pk (mk (xs.getD k 0 == ys.getD k 0)) (mk (bef (xs.drop (k + 1)) (ys.drop (k + 1)))) (mk (decide (xs.getD k 0 < ys.getD k 0))) = mk (bef (xs.drop k) (ys.drop k)) := by
 rw [bef_drop xs ys k hx hy]
 by_cases h : xs.getD k 0 = ys.getD k 0
 ·have e : (xs.getD k 0 == ys.getD k 0) = true := by rw [h]; simp
  rw [if_pos h, e, mk_true, pk_ones _ _ (mk_bd _) (mk_bd _)]
 ·have e : (xs.getD k 0 == ys.getD k 0) = false := by simpa using h
  rw [if_neg h, e, mk_false, pk_zero _ _ (mk_bd _).1]
theorem before_any (ao bo : Option Addr) (n n' c c' : Nat) (xs ys : List Int) (w : World) (hx : Seen w ao n xs) (hy : Seen w bo n' ys) :
  Calls Tryz.prog 34 #[.slice ao n c, .slice bo n' c'] w fun e w' => e = .returned (.int .u64 (mk (bef xs ys))) ∧ ∃ q, w' = w.drewN q := by
 have t1 := hx.top
 have t2 := hy.top
 have HL : Hid (xs.length = n ∧ ys.length = n') := ⟨hx.len, hy.len⟩
 go_enter Tryz.func34, Tryz.ntmps34
 go_wp2_with (first | (go_at_call 58; refine (less_any _ _ ⟨by omega, by omega⟩ ⟨by omega, by omega⟩ _).mono ?_; rintro e w ⟨rfl, rfl⟩))
 all_goals
  go_loopw [5, 6] (fun b i wr => ∃ k : Nat, k ≤ min n n' ∧ i = .int .i64 ((k : Int) - 1) ∧ b = .int .u64 (mk (bef (xs.drop k) (ys.drop k))) ∧ ∃ q, wr = w.drewN q) (fun _ i _ => (intOf i + 1).toNat)
  case atStart =>
   refine ⟨min n n', Nat.le_refl _, ?_, ?_, 0, rfl⟩
   ·congr 1; omega
   ·congr 1; rw [bef_end _ _ _ (by rw [HL.out.1, HL.out.2]), HL.out.1, HL.out.2]
  case round =>
   obtain ⟨k, hk, rfl, rfl, q, rfl⟩ := hrel
   cases k with
   | zero =>
    go_wp2
    go_ret
    exact ⟨ret_int (by simp), _, rfl⟩
   | succ j =>
    have ej : (((j + 1 : Nat) : Int) - 1) = (j : Int) := by omega
    rw [ej]
    obtain ⟨b, o, rfl, hb, hc⟩ := hx.cells (by omega)
    obtain ⟨b', o', rfl, hb', hc'⟩ := hy.cells (by omega)
    have c1 := hc j (by omega)
    have c2 := hc' j (by omega)
    have l1 : j < xs.length := by have := HL.out.1; omega
    have l2 : j < ys.length := by have := HL.out.2; omega
    have HT := before_step xs ys j l1 l2 hx.bytes hy.bytes
    have bX := hx.bytes.at j l1
    have bY := hy.bytes.at j l2
    obtain ⟨X, hX⟩ : ∃ X, xs.getD j 0 = X := ⟨_, rfl⟩
    obtain ⟨Y, hY⟩ : ∃ Y, ys.getD j 0 = Y := ⟨_, rfl⟩
    obtain ⟨P, hP⟩ : ∃ P, bef (xs.drop (j + 1)) (ys.drop (j + 1)) = P := ⟨_, rfl⟩
    rw [hX] at c1 bX HT
    rw [hY] at c2 bY HT
    rw [hP] at HT ⊢
    have HH : Hid (pk (mk (X == Y)) (mk P) (mk (decide (X < Y))) = mk (bef (xs.drop j) (ys.drop j))) := HT
    have wX : Word X := ⟨by omega, by omega⟩
    have wY : Word Y := ⟨by omega, by omega⟩
    have i1 : (0 : Int) ≤ (j : Int) := by omega
    have i2 : (j : Int) < (n : Int) := by omega
    have i3 : (j : Int) < (n' : Int) := by omega
    clear hX hY hP hc hc' hx hy HT hb hb' l1 l2 ej
    go_wp2
    go_quiet (fail)
    go_wp2_with (first | (go_at_call 58; refine (less_any _ _ wX wY _).mono ?_; rintro e w ⟨rfl, rfl⟩) | (go_at_call 60; refine (equal_any _ _ wX wY _).mono ?_; rintro e w ⟨rfl, rfl⟩) | (go_at_call 59; refine (rcpick_any _ _ _ (mk_bd _) (mk_bd _) (mk_bd _) _).mono ?_; rintro e w ⟨rfl, rfl⟩))
    go_roundw
    case rel => exact ⟨j, by omega, rfl, by rw [HH.out], _, rfl⟩
    case measure => simp [intOf]
theorem eql_drop (zs ys : List Int) (hl : zs.length = 16) (hm : ys.length = 16) (w : World) : (binOp .eql 67 (.agg (u8s zs).toArray) (.agg (u8s ys).toArray)).run Tryz.prog w = .ok (.bool (decide (zs = ys))) w := by
 have e : decide (ys = zs) = decide (zs = ys) := by
  by_cases h : zs = ys
  ·rw [decide_eq_true h, decide_eq_true h.symm]
  ·rw [decide_eq_false h, decide_eq_false (fun k => h k.symm)]
 rw [run_eql_struct, equalD_dec 9998 zs ys hl hm w, e]
 rfl
theorem hd_range {w : World} {g : Nat} {h : Hd} (b : Blk w g 69 (hdC h)) : w.rangeAt g 4 (u8s h.group) := by
 rw [hdC_group] at b
 exact b.range
theorem number_any (ao : Option Addr) (c : Nat) (zs : List Int) (w : World) (hx : Seen w ao 4 zs) :
  Calls Tryz.prog 78 #[.slice ao 4 c] w fun e w' => e = .returned (.int .u32 (le zs)) ∧ w = w' := by
 have h := little_32 ao 4 c zs w hx
 rw [leV_ok] at h
 clear hx
 go_enter Tryz.func78, Tryz.ntmps78
 go_wp2_with (go_at_call 102; refine h.mono ?_; rintro e w' ⟨rfl, rfl⟩)
 go_ret
 exact ⟨rfl, rfl⟩
theorem live_any (h : Hd) (k : HdOk h) (w : World) :
  Calls Tryz.prog 32 #[.agg (hdC h).toArray] w fun e w' => e = .returned (.int .u64 (mk (lvB h))) ∧ Below w.heap.size w w' := by
 obtain ⟨h1, h2⟩ := k.live
 have H : Hid (lvB h = (h.live % 2 == 1)) := rfl
 go_enter Tryz.func32, Tryz.ntmps32
 go_wp2_with (first | (refine wpList_box_new rfl 69 _ rfl (hdC h) rfl ?_; intro w1 b1 s1 l1; have c0 : w1.cell? ⟨w.heap.size, 0, none⟩ = some (.int .u8 h.live) := b1.cell 0) | (go_at_call 57; refine (rcbit_any _ ⟨by omega, by omega⟩ _).mono ?_; rintro e w' ⟨rfl, rfl⟩))
 go_ret
 exact ⟨ret_int (by rw [H.out]), l1⟩
theorem lowI_any (x y : Hd) (hx : HdOk x) (hy : HdOk y) (w : World) :
  Calls Tryz.prog 33 #[.agg (hdC x).toArray, .agg (hdC y).toArray] w fun e w' => e = .returned (.int .u64 (mk (lowB x y))) ∧ Below w.heap.size w w' := by
 obtain ⟨h1, h2⟩ := hx.index
 obtain ⟨h3, h4⟩ := hy.index
 have H : Hid (lowB x y = decide (x.index < y.index)) := rfl
 go_enter Tryz.func33, Tryz.ntmps33
 go_wp2_with (first | ((with_reducible show wpList _ _ _ (({ dst := some 2, op := _, type := _, pos := _, after := _, guard := _ } : Oper) :: _) _ _); refine wpList_box_new rfl 69 _ rfl (hdC x) rfl ?_; intro w1 b1 s1 l1) | ((with_reducible show wpList _ _ _ (({ dst := some 3, op := _, type := _, pos := _, after := _, guard := _ } : Oper) :: _) _ _); refine wpList_box_new rfl 69 _ rfl (hdC y) rfl ?_; intro w2 b2 s2 l2; have c0 : w2.cell? ⟨w.heap.size, 2, none⟩ = some (.int .u32 x.index) := (b1.later l2 (by omega)).cell 2; rw [s1] at b2; have c1 : w2.cell? ⟨w.heap.size + 1, 2, none⟩ = some (.int .u32 y.index) := b2.cell 2) | (go_at_call 58; refine (less_any _ _ ⟨by omega, by omega⟩ ⟨by omega, by omega⟩ _).mono ?_; rintro e w' ⟨rfl, rfl⟩))
 go_ret
 exact ⟨ret_int (by rw [H.out]), below_chain l1 l2 (by omega)⟩
theorem sameG_any (x y : Hd) (hx : HdOk x) (hy : HdOk y) (w : World) :
  Calls Tryz.prog 35 #[.agg (hdC x).toArray, .agg (hdC y).toArray] w fun e w' => e = .returned (.int .u64 (mk (samB x y))) ∧ Below w.heap.size w w' := by
 have E := eql_drop x.group y.group hx.len hy.len
 obtain ⟨Z, hZ⟩ : ∃ Z, decide (x.group = y.group) = Z := ⟨_, rfl⟩
 have H : Hid (samB x y = Z) := hZ
 rw [hZ] at E
 have HL : Hid (x.group.length = 16 ∧ y.group.length = 16) := ⟨hx.len, hy.len⟩
 clear hZ hx hy
 go_enter Tryz.func35, Tryz.ntmps35
 go_wp2_with (first | ((with_reducible show wpList _ _ _ (({ dst := some 2, op := _, type := _, pos := _, after := _, guard := _ } : Oper) :: _) _ _); refine wpList_box_new rfl 69 _ rfl (hdC x) rfl ?_; intro w1 b1 s1 l1) | ((with_reducible show wpList _ _ _ (({ dst := some 3, op := _, type := _, pos := _, after := _, guard := _ } : Oper) :: _) _ _); refine wpList_box_new rfl 69 _ rfl (hdC y) rfl ?_; intro w2 b2 s2 l2; rw [s1] at b2) | ((with_reducible show wpList _ _ _ (({ dst := some 6, op := _, type := _, pos := _, after := _, guard := _ } : Oper) :: _) _ _); refine wpList_load_mid rfl 67 _ rfl w.heap.size 4 rfl (u8s x.group) _ (hd_range (b1.later l2 (by omega))) Tryz.underlying67 rfl (by rw [u8s_length, HL.out.1]; exact dsize) ?_) | ((with_reducible show wpList _ _ _ (({ dst := some 8, op := _, type := _, pos := _, after := _, guard := _ } : Oper) :: _) _ _); refine wpList_load_mid rfl 67 _ rfl (w.heap.size + 1) 4 rfl (u8s y.group) _ (hd_range b2) Tryz.underlying67 rfl (by rw [u8s_length, HL.out.2]; exact dsize) ?_))
 ·go_ret
  exact ⟨ret_int (by rw [H.out, ‹Z = true›]; rfl), below_chain l1 l2 (by omega)⟩
 ·go_ret
  exact ⟨ret_int (by rw [H.out, ‹Z = false›]; rfl), below_chain l1 l2 (by omega)⟩
theorem Blk.allRc {w : World} {g : Nat} {t : TypeId} {vs : List Value} (h : Blk w g t vs) : w.rangeAt g 0 vs := fun j v hv => by rw [Nat.zero_add, h.cell]; exact hv
theorem atDrop (b o cap : Nat) (w : World) : (Instr.arrayAt 67 (.slice (some ⟨b, o, none⟩) 16 cap)).run Tryz.prog w = .ok (.pointer (some ⟨b, o, none⟩)) w := by kernel_rfl
theorem Does.arrayAtR {base : Nat} {E : Exp} {ρ : Operand → Value} {o : Oper} {w : World} (t : TypeId) (x : Operand) (ho : o.op = .sliceToArrayPointer t x) (v u : Value) (hx : ρ x = v) (hrun : (Instr.arrayAt t v).run Tryz.prog w = .ok u w) (hE : E.ok base u w) : Does base E ρ o w := by
 refine Does.value u ?_ hE
 unfold execOp
 simp only [ho, hx, Sem.run_bind, hrun, Sem.run_pure, Result.andThen_ok]
theorem hbuild16 (a b c d g0 g1 g2 g3 g4 g5 g6 g7 g8 g9 g10 g11 g12 g13 g14 g15 : Int) (w : World) : (Instr.build 69 #[(0, .int .u8 a), (1, .int .u8 b), (2, .int .u32 c), (3, .int .u32 d), (4, .agg (u8s [g0, g1, g2, g3, g4, g5, g6, g7, g8, g9, g10, g11, g12, g13, g14, g15]).toArray)]).run Tryz.prog w = .ok (.agg (hdC ⟨a, b, c, d, [g0, g1, g2, g3, g4, g5, g6, g7, g8, g9, g10, g11, g12, g13, g14, g15]⟩).toArray) w := by kernel_rfl
theorem hbuild {h : Hd} (w : World) (hl : h.group.length = 16) : (Instr.build 69 #[(0, .int .u8 h.live), (1, .int .u8 h.flag), (2, .int .u32 h.index), (3, .int .u32 h.rank), (4, .agg (u8s h.group).toArray)]).run Tryz.prog w = .ok (.agg (hdC h).toArray) w := by
 obtain ⟨a, b, c, d, g⟩ := h
 simp only at hl
 match g, hl with
 | [g0, g1, g2, g3, g4, g5, g6, g7, g8, g9, g10, g11, g12, g13, g14, g15], _ => exact hbuild16 a b c d g0 g1 g2 g3 g4 g5 g6 g7 g8 g9 g10 g11 g12 g13 g14 g15 w
theorem headOf_short (ao : Option Addr) (n c : Nat) (hn : n < 26) (w : World) :
  Calls Tryz.prog 56 #[.slice ao n c] w fun e w' => e = .returned (.tuple #[.agg (hdC hdZ).toArray, .int .u64 0]) ∧ Below w.heap.size w w' := by
 go_enter Tryz.func56, Tryz.ntmps56
 go_wp2_with (first | (refine wpList_alloc_new rfl 69 rfl 20 _ hzero ?_; intro w1 b1 s1 l1) | (refine wpList_build rfl 69 _ rfl #[] rfl _ (hbuild0 _) ?_) | (refine wpList_store_blk rfl 69 69 _ _ rfl _ rfl _ (hdC hdZ) rfl b1 rfl hsize (hdC_one _) ?_; intro w2 b2 s2 k2))
 refine ret_blkt rfl w.heap.size (hdC hdZ) _ _ rfl rfl b2 Tryz.underlying69 rfl hsize rfl ⟨rfl, below_kept l1 k2 (by omega) (fun j hj => by omega)⟩
theorem headOf_long (ao : Option Addr) (n c : Nat) (zs : List Int) (hn : 26 ≤ n) (hc : n ≤ c) (w : World) (hx : Seen w ao n zs) :
  Calls Tryz.prog 56 #[.slice ao n c] w fun e w' => e = .returned (.tuple #[.agg (hdC (hdOf zs)).toArray, .int .u64 (mk (isR zs))]) ∧ Below w.heap.size w w' := by
 have HN : Hid (26 ≤ n ∧ n ≤ c) := ⟨hn, hc⟩
 have t1 := hx.top
 have hl := hx.len
 obtain ⟨b, o, rfl, hb0, hcells⟩ := hx.cells (by omega)
 have kz : HdOk (hdOf zs) := hdOf_ok hx.bytes (by omega)
 have HSn : Hid (Seen w (some ⟨b, o, none⟩) n zs) := hx
 obtain ⟨h, hh⟩ : ∃ h, hdOf zs = h := ⟨_, rfl⟩
 rw [hh] at kz ⊢
 have h0 : zs.getD 0 0 = h.live := by rw [← hh]; rfl
 have h1 : zs.getD 1 0 = h.flag := by rw [← hh]; rfl
 have h2 : le ((zs.drop 2).take 4) = h.index := by rw [← hh]; rfl
 have h3 : le ((zs.drop 6).take 4) = h.rank := by rw [← hh]; rfl
 have h4 : (zs.drop 10).take 16 = h.group := by rw [← hh]; rfl
 have HI : Hid (le ((zs.drop 2).take 4) = h.index ∧ le ((zs.drop 6).take 4) = h.rank ∧ HdOk h) := ⟨h2, h3, kz⟩
 have OR := or_two h.live h.flag kz.live kz.flag
 have HR : Hid (mk (decide (bits .or .u8 h.live h.flag < 2)) = mk (isR zs)) := by
  show _ = _
  rw [OR.2, isR, decide_eq_true (by omega : 26 ≤ zs.length), Bool.true_and, h0, h1]
 have HC0 : Hid (∀ W, Below w.heap.size w W → W.cell? ⟨b, o, none⟩ = some (.int .u8 h.live) ∧ W.cell? ⟨b, o + 1, none⟩ = some (.int .u8 h.flag) ∧ Seen W (some ⟨b, o + 2, none⟩) 4 ((zs.drop 2).take 4) ∧ Seen W (some ⟨b, o + 6, none⟩) 4 ((zs.drop 6).take 4) ∧ W.rangeAt b (o + 10) (u8s h.group)) := by
  intro W hW
  have S := hx.later hW (Nat.le_refl _)
  have a : ∀ k, k ≤ 10 → subA (some ⟨b, o, none⟩) k c = some ⟨b, o + k, none⟩ := fun k hk => by rw [subA, if_neg (by omega), Option.map_some, add_mid]
  have S2 := S.sub 2 6 c (by omega) (by omega) hc
  have S6 := S.sub 6 10 c (by omega) (by omega) hc
  rw [a 2 (by omega)] at S2
  rw [a 6 (by omega)] at S6
  obtain ⟨b', o', e, _, C⟩ := S.cells (by omega)
  obtain ⟨rfl, rfl⟩ : b = b' ∧ o = o' := by simpa using e
  refine ⟨?_, ?_, S2, S6, ?_⟩
  ·rw [← h0]; exact C 0 (by omega)
  ·rw [← h1]; exact C 1 (by omega)
  ·intro j v hv
   rw [← h4] at hv
   obtain ⟨hj, e⟩ := List.getElem?_eq_some_iff.1 hv
   have hj' : j < 16 := by rw [u8s_length, List.length_take] at hj; omega
   rw [Nat.add_assoc, C (10 + j) (by omega), ← e]
   simp [u8s, List.getD, show 10 + j < zs.length by omega]
 have HS : Hid ((∀ W, (Instr.sliceAt 37 (.slice (some ⟨b, o, none⟩) n c) (some (.int .i64 2)) (some (.int .i64 6)) none).run Tryz.prog W = .ok (.slice (some ⟨b, o + 2, none⟩) 4 (c - 2)) W) ∧ (∀ W, (Instr.sliceAt 37 (.slice (some ⟨b, o, none⟩) n c) (some (.int .i64 6)) (some (.int .i64 10)) none).run Tryz.prog W = .ok (.slice (some ⟨b, o + 6, none⟩) 4 (c - 6)) W) ∧ (∀ W, (Instr.sliceAt 37 (.slice (some ⟨b, o, none⟩) n c) (some (.int .i64 10)) (some (.int .i64 26)) none).run Tryz.prog W = .ok (.slice (some ⟨b, o + 10, none⟩) 16 (c - 10)) W)) := by
  have a : ∀ k, k ≤ 10 → subA (some ⟨b, o, none⟩) k c = some ⟨b, o + k, none⟩ := fun k hk => by rw [subA, if_neg (by omega), Option.map_some, add_mid]
  refine ⟨fun W => ?_, fun W => ?_, fun W => ?_⟩
  ·have s := sl_lh (some ⟨b, o, none⟩) n c 2 6 (by omega) (by omega) W
   rw [a 2 (by omega)] at s
   exact s
  ·have s := sl_lh (some ⟨b, o, none⟩) n c 6 10 (by omega) (by omega) W
   rw [a 6 (by omega)] at s
   exact s
  ·have s := sl_lh (some ⟨b, o, none⟩) n c 10 26 (by omega) (by omega) W
   rw [a 10 (by omega)] at s
   exact s
 obtain ⟨OR1, OR2⟩ := OR
 obtain ⟨O1, O2⟩ := OR1
 have HO : Hid (0 ≤ bits .or .u8 h.live h.flag ∧ bits .or .u8 h.live h.flag < 256) := ⟨O1, O2⟩
 have i1 : ¬ ((n : Int) < 26) := by omega
 clear hx hcells hh h0 h1 h2 h3 h4 kz OR2 O1 O2 hb0 hl hn hc
 go_enter Tryz.func56, Tryz.ntmps56
 go_wp2_with (first | (refine wpList_alloc_new rfl 69 rfl 20 _ hzero ?_; intro w1 b1 s1 l1))
 have HC : Hid (∀ W, Below w1.heap.size w1 W → W.cell? ⟨b, o, none⟩ = some (.int .u8 h.live) ∧ W.cell? ⟨b, o + 1, none⟩ = some (.int .u8 h.flag) ∧ Seen W (some ⟨b, o + 2, none⟩) 4 ((zs.drop 2).take 4) ∧ Seen W (some ⟨b, o + 6, none⟩) 4 ((zs.drop 6).take 4) ∧ W.rangeAt b (o + 10) (u8s h.group)) := fun W hW => HC0.out W (below_chain l1 hW (by omega))
 refine region_inv [.val (.slice (some ⟨b, o, none⟩) n c), .val (.pointer (some ⟨b, o, none⟩)), .val (.int .u8 h.live), .val (.slice (some ⟨b, o, none⟩) n c), .val (.pointer (some ⟨b, o + 1, none⟩)), .val (.int .u8 h.flag), .val (.slice (some ⟨b, o, none⟩) n c), .val (.slice (some ⟨b, o + 2, none⟩) 4 (c - 2)), .val (.int .u32 h.index), .val (.slice (some ⟨b, o, none⟩) n c), .val (.slice (some ⟨b, o + 6, none⟩) 4 (c - 6)), .val (.int .u32 h.rank), .val (.slice (some ⟨b, o, none⟩) n c), .val (.slice (some ⟨b, o + 10, none⟩) 16 (c - 10)), .val (.pointer (some ⟨b, o + 10, none⟩)), .val (.agg (u8s h.group).toArray), .val (.agg (hdC h).toArray), .blk 69 (hdC hdZ)] (by kernel_rfl) (by kernel_rfl) (by kernel_rfl) ?_ ?_
 ·refine Steps'.cons ?_ (Steps'.cons ?_ (Steps'.cons ?_ (Steps'.cons ?_ (Steps'.cons ?_ (Steps'.cons ?_ (Steps'.cons ?_ (Steps'.cons ?_ (Steps'.cons ?_ (Steps'.cons ?_ (Steps'.cons ?_ (Steps'.cons ?_ (Steps'.cons ?_ (Steps'.cons ?_ (Steps'.cons ?_ (Steps'.cons ?_ (Steps'.cons ?_ (Steps'.cons ?_ (Steps'.one _ _ _ _ _ _ _))))))))))))))))))
  ·intro ax wx hb hs hd
   have h0 : ax.tmps.getD 0 undef = (.slice (some ⟨b, o, none⟩) n c) := hs 0 (by kernel_rfl)
   exact Does.value _ (by clear hs hd; go_simp) rfl
  ·intro ax wx hb hs hd
   have h9 := sqV (hd 0 9 rfl (by kernel_rfl) (by decide))
   have hn : 26 ≤ n := HN.out.1
   refine Does.value (.pointer (some ⟨b, o, none⟩)) ?_ rfl
   clear hs hd
   go_simp
   intro hz
   omega
  ·intro ax wx hb hs hd
   have h10 := sqV (hd 1 10 rfl (by kernel_rfl) (by decide))
   have c0 := (HC.out wx hb).1
   exact Does.value _ (by clear hs hd; go_simp) rfl
  ·intro ax wx hb hs hd
   have h0 : ax.tmps.getD 0 undef = (.slice (some ⟨b, o, none⟩) n c) := hs 0 (by kernel_rfl)
   exact Does.value _ (by clear hs hd; go_simp) rfl
  ·intro ax wx hb hs hd
   have h12 := sqV (hd 3 12 rfl (by kernel_rfl) (by decide))
   have hn : 26 ≤ n := HN.out.1
   refine Does.value (.pointer (some ⟨b, o + 1, none⟩)) ?_ rfl
   clear hs hd
   go_simp
   intro hz
   omega
  ·intro ax wx hb hs hd
   have h13 := sqV (hd 4 13 rfl (by kernel_rfl) (by decide))
   have c0 := (HC.out wx hb).2.1
   exact Does.value _ (by clear hs hd; go_simp) rfl
  ·intro ax wx hb hs hd
   have h0 : ax.tmps.getD 0 undef = (.slice (some ⟨b, o, none⟩) n c) := hs 0 (by kernel_rfl)
   exact Does.value _ (by clear hs hd; go_simp) rfl
  ·intro ax wx hb hs hd
   have h15 := sqV (hd 6 15 rfl (by kernel_rfl) (by decide))
   have S := HS.out.1
   exact Does.value _ (by clear hs hd; go_simp) rfl
  ·intro ax wx hb hs hd
   have h16 := sqV (hd 7 16 rfl (by kernel_rfl) (by decide))
   refine Does.call 78 #[.slice (some ⟨b, o + 2, none⟩) 4 (c - 2)] (by clear hs hd; go_simp) ?_
   refine (number_any _ _ _ wx (HC.out wx hb).2.2.1).mono ?_
   rintro e w' ⟨rfl, rfl⟩
   rw [HI.out.1]
   exact ⟨_, rfl, rfl, Below.refl _ _⟩
  ·intro ax wx hb hs hd
   have h0 : ax.tmps.getD 0 undef = (.slice (some ⟨b, o, none⟩) n c) := hs 0 (by kernel_rfl)
   exact Does.value _ (by clear hs hd; go_simp) rfl
  ·intro ax wx hb hs hd
   have h18 := sqV (hd 9 18 rfl (by kernel_rfl) (by decide))
   have S := HS.out.2.1
   exact Does.value _ (by clear hs hd; go_simp) rfl
  ·intro ax wx hb hs hd
   have h19 := sqV (hd 10 19 rfl (by kernel_rfl) (by decide))
   refine Does.call 78 #[.slice (some ⟨b, o + 6, none⟩) 4 (c - 6)] (by clear hs hd; go_simp) ?_
   refine (number_any _ _ _ wx (HC.out wx hb).2.2.2.1).mono ?_
   rintro e w' ⟨rfl, rfl⟩
   rw [HI.out.2.1]
   exact ⟨_, rfl, rfl, Below.refl _ _⟩
  ·intro ax wx hb hs hd
   have h0 : ax.tmps.getD 0 undef = (.slice (some ⟨b, o, none⟩) n c) := hs 0 (by kernel_rfl)
   exact Does.value _ (by clear hs hd; go_simp) rfl
  ·intro ax wx hb hs hd
   have h21 := sqV (hd 12 21 rfl (by kernel_rfl) (by decide))
   have S := HS.out.2.2
   exact Does.value _ (by clear hs hd; go_simp) rfl
  ·intro ax wx hb hs hd
   have h22 := sqV (hd 13 22 rfl (by kernel_rfl) (by decide))
   exact Does.arrayAtR 67 (.tmp 22) rfl _ _ h22 (atDrop b (o + 10) (c - 10) wx) rfl
  ·intro ax wx hb hs hd
   have h23 := sqV (hd 14 23 rfl (by kernel_rfl) (by decide))
   exact Does.load 67 (.tmp 23) rfl b (o + 10) h23 (u8s h.group) _ (HC.out wx hb).2.2.2.2 Tryz.underlying67 rfl (by rw [u8s_length, HI.out.2.2.len]; exact dsize)
  ·intro ax wx hb hs hd
   have h11 := sqV (hd 2 11 rfl (by kernel_rfl) (by decide))
   have h14 := sqV (hd 5 14 rfl (by kernel_rfl) (by decide))
   have h17 := sqV (hd 8 17 rfl (by kernel_rfl) (by decide))
   have h20 := sqV (hd 11 20 rfl (by kernel_rfl) (by decide))
   have h24 := sqV (hd 15 24 rfl (by kernel_rfl) (by decide))
   refine Does.build 69 _ rfl #[(0, .int .u8 h.live), (1, .int .u8 h.flag), (2, .int .u32 h.index), (3, .int .u32 h.rank), (4, .agg (u8s h.group).toArray)] ?_ _ (hbuild wx HI.out.2.2.len)
   simp only [List.map_toArray, List.map_cons, List.map_nil]
   clear hs hd
   simp only [Act.eval, h11, h14, h17, h20, h24]
  ·intro ax wx hb hs hd
   exact Does.alloc 69 rfl 20 _ hzero hb.size
 ·intro wx hb
  iterate 17 refine @Ends.val _ _ _ _ _ _ _ _ _ _ rfl ?_
  refine @Ends.blk _ _ _ _ _ _ _ _ _ 69 (hdC hdZ) rfl ?_
  intro g4 hg4 bg4
  refine @Ends.one _ _ _ _ _ _ _ ?_
  simp only [Act.put, sqA, sqB, sqC]
  refine last_store 69 (.tmp 4) (.tmp 25) rfl rfl g4 rfl 69 _ (hdC h) rfl bg4 (by rw [hdC_length HI.out.2.2.len]; rfl) (hsizeC HI.out.2.2.len) (hdC_one _) ?_
  intro w2 b2 s2 k2
  have q1 := hb.size
  have V : Hid (Blk w2 g4 69 (hdC h) ∧ Blk w2 w.heap.size 69 (hdC hdZ) ∧ Below w.heap.size w w2 ∧ w.heap.size < g4) := ⟨b2, (b1.later hb (by omega)).kept k2 (by omega), below_kept (below_chain l1 hb (by omega)) k2 (by omega) (fun j hj => by omega), by omega⟩
  clear b2 k2 bg4 b1 l1 hb q1 s2 s1 hg4
  go_wp2
  refine region_invP 8 ((.val (.agg (hdC h).toArray)) :: (.val (.pointer (some ⟨g4, 0, none⟩))) :: (.val (.int .u8 h.live)) :: (.val (.pointer (some ⟨g4, 1, none⟩))) :: (.val (.int .u8 h.flag)) :: (.val (.int .u8 (bits .or .u8 h.live h.flag))) :: (.val (.int .u64 (bits .or .u8 h.live h.flag))) :: (.val (.int .u64 (mk (isR zs)))) :: []) (by kernel_rfl) (by kernel_rfl) (by kernel_rfl) [] ⟨.inl rfl, .inl rfl, .inl rfl, .inl rfl, .inl rfl, .inl rfl, .inl rfl, .inl rfl, trivial⟩ (by kernel_rfl) ?_ ?_
  ·refine Steps'.cons ?_ (Steps'.cons ?_ (Steps'.cons ?_ (Steps'.cons ?_ (Steps'.cons ?_ (Steps'.cons ?_ (Steps'.cons ?_ (Steps'.cons ?_ (Steps'.one _ _ _ _ _ _ _))))))))
   ·intro ax wx hb hs hd
    have h4 : ax.tmps.getD 4 undef = (.pointer (some ⟨g4, 0, none⟩)) := hs 4 (by kernel_rfl)
    exact Does.load 69 (.tmp 4) rfl g4 0 h4 (hdC h) _ (V.out.1.later hb V.out.1.lt).allRc Tryz.underlying69 rfl (hsizeC HI.out.2.2.len)
   ·intro ax wx hb hs hd
    have h4 : ax.tmps.getD 4 undef = (.pointer (some ⟨g4, 0, none⟩)) := hs 4 (by kernel_rfl)
    exact Does.value _ (by clear hs hd; go_simp) rfl
   ·intro ax wx hb hs hd
    have h27 := sqV (hd 1 27 rfl (by kernel_rfl) (by decide))
    have c0 : wx.cell? ⟨g4, 0, none⟩ = some (.int .u8 h.live) := (V.out.1.later hb V.out.1.lt).cell 0
    exact Does.value _ (by clear hs hd; go_simp) rfl
   ·intro ax wx hb hs hd
    have h4 : ax.tmps.getD 4 undef = (.pointer (some ⟨g4, 0, none⟩)) := hs 4 (by kernel_rfl)
    exact Does.value _ (by clear hs hd; go_simp) rfl
   ·intro ax wx hb hs hd
    have h29 := sqV (hd 3 29 rfl (by kernel_rfl) (by decide))
    have c0 : wx.cell? ⟨g4, 1, none⟩ = some (.int .u8 h.flag) := (V.out.1.later hb V.out.1.lt).cell 1
    exact Does.value _ (by clear hs hd; go_simp) rfl
   ·intro ax wx hb hs hd
    have h28 := sqV (hd 2 28 rfl (by kernel_rfl) (by decide))
    have h30 := sqV (hd 4 30 rfl (by kernel_rfl) (by decide))
    exact Does.value _ (by clear hs hd; go_simp) rfl
   ·intro ax wx hb hs hd
    have h31 := sqV (hd 5 31 rfl (by kernel_rfl) (by decide))
    obtain ⟨o1, o2⟩ := HO.out
    have o3 : IntKind.u64.wrap (bits .or .u8 h.live h.flag) = bits .or .u8 h.live h.flag := by rw [IntKind.wrap_u64]; omega
    exact Does.value _ (by clear hs hd; go_simp) rfl
   ·intro ax wx hb hs hd
    have h32 := sqV (hd 6 32 rfl (by kernel_rfl) (by decide))
    refine Does.call 58 #[.int .u64 (bits .or .u8 h.live h.flag), .int .u64 2] (by clear hs hd; go_simp) ?_
    refine (less_any _ 2 ⟨HO.out.1, by have := HO.out.2; omega⟩ (by decide) wx).mono ?_
    rintro e w' ⟨rfl, rfl⟩
    rw [HR.out]
    exact ⟨_, rfl, rfl, Below.refl _ _⟩
  ·intro wx hb
   iterate 8 refine @EndsP.val _ _ _ _ _ _ _ _ _ rfl ?_
   intro hD nf hn
   obtain ⟨mf, rfl⟩ : ∃ mf, nf = mf + 2 := ⟨nf - 2, by have h3 : 2 ≤ nf := hn; omega⟩
   clear hD hn
   simp only [Act.put, sqA, sqB, sqC]
   refine wpAny_ready (rs := [8]) (by kernel_rfl) (by simp) (AllReady.cons rfl (fun K hK => ?_) AllReady.nil)
   rw [if_pos (by rfl)]
   refine last_store 69 (.tmp 2) (.tmp 26) rfl rfl w.heap.size rfl 69 _ (hdC h) rfl (V.out.2.1.later hb V.out.2.1.lt) (by rw [hdC_length HI.out.2.2.len]; rfl) (hsizeC HI.out.2.2.len) (hdC_one _) ?_
   intro wy bY sy ky
   refine hK _ _ ?_
   clear hK K
   refine wpAny_ready (rs := [9]) (by kernel_rfl) (by simp) (AllReady.cons rfl (fun K hK => ?_) AllReady.nil)
   rw [if_pos (by rfl)]
   refine last_assign (.tmp 33) rfl (some 3) rfl (.int .u64 (mk (isR zs))) rfl ?_
   refine hK _ _ ?_
   clear hK K
   simp only [Act.put, sqA, sqB, sqC]
   refine wpAny_done (by kernel_rfl) (NoPanic.normal ?_) _
   have q2 := V.out.2.2.1.size
   have q3 := hb.size
   go_wp2
   exact ret_blkt rfl w.heap.size (hdC h) _ _ rfl rfl bY Tryz.underlying69 rfl (hsizeC HI.out.2.2.len) rfl ⟨rfl, below_kept (below_chain V.out.2.2.1 hb (by omega)) ky (by omega) (fun j hj => by omega)⟩
theorem rcheadOf_any (ao : Option Addr) (n c : Nat) (zs : List Int) (hc : n ≤ c) (w : World) (hx : Seen w ao n zs) :
  Calls Tryz.prog 56 #[.slice ao n c] w fun e w' => e = .returned (.tuple #[.agg (hdC (hdV zs)).toArray, .int .u64 (mk (isR zs))]) ∧ Below w.heap.size w w' := by
 have hl := hx.len
 by_cases hn : n < 26
 ·rw [hdV, if_pos (by omega), isR, decide_eq_false (by omega : ¬ 26 ≤ zs.length), Bool.false_and]
  exact headOf_short ao n c hn w
 ·rw [hdV, if_neg (by omega)]
  exact headOf_long ao n c zs (by omega) hc w hx
end Go.Proofs.YtpanagghppdiiaaGreat
