/- Layer network: steps, row, gate: the iterators that Bitonic goes through. -/
import Derived.Test.YtlkpgbilepehmaaNHop
namespace Go.Proofs.Ytlkpgbilepehmaa
open Go.RowKit Go.Shelf
set_option linter.unusedVariables false
set_option linter.unusedSimpArgs false
attribute [local go_sem] Oper.semAt_some

/-- One gate: the place i with the bits e (of j) and f (of k). -/
def gateN (f e i : Nat) : Int × Int := if i / 2 ^ f % 2 = 0 then (((i : Nat) : Int), ((i + 2 ^ e : Nat) : Int)) else (((i + 2 ^ e : Nat) : Int), ((i : Nat) : Int))
/-- The gates of a row, of the first m places. -/
def rowN (f e : Nat) : Nat → List (Int × Int)
  | 0 => []
  | m + 1 => if m / 2 ^ e % 2 = 0 then rowN f e m ++ [gateN f e m] else rowN f e m
theorem rowN_pre (f e a b : Nat) (h : a ≤ b) : rowN f e a <+: rowN f e b := by
  induction b with
  | zero => have : a = 0 := by omega
            subst this; exact List.prefix_refl _
  | succ b ih =>
    rcases Nat.lt_or_ge a (b + 1) with h1 | h1
    · refine (ih (by omega)).trans ?_
      rw [rowN]
      split
      · exact List.prefix_append _ _
      · exact List.prefix_refl _
    · have : a = b + 1 := by omega
      subst this; exact List.prefix_refl _

set_option maxHeartbeats 1000000 in
theorem steps_in (F : Fence) (m : Nat) (hf : F.fn 34) (hro : F.round = none) (n : Int) (w : World) :
    CallsIn F m Try.prog 34 #[.int .i64 n] w fun e w' => e = .returned (.func (.func 49) #[] #[.pointer (some ⟨w.heap.size, 0, none⟩)]) ∧ w' = w.alloc (.cells #[.int .i64 n] 3) := by
  refine callsIn_of_wp Try.func34 rfl hf ?_ hro
  simp only [Try.ntmps34, List.size_toArray, List.length_cons, List.length_nil, Nat.reduceAdd, Nat.reduceSub, Array.replicate_succ, Array.replicate_zero, List.push_toArray, List.append_toArray, List.nil_append, List.cons_append]
  gi_wp2
  go_ret
  exact ⟨rfl, rfl⟩
set_option maxHeartbeats 1000000 in
theorem row_in (F : Fence) (m : Nat) (hf : F.fn 35) (hro : F.round = none) (n k j : Int) (w : World) :
    CallsIn F m Try.prog 35 #[.int .i64 n, .int .i64 k, .int .i64 j] w fun e w' => e = .returned (.func (.func 50) #[] #[.pointer (some ⟨w.heap.size, 0, none⟩), .pointer (some ⟨w.heap.size + 1 + 1, 0, none⟩), .pointer (some ⟨w.heap.size + 1, 0, none⟩)]) ∧ w' = ((w.alloc (.cells #[.int .i64 n] 3)).alloc (.cells #[.int .i64 k] 3)).alloc (.cells #[.int .i64 j] 3) := by
  refine callsIn_of_wp Try.func35 rfl hf ?_ hro
  simp only [Try.ntmps35, List.size_toArray, List.length_cons, List.length_nil, Nat.reduceAdd, Nat.reduceSub, Array.replicate_succ, Array.replicate_zero, List.push_toArray, List.append_toArray, List.nil_append, List.cons_append]
  gi_wp2
  go_ret
  exact ⟨rfl, rfl⟩

theorem i64_and_nat (a b : Nat) (ha : a < 131072) (hb : b < 131072) : bits .and .i64 (a : Int) (b : Int) = ((a &&& b : Nat) : Int) := by
  have hx : a &&& b < 2 ^ 17 := Nat.and_lt_two_pow _ (by omega)
  have o1 : ∀ c : Nat, c < 131072 → (BitVec.ofInt 64 (c : Int)).toNat = c := fun c hc => by rw [BitVec.ofInt_natCast, BitVec.toNat_ofNat]; exact Nat.mod_eq_of_lt (by omega)
  show IntKind.i64.wrap ((BitVec.ofInt 64 (a : Int) &&& BitVec.ofInt 64 (b : Int)).toNat : Int) = _
  rw [BitVec.toNat_and, o1 a ha, o1 b hb]
  simp only [IntKind.wrap, IntKind.signed, IntKind.bits]
  simp
  omega
/-- The bit of a number. -/
theorem and_pow (i f : Nat) (hi : i < 131072) (hf : f ≤ 16) : bits .and .i64 (i : Int) ((2 ^ f : Nat) : Int) = if i / 2 ^ f % 2 = 0 then 0 else ((2 ^ f : Nat) : Int) := by
  have h1 : 2 ^ f ≤ 2 ^ 16 := Nat.pow_le_pow_right (by decide) hf
  rw [i64_and_nat i (2 ^ f) hi (by omega)]
  rcases Nat.mod_two_eq_zero_or_one (i / 2 ^ f) with h | h
  · rw [if_pos h]
    have : i &&& 2 ^ f = 0 := by
      refine Nat.eq_of_testBit_eq fun k => ?_
      rw [Nat.testBit_and, Nat.testBit_two_pow, Nat.zero_testBit]
      by_cases hk : f = k
      · subst hk; simp [Nat.testBit_eq_decide_div_mod_eq, h]
      · simp [hk]
    rw [this]; rfl
  · rw [if_neg (by omega)]
    have : i &&& 2 ^ f = 2 ^ f := by
      refine Nat.eq_of_testBit_eq fun k => ?_
      rw [Nat.testBit_and, Nat.testBit_two_pow]
      by_cases hk : f = k
      · subst hk; simp [Nat.testBit_eq_decide_div_mod_eq, h]
      · simp [hk]
    rw [this]

theorem ret_two {R : Ending → World → Prop} {w : World} {b : Nat} {x y : Value} {a : Act} (ha : a.tmps.getD 6 undef = .pointer (some ⟨b, 0, none⟩)) (hb : w.heap[b]? = some (.cells #[x, y] 29 (0, 0))) (h : R (.returned (.agg #[x, y])) w) (hd : a.defers = [] := by rfl) : bodyPost Try.prog Try.f51 R .ret a w := by
  refine bodyPost_ret (v := .agg #[x, y]) ?_ hd h
  have c0 : w.cell? ⟨b, 0, none⟩ = some x := by simp [World.cell?, hb]
  have c1 : w.cell? ⟨b, 1, none⟩ = some y := by simp [World.cell?, hb]
  have ha' : a.tmps[6]?.getD undef = .pointer (some ⟨b, 0, none⟩) := by simpa using ha
  simp [results, Try.f51, go_sem, ha', c0, c1]
theorem gateC (x : Int × Int) : (Try.prog.info? 29).map (fun i => (i.zero, i.size)) = some (some (.agg #[.int .i64 0, .int .i64 0]), 2) := by kernel_rfl
set_option maxRecDepth 20000 in
set_option maxHeartbeats 1000000 in
theorem gate_any (i f e : Nat) (hi : i < 65536) (hf : f ≤ 16) (he : e ≤ 15) (w : World) :
    Calls Try.prog 51 #[.int .i64 i, .int .i64 ((2 ^ f : Nat) : Int), .int .i64 ((2 ^ e : Nat) : Int)] w fun r w' => r = .returned (.agg #[.int .i64 (gateN f e i).1, .int .i64 (gateN f e i).2]) ∧ w' = w.alloc (.cells #[.int .i64 (gateN f e i).1, .int .i64 (gateN f e i).2] 29) := by
  have hA := and_pow i f (by omega) hf
  have h1 : 2 ^ f ≤ 2 ^ 16 := Nat.pow_le_pow_right (by decide) hf
  have h2 : 2 ^ e ≤ 2 ^ 15 := Nat.pow_le_pow_right (by decide) he
  have h3 : 0 < 2 ^ f := Nat.pow_pos (by decide)
  unfold gateN
  obtain ⟨K, hK⟩ : ∃ K, 2 ^ f = K := ⟨_, rfl⟩
  obtain ⟨J, hJ⟩ : ∃ J, 2 ^ e = J := ⟨_, rfl⟩
  rw [hK] at hA h1 h3 ⊢
  rw [hJ] at h2 ⊢
  clear hK hJ
  by_cases hb : i / K % 2 = 0
  · rw [if_pos hb] at hA
    simp only [hb, if_true]
    clear hb
    go_enter Try.func51, Try.ntmps51
    go_wp2
    refine ret_two rfl (World.alloc_heap_new w _) ⟨?_, ?_⟩
    · simp
    · simp
  · rw [if_neg hb] at hA
    simp only [hb, if_false]
    clear hb
    have h4 : ((K : Int) == 0) = false := by simp; omega
    have h5 : ¬ (K : Int) = 0 := by omega
    go_enter Try.func51, Try.ntmps51
    go_wp2
    refine ret_two rfl (World.alloc_heap_new w _) ⟨?_, ?_⟩
    · simp
    · simp

/-- The boxes of j and k stay. -/
def Kp2 (b2 : Nat) (j : Int) (b3 : Nat) (k : Int) (W W' : World) : Prop := KpB b2 j W W' ∧ KpB b3 k W W'
theorem kp2_t {b2 b3 : Nat} {j k : Int} {A B C : World} (h : Kp2 b2 j b3 k A B) (g : Kp2 b2 j b3 k B C) : Kp2 b2 j b3 k A C := ⟨kpB_t h.1 g.1, kpB_t h.2 g.2⟩
theorem kp2_b {b2 b3 : Nat} {j k : Int} {w : World} (h2 : b2 < w.heap.size) (h3 : b3 < w.heap.size) (W : World) (l : Nat) (o o' : Obj) (hl : w.heap.size ≤ l) (h : W.heap[l]? = some o) (hc : o.isCells = false) (hw : o.isWalk = false) : Kp2 b2 j b3 k W (W.putObj l o') :=
  ⟨kpB_b h2 W l o o' hl h hc hw, kpB_b h3 W l o o' hl h hc hw⟩
theorem rowN_at (f e i N : Nat) (hi : i < N) (hb : i / 2 ^ e % 2 = 0) : rowN f e i ++ [gateN f e i] <+: rowN f e N := by
  have := rowN_pre f e (i + 1) N (by omega)
  rwa [rowN, if_pos hb] at this

set_option maxRecDepth 100000 in
set_option maxHeartbeats 2000000 in
theorem row1_in (m : Nat) (hm : 1 ≤ m) (l b1 b2 b3 N f e : Nat) (hn : N ≤ 65536) (hf : f ≤ 16) (he : e ≤ 15) (vl : Int × Int → Int × Int) (hvl : ∀ i, i < N → i / 2 ^ e % 2 = 0 → vl (gateN f e i) = gateN f e i) (J Jx : List (Int × Int) → World → Prop) (W : World) (hJ : AbidesFrom W.heap.size J)
    (hY : ∀ pre x W, J pre W → pre.length < (rowN f e N).length → YieldAt Fence.wide (m - 1) Try.prog l #[.agg #[.int .i64 (vl x).1, .int .i64 (vl x).2]] W fun r W' =>
      (r = .returned (.bool true) ∧ J (pre ++ [x]) W' ∧ Kp2 b2 ((2 ^ e : Nat) : Int) b3 ((2 ^ f : Nat) : Int) W W') ∨ (r = .returned (.bool false) ∧ Jx (pre ++ [x]) W'))
    (hB1 : Boxed W b1 3 (.int .i64 (N : Int))) (hB2 : Boxed W b2 3 (.int .i64 ((2 ^ e : Nat) : Int))) (hB3 : Boxed W b3 3 (.int .i64 ((2 ^ f : Nat) : Int))) (h0 : J [] W) :
    CallsIn Fence.wide m Try.prog 50 #[.func (.yield l) #[] #[], .pointer (some ⟨b1, 0, none⟩), .pointer (some ⟨b2, 0, none⟩), .pointer (some ⟨b3, 0, none⟩)] W fun r W' => (∃ v, r = .returned v) ∧
      ((∃ ys, ys = rowN f e N ∧ J ys W') ∨ (∃ pre, pre <+: rowN f e N ∧ Jx pre W')) := by
  have q1 : 2 ^ e ≤ 2 ^ 15 := Nat.pow_le_pow_right (by decide) he
  have q2 : 2 ^ f ≤ 2 ^ 16 := Nat.pow_le_pow_right (by decide) hf
  have HA : Hid (∀ i : Nat, i < 131072 → bits .and .i64 (i : Int) ((2 ^ e : Nat) : Int) = if i / 2 ^ e % 2 = 0 then 0 else ((2 ^ e : Nat) : Int)) := fun i hi => and_pow i e hi (by omega)
  have HG : Hid (∀ (i : Nat) (w : World), i < 65536 → Calls Try.prog 51 #[.int .i64 i, .int .i64 ((2 ^ f : Nat) : Int), .int .i64 ((2 ^ e : Nat) : Int)] w fun r w' => r = .returned (.agg #[.int .i64 (gateN f e i).1, .int .i64 (gateN f e i).2]) ∧ w' = w.alloc (.cells #[.int .i64 (gateN f e i).1, .int .i64 (gateN f e i).2] 29)) := fun i w hi => gate_any i f e hi hf he w
  have hE : 0 < 2 ^ e := Nat.pow_pos (by decide)
  obtain ⟨E, hEE⟩ : ∃ E : Int, ((2 ^ e : Nat) : Int) = E := ⟨_, rfl⟩
  obtain ⟨K, hKK⟩ : ∃ K : Int, ((2 ^ f : Nat) : Int) = K := ⟨_, rfl⟩
  rw [hEE] at HA HG hB2 hY
  rw [hKK] at HG hB3 hY
  have hE0 : 0 < E := by omega
  clear hEE hKK q1 q2 hE
  have c1 := hB1.cell
  refine callsIn_of_wp Try.func50 rfl trivial ?_ rfl
  simp only [Try.ntmps50, List.size_toArray, List.length_cons, List.length_nil, Nat.reduceAdd, Nat.reduceSub, Array.replicate_succ, Array.replicate_zero, List.push_toArray, List.append_toArray, List.nil_append, List.cons_append]
  gi_wp2
  gi_loopw [7] (fun v wr => ∃ i : Nat, v = .int .i64 (i : Int) ∧ i ≤ N ∧ J (rowN f e i) wr ∧ Boxed wr b2 3 (.int .i64 E) ∧ Boxed wr b3 3 (.int .i64 K)) (fun v _ => (65537 - intOf v).toNat)
  case atStart => exact ⟨0, rfl, by omega, h0, hB2, hB3⟩
  case round =>
    obtain ⟨i, rfl, hi, hJ1, hb2, hb3⟩ := hrel
    by_cases hlt : i < N
    · have i1 : (i : Int) < (N : Int) := by omega
      have c2 := hb2.cell
      have c3 := hb3.cell
      have hA := HA.out i (by omega)
      by_cases hb : i / 2 ^ e % 2 = 0
      · rw [if_pos hb] at hA
        have HR : Hid (rowN f e (i + 1) = rowN f e i ++ [gateN f e i] ∧ rowN f e i ++ [gateN f e i] <+: rowN f e N) := ⟨by rw [rowN, if_pos hb], rowN_at f e i N hlt hb⟩
        have hJ2 : J (rowN f e i) (wr.alloc (.cells #[.int .i64 (gateN f e i).1, .int .i64 (gateN f e i).2] 29)) := hJ _ _ _ none hJ1 (World.grownBy_alloc wr _ none) (fun r e => by cases e)
        obtain ⟨fn, tmps, assign, body, hy, hR⟩ := hY _ (gateN f e i) _ hJ2 (len_of_pre HR.out.2)
        rw [hvl i hlt hb] at hy
        clear hb
        have hGi := HG.out i wr (by omega)
        obtain ⟨gp, hgp⟩ : ∃ gp, gateN f e i = gp := ⟨_, rfl⟩
        have HP : Hid (gateN f e i = gp) := hgp
        rw [hgp] at hGi hy hR hJ2
        clear hgp
        gi_wp2_with (refine ⟨trivial, ?_⟩; gi_at_call 51; refine (callsIn_wide.2 hGi).mono ?_; clear hGi; rintro r w' ⟨rfl, rfl⟩)
        refine hR.mono ?_
        rintro r W3 (⟨rfl, hJ3, hk3⟩ | ⟨rfl, hJx3⟩)
        · have b23 := hk3.1 (hb2.alloc _)
          have b33 := hk3.2 (hb3.alloc _)
          gi_wp2
          go_roundw
          case rel => exact ⟨i + 1, by simp, by omega, by rw [HR.out.1, HP.out]; exact hJ3, b23, b33⟩
          case measure => simp [intOf]; omega
        · gi_wp2
          refine bodyPost_ret (results_none rfl _ _ _) rfl ?_
          exact ⟨⟨_, rfl⟩, .inr ⟨_, HR.out.2, by rw [HP.out]; exact hJx3⟩⟩
      · rw [if_neg hb] at hA
        have HR : Hid (rowN f e (i + 1) = rowN f e i) := by show rowN f e (i + 1) = rowN f e i; rw [rowN, if_neg hb]
        clear hb
        have z1 : (E == 0) = false := by simp; omega
        have z2 : ¬ E = 0 := by omega
        gi_wp2
        refine ⟨trivial, ?_⟩
        gi_wp2
        refine ⟨fun _ h => (by cases h), ?_⟩
        gi_wp2
        go_roundw
        case rel => exact ⟨i + 1, by simp, by omega, by rw [HR.out]; exact hJ1, hb2, hb3⟩
        case measure => simp [intOf]; omega
    · have hie : i = N := by omega
      subst hie
      gi_wp2
      go_end0
      exact ⟨⟨_, rfl⟩, .inl ⟨_, rfl, hJ1⟩⟩
/-- What a row gives: its gates, in their order; the boxes of j and k must stay. -/
theorem row_stops (m : Nat) (hm : 1 ≤ m) (b1 b2 b3 N f e : Nat) (hn : N ≤ 65536) (hf : f ≤ 16) (he : e ≤ 15) (vl : Int × Int → Int × Int) (hvl : ∀ i, i < N → i / 2 ^ e % 2 = 0 → vl (gateN f e i) = gateN f e i) (w : World)
    (hB1 : Boxed w b1 3 (.int .i64 (N : Int))) (hB2 : Boxed w b2 3 (.int .i64 ((2 ^ e : Nat) : Int))) (hB3 : Boxed w b3 3 (.int .i64 ((2 ^ f : Nat) : Int))) :
    SeqStopsK Fence.wide m Try.prog 50 #[.pointer (some ⟨b1, 0, none⟩), .pointer (some ⟨b2, 0, none⟩), .pointer (some ⟨b3, 0, none⟩)] (fun x => hopV (vl x)) (Kp2 b2 ((2 ^ e : Nat) : Int) b3 ((2 ^ f : Nat) : Int)) (fun ys => ys = rowN f e N) (fun pre => pre <+: rowN f e N) (rowN f e N).length w := fun l J Jx W hW hJ _ hY h0 =>
  row1_in m hm l b1 b2 b3 N f e hn hf he vl hvl J Jx W hJ hY ((hW.block b1 hB1.lt).trans hB1) ((hW.block b2 hB2.lt).trans hB2) ((hW.block b3 hB3.lt).trans hB3) h0
end Go.Proofs.Ytlkpgbilepehmaa
