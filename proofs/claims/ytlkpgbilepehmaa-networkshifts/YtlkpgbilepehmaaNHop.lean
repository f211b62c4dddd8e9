/- Layer network: Hops, what it gives, round by round; Gates of 8. -/
import Derived.RangeFuncNested
import Derived.RangeFuncBound
import Derived.RangeFuncCalls
import Derived.RangeFuncLeaves
import Derived.Shelf.Abstract
import Derived.Shelf.RegionOpen
import Derived.WalkKit
import Derived.OwnWalkIn
import Derived.TacticsInMore
import Derived.LoopNIn
import Derived.LoopIn
import Derived.Scope
import Derived.Test.YtlkpgbilepehmaaRows
namespace Go.Proofs.Ytlkpgbilepehmaa
open Go.RowKit Go.Shelf
set_option linter.unusedVariables false
set_option linter.unusedSimpArgs false
attribute [local go_sem] Oper.semAt_some

/-! ### A scope within a fence -/
section
variable {F : Fence} {n : Nat} {P : Program} {Q : Exit → Act → World → Prop} {a : Act} {w : World} {b : Frame} {k : List Item} {cs : List Frame}
theorem stepR_scope {c : Code} : step P (lone (b.atR a (.code (.scope c) :: k)) cs w) = .next (lone (b.atR a (.code c :: .inScope c :: k)) cs w) :=
  step_lone_go (by simp [stepG, stepG.exec, Frame.atR])
theorem stepR_inScope {c : Code} : step P (lone (b.atR a (.inScope c :: k)) cs w) = .next (lone (b.atR a k) cs w) :=
  step_lone_go (by simp [stepG, stepG.exec, Frame.atR])
theorem wpIn_scope {c : Code} (h : c.wpIn F n P (Exit.noGoto Q) a w) : (Code.scope c).wpIn F n P Q a w := by
  intro b k cs hro hb hr
  have h0 : (lone (b.atR a (.code (.scope c) :: k)) cs w).fenced P F := fenced_calm hb hr rfl
  obtain ⟨e, a₁, w₁, hq, harr⟩ := h b (.inScope c :: k) cs hro hb hr
  cases e with
  | normal => exact ⟨.normal, a₁, w₁, hq, .head h0 stepR_scope (StepsIn.trans harr (.one (fenced_calm hb hr rfl) stepR_inScope))⟩
  | exit id =>
    have hx : exitTo id (.inScope c :: k) = exitTo id k := by simp [exitTo]
    exact ⟨.exit id, a₁, w₁, hq, fun k' hk => .head h0 stepR_scope (harr.1 k' (by rw [hx]; exact hk)),
      fun hr' hk => let ⟨k₁, h1, h2⟩ := harr.2 hr' (by rw [hx]; exact hk); ⟨k₁, h1, .head h0 stepR_scope h2⟩⟩
  | goto l => exact hq.elim
  | ret => exact ⟨_, a₁, w₁, hq, .of_steps (.one h0 stepR_scope) harr⟩
  | panic ch => exact ⟨_, a₁, w₁, hq, .of_steps (.one h0 stepR_scope) harr⟩
  | outgrown => exact ⟨_, a₁, w₁, hq, .of_steps (.one h0 stepR_scope) harr⟩
end

/-! ### Plain -/
/-- The hops by d among n places. -/
def hopsD (n d : Nat) : List (Int × Int) := (List.range (n - d)).map fun j => (((d + j : Nat) : Int), ((j : Nat) : Int))
def hopsK (n : Nat) : Nat → List (Int × Int)
  | 0 => []
  | e + 1 => hopsK n e ++ hopsD n (2 ^ e)
def hopsL (n : Nat) : List (Int × Int) := hopsK n 17
theorem hopsD_length (n d : Nat) : (hopsD n d).length = n - d := by simp [hopsD]
theorem hopsD_take (n d j : Nat) (h : d + j < n) : (hopsD n d).take (j + 1) = (hopsD n d).take j ++ [(((d + j : Nat) : Int), (j : Int))] := by
  have hl : j < (hopsD n d).length := by rw [hopsD_length]; omega
  rw [List.take_add_one, List.getElem?_eq_getElem hl]
  simp [hopsD]
theorem hopsK_pre (n a b : Nat) (h : a ≤ b) : hopsK n a <+: hopsK n b := by
  induction b with
  | zero => have : a = 0 := by omega
            subst this; exact List.prefix_refl _
  | succ b ih =>
    rcases Nat.lt_or_ge a (b + 1) with h1 | h1
    · exact (ih (by omega)).trans (List.prefix_append _ _)
    · have : a = b + 1 := by omega
      subst this; exact List.prefix_refl _
theorem hopsK_stop (n a b : Nat) (h : a ≤ b) (hd : n ≤ 2 ^ a) : hopsK n b = hopsK n a := by
  induction b with
  | zero => have : a = 0 := by omega
            subst this; rfl
  | succ b ih =>
    rcases Nat.lt_or_ge a (b + 1) with h1 | h1
    · have h2 : 2 ^ a ≤ 2 ^ b := Nat.pow_le_pow_right (by decide) (by omega)
      have h3 : n - 2 ^ b = 0 := by omega
      rw [hopsK, ih (by omega)]; simp [hopsD, h3]
    · have : a = b + 1 := by omega
      subst this; rfl
theorem hops_mid (n e j : Nat) (he : e ≤ 16) (h : 2 ^ e + j < n) : hopsK n e ++ (hopsD n (2 ^ e)).take j ++ [(((2 ^ e + j : Nat) : Int), (j : Int))] <+: hopsL n := by
  rw [List.append_assoc, ← hopsD_take n _ j h]
  refine List.IsPrefix.trans ?_ (hopsK_pre n (e + 1) 17 (by omega))
  exact (List.prefix_append_right_inj _).2 (List.take_prefix _ _)
theorem e_small {e D N : Nat} (hD : 2 ^ e = D) (h : D < N) (hn : N ≤ 65536) : e ≤ 15 := by
  rcases Nat.lt_or_ge e 16 with h1 | h1
  · omega
  · have h3 : 2 ^ 16 ≤ 2 ^ e := Nat.pow_le_pow_right (by decide) h1
    omega
theorem len_of_pre {α : Type} {a c : List α} {x : α} (h : a ++ [x] <+: c) : a.length < c.length := by
  have := h.length_le
  simp at this; omega

set_option maxRecDepth 20000 in
theorem nlen64_7 (w : World) : Calls Try.prog 53 #[.int .u64 7] w fun e w' => e = .returned (.int .i64 3) ∧ w = w' := by
  go_enter Try.func53, Try.ntmps53
  go_wp2
  go_ret
  exact ⟨by kernel_rfl, rfl⟩
theorem nlen_7 (w : World) : Calls Try.prog 36 #[.int .u64 7] w fun e w' => e = .returned (.int .i64 3) ∧ w = w' := by
  go_enter Try.func36, Try.ntmps36
  go_wp2_with (go_at_call 53; refine (nlen64_7 _).mono ?_; rintro e w' ⟨rfl, rfl⟩)
  go_ret
  exact ⟨rfl, rfl⟩
set_option maxRecDepth 20000 in
theorem nlen64_8 (w : World) : Calls Try.prog 53 #[.int .u64 8] w fun e w' => e = .returned (.int .i64 4) ∧ w = w' := by
  go_enter Try.func53, Try.ntmps53
  go_wp2
  go_ret
  exact ⟨by kernel_rfl, rfl⟩
theorem nlen_8 (w : World) : Calls Try.prog 36 #[.int .u64 8] w fun e w' => e = .returned (.int .i64 4) ∧ w = w' := by
  go_enter Try.func36, Try.ntmps36
  go_wp2_with (go_at_call 53; refine (nlen64_8 _).mono ?_; rintro e w' ⟨rfl, rfl⟩)
  go_ret
  exact ⟨rfl, rfl⟩
theorem pad8 (w : World) : Calls Try.prog 11 #[.int .i64 8] w fun e w' => e = .returned (.int .i64 8) ∧ w = w' := by
  go_enter Try.func11, Try.ntmps11
  go_wp2_with (go_at_call 36; refine (nlen_7 _).mono ?_; rintro e w' ⟨rfl, rfl⟩)
  go_ret
  exact ⟨rfl, rfl⟩
theorem isSize8 (w : World) : Calls Try.prog 37 #[.int .i64 8] w fun e w' => e = .returned (.bool true) ∧ w = w' := by
  go_enter Try.func37, Try.ntmps37
  go_wp2_with (go_at_call 11; refine (pad8 _).mono ?_; rintro e w' ⟨rfl, rfl⟩)
  go_ret
  exact ⟨rfl, rfl⟩
theorem gates8 (w : World) : Calls Try.prog 13 #[.int .i64 8] w fun e w' => e = .returned (.int .i64 24) ∧ w = w' := by
  go_enter Try.func13, Try.ntmps13
  go_wp2_with (first | (go_at_call 37; refine (isSize8 _).mono ?_; rintro e w' ⟨rfl, rfl⟩) | (go_at_call 36; refine (nlen_8 _).mono ?_; rintro e w' ⟨rfl, rfl⟩))
  go_ret
  exact ⟨rfl, rfl⟩

set_option maxHeartbeats 1000000 in
theorem hops_in (F : Fence) (m : Nat) (hf : F.fn 15) (hro : F.round = none) (n : Int) (w : World) :
    CallsIn F m Try.prog 15 #[.int .i64 n] w fun e w' => e = .returned (.func (.func 38) #[] #[.pointer (some ⟨w.heap.size, 0, none⟩)]) ∧ w' = w.alloc (.cells #[.int .i64 n] 3) := by
  refine callsIn_of_wp Try.func15 rfl hf ?_ hro
  simp only [Try.ntmps15, List.size_toArray, List.length_cons, List.length_nil, Nat.reduceAdd, Nat.reduceSub, Array.replicate_succ, Array.replicate_zero, List.push_toArray, List.append_toArray, List.nil_append, List.cons_append]
  gi_wp2
  go_ret
  exact ⟨rfl, rfl⟩

set_option maxRecDepth 100000 in
set_option maxHeartbeats 2000000 in
theorem hops1_in (F : Fence) (m : Nat) (hf : F.fn 38) (hro : F.round = none) (hm : 1 ≤ m) (l Bn N : Nat) (hn : N ≤ 65536) (n : Int) (hN : n.toNat = N) (J Jx : List (Int × Int) → World → Prop)
    (hY : ∀ pre x W, J pre W → pre.length < (hopsL N).length → YieldAt F (m - 1) Try.prog l #[.agg #[.int .i64 x.1, .int .i64 x.2]] W fun e W' =>
      (e = .returned (.bool true) ∧ J (pre ++ [x]) W' ∧ (Boxed W Bn 3 (.int .i64 n) → Boxed W' Bn 3 (.int .i64 n))) ∨ (e = .returned (.bool false) ∧ Jx (pre ++ [x]) W'))
    (W : World) (hB : Boxed W Bn 3 (.int .i64 n)) (h0 : J [] W) :
    CallsIn F m Try.prog 38 #[.func (.yield l) #[] #[], .pointer (some ⟨Bn, 0, none⟩)] W fun e W' => (∃ v, e = .returned v) ∧
      ((∃ ys, ys = hopsL N ∧ J ys W') ∨ (∃ pre, pre <+: hopsL N ∧ Jx pre W')) := by
  have i1 : ¬ (65536 : Int) < n := by omega
  have c0 := hB.cell
  refine callsIn_of_wp Try.func38 rfl hf ?_ hro
  simp only [Try.ntmps38, List.size_toArray, List.length_cons, List.length_nil, Nat.reduceAdd, Nat.reduceSub, Array.replicate_succ, Array.replicate_zero, List.push_toArray, List.append_toArray, List.nil_append, List.cons_append]
  gi_wp2
  refine wpIn_scope ?_
  gi_wp2
  refine wpIn_label ?_
  gi_wp2
  gi_loopw [3] (fun v wr => ∃ e : Nat, v = .int .i64 ((2 ^ e : Nat) : Int) ∧ e ≤ 17 ∧ (0 < e → 2 ^ (e - 1) < N) ∧ J (hopsK N e) wr ∧ Boxed wr Bn 3 (.int .i64 n)) (fun v _ => (131073 - intOf v).toNat)
  case atStart => exact ⟨0, rfl, by omega, by omega, h0, hB⟩
  case round =>
    obtain ⟨e, rfl, he, hlow, hJ, hB1⟩ := hrel
    obtain ⟨D, hD⟩ : ∃ D, 2 ^ e = D := ⟨_, rfl⟩
    rw [hD]
    have HD : Hid (2 ^ e = D) := hD
    have HE : Hid (e ≤ 17 ∧ (0 < e → 2 ^ (e - 1) < N)) := ⟨he, hlow⟩
    clear hD he hlow c0
    have c1 := hB1.cell
    by_cases hlt : D < N
    · have i2 : (D : Int) < n := by omega
      have i3 : n = (N : Int) := by omega
      have HN : Hid (n = (N : Int)) := i3
      clear i3
      gi_wp2
      gi_loopw [4] (fun v wr => ∃ j : Nat, v = .int .i64 ((D + j : Nat) : Int) ∧ D + j ≤ N ∧ J (hopsK N e ++ (hopsD N D).take j) wr ∧ Boxed wr Bn 3 (.int .i64 n)) (fun v _ => (65537 - intOf v).toNat)
      case atStart => exact ⟨0, rfl, by omega, by simpa using hJ, hB1⟩
      case round =>
        obtain ⟨j, rfl, hj, hJ2, hB2⟩ := hrel
        have c2 := hB2.cell
        obtain ⟨G, hG⟩ : ∃ G, D + j = G := ⟨_, rfl⟩
        rw [hG] at hj ⊢
        have HG : Hid (D + j = G) := hG
        clear hG
        by_cases hlt2 : G < N
        · have i4 : (G : Int) < n := by rw [HN.out]; omega
          have hw : (G : Int) - (D : Int) = (j : Int) := by have := HG.out; omega
          have hpre : hopsK N e ++ (hopsD N D).take j ++ [((G : Int), (j : Int))] <+: hopsL N := by
            have := hops_mid N e j (by have := e_small HD.out hlt hn; omega) (by have h2 := HD.out; have h3 := HG.out; omega)
            rw [HD.out, HG.out] at this
            exact this
          have hnext : (hopsD N D).take (j + 1) = (hopsD N D).take j ++ [((G : Int), (j : Int))] := by
            have := hopsD_take N D j (by have h3 := HG.out; omega)
            rw [HG.out] at this
            exact this
          have HP : Hid (hopsK N e ++ (hopsD N D).take j ++ [((G : Int), (j : Int))] <+: hopsL N ∧ (hopsD N D).take (j + 1) = (hopsD N D).take j ++ [((G : Int), (j : Int))]) := ⟨hpre, hnext⟩
          clear hpre hnext
          obtain ⟨fn, tmps, assign, body, hy, hR⟩ := hY _ ((G : Int), (j : Int)) wr hJ2 (len_of_pre HP.out.1)
          dsimp only at hy
          gi_wp2
          refine hR.mono ?_
          rintro e3 W3 (⟨rfl, hJ3, hk3⟩ | ⟨rfl, hJx3⟩)
          · have c3 := (hk3 hB2).cell
            gi_wp2
            go_roundw
            case rel => exact ⟨j + 1, by have := HG.out; simp; omega, by have := HG.out; omega, by rw [HP.out.2, ← List.append_assoc]; exact hJ3, hk3 hB2⟩
            case measure => simp [intOf]; omega
          · gi_wp2
            simp only [Exit.noGoto]
            go_end0
            exact ⟨⟨_, rfl⟩, .inr ⟨_, HP.out.1, hJx3⟩⟩
        · have i4 : ¬ (G : Int) < n := by rw [HN.out]; omega
          have hfull : (hopsD N D).take j = hopsD N D := List.take_of_length_le (by rw [hopsD_length]; have := HG.out; omega)
          have HF : Hid (J (hopsK N (e + 1)) wr) := by show J (hopsK N (e + 1)) wr; rw [hopsK, HD.out, ← hfull]; exact hJ2
          clear hfull hJ2
          gi_wp2
          go_roundw
          case rel => exact ⟨e + 1, by have := HD.out; rw [Nat.pow_succ, this]; simp, by have := e_small HD.out hlt hn; omega, fun _ => by simp; have := HD.out; omega, HF.out, hB2⟩
          case measure => have hp : 0 < D := (by rw [← HD.out]; exact Nat.pow_pos (by decide)); simp [intOf]; omega
    · have i2 : ¬ (D : Int) < n := by omega
      gi_wp2
      go_end0
      exact ⟨⟨_, rfl⟩, .inl ⟨_, (hopsK_stop N e 17 HE.out.1 (by have := HD.out; omega)).symm, hJ⟩⟩

set_option maxHeartbeats 1000000 in
theorem hops1_big (F : Fence) (m : Nat) (hf : F.fn 38) (hro : F.round = none) (l Bn : Nat) (n : Int) (hn : 65536 < n) (J : List (Int × Int) → World → Prop) (W : World) (hB : Boxed W Bn 3 (.int .i64 n)) (h0 : J [] W) :
    CallsIn F m Try.prog 38 #[.func (.yield l) #[] #[], .pointer (some ⟨Bn, 0, none⟩)] W fun e W' => (∃ v, e = .returned v) ∧ J [] W' := by
  have c0 := hB.cell
  refine callsIn_of_wp Try.func38 rfl hf ?_ hro
  simp only [Try.ntmps38, List.size_toArray, List.length_cons, List.length_nil, Nat.reduceAdd, Nat.reduceSub, Array.replicate_succ, Array.replicate_zero, List.push_toArray, List.append_toArray, List.nil_append, List.cons_append]
  gi_wp2
  refine wpIn_scope ?_
  gi_wp2
  simp only [Exit.noGoto]
  refine bodyPost_ret (results_none rfl _ _ _) rfl ?_
  exact ⟨⟨_, rfl⟩, h0⟩

/-- The hops of any number. -/
def hopsOf (n : Int) : List (Int × Int) := if 65536 < n then [] else hopsL n.toNat
def KpB (Bn : Nat) (n : Int) (W W' : World) : Prop := Boxed W Bn 3 (.int .i64 n) → Boxed W' Bn 3 (.int .i64 n)
def hopV (x : Int × Int) : Array Value := #[.agg #[.int .i64 x.1, .int .i64 x.2]]
theorem hops_stops (F : Fence) (m : Nat) (hf : F.fn 38) (hro : F.round = none) (hm : 1 ≤ m) (Bn : Nat) (n : Int) (w : World) (hB : Boxed w Bn 3 (.int .i64 n)) :
    SeqStopsK F m Try.prog 38 #[.pointer (some ⟨Bn, 0, none⟩)] hopV (KpB Bn n) (fun ys => ys = hopsOf n) (fun pre => pre <+: hopsOf n) (hopsOf n).length w := fun l J Jx W hW _ _ hY h0 => by
  have hB1 : Boxed W Bn 3 (.int .i64 n) := (hW.block Bn hB.lt).trans hB
  by_cases hb : 65536 < n
  · refine (hops1_big F m hf hro l Bn n hb J W hB1 h0).mono ?_
    rintro e W' ⟨he, hj⟩
    exact ⟨he, .inl ⟨[], by simp [hopsOf, hb], hj⟩⟩
  · have e1 : hopsOf n = hopsL n.toNat := by simp [hopsOf, hb]
    rw [e1] at hY
    simp only [e1]
    exact hops1_in F m hf hro hm l Bn n.toNat (by omega) n rfl J Jx hY W hB1 h0
theorem kpB_t {Bn : Nat} {n : Int} {A B C : World} (h : KpB Bn n A B) (k : KpB Bn n B C) : KpB Bn n A C := fun x => k (h x)
theorem kpB_b {Bn : Nat} {n : Int} {w : World} (hn : Bn < w.heap.size) (W : World) (l : Nat) (o o' : Obj) (hl : w.heap.size ≤ l) (h : W.heap[l]? = some o) (_ : o.isCells = false) (_ : o.isWalk = false) : KpB Bn n W (W.putObj l o') :=
  fun x => x.kept (grownBy_putObj' W l o') (fun e => by cases e; omega)
end Go.Proofs.Ytlkpgbilepehmaa
