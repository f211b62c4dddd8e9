/- Layer network: Hops, its element clamped (a body may index by it). -/
import Derived.Test.YtlkpgbilepehmaaNHop
namespace Go.Proofs.Ytlkpgbilepehmaa
open Go.RowKit Go.Shelf
set_option linter.unusedVariables false
set_option linter.unusedSimpArgs false
attribute [local go_sem] Oper.semAt_some

set_option maxRecDepth 100000 in
set_option maxHeartbeats 2000000 in
theorem hops1_inV (F : Fence) (m : Nat) (hf : F.fn 38) (hro : F.round = none) (hm : 1 ≤ m) (l Bn N : Nat) (hn : N ≤ 65536) (n : Int) (hN : n.toNat = N) (vl : Int × Int → Int × Int) (hvl : ∀ e j : Nat, 2 ^ e + j < N → vl (((2 ^ e + j : Nat) : Int), (j : Int)) = (((2 ^ e + j : Nat) : Int), (j : Int))) (J Jx : List (Int × Int) → World → Prop)
    (hY : ∀ pre x W, J pre W → pre.length < (hopsL N).length → YieldAt F (m - 1) Try.prog l #[.agg #[.int .i64 (vl x).1, .int .i64 (vl x).2]] W fun e W' =>
      (e = .returned (.bool true) ∧ J (pre ++ [x]) W' ∧ (Boxed W Bn 3 (.int .i64 n) → Boxed W' Bn 3 (.int .i64 n))) ∨ (e = .returned (.bool false) ∧ Jx (pre ++ [x]) W'))
    (W : World) (hB : Boxed W Bn 3 (.int .i64 n)) (h0 : J [] W) :
    CallsIn F m Try.prog 38 #[.func (.yield l) #[] #[], .pointer (some ⟨Bn, 0, none⟩)] W fun e W' => (∃ v, e = .returned v) ∧
      ((∃ ys, ys = hopsL N ∧ J ys W') ∨ (∃ pre, pre <+: hopsL N ∧ Jx pre W')) := by
  have i1 : ¬ (65536 : Int) < n := by omega
  have c0 := hB.cell
  refine callsIn_of_wp Try.func38 rfl hf ?_ hro
  simp only [Try.ntmps38, List.size_toArray, List.length_cons, List.length_nil, Nat.reduceAdd, Nat.reduceSub, Array.replicate_succ, Array.replicate_zero, List.push_toArray, List.append_toArray, List.nil_append, List.cons_append]
  gi_wp2
  refine wpIn_scope ?_
  gi_wp2
  refine wpIn_label ?_
  gi_wp2
  gi_loopw [3] (fun v wr => ∃ e : Nat, v = .int .i64 ((2 ^ e : Nat) : Int) ∧ e ≤ 17 ∧ (0 < e → 2 ^ (e - 1) < N) ∧ J (hopsK N e) wr ∧ Boxed wr Bn 3 (.int .i64 n)) (fun v _ => (131073 - intOf v).toNat)
  case atStart => exact ⟨0, rfl, by omega, by omega, h0, hB⟩
  case round =>
    obtain ⟨e, rfl, he, hlow, hJ, hB1⟩ := hrel
    obtain ⟨D, hD⟩ : ∃ D, 2 ^ e = D := ⟨_, rfl⟩
    rw [hD]
    have HD : Hid (2 ^ e = D) := hD
    have HE : Hid (e ≤ 17 ∧ (0 < e → 2 ^ (e - 1) < N)) := ⟨he, hlow⟩
    clear hD he hlow c0
    have c1 := hB1.cell
    by_cases hlt : D < N
    · have i2 : (D : Int) < n := by omega
      have i3 : n = (N : Int) := by omega
      have HN : Hid (n = (N : Int)) := i3
      clear i3
      gi_wp2
      gi_loopw [4] (fun v wr => ∃ j : Nat, v = .int .i64 ((D + j : Nat) : Int) ∧ D + j ≤ N ∧ J (hopsK N e ++ (hopsD N D).take j) wr ∧ Boxed wr Bn 3 (.int .i64 n)) (fun v _ => (65537 - intOf v).toNat)
      case atStart => exact ⟨0, rfl, by omega, by simpa using hJ, hB1⟩
      case round =>
        obtain ⟨j, rfl, hj, hJ2, hB2⟩ := hrel
        have c2 := hB2.cell
        obtain ⟨G, hG⟩ : ∃ G, D + j = G := ⟨_, rfl⟩
        rw [hG] at hj ⊢
        have HG : Hid (D + j = G) := hG
        clear hG
        by_cases hlt2 : G < N
        · have i4 : (G : Int) < n := by rw [HN.out]; omega
          have hw : (G : Int) - (D : Int) = (j : Int) := by have := HG.out; omega
          have hpre : hopsK N e ++ (hopsD N D).take j ++ [((G : Int), (j : Int))] <+: hopsL N := by
            have := hops_mid N e j (by have := e_small HD.out hlt hn; omega) (by have h2 := HD.out; have h3 := HG.out; omega)
            rw [HD.out, HG.out] at this
            exact this
          have hnext : (hopsD N D).take (j + 1) = (hopsD N D).take j ++ [((G : Int), (j : Int))] := by
            have := hopsD_take N D j (by have h3 := HG.out; omega)
            rw [HG.out] at this
            exact this
          have HP : Hid (hopsK N e ++ (hopsD N D).take j ++ [((G : Int), (j : Int))] <+: hopsL N ∧ (hopsD N D).take (j + 1) = (hopsD N D).take j ++ [((G : Int), (j : Int))]) := ⟨hpre, hnext⟩
          clear hpre hnext
          obtain ⟨fn, tmps, assign, body, hy, hR⟩ := hY _ ((G : Int), (j : Int)) wr hJ2 (len_of_pre HP.out.1)
          have hvv : vl ((G : Int), (j : Int)) = ((G : Int), (j : Int)) := by have h := hvl e j (by have h1 := HD.out; have h2 := HG.out; omega); rw [HD.out, HG.out] at h; exact h
          rw [hvv] at hy
          clear hvv
          dsimp only at hy
          gi_wp2
          refine hR.mono ?_
          rintro e3 W3 (⟨rfl, hJ3, hk3⟩ | ⟨rfl, hJx3⟩)
          · have c3 := (hk3 hB2).cell
            gi_wp2
            go_roundw
            case rel => exact ⟨j + 1, by have := HG.out; simp; omega, by have := HG.out; omega, by rw [HP.out.2, ← List.append_assoc]; exact hJ3, hk3 hB2⟩
            case measure => simp [intOf]; omega
          · gi_wp2
            simp only [Exit.noGoto]
            go_end0
            exact ⟨⟨_, rfl⟩, .inr ⟨_, HP.out.1, hJx3⟩⟩
        · have i4 : ¬ (G : Int) < n := by rw [HN.out]; omega
          have hfull : (hopsD N D).take j = hopsD N D := List.take_of_length_le (by rw [hopsD_length]; have := HG.out; omega)
          have HF : Hid (J (hopsK N (e + 1)) wr) := by show J (hopsK N (e + 1)) wr; rw [hopsK, HD.out, ← hfull]; exact hJ2
          clear hfull hJ2
          gi_wp2
          go_roundw
          case rel => exact ⟨e + 1, by have := HD.out; rw [Nat.pow_succ, this]; simp, by have := e_small HD.out hlt hn; omega, fun _ => by simp; have := HD.out; omega, HF.out, hB2⟩
          case measure => have hp : 0 < D := (by rw [← HD.out]; exact Nat.pow_pos (by decide)); simp [intOf]; omega
    · have i2 : ¬ (D : Int) < n := by omega
      gi_wp2
      go_end0
      exact ⟨⟨_, rfl⟩, .inl ⟨_, (hopsK_stop N e 17 HE.out.1 (by have := HD.out; omega)).symm, hJ⟩⟩

theorem hops_stopsV (F : Fence) (m : Nat) (hf : F.fn 38) (hro : F.round = none) (hm : 1 ≤ m) (Bn N : Nat) (hN : N ≤ 65536) (vl : Int × Int → Int × Int) (hvl : ∀ e j : Nat, 2 ^ e + j < N → vl (((2 ^ e + j : Nat) : Int), (j : Int)) = (((2 ^ e + j : Nat) : Int), (j : Int))) (w : World) (hB : Boxed w Bn 3 (.int .i64 (N : Int))) :
    SeqStopsK F m Try.prog 38 #[.pointer (some ⟨Bn, 0, none⟩)] (fun x => hopV (vl x)) (KpB Bn N) (fun ys => ys = hopsL N) (fun pre => pre <+: hopsL N) (hopsL N).length w := fun l J Jx W hW _ _ hY h0 =>
  hops1_inV F m hf hro hm l Bn N hN (N : Int) (by simp) vl hvl J Jx hY W ((hW.block Bn hB.lt).trans hB) h0
end Go.Proofs.Ytlkpgbilepehmaa
