/- Layer network: NetworkSizes, the walk. -/
import Derived.Test.YthjjkfelpdkfpabNWorks
import Derived.Test.YthjjkfelpdkfpabNSize
namespace Go.Proofs.Ythjjkfelpdkfpab
open Go.RowKit
set_option linter.unusedVariables false
set_option linter.unusedSimpArgs false
set_option maxRecDepth 20000 in
set_option maxHeartbeats 2000000 in
theorem sizesLaw (n : Int) (w : World) : Calls Try.prog 4 #[.int .i64 n] w fun e w' => e = .returned (.bool true) ∧ Below w.heap.size w w' := by
  by_cases hr : n < 1 ∨ 65536 < n
  · have hns : ¬ IsSz n := by rintro ⟨L, hL, rfl⟩; have := pow_le16 L hL; omega
    have hp : ∀ w, Calls Try.prog 9 #[.int .i64 n] w fun e w' => e = .returned (.int .i64 0) ∧ w = w' := fun w => by have := pad_any n w; rwa [pad_out n hr] at this
    have hg := gates_no n hns
    have HR : Hid (n < 1 ∨ 65536 < n) := hr
    rcases hr with hr | hr
    · go_enter Try.func4, Try.ntmps4
      go_wp2_with (first
        | (go_at_call 9; refine (hp _).mono ?_; rintro e w1 ⟨rfl, rfl⟩)
        | (go_at_call 10; refine (hg _).mono ?_; rintro e w1 ⟨rfl, rfl⟩)
        | (go_at_call 8; refine (nworks_any _).mono ?_; rintro e w1 ⟨rfl, b1⟩))
      go_ret
      exact ⟨rfl, b1⟩
    · have h2 : ¬ n < 1 := by omega
      go_enter Try.func4, Try.ntmps4
      go_wp2_with (first
        | (go_at_call 9; refine (hp _).mono ?_; rintro e w1 ⟨rfl, rfl⟩)
        | (go_at_call 10; refine (hg _).mono ?_; rintro e w1 ⟨rfl, rfl⟩)
        | (go_at_call 8; refine (nworks_any _).mono ?_; rintro e w1 ⟨rfl, b1⟩))
      go_ret
      exact ⟨rfl, b1⟩
  · obtain ⟨⟨K, hK, hpK⟩, h1, h2⟩ := sz_of_pad n (by omega) (by omega)
    have hp : ∀ w, Calls Try.prog 9 #[.int .i64 n] w fun e w' => e = .returned (.int .i64 (padI n)) ∧ w = w' := fun w => pad_any n w
    have hpp : ∀ w, Calls Try.prog 9 #[.int .i64 (padI n)] w fun e w' => e = .returned (.int .i64 (padI n)) ∧ w = w' := fun w => by
      have := pad_any (padI n) w
      rwa [show padI (padI n) = padI n by rw [hpK, pad_pow K hK]] at this
    have hsp := size_yes (padI n) ⟨K, hK, hpK⟩
    have hgp : ∀ w, Calls Try.prog 10 #[.int .i64 (padI n)] w fun e w' => e = .returned (.int .i64 (gatesI K)) ∧ w = w' := fun w => by rw [hpK]; exact gates_yes K hK w
    have hpow := pow_le16 K hK
    have heq : padI n = n ↔ IsSz n := ⟨fun e => (pad_eq_iff n).1 ⟨by omega, e⟩, fun e => ((pad_eq_iff n).2 e).2⟩
    have HQ : Hid (gatesI K = padI n * (K : Int) * ((K : Int) + 1) / 4) := by show _ = _; rw [hpK]; rfl
    obtain ⟨p, hpp0⟩ : ∃ p, padI n = p := ⟨_, rfl⟩
    rw [hpp0] at hp hpp hsp hgp heq h1 h2 HQ hpK
    obtain ⟨G, hG⟩ : ∃ G, gatesI K = G := ⟨_, rfl⟩
    rw [hG] at hgp HQ
    have HP : Hid (p = ((2 ^ K : Nat) : Int) ∧ K ≤ 16) := ⟨hpK, hK⟩
    have HE : Hid (p = n ↔ IsSz n) := heq
    have i1 : ¬ n < 1 := by omega
    have i2 : ¬ 65536 < n := by omega
    have i3 : ¬ p < n := by omega
    have i4 : ¬ 2 * n ≤ p := by omega
    have i5 : p ≤ 65536 := by omega
    clear hpp0 hG hpow hpK hK heq
    by_cases hsz : IsSz n
    · have hpn : p = n := HE.out.2 hsz
      have hsn := size_yes n hsz
      have hgn : True := trivial
      subst hpn
      go_enter Try.func4, Try.ntmps4
      go_wp2_with (first
        | (go_at_call 9; first | (with_reducible show Calls _ _ #[.int .i64 n] _ _; refine (hp _).mono ?_; rintro e w1 ⟨rfl, rfl⟩) | (refine (hp _).mono ?_; rintro e w1 ⟨rfl, rfl⟩))
        | (go_at_call 11; first | (with_reducible show Calls _ _ #[.int .i64 n] _ _; refine (hsp _).mono ?_; rintro e w1 ⟨rfl, rfl⟩) | (refine (hsp _).mono ?_; rintro e w1 ⟨rfl, rfl⟩))
        | (go_at_call 10; first | (with_reducible show Calls _ _ #[.int .i64 n] _ _; refine (hgp _).mono ?_; rintro e w1 ⟨rfl, rfl⟩) | (refine (hgp _).mono ?_; rintro e w1 ⟨rfl, rfl⟩))
        | (go_at_call 8; refine (nworks_any _).mono ?_; rintro e w1 ⟨rfl, b1⟩))
      go_loopw [4, 5] (fun v4 v5 wr => ∃ k : Nat, k ≤ K ∧ v4 = .int .i64 k ∧ v5 = .int .i64 ((2 ^ k : Nat) : Int) ∧ w = wr) (fun _ v5 _ => (131072 - intOf v5).toNat)
      case atStart => exact ⟨0, Nat.zero_le _, rfl, rfl, rfl⟩
      case round =>
        obtain ⟨k, hk, rfl, rfl, rfl⟩ := hrel
        have hk2 : k ≤ 16 := by have := HP.out.2; omega
        have hb := pow_le16 k hk2
        obtain ⟨s, hs⟩ : ∃ s, 2 ^ k = s := ⟨_, rfl⟩
        rw [hs] at hb ⊢
        have HS : Hid (2 ^ k = s) := hs
        clear hs
        by_cases hlt : k < K
        · have hsp2 : (s : Int) < p := by
            have h1 := HP.out.1
            have h2 : 2 ^ k < 2 ^ K := Nat.pow_lt_pow_right (by decide) hlt
            have h3 := HS.out
            omega
          go_wp2_with (fail)
          go_roundw
          case rel => exact ⟨k + 1, by omega, by go_num, by rw [Nat.pow_succ, HS.out]; go_num, by first | rfl | trivial⟩
          case measure => simp [intOf]; omega
        · obtain rfl : k = K := by omega
          have hse : (s : Int) = p := by have h1 := HP.out.1; have h3 := HS.out; omega
          have hsp2 : ¬ (s : Int) < p := by omega
          subst hse
          clear hlt
          have q1 : 0 ≤ (s : Int) * (k : Int) := by rw [← Int.natCast_mul]; omega
          have q2 : (s : Int) * (k : Int) ≤ 65536 * 16 := by rw [← Int.natCast_mul]; have := Nat.mul_le_mul hb.2 hk2; omega
          obtain ⟨A, hA⟩ : ∃ A, (s : Int) * (k : Int) = A := ⟨_, rfl⟩
          rw [hA] at q1 q2 HQ
          have q3 : 0 ≤ A * ((k : Int) + 1) := Int.mul_nonneg q1 (by omega)
          have q4 : A * ((k : Int) + 1) ≤ 65536 * 16 * 17 := Int.mul_le_mul q2 (by omega) (by omega) (by omega)
          obtain ⟨B, hB⟩ : ∃ B, A * ((k : Int) + 1) = B := ⟨_, rfl⟩
          rw [hB] at q3 q4 HQ
          have e1 : wrap64 A = A := by simp [wrap64]; omega
          have e2 : wrap64 B = B := by simp [wrap64]; omega
          have e3 : B.tdiv 4 = B / 4 := Int.tdiv_eq_ediv_of_nonneg q3
          have e4 : G = B / 4 := HQ.out
          subst e4
          go_wp2_with (first
            | (go_at_call 9; first | (with_reducible show Calls _ _ #[.int .i64 n] _ _; refine (hp _).mono ?_; rintro e w1 ⟨rfl, rfl⟩) | (refine (hp _).mono ?_; rintro e w1 ⟨rfl, rfl⟩))
            | (go_at_call 11; first | (with_reducible show Calls _ _ #[.int .i64 n] _ _; refine (hsp _).mono ?_; rintro e w1 ⟨rfl, rfl⟩) | (refine (hsp _).mono ?_; rintro e w1 ⟨rfl, rfl⟩))
            | (go_at_call 10; first | (with_reducible show Calls _ _ #[.int .i64 n] _ _; refine (hgp _).mono ?_; rintro e w1 ⟨rfl, rfl⟩) | (refine (hgp _).mono ?_; rintro e w1 ⟨rfl, rfl⟩))
            | (go_at_call 8; refine (nworks_any _).mono ?_; rintro e w1 ⟨rfl, b1⟩))
          go_ret
          exact ⟨rfl, b1⟩
    · have hpn : (p == n) = false := by simp; exact fun e => hsz (HE.out.1 e)
      have hpn2 : ¬ p = n := fun e => hsz (HE.out.1 e)
      have hsn := size_no n hsz
      have hgn := gates_no n hsz
      go_enter Try.func4, Try.ntmps4
      go_wp2_with (first
        | (go_at_call 9; first | (with_reducible show Calls _ _ #[.int .i64 n] _ _; refine (hp _).mono ?_; rintro e w1 ⟨rfl, rfl⟩) | (refine (hpp _).mono ?_; rintro e w1 ⟨rfl, rfl⟩))
        | (go_at_call 11; first | (with_reducible show Calls _ _ #[.int .i64 n] _ _; refine (hsn _).mono ?_; rintro e w1 ⟨rfl, rfl⟩) | (refine (hsp _).mono ?_; rintro e w1 ⟨rfl, rfl⟩))
        | (go_at_call 10; first | (with_reducible show Calls _ _ #[.int .i64 n] _ _; refine (hgn _).mono ?_; rintro e w1 ⟨rfl, rfl⟩) | (refine (hgp _).mono ?_; rintro e w1 ⟨rfl, rfl⟩))
        | (go_at_call 8; refine (nworks_any _).mono ?_; rintro e w1 ⟨rfl, b1⟩))
      go_loopw [4, 5] (fun v4 v5 wr => ∃ k : Nat, k ≤ K ∧ v4 = .int .i64 k ∧ v5 = .int .i64 ((2 ^ k : Nat) : Int) ∧ w = wr) (fun _ v5 _ => (131072 - intOf v5).toNat)
      case atStart => exact ⟨0, Nat.zero_le _, rfl, rfl, rfl⟩
      case round =>
        obtain ⟨k, hk, rfl, rfl, rfl⟩ := hrel
        have hk2 : k ≤ 16 := by have := HP.out.2; omega
        have hb := pow_le16 k hk2
        obtain ⟨s, hs⟩ : ∃ s, 2 ^ k = s := ⟨_, rfl⟩
        rw [hs] at hb ⊢
        have HS : Hid (2 ^ k = s) := hs
        clear hs
        by_cases hlt : k < K
        · have hsp2 : (s : Int) < p := by
            have h1 := HP.out.1
            have h2 : 2 ^ k < 2 ^ K := Nat.pow_lt_pow_right (by decide) hlt
            have h3 := HS.out
            omega
          go_wp2_with (fail)
          go_roundw
          case rel => exact ⟨k + 1, by omega, by go_num, by rw [Nat.pow_succ, HS.out]; go_num, by first | rfl | trivial⟩
          case measure => simp [intOf]; omega
        · obtain rfl : k = K := by omega
          have hse : (s : Int) = p := by have h1 := HP.out.1; have h3 := HS.out; omega
          have hsp2 : ¬ (s : Int) < p := by omega
          subst hse
          clear hlt
          have q1 : 0 ≤ (s : Int) * (k : Int) := by rw [← Int.natCast_mul]; omega
          have q2 : (s : Int) * (k : Int) ≤ 65536 * 16 := by rw [← Int.natCast_mul]; have := Nat.mul_le_mul hb.2 hk2; omega
          obtain ⟨A, hA⟩ : ∃ A, (s : Int) * (k : Int) = A := ⟨_, rfl⟩
          rw [hA] at q1 q2 HQ
          have q3 : 0 ≤ A * ((k : Int) + 1) := Int.mul_nonneg q1 (by omega)
          have q4 : A * ((k : Int) + 1) ≤ 65536 * 16 * 17 := Int.mul_le_mul q2 (by omega) (by omega) (by omega)
          obtain ⟨B, hB⟩ : ∃ B, A * ((k : Int) + 1) = B := ⟨_, rfl⟩
          rw [hB] at q3 q4 HQ
          have e1 : wrap64 A = A := by simp [wrap64]; omega
          have e2 : wrap64 B = B := by simp [wrap64]; omega
          have e3 : B.tdiv 4 = B / 4 := Int.tdiv_eq_ediv_of_nonneg q3
          have e4 : G = B / 4 := HQ.out
          subst e4
          go_wp2_with (first
            | (go_at_call 9; first | (with_reducible show Calls _ _ #[.int .i64 n] _ _; refine (hp _).mono ?_; rintro e w1 ⟨rfl, rfl⟩) | (refine (hpp _).mono ?_; rintro e w1 ⟨rfl, rfl⟩))
            | (go_at_call 11; first | (with_reducible show Calls _ _ #[.int .i64 n] _ _; refine (hsn _).mono ?_; rintro e w1 ⟨rfl, rfl⟩) | (refine (hsp _).mono ?_; rintro e w1 ⟨rfl, rfl⟩))
            | (go_at_call 10; first | (with_reducible show Calls _ _ #[.int .i64 n] _ _; refine (hgn _).mono ?_; rintro e w1 ⟨rfl, rfl⟩) | (refine (hgp _).mono ?_; rintro e w1 ⟨rfl, rfl⟩))
            | (go_at_call 8; refine (nworks_any _).mono ?_; rintro e w1 ⟨rfl, b1⟩))
          go_ret
          exact ⟨rfl, b1⟩
end Go.Proofs.Ythjjkfelpdkfpab
