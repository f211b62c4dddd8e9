/- Layer codec: mathematics of pages: how many there are of more, and of greater ones. -/
import Derived.Test.YtmgkjldjeomcmaaDoorCcPages
namespace Go.Proofs.YtmgkjldjeomcmaaDoor
open Go.RowKit
set_option linter.unusedVariables false

theorem pgsN_iff (n e q : Nat) (he : 1 ≤ e) : pgsN n e ≤ q ↔ n ≤ q * e := by
  have hd := Nat.div_add_mod n e
  have hr := Nat.mod_lt n (show e > 0 by omega)
  unfold pgsN
  generalize n / e = d at *
  generalize n % e = r at *
  constructor
  · intro h
    split at h
    · have : e * (d + 1) ≤ e * q := Nat.mul_le_mul_left e h
      rw [Nat.mul_add, Nat.mul_one] at this
      rw [Nat.mul_comm q e]; omega
    · have : e * d ≤ e * q := Nat.mul_le_mul_left e h
      rw [Nat.mul_comm q e]; omega
  · intro h
    rw [Nat.mul_comm q e] at h
    have hdq : d ≤ q := by
      rcases Nat.lt_or_ge q d with h1 | h1
      · have : e * (q + 1) ≤ e * d := Nat.mul_le_mul_left e h1
        rw [Nat.mul_add, Nat.mul_one] at this
        omega
      · exact h1
    split
    · rename_i h2
      rcases Nat.lt_or_ge d q with h3 | h3
      · omega
      · obtain rfl : d = q := by omega
        omega
    · exact hdq
theorem pgsN_mono (n n' e : Nat) (he : 1 ≤ e) (h : n ≤ n') : pgsN n e ≤ pgsN n' e := by
  rw [pgsN_iff n e _ he]
  exact Nat.le_trans h ((pgsN_iff n' e _ he).1 (Nat.le_refl _))
theorem pgsN_anti (n e e' : Nat) (he : 1 ≤ e) (h : e ≤ e') : pgsN n e' ≤ pgsN n e := by
  rw [pgsN_iff n e' _ (by omega)]
  exact Nat.le_trans ((pgsN_iff n e _ he).1 (Nat.le_refl _)) (Nat.mul_le_mul_left _ h)
theorem pgsN_len (n e : Nat) (he : 1 ≤ e) : pgsN n e ≤ n := by
  rw [pgsN_iff n e _ he]
  exact Nat.le_mul_of_pos_right n he
theorem pgsN_pos (n e : Nat) (he : 1 ≤ e) (h : 0 < n) : 0 < pgsN n e := by
  rcases Nat.eq_zero_or_pos (pgsN n e) with h1 | h1
  · have := (pgsN_iff n e 0 he).1 (by omega)
    omega
  · exact h1
theorem pgsN_zero (e : Nat) : pgsN 0 e = 0 := by simp [pgsN]
theorem pdN_zero : pdN 0 = 0 := by decide
theorem pdN_mono (m : Nat) (h0 : 0 < m) (h : m ≤ 65536) : pdN (m - 1) ≤ pdN m := by
  rcases Nat.lt_or_ge 1 m with h1 | h1
  · unfold pdN
    rw [pad_in _ (by omega) (by omega), pad_in _ (by omega) (by omega)]
    have e1 : (((m - 1 : Nat) : Int) - 1).toNat = m - 2 := by omega
    have e2 : ((m : Int) - 1).toNat = m - 1 := by omega
    rw [e1, e2, Int.toNat_natCast, Int.toNat_natCast]
    exact Nat.pow_le_pow_right (by decide) (blen_le _ _ (Nat.lt_of_le_of_lt (by omega) (blen_lt (m - 1))))
  · obtain rfl : m = 1 := by omega
    decide +kernel
/-- A config with pages greater by one. -/
def Cg.up (c : Cg) : Cg := { c with tx := min (c.tx + 1) 4096 }
theorem up_E {c : Cg} {k : Int} (h : szE c k = 0) : szE c.up k = 0 ∧ szR c.up k = szR c k := by
  obtain ⟨h1, h2⟩ := szE_ok h
  have h3 : c.up.ok = true := by
    have hf : (1 ≤ c.bt ∧ c.bt ≤ 256) ∧ (32 ≤ c.ms ∧ c.ms ≤ 512) ∧ (2 ≤ c.bk ∧ c.bk ≤ 64) ∧ (c.least ≤ c.tx ∧ c.tx ≤ 4096) ∧ (2 ≤ c.wi ∧ c.wi ≤ 16) ∧ (1 ≤ c.wk ∧ c.wk ≤ 16) := by
      unfold Cg.ok at h1
      simpa [inB, and_assoc] using h1
    have ht : c.least ≤ min (c.tx + 1) 4096 ∧ min (c.tx + 1) 4096 ≤ 4096 := by omega
    show (inB c.bt 1 256 && inB c.ms 32 512 && inB c.bk 2 64 && inB (min (c.tx + 1) 4096) c.least 4096 && inB c.wi 2 16 && inB c.wk 1 16) = true
    generalize min (c.tx + 1) 4096 = t at ht ⊢
    generalize c.least = l at hf ht ⊢
    simp [inB]
    omega
  constructor
  · unfold szE; rw [if_pos h3, if_pos h2]
  · unfold szR; rw [if_pos h3, if_pos h1]; rfl
theorem pgC_zero (c : Cg) (k : Int) : pgC c k 0 = 0 := by unfold pgC; rw [pdN_zero, pgsN_zero, pgsN_zero]
theorem pgC_facts {c : Cg} {k : Int} (h : szE c k = 0) (m : Nat) (hm : (m : Int) ≤ c.bt) : (pgC c k m = 0 ↔ m = 0) ∧ pgC c k m ≤ 3 * m ∧ (0 < m → pgC c k (m - 1) ≤ pgC c k m) ∧ pgC c.up k m ≤ pgC c k m ∧ m ≤ 256 := by
  have hd := rec_bd h
  have hu := up_E h
  obtain ⟨R, hR⟩ : ∃ R : Nat, szR c k = (R : Int) := ⟨(szR c k).toNat, by omega⟩
  obtain ⟨T, hT⟩ : ∃ T : Nat, c.tx = (T : Int) := ⟨c.tx.toNat, by omega⟩
  have hm2 : m ≤ 256 := by omega
  have e1 : 1 ≤ T / R := Nat.div_pos (by omega) (by omega)
  have e2 : 1 ≤ T / 32 := Nat.div_pos (by omega) (by omega)
  have hv : ∀ x, pgC c k x = pgsN (pdN x) (T / R) + pgsN x (T / 32) := fun x => by unfold pgC; rw [hT, hR, Int.toNat_natCast, Int.toNat_natCast]
  obtain ⟨T', hT', hTT⟩ : ∃ T' : Nat, c.up.tx = (T' : Int) ∧ T ≤ T' := ⟨(min (c.tx + 1) 4096).toNat, by show min (c.tx + 1) 4096 = _; omega, by omega⟩
  have hv' : ∀ x, pgC c.up k x = pgsN (pdN x) (T' / R) + pgsN x (T' / 32) := fun x => by unfold pgC; rw [hT', hu.2, hR, Int.toNat_natCast, Int.toNat_natCast]
  have hp := pdN_le m (by omega)
  refine ⟨⟨fun h0 => ?_, fun h0 => by rw [h0, pgC_zero]⟩, ?_, fun h0 => ?_, ?_, hm2⟩
  · rw [hv] at h0
    rcases Nat.eq_zero_or_pos m with h1 | h1
    · exact h1
    · have := pgsN_pos m _ e2 h1
      omega
  · rw [hv]
    have a := pgsN_len (pdN m) _ e1
    have b := pgsN_len m _ e2
    omega
  · rw [hv, hv]
    have a := pgsN_mono _ _ _ e1 (pdN_mono m h0 (by omega))
    have b := pgsN_mono (m - 1) m _ e2 (by omega)
    omega
  · rw [hv, hv']
    have a := pgsN_anti (pdN m) _ _ e1 (Nat.div_le_div_right (c := R) hTT)
    have b := pgsN_anti m _ _ e2 (Nat.div_le_div_right (c := 32) hTT)
    omega
end Go.Proofs.YtmgkjldjeomcmaaDoor
