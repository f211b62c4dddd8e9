/- Layer field: Of, its mathematics. -/
import Derived.Test.YtnifolefhelmcaaFBytes
namespace Go.Proofs.Ytnifolefhelmcaa
open Go.RowKit
set_option linter.unusedVariables false
set_option linter.unusedSimpArgs false

theorem digs_fe (v : Int) (h : 0 ≤ v) : Fe (digs v) (v % 57896044618658097711785492504343953926634992332820282019728792003956564819968 % PR) := by
  refine Fe.of ⟨by omega, by omega⟩ ⟨by omega, by omega⟩ ⟨by omega, by omega⟩ ⟨by omega, by omega⟩ ⟨by omega, by omega⟩ ?_
  congr 1
  unfold v5
  omega
theorem or64 (s : Nat) (a b : Int) (hs : s ≤ 63) (ha : 0 ≤ a ∧ a < (2 ^ s : Nat)) (hb : 0 ≤ b ∧ b < 18446744073709551616) (hm : b % (2 ^ s : Nat) = 0) : bits .or .u64 a b = a + b := by
  obtain ⟨a, rfl⟩ := Int.eq_ofNat_of_zero_le ha.1
  obtain ⟨b, rfl⟩ := Int.eq_ofNat_of_zero_le hb.1
  have h2 : (2 : Nat) ^ s ≤ 2 ^ 63 := Nat.pow_le_pow_right (by decide) hs
  have h3 := ha.2
  rw [u64_or _ _ (by omega) (by omega) (by omega) (by omega)]
  have h4 : b % 2 ^ s = 0 := by omega
  obtain ⟨c, rfl⟩ := Nat.dvd_of_mod_eq_zero h4
  have h := Nat.shiftLeft_add_eq_or_of_lt (i := s) (b := a) (by omega) c
  rw [Int.toNat_natCast, Int.toNat_natCast, Nat.or_comm, Nat.mul_comm, ← Nat.shiftLeft_eq, ← h]
  simp [Nat.shiftLeft_eq, Int.add_comm]
theorem or64_zero (b : Int) (hb : 0 ≤ b ∧ b < 18446744073709551616) : bits .or .u64 0 b = b := by
  rw [u64_or _ _ (by decide) (by decide) hb.1 hb.2]
  simp; omega
theorem dig_lt (V c z : Int) (hc : c ≠ 0) : (V + c * (2251799813685248 * z)) / c % 2251799813685248 = V / c % 2251799813685248 := by
  rw [Int.add_mul_ediv_left _ _ hc, Int.add_mul_emod_self_left]
theorem dig_q (V c z : Int) (hc : c ≠ 0) : (V + c * z) / c = V / c + z := Int.add_mul_ediv_left _ _ hc
theorem dig_gt (V c m n : Int) (hc : 0 ≤ c) (h : c * m = n) : V / n = V / c / m := by rw [← h, Int.ediv_ediv_of_nonneg hc]
theorem of_one0 (V o : Int) (q f : Nat) (hV : 0 ≤ V ∧ V < 256 ^ 0) (ho : 0 ≤ o ∧ o < 256) (hq : 8 * 0 / 51 = q) (hf : 8 * 0 % 51 = f) (hA : f ≤ 43 ∨ q = 4) :
    (0 ≤ o * 2 ^ f ∧ o * 2 ^ f < 18446744073709551616) ∧ (0 ≤ (digs V).getD q 0 ∧ (digs V).getD q 0 < (2 ^ f : Nat)) ∧ (o * 2 ^ f % 2251799813685248) % (2 ^ f : Nat) = 0 ∧ (digs V).set q ((digs V).getD q 0 + o * 2 ^ f % 2251799813685248) = digs (V + 256 ^ 0 * o) := by
  obtain rfl : q = 0 := by omega
  obtain rfl : f = 0 := by omega
  clear hA hq hf
  simp only [digs, List.getD_cons_zero, List.getD_cons_succ, List.set_cons_zero, List.set_cons_succ, Int.reducePow, Nat.reducePow] at hV ⊢
  refine ⟨by omega, by omega, by omega, List.cons_eq_cons.2 ⟨by omega, List.cons_eq_cons.2 ⟨by omega, List.cons_eq_cons.2 ⟨by omega, List.cons_eq_cons.2 ⟨by omega, List.cons_eq_cons.2 ⟨by omega, rfl⟩⟩⟩⟩⟩⟩
theorem of_one1 (V o : Int) (q f : Nat) (hV : 0 ≤ V ∧ V < 256 ^ 1) (ho : 0 ≤ o ∧ o < 256) (hq : 8 * 1 / 51 = q) (hf : 8 * 1 % 51 = f) (hA : f ≤ 43 ∨ q = 4) :
    (0 ≤ o * 2 ^ f ∧ o * 2 ^ f < 18446744073709551616) ∧ (0 ≤ (digs V).getD q 0 ∧ (digs V).getD q 0 < (2 ^ f : Nat)) ∧ (o * 2 ^ f % 2251799813685248) % (2 ^ f : Nat) = 0 ∧ (digs V).set q ((digs V).getD q 0 + o * 2 ^ f % 2251799813685248) = digs (V + 256 ^ 1 * o) := by
  obtain rfl : q = 0 := by omega
  obtain rfl : f = 8 := by omega
  clear hA hq hf
  simp only [digs, List.getD_cons_zero, List.getD_cons_succ, List.set_cons_zero, List.set_cons_succ, Int.reducePow, Nat.reducePow] at hV ⊢
  refine ⟨by omega, by omega, by omega, List.cons_eq_cons.2 ⟨by omega, List.cons_eq_cons.2 ⟨by omega, List.cons_eq_cons.2 ⟨by omega, List.cons_eq_cons.2 ⟨by omega, List.cons_eq_cons.2 ⟨by omega, rfl⟩⟩⟩⟩⟩⟩
theorem of_one2 (V o : Int) (q f : Nat) (hV : 0 ≤ V ∧ V < 256 ^ 2) (ho : 0 ≤ o ∧ o < 256) (hq : 8 * 2 / 51 = q) (hf : 8 * 2 % 51 = f) (hA : f ≤ 43 ∨ q = 4) :
    (0 ≤ o * 2 ^ f ∧ o * 2 ^ f < 18446744073709551616) ∧ (0 ≤ (digs V).getD q 0 ∧ (digs V).getD q 0 < (2 ^ f : Nat)) ∧ (o * 2 ^ f % 2251799813685248) % (2 ^ f : Nat) = 0 ∧ (digs V).set q ((digs V).getD q 0 + o * 2 ^ f % 2251799813685248) = digs (V + 256 ^ 2 * o) := by
  obtain rfl : q = 0 := by omega
  obtain rfl : f = 16 := by omega
  clear hA hq hf
  simp only [digs, List.getD_cons_zero, List.getD_cons_succ, List.set_cons_zero, List.set_cons_succ, Int.reducePow, Nat.reducePow] at hV ⊢
  refine ⟨by omega, by omega, by omega, List.cons_eq_cons.2 ⟨by omega, List.cons_eq_cons.2 ⟨by omega, List.cons_eq_cons.2 ⟨by omega, List.cons_eq_cons.2 ⟨by omega, List.cons_eq_cons.2 ⟨by omega, rfl⟩⟩⟩⟩⟩⟩
theorem of_one3 (V o : Int) (q f : Nat) (hV : 0 ≤ V ∧ V < 256 ^ 3) (ho : 0 ≤ o ∧ o < 256) (hq : 8 * 3 / 51 = q) (hf : 8 * 3 % 51 = f) (hA : f ≤ 43 ∨ q = 4) :
    (0 ≤ o * 2 ^ f ∧ o * 2 ^ f < 18446744073709551616) ∧ (0 ≤ (digs V).getD q 0 ∧ (digs V).getD q 0 < (2 ^ f : Nat)) ∧ (o * 2 ^ f % 2251799813685248) % (2 ^ f : Nat) = 0 ∧ (digs V).set q ((digs V).getD q 0 + o * 2 ^ f % 2251799813685248) = digs (V + 256 ^ 3 * o) := by
  obtain rfl : q = 0 := by omega
  obtain rfl : f = 24 := by omega
  clear hA hq hf
  simp only [digs, List.getD_cons_zero, List.getD_cons_succ, List.set_cons_zero, List.set_cons_succ, Int.reducePow, Nat.reducePow] at hV ⊢
  refine ⟨by omega, by omega, by omega, List.cons_eq_cons.2 ⟨by omega, List.cons_eq_cons.2 ⟨by omega, List.cons_eq_cons.2 ⟨by omega, List.cons_eq_cons.2 ⟨by omega, List.cons_eq_cons.2 ⟨by omega, rfl⟩⟩⟩⟩⟩⟩
theorem of_one4 (V o : Int) (q f : Nat) (hV : 0 ≤ V ∧ V < 256 ^ 4) (ho : 0 ≤ o ∧ o < 256) (hq : 8 * 4 / 51 = q) (hf : 8 * 4 % 51 = f) (hA : f ≤ 43 ∨ q = 4) :
    (0 ≤ o * 2 ^ f ∧ o * 2 ^ f < 18446744073709551616) ∧ (0 ≤ (digs V).getD q 0 ∧ (digs V).getD q 0 < (2 ^ f : Nat)) ∧ (o * 2 ^ f % 2251799813685248) % (2 ^ f : Nat) = 0 ∧ (digs V).set q ((digs V).getD q 0 + o * 2 ^ f % 2251799813685248) = digs (V + 256 ^ 4 * o) := by
  obtain rfl : q = 0 := by omega
  obtain rfl : f = 32 := by omega
  clear hA hq hf
  simp only [digs, List.getD_cons_zero, List.getD_cons_succ, List.set_cons_zero, List.set_cons_succ, Int.reducePow, Nat.reducePow] at hV ⊢
  refine ⟨by omega, by omega, by omega, List.cons_eq_cons.2 ⟨by omega, List.cons_eq_cons.2 ⟨by omega, List.cons_eq_cons.2 ⟨by omega, List.cons_eq_cons.2 ⟨by omega, List.cons_eq_cons.2 ⟨by omega, rfl⟩⟩⟩⟩⟩⟩
theorem of_one5 (V o : Int) (q f : Nat) (hV : 0 ≤ V ∧ V < 256 ^ 5) (ho : 0 ≤ o ∧ o < 256) (hq : 8 * 5 / 51 = q) (hf : 8 * 5 % 51 = f) (hA : f ≤ 43 ∨ q = 4) :
    (0 ≤ o * 2 ^ f ∧ o * 2 ^ f < 18446744073709551616) ∧ (0 ≤ (digs V).getD q 0 ∧ (digs V).getD q 0 < (2 ^ f : Nat)) ∧ (o * 2 ^ f % 2251799813685248) % (2 ^ f : Nat) = 0 ∧ (digs V).set q ((digs V).getD q 0 + o * 2 ^ f % 2251799813685248) = digs (V + 256 ^ 5 * o) := by
  obtain rfl : q = 0 := by omega
  obtain rfl : f = 40 := by omega
  clear hA hq hf
  simp only [digs, List.getD_cons_zero, List.getD_cons_succ, List.set_cons_zero, List.set_cons_succ, Int.reducePow, Nat.reducePow] at hV ⊢
  refine ⟨by omega, by omega, by omega, List.cons_eq_cons.2 ⟨by omega, List.cons_eq_cons.2 ⟨by omega, List.cons_eq_cons.2 ⟨by omega, List.cons_eq_cons.2 ⟨by omega, List.cons_eq_cons.2 ⟨by omega, rfl⟩⟩⟩⟩⟩⟩
theorem of_one7 (V o : Int) (q f : Nat) (hV : 0 ≤ V ∧ V < 256 ^ 7) (ho : 0 ≤ o ∧ o < 256) (hq : 8 * 7 / 51 = q) (hf : 8 * 7 % 51 = f) (hA : f ≤ 43 ∨ q = 4) :
    (0 ≤ o * 2 ^ f ∧ o * 2 ^ f < 18446744073709551616) ∧ (0 ≤ (digs V).getD q 0 ∧ (digs V).getD q 0 < (2 ^ f : Nat)) ∧ (o * 2 ^ f % 2251799813685248) % (2 ^ f : Nat) = 0 ∧ (digs V).set q ((digs V).getD q 0 + o * 2 ^ f % 2251799813685248) = digs (V + 256 ^ 7 * o) := by
  obtain rfl : q = 1 := by omega
  obtain rfl : f = 5 := by omega
  clear hA hq hf
  simp only [digs, List.getD_cons_zero, List.getD_cons_succ, List.set_cons_zero, List.set_cons_succ, Int.reducePow, Nat.reducePow] at hV ⊢
  have e0 : (V + 72057594037927936 * o) % 2251799813685248 = V % 2251799813685248 := by rw [show 72057594037927936 * o = 2251799813685248 * (32 * o) by omega]; exact Int.add_mul_emod_self_left ..
  have eq : (V + 72057594037927936 * o) / 2251799813685248 = V / 2251799813685248 + 32 * o := by rw [show 72057594037927936 * o = 2251799813685248 * (32 * o) by omega]; exact dig_q _ _ _ (by decide)
  have hD : 0 ≤ V / 2251799813685248 ∧ V / 2251799813685248 < 32 := by omega
  have g2 : V / 5070602400912917605986812821504 = V / 2251799813685248 / 2251799813685248 := dig_gt _ _ _ _ (by decide) (by decide)
  have h2 : (V + 72057594037927936 * o) / 5070602400912917605986812821504 = (V / 2251799813685248 + 32 * o) / 2251799813685248 := by rw [← eq]; exact dig_gt _ _ _ _ (by decide) (by decide)
  have g3 : V / 11417981541647679048466287755595961091061972992 = V / 2251799813685248 / 5070602400912917605986812821504 := dig_gt _ _ _ _ (by decide) (by decide)
  have h3 : (V + 72057594037927936 * o) / 11417981541647679048466287755595961091061972992 = (V / 2251799813685248 + 32 * o) / 5070602400912917605986812821504 := by rw [← eq]; exact dig_gt _ _ _ _ (by decide) (by decide)
  have g4 : V / 25711008708143844408671393477458601640355247900524685364822016 = V / 2251799813685248 / 11417981541647679048466287755595961091061972992 := dig_gt _ _ _ _ (by decide) (by decide)
  have h4 : (V + 72057594037927936 * o) / 25711008708143844408671393477458601640355247900524685364822016 = (V / 2251799813685248 + 32 * o) / 11417981541647679048466287755595961091061972992 := by rw [← eq]; exact dig_gt _ _ _ _ (by decide) (by decide)
  rw [e0, eq, h2, h3, h4, g2, g3, g4]
  generalize V / 2251799813685248 = D at *
  clear e0 eq g2 g3 g4 h2 h3 h4 hV
  refine ⟨by omega, by omega, by omega, List.cons_eq_cons.2 ⟨rfl, List.cons_eq_cons.2 ⟨by omega, List.cons_eq_cons.2 ⟨by omega, List.cons_eq_cons.2 ⟨by omega, List.cons_eq_cons.2 ⟨by omega, rfl⟩⟩⟩⟩⟩⟩
theorem of_one8 (V o : Int) (q f : Nat) (hV : 0 ≤ V ∧ V < 256 ^ 8) (ho : 0 ≤ o ∧ o < 256) (hq : 8 * 8 / 51 = q) (hf : 8 * 8 % 51 = f) (hA : f ≤ 43 ∨ q = 4) :
    (0 ≤ o * 2 ^ f ∧ o * 2 ^ f < 18446744073709551616) ∧ (0 ≤ (digs V).getD q 0 ∧ (digs V).getD q 0 < (2 ^ f : Nat)) ∧ (o * 2 ^ f % 2251799813685248) % (2 ^ f : Nat) = 0 ∧ (digs V).set q ((digs V).getD q 0 + o * 2 ^ f % 2251799813685248) = digs (V + 256 ^ 8 * o) := by
  obtain rfl : q = 1 := by omega
  obtain rfl : f = 13 := by omega
  clear hA hq hf
  simp only [digs, List.getD_cons_zero, List.getD_cons_succ, List.set_cons_zero, List.set_cons_succ, Int.reducePow, Nat.reducePow] at hV ⊢
  have e0 : (V + 18446744073709551616 * o) % 2251799813685248 = V % 2251799813685248 := by rw [show 18446744073709551616 * o = 2251799813685248 * (8192 * o) by omega]; exact Int.add_mul_emod_self_left ..
  have eq : (V + 18446744073709551616 * o) / 2251799813685248 = V / 2251799813685248 + 8192 * o := by rw [show 18446744073709551616 * o = 2251799813685248 * (8192 * o) by omega]; exact dig_q _ _ _ (by decide)
  have hD : 0 ≤ V / 2251799813685248 ∧ V / 2251799813685248 < 8192 := by omega
  have g2 : V / 5070602400912917605986812821504 = V / 2251799813685248 / 2251799813685248 := dig_gt _ _ _ _ (by decide) (by decide)
  have h2 : (V + 18446744073709551616 * o) / 5070602400912917605986812821504 = (V / 2251799813685248 + 8192 * o) / 2251799813685248 := by rw [← eq]; exact dig_gt _ _ _ _ (by decide) (by decide)
  have g3 : V / 11417981541647679048466287755595961091061972992 = V / 2251799813685248 / 5070602400912917605986812821504 := dig_gt _ _ _ _ (by decide) (by decide)
  have h3 : (V + 18446744073709551616 * o) / 11417981541647679048466287755595961091061972992 = (V / 2251799813685248 + 8192 * o) / 5070602400912917605986812821504 := by rw [← eq]; exact dig_gt _ _ _ _ (by decide) (by decide)
  have g4 : V / 25711008708143844408671393477458601640355247900524685364822016 = V / 2251799813685248 / 11417981541647679048466287755595961091061972992 := dig_gt _ _ _ _ (by decide) (by decide)
  have h4 : (V + 18446744073709551616 * o) / 25711008708143844408671393477458601640355247900524685364822016 = (V / 2251799813685248 + 8192 * o) / 11417981541647679048466287755595961091061972992 := by rw [← eq]; exact dig_gt _ _ _ _ (by decide) (by decide)
  rw [e0, eq, h2, h3, h4, g2, g3, g4]
  generalize V / 2251799813685248 = D at *
  clear e0 eq g2 g3 g4 h2 h3 h4 hV
  refine ⟨by omega, by omega, by omega, List.cons_eq_cons.2 ⟨rfl, List.cons_eq_cons.2 ⟨by omega, List.cons_eq_cons.2 ⟨by omega, List.cons_eq_cons.2 ⟨by omega, List.cons_eq_cons.2 ⟨by omega, rfl⟩⟩⟩⟩⟩⟩
theorem of_one9 (V o : Int) (q f : Nat) (hV : 0 ≤ V ∧ V < 256 ^ 9) (ho : 0 ≤ o ∧ o < 256) (hq : 8 * 9 / 51 = q) (hf : 8 * 9 % 51 = f) (hA : f ≤ 43 ∨ q = 4) :
    (0 ≤ o * 2 ^ f ∧ o * 2 ^ f < 18446744073709551616) ∧ (0 ≤ (digs V).getD q 0 ∧ (digs V).getD q 0 < (2 ^ f : Nat)) ∧ (o * 2 ^ f % 2251799813685248) % (2 ^ f : Nat) = 0 ∧ (digs V).set q ((digs V).getD q 0 + o * 2 ^ f % 2251799813685248) = digs (V + 256 ^ 9 * o) := by
  obtain rfl : q = 1 := by omega
  obtain rfl : f = 21 := by omega
  clear hA hq hf
  simp only [digs, List.getD_cons_zero, List.getD_cons_succ, List.set_cons_zero, List.set_cons_succ, Int.reducePow, Nat.reducePow] at hV ⊢
  have e0 : (V + 4722366482869645213696 * o) % 2251799813685248 = V % 2251799813685248 := by rw [show 4722366482869645213696 * o = 2251799813685248 * (2097152 * o) by omega]; exact Int.add_mul_emod_self_left ..
  have eq : (V + 4722366482869645213696 * o) / 2251799813685248 = V / 2251799813685248 + 2097152 * o := by rw [show 4722366482869645213696 * o = 2251799813685248 * (2097152 * o) by omega]; exact dig_q _ _ _ (by decide)
  have hD : 0 ≤ V / 2251799813685248 ∧ V / 2251799813685248 < 2097152 := by omega
  have g2 : V / 5070602400912917605986812821504 = V / 2251799813685248 / 2251799813685248 := dig_gt _ _ _ _ (by decide) (by decide)
  have h2 : (V + 4722366482869645213696 * o) / 5070602400912917605986812821504 = (V / 2251799813685248 + 2097152 * o) / 2251799813685248 := by rw [← eq]; exact dig_gt _ _ _ _ (by decide) (by decide)
  have g3 : V / 11417981541647679048466287755595961091061972992 = V / 2251799813685248 / 5070602400912917605986812821504 := dig_gt _ _ _ _ (by decide) (by decide)
  have h3 : (V + 4722366482869645213696 * o) / 11417981541647679048466287755595961091061972992 = (V / 2251799813685248 + 2097152 * o) / 5070602400912917605986812821504 := by rw [← eq]; exact dig_gt _ _ _ _ (by decide) (by decide)
  have g4 : V / 25711008708143844408671393477458601640355247900524685364822016 = V / 2251799813685248 / 11417981541647679048466287755595961091061972992 := dig_gt _ _ _ _ (by decide) (by decide)
  have h4 : (V + 4722366482869645213696 * o) / 25711008708143844408671393477458601640355247900524685364822016 = (V / 2251799813685248 + 2097152 * o) / 11417981541647679048466287755595961091061972992 := by rw [← eq]; exact dig_gt _ _ _ _ (by decide) (by decide)
  rw [e0, eq, h2, h3, h4, g2, g3, g4]
  generalize V / 2251799813685248 = D at *
  clear e0 eq g2 g3 g4 h2 h3 h4 hV
  refine ⟨by omega, by omega, by omega, List.cons_eq_cons.2 ⟨rfl, List.cons_eq_cons.2 ⟨by omega, List.cons_eq_cons.2 ⟨by omega, List.cons_eq_cons.2 ⟨by omega, List.cons_eq_cons.2 ⟨by omega, rfl⟩⟩⟩⟩⟩⟩
theorem of_one10 (V o : Int) (q f : Nat) (hV : 0 ≤ V ∧ V < 256 ^ 10) (ho : 0 ≤ o ∧ o < 256) (hq : 8 * 10 / 51 = q) (hf : 8 * 10 % 51 = f) (hA : f ≤ 43 ∨ q = 4) :
    (0 ≤ o * 2 ^ f ∧ o * 2 ^ f < 18446744073709551616) ∧ (0 ≤ (digs V).getD q 0 ∧ (digs V).getD q 0 < (2 ^ f : Nat)) ∧ (o * 2 ^ f % 2251799813685248) % (2 ^ f : Nat) = 0 ∧ (digs V).set q ((digs V).getD q 0 + o * 2 ^ f % 2251799813685248) = digs (V + 256 ^ 10 * o) := by
  obtain rfl : q = 1 := by omega
  obtain rfl : f = 29 := by omega
  clear hA hq hf
  simp only [digs, List.getD_cons_zero, List.getD_cons_succ, List.set_cons_zero, List.set_cons_succ, Int.reducePow, Nat.reducePow] at hV ⊢
  have e0 : (V + 1208925819614629174706176 * o) % 2251799813685248 = V % 2251799813685248 := by rw [show 1208925819614629174706176 * o = 2251799813685248 * (536870912 * o) by omega]; exact Int.add_mul_emod_self_left ..
  have eq : (V + 1208925819614629174706176 * o) / 2251799813685248 = V / 2251799813685248 + 536870912 * o := by rw [show 1208925819614629174706176 * o = 2251799813685248 * (536870912 * o) by omega]; exact dig_q _ _ _ (by decide)
  have hD : 0 ≤ V / 2251799813685248 ∧ V / 2251799813685248 < 536870912 := by omega
  have g2 : V / 5070602400912917605986812821504 = V / 2251799813685248 / 2251799813685248 := dig_gt _ _ _ _ (by decide) (by decide)
  have h2 : (V + 1208925819614629174706176 * o) / 5070602400912917605986812821504 = (V / 2251799813685248 + 536870912 * o) / 2251799813685248 := by rw [← eq]; exact dig_gt _ _ _ _ (by decide) (by decide)
  have g3 : V / 11417981541647679048466287755595961091061972992 = V / 2251799813685248 / 5070602400912917605986812821504 := dig_gt _ _ _ _ (by decide) (by decide)
  have h3 : (V + 1208925819614629174706176 * o) / 11417981541647679048466287755595961091061972992 = (V / 2251799813685248 + 536870912 * o) / 5070602400912917605986812821504 := by rw [← eq]; exact dig_gt _ _ _ _ (by decide) (by decide)
  have g4 : V / 25711008708143844408671393477458601640355247900524685364822016 = V / 2251799813685248 / 11417981541647679048466287755595961091061972992 := dig_gt _ _ _ _ (by decide) (by decide)
  have h4 : (V + 1208925819614629174706176 * o) / 25711008708143844408671393477458601640355247900524685364822016 = (V / 2251799813685248 + 536870912 * o) / 11417981541647679048466287755595961091061972992 := by rw [← eq]; exact dig_gt _ _ _ _ (by decide) (by decide)
  rw [e0, eq, h2, h3, h4, g2, g3, g4]
  generalize V / 2251799813685248 = D at *
  clear e0 eq g2 g3 g4 h2 h3 h4 hV
  refine ⟨by omega, by omega, by omega, List.cons_eq_cons.2 ⟨rfl, List.cons_eq_cons.2 ⟨by omega, List.cons_eq_cons.2 ⟨by omega, List.cons_eq_cons.2 ⟨by omega, List.cons_eq_cons.2 ⟨by omega, rfl⟩⟩⟩⟩⟩⟩
theorem of_one11 (V o : Int) (q f : Nat) (hV : 0 ≤ V ∧ V < 256 ^ 11) (ho : 0 ≤ o ∧ o < 256) (hq : 8 * 11 / 51 = q) (hf : 8 * 11 % 51 = f) (hA : f ≤ 43 ∨ q = 4) :
    (0 ≤ o * 2 ^ f ∧ o * 2 ^ f < 18446744073709551616) ∧ (0 ≤ (digs V).getD q 0 ∧ (digs V).getD q 0 < (2 ^ f : Nat)) ∧ (o * 2 ^ f % 2251799813685248) % (2 ^ f : Nat) = 0 ∧ (digs V).set q ((digs V).getD q 0 + o * 2 ^ f % 2251799813685248) = digs (V + 256 ^ 11 * o) := by
  obtain rfl : q = 1 := by omega
  obtain rfl : f = 37 := by omega
  clear hA hq hf
  simp only [digs, List.getD_cons_zero, List.getD_cons_succ, List.set_cons_zero, List.set_cons_succ, Int.reducePow, Nat.reducePow] at hV ⊢
  have e0 : (V + 309485009821345068724781056 * o) % 2251799813685248 = V % 2251799813685248 := by rw [show 309485009821345068724781056 * o = 2251799813685248 * (137438953472 * o) by omega]; exact Int.add_mul_emod_self_left ..
  have eq : (V + 309485009821345068724781056 * o) / 2251799813685248 = V / 2251799813685248 + 137438953472 * o := by rw [show 309485009821345068724781056 * o = 2251799813685248 * (137438953472 * o) by omega]; exact dig_q _ _ _ (by decide)
  have hD : 0 ≤ V / 2251799813685248 ∧ V / 2251799813685248 < 137438953472 := by omega
  have g2 : V / 5070602400912917605986812821504 = V / 2251799813685248 / 2251799813685248 := dig_gt _ _ _ _ (by decide) (by decide)
  have h2 : (V + 309485009821345068724781056 * o) / 5070602400912917605986812821504 = (V / 2251799813685248 + 137438953472 * o) / 2251799813685248 := by rw [← eq]; exact dig_gt _ _ _ _ (by decide) (by decide)
  have g3 : V / 11417981541647679048466287755595961091061972992 = V / 2251799813685248 / 5070602400912917605986812821504 := dig_gt _ _ _ _ (by decide) (by decide)
  have h3 : (V + 309485009821345068724781056 * o) / 11417981541647679048466287755595961091061972992 = (V / 2251799813685248 + 137438953472 * o) / 5070602400912917605986812821504 := by rw [← eq]; exact dig_gt _ _ _ _ (by decide) (by decide)
  have g4 : V / 25711008708143844408671393477458601640355247900524685364822016 = V / 2251799813685248 / 11417981541647679048466287755595961091061972992 := dig_gt _ _ _ _ (by decide) (by decide)
  have h4 : (V + 309485009821345068724781056 * o) / 25711008708143844408671393477458601640355247900524685364822016 = (V / 2251799813685248 + 137438953472 * o) / 11417981541647679048466287755595961091061972992 := by rw [← eq]; exact dig_gt _ _ _ _ (by decide) (by decide)
  rw [e0, eq, h2, h3, h4, g2, g3, g4]
  generalize V / 2251799813685248 = D at *
  clear e0 eq g2 g3 g4 h2 h3 h4 hV
  refine ⟨by omega, by omega, by omega, List.cons_eq_cons.2 ⟨rfl, List.cons_eq_cons.2 ⟨by omega, List.cons_eq_cons.2 ⟨by omega, List.cons_eq_cons.2 ⟨by omega, List.cons_eq_cons.2 ⟨by omega, rfl⟩⟩⟩⟩⟩⟩
theorem of_one13 (V o : Int) (q f : Nat) (hV : 0 ≤ V ∧ V < 256 ^ 13) (ho : 0 ≤ o ∧ o < 256) (hq : 8 * 13 / 51 = q) (hf : 8 * 13 % 51 = f) (hA : f ≤ 43 ∨ q = 4) :
    (0 ≤ o * 2 ^ f ∧ o * 2 ^ f < 18446744073709551616) ∧ (0 ≤ (digs V).getD q 0 ∧ (digs V).getD q 0 < (2 ^ f : Nat)) ∧ (o * 2 ^ f % 2251799813685248) % (2 ^ f : Nat) = 0 ∧ (digs V).set q ((digs V).getD q 0 + o * 2 ^ f % 2251799813685248) = digs (V + 256 ^ 13 * o) := by
  obtain rfl : q = 2 := by omega
  obtain rfl : f = 2 := by omega
  clear hA hq hf
  simp only [digs, List.getD_cons_zero, List.getD_cons_succ, List.set_cons_zero, List.set_cons_succ, Int.reducePow, Nat.reducePow] at hV ⊢
  have e0 : (V + 20282409603651670423947251286016 * o) % 2251799813685248 = V % 2251799813685248 := by rw [show 20282409603651670423947251286016 * o = 2251799813685248 * (9007199254740992 * o) by omega]; exact Int.add_mul_emod_self_left ..
  have e1 : (V + 20282409603651670423947251286016 * o) / 2251799813685248 % 2251799813685248 = V / 2251799813685248 % 2251799813685248 := by rw [show 20282409603651670423947251286016 * o = 2251799813685248 * (2251799813685248 * (4 * o)) by omega]; exact dig_lt _ _ _ (by decide)
  have eq : (V + 20282409603651670423947251286016 * o) / 5070602400912917605986812821504 = V / 5070602400912917605986812821504 + 4 * o := by rw [show 20282409603651670423947251286016 * o = 5070602400912917605986812821504 * (4 * o) by omega]; exact dig_q _ _ _ (by decide)
  have hD : 0 ≤ V / 5070602400912917605986812821504 ∧ V / 5070602400912917605986812821504 < 4 := by omega
  have g3 : V / 11417981541647679048466287755595961091061972992 = V / 5070602400912917605986812821504 / 2251799813685248 := dig_gt _ _ _ _ (by decide) (by decide)
  have h3 : (V + 20282409603651670423947251286016 * o) / 11417981541647679048466287755595961091061972992 = (V / 5070602400912917605986812821504 + 4 * o) / 2251799813685248 := by rw [← eq]; exact dig_gt _ _ _ _ (by decide) (by decide)
  have g4 : V / 25711008708143844408671393477458601640355247900524685364822016 = V / 5070602400912917605986812821504 / 5070602400912917605986812821504 := dig_gt _ _ _ _ (by decide) (by decide)
  have h4 : (V + 20282409603651670423947251286016 * o) / 25711008708143844408671393477458601640355247900524685364822016 = (V / 5070602400912917605986812821504 + 4 * o) / 5070602400912917605986812821504 := by rw [← eq]; exact dig_gt _ _ _ _ (by decide) (by decide)
  rw [e0, e1, eq, h3, h4, g3, g4]
  generalize V / 5070602400912917605986812821504 = D at *
  clear e0 e1 eq g3 g4 h3 h4 hV
  refine ⟨by omega, by omega, by omega, List.cons_eq_cons.2 ⟨rfl, List.cons_eq_cons.2 ⟨rfl, List.cons_eq_cons.2 ⟨by omega, List.cons_eq_cons.2 ⟨by omega, List.cons_eq_cons.2 ⟨by omega, rfl⟩⟩⟩⟩⟩⟩
theorem of_one14 (V o : Int) (q f : Nat) (hV : 0 ≤ V ∧ V < 256 ^ 14) (ho : 0 ≤ o ∧ o < 256) (hq : 8 * 14 / 51 = q) (hf : 8 * 14 % 51 = f) (hA : f ≤ 43 ∨ q = 4) :
    (0 ≤ o * 2 ^ f ∧ o * 2 ^ f < 18446744073709551616) ∧ (0 ≤ (digs V).getD q 0 ∧ (digs V).getD q 0 < (2 ^ f : Nat)) ∧ (o * 2 ^ f % 2251799813685248) % (2 ^ f : Nat) = 0 ∧ (digs V).set q ((digs V).getD q 0 + o * 2 ^ f % 2251799813685248) = digs (V + 256 ^ 14 * o) := by
  obtain rfl : q = 2 := by omega
  obtain rfl : f = 10 := by omega
  clear hA hq hf
  simp only [digs, List.getD_cons_zero, List.getD_cons_succ, List.set_cons_zero, List.set_cons_succ, Int.reducePow, Nat.reducePow] at hV ⊢
  have e0 : (V + 5192296858534827628530496329220096 * o) % 2251799813685248 = V % 2251799813685248 := by rw [show 5192296858534827628530496329220096 * o = 2251799813685248 * (2305843009213693952 * o) by omega]; exact Int.add_mul_emod_self_left ..
  have e1 : (V + 5192296858534827628530496329220096 * o) / 2251799813685248 % 2251799813685248 = V / 2251799813685248 % 2251799813685248 := by rw [show 5192296858534827628530496329220096 * o = 2251799813685248 * (2251799813685248 * (1024 * o)) by omega]; exact dig_lt _ _ _ (by decide)
  have eq : (V + 5192296858534827628530496329220096 * o) / 5070602400912917605986812821504 = V / 5070602400912917605986812821504 + 1024 * o := by rw [show 5192296858534827628530496329220096 * o = 5070602400912917605986812821504 * (1024 * o) by omega]; exact dig_q _ _ _ (by decide)
  have hD : 0 ≤ V / 5070602400912917605986812821504 ∧ V / 5070602400912917605986812821504 < 1024 := by omega
  have g3 : V / 11417981541647679048466287755595961091061972992 = V / 5070602400912917605986812821504 / 2251799813685248 := dig_gt _ _ _ _ (by decide) (by decide)
  have h3 : (V + 5192296858534827628530496329220096 * o) / 11417981541647679048466287755595961091061972992 = (V / 5070602400912917605986812821504 + 1024 * o) / 2251799813685248 := by rw [← eq]; exact dig_gt _ _ _ _ (by decide) (by decide)
  have g4 : V / 25711008708143844408671393477458601640355247900524685364822016 = V / 5070602400912917605986812821504 / 5070602400912917605986812821504 := dig_gt _ _ _ _ (by decide) (by decide)
  have h4 : (V + 5192296858534827628530496329220096 * o) / 25711008708143844408671393477458601640355247900524685364822016 = (V / 5070602400912917605986812821504 + 1024 * o) / 5070602400912917605986812821504 := by rw [← eq]; exact dig_gt _ _ _ _ (by decide) (by decide)
  rw [e0, e1, eq, h3, h4, g3, g4]
  generalize V / 5070602400912917605986812821504 = D at *
  clear e0 e1 eq g3 g4 h3 h4 hV
  refine ⟨by omega, by omega, by omega, List.cons_eq_cons.2 ⟨rfl, List.cons_eq_cons.2 ⟨rfl, List.cons_eq_cons.2 ⟨by omega, List.cons_eq_cons.2 ⟨by omega, List.cons_eq_cons.2 ⟨by omega, rfl⟩⟩⟩⟩⟩⟩
theorem of_one15 (V o : Int) (q f : Nat) (hV : 0 ≤ V ∧ V < 256 ^ 15) (ho : 0 ≤ o ∧ o < 256) (hq : 8 * 15 / 51 = q) (hf : 8 * 15 % 51 = f) (hA : f ≤ 43 ∨ q = 4) :
    (0 ≤ o * 2 ^ f ∧ o * 2 ^ f < 18446744073709551616) ∧ (0 ≤ (digs V).getD q 0 ∧ (digs V).getD q 0 < (2 ^ f : Nat)) ∧ (o * 2 ^ f % 2251799813685248) % (2 ^ f : Nat) = 0 ∧ (digs V).set q ((digs V).getD q 0 + o * 2 ^ f % 2251799813685248) = digs (V + 256 ^ 15 * o) := by
  obtain rfl : q = 2 := by omega
  obtain rfl : f = 18 := by omega
  clear hA hq hf
  simp only [digs, List.getD_cons_zero, List.getD_cons_succ, List.set_cons_zero, List.set_cons_succ, Int.reducePow, Nat.reducePow] at hV ⊢
  have e0 : (V + 1329227995784915872903807060280344576 * o) % 2251799813685248 = V % 2251799813685248 := by rw [show 1329227995784915872903807060280344576 * o = 2251799813685248 * (590295810358705651712 * o) by omega]; exact Int.add_mul_emod_self_left ..
  have e1 : (V + 1329227995784915872903807060280344576 * o) / 2251799813685248 % 2251799813685248 = V / 2251799813685248 % 2251799813685248 := by rw [show 1329227995784915872903807060280344576 * o = 2251799813685248 * (2251799813685248 * (262144 * o)) by omega]; exact dig_lt _ _ _ (by decide)
  have eq : (V + 1329227995784915872903807060280344576 * o) / 5070602400912917605986812821504 = V / 5070602400912917605986812821504 + 262144 * o := by rw [show 1329227995784915872903807060280344576 * o = 5070602400912917605986812821504 * (262144 * o) by omega]; exact dig_q _ _ _ (by decide)
  have hD : 0 ≤ V / 5070602400912917605986812821504 ∧ V / 5070602400912917605986812821504 < 262144 := by omega
  have g3 : V / 11417981541647679048466287755595961091061972992 = V / 5070602400912917605986812821504 / 2251799813685248 := dig_gt _ _ _ _ (by decide) (by decide)
  have h3 : (V + 1329227995784915872903807060280344576 * o) / 11417981541647679048466287755595961091061972992 = (V / 5070602400912917605986812821504 + 262144 * o) / 2251799813685248 := by rw [← eq]; exact dig_gt _ _ _ _ (by decide) (by decide)
  have g4 : V / 25711008708143844408671393477458601640355247900524685364822016 = V / 5070602400912917605986812821504 / 5070602400912917605986812821504 := dig_gt _ _ _ _ (by decide) (by decide)
  have h4 : (V + 1329227995784915872903807060280344576 * o) / 25711008708143844408671393477458601640355247900524685364822016 = (V / 5070602400912917605986812821504 + 262144 * o) / 5070602400912917605986812821504 := by rw [← eq]; exact dig_gt _ _ _ _ (by decide) (by decide)
  rw [e0, e1, eq, h3, h4, g3, g4]
  generalize V / 5070602400912917605986812821504 = D at *
  clear e0 e1 eq g3 g4 h3 h4 hV
  refine ⟨by omega, by omega, by omega, List.cons_eq_cons.2 ⟨rfl, List.cons_eq_cons.2 ⟨rfl, List.cons_eq_cons.2 ⟨by omega, List.cons_eq_cons.2 ⟨by omega, List.cons_eq_cons.2 ⟨by omega, rfl⟩⟩⟩⟩⟩⟩
theorem of_one16 (V o : Int) (q f : Nat) (hV : 0 ≤ V ∧ V < 256 ^ 16) (ho : 0 ≤ o ∧ o < 256) (hq : 8 * 16 / 51 = q) (hf : 8 * 16 % 51 = f) (hA : f ≤ 43 ∨ q = 4) :
    (0 ≤ o * 2 ^ f ∧ o * 2 ^ f < 18446744073709551616) ∧ (0 ≤ (digs V).getD q 0 ∧ (digs V).getD q 0 < (2 ^ f : Nat)) ∧ (o * 2 ^ f % 2251799813685248) % (2 ^ f : Nat) = 0 ∧ (digs V).set q ((digs V).getD q 0 + o * 2 ^ f % 2251799813685248) = digs (V + 256 ^ 16 * o) := by
  obtain rfl : q = 2 := by omega
  obtain rfl : f = 26 := by omega
  clear hA hq hf
  simp only [digs, List.getD_cons_zero, List.getD_cons_succ, List.set_cons_zero, List.set_cons_succ, Int.reducePow, Nat.reducePow] at hV ⊢
  have e0 : (V + 340282366920938463463374607431768211456 * o) % 2251799813685248 = V % 2251799813685248 := by rw [show 340282366920938463463374607431768211456 * o = 2251799813685248 * (151115727451828646838272 * o) by omega]; exact Int.add_mul_emod_self_left ..
  have e1 : (V + 340282366920938463463374607431768211456 * o) / 2251799813685248 % 2251799813685248 = V / 2251799813685248 % 2251799813685248 := by rw [show 340282366920938463463374607431768211456 * o = 2251799813685248 * (2251799813685248 * (67108864 * o)) by omega]; exact dig_lt _ _ _ (by decide)
  have eq : (V + 340282366920938463463374607431768211456 * o) / 5070602400912917605986812821504 = V / 5070602400912917605986812821504 + 67108864 * o := by rw [show 340282366920938463463374607431768211456 * o = 5070602400912917605986812821504 * (67108864 * o) by omega]; exact dig_q _ _ _ (by decide)
  have hD : 0 ≤ V / 5070602400912917605986812821504 ∧ V / 5070602400912917605986812821504 < 67108864 := by omega
  have g3 : V / 11417981541647679048466287755595961091061972992 = V / 5070602400912917605986812821504 / 2251799813685248 := dig_gt _ _ _ _ (by decide) (by decide)
  have h3 : (V + 340282366920938463463374607431768211456 * o) / 11417981541647679048466287755595961091061972992 = (V / 5070602400912917605986812821504 + 67108864 * o) / 2251799813685248 := by rw [← eq]; exact dig_gt _ _ _ _ (by decide) (by decide)
  have g4 : V / 25711008708143844408671393477458601640355247900524685364822016 = V / 5070602400912917605986812821504 / 5070602400912917605986812821504 := dig_gt _ _ _ _ (by decide) (by decide)
  have h4 : (V + 340282366920938463463374607431768211456 * o) / 25711008708143844408671393477458601640355247900524685364822016 = (V / 5070602400912917605986812821504 + 67108864 * o) / 5070602400912917605986812821504 := by rw [← eq]; exact dig_gt _ _ _ _ (by decide) (by decide)
  rw [e0, e1, eq, h3, h4, g3, g4]
  generalize V / 5070602400912917605986812821504 = D at *
  clear e0 e1 eq g3 g4 h3 h4 hV
  refine ⟨by omega, by omega, by omega, List.cons_eq_cons.2 ⟨rfl, List.cons_eq_cons.2 ⟨rfl, List.cons_eq_cons.2 ⟨by omega, List.cons_eq_cons.2 ⟨by omega, List.cons_eq_cons.2 ⟨by omega, rfl⟩⟩⟩⟩⟩⟩
theorem of_one17 (V o : Int) (q f : Nat) (hV : 0 ≤ V ∧ V < 256 ^ 17) (ho : 0 ≤ o ∧ o < 256) (hq : 8 * 17 / 51 = q) (hf : 8 * 17 % 51 = f) (hA : f ≤ 43 ∨ q = 4) :
    (0 ≤ o * 2 ^ f ∧ o * 2 ^ f < 18446744073709551616) ∧ (0 ≤ (digs V).getD q 0 ∧ (digs V).getD q 0 < (2 ^ f : Nat)) ∧ (o * 2 ^ f % 2251799813685248) % (2 ^ f : Nat) = 0 ∧ (digs V).set q ((digs V).getD q 0 + o * 2 ^ f % 2251799813685248) = digs (V + 256 ^ 17 * o) := by
  obtain rfl : q = 2 := by omega
  obtain rfl : f = 34 := by omega
  clear hA hq hf
  simp only [digs, List.getD_cons_zero, List.getD_cons_succ, List.set_cons_zero, List.set_cons_succ, Int.reducePow, Nat.reducePow] at hV ⊢
  have e0 : (V + 87112285931760246646623899502532662132736 * o) % 2251799813685248 = V % 2251799813685248 := by rw [show 87112285931760246646623899502532662132736 * o = 2251799813685248 * (38685626227668133590597632 * o) by omega]; exact Int.add_mul_emod_self_left ..
  have e1 : (V + 87112285931760246646623899502532662132736 * o) / 2251799813685248 % 2251799813685248 = V / 2251799813685248 % 2251799813685248 := by rw [show 87112285931760246646623899502532662132736 * o = 2251799813685248 * (2251799813685248 * (17179869184 * o)) by omega]; exact dig_lt _ _ _ (by decide)
  have eq : (V + 87112285931760246646623899502532662132736 * o) / 5070602400912917605986812821504 = V / 5070602400912917605986812821504 + 17179869184 * o := by rw [show 87112285931760246646623899502532662132736 * o = 5070602400912917605986812821504 * (17179869184 * o) by omega]; exact dig_q _ _ _ (by decide)
  have hD : 0 ≤ V / 5070602400912917605986812821504 ∧ V / 5070602400912917605986812821504 < 17179869184 := by omega
  have g3 : V / 11417981541647679048466287755595961091061972992 = V / 5070602400912917605986812821504 / 2251799813685248 := dig_gt _ _ _ _ (by decide) (by decide)
  have h3 : (V + 87112285931760246646623899502532662132736 * o) / 11417981541647679048466287755595961091061972992 = (V / 5070602400912917605986812821504 + 17179869184 * o) / 2251799813685248 := by rw [← eq]; exact dig_gt _ _ _ _ (by decide) (by decide)
  have g4 : V / 25711008708143844408671393477458601640355247900524685364822016 = V / 5070602400912917605986812821504 / 5070602400912917605986812821504 := dig_gt _ _ _ _ (by decide) (by decide)
  have h4 : (V + 87112285931760246646623899502532662132736 * o) / 25711008708143844408671393477458601640355247900524685364822016 = (V / 5070602400912917605986812821504 + 17179869184 * o) / 5070602400912917605986812821504 := by rw [← eq]; exact dig_gt _ _ _ _ (by decide) (by decide)
  rw [e0, e1, eq, h3, h4, g3, g4]
  generalize V / 5070602400912917605986812821504 = D at *
  clear e0 e1 eq g3 g4 h3 h4 hV
  refine ⟨by omega, by omega, by omega, List.cons_eq_cons.2 ⟨rfl, List.cons_eq_cons.2 ⟨rfl, List.cons_eq_cons.2 ⟨by omega, List.cons_eq_cons.2 ⟨by omega, List.cons_eq_cons.2 ⟨by omega, rfl⟩⟩⟩⟩⟩⟩
theorem of_one18 (V o : Int) (q f : Nat) (hV : 0 ≤ V ∧ V < 256 ^ 18) (ho : 0 ≤ o ∧ o < 256) (hq : 8 * 18 / 51 = q) (hf : 8 * 18 % 51 = f) (hA : f ≤ 43 ∨ q = 4) :
    (0 ≤ o * 2 ^ f ∧ o * 2 ^ f < 18446744073709551616) ∧ (0 ≤ (digs V).getD q 0 ∧ (digs V).getD q 0 < (2 ^ f : Nat)) ∧ (o * 2 ^ f % 2251799813685248) % (2 ^ f : Nat) = 0 ∧ (digs V).set q ((digs V).getD q 0 + o * 2 ^ f % 2251799813685248) = digs (V + 256 ^ 18 * o) := by
  obtain rfl : q = 2 := by omega
  obtain rfl : f = 42 := by omega
  clear hA hq hf
  simp only [digs, List.getD_cons_zero, List.getD_cons_succ, List.set_cons_zero, List.set_cons_succ, Int.reducePow, Nat.reducePow] at hV ⊢
  have e0 : (V + 22300745198530623141535718272648361505980416 * o) % 2251799813685248 = V % 2251799813685248 := by rw [show 22300745198530623141535718272648361505980416 * o = 2251799813685248 * (9903520314283042199192993792 * o) by omega]; exact Int.add_mul_emod_self_left ..
  have e1 : (V + 22300745198530623141535718272648361505980416 * o) / 2251799813685248 % 2251799813685248 = V / 2251799813685248 % 2251799813685248 := by rw [show 22300745198530623141535718272648361505980416 * o = 2251799813685248 * (2251799813685248 * (4398046511104 * o)) by omega]; exact dig_lt _ _ _ (by decide)
  have eq : (V + 22300745198530623141535718272648361505980416 * o) / 5070602400912917605986812821504 = V / 5070602400912917605986812821504 + 4398046511104 * o := by rw [show 22300745198530623141535718272648361505980416 * o = 5070602400912917605986812821504 * (4398046511104 * o) by omega]; exact dig_q _ _ _ (by decide)
  have hD : 0 ≤ V / 5070602400912917605986812821504 ∧ V / 5070602400912917605986812821504 < 4398046511104 := by omega
  have g3 : V / 11417981541647679048466287755595961091061972992 = V / 5070602400912917605986812821504 / 2251799813685248 := dig_gt _ _ _ _ (by decide) (by decide)
  have h3 : (V + 22300745198530623141535718272648361505980416 * o) / 11417981541647679048466287755595961091061972992 = (V / 5070602400912917605986812821504 + 4398046511104 * o) / 2251799813685248 := by rw [← eq]; exact dig_gt _ _ _ _ (by decide) (by decide)
  have g4 : V / 25711008708143844408671393477458601640355247900524685364822016 = V / 5070602400912917605986812821504 / 5070602400912917605986812821504 := dig_gt _ _ _ _ (by decide) (by decide)
  have h4 : (V + 22300745198530623141535718272648361505980416 * o) / 25711008708143844408671393477458601640355247900524685364822016 = (V / 5070602400912917605986812821504 + 4398046511104 * o) / 5070602400912917605986812821504 := by rw [← eq]; exact dig_gt _ _ _ _ (by decide) (by decide)
  rw [e0, e1, eq, h3, h4, g3, g4]
  generalize V / 5070602400912917605986812821504 = D at *
  clear e0 e1 eq g3 g4 h3 h4 hV
  refine ⟨by omega, by omega, by omega, List.cons_eq_cons.2 ⟨rfl, List.cons_eq_cons.2 ⟨rfl, List.cons_eq_cons.2 ⟨by omega, List.cons_eq_cons.2 ⟨by omega, List.cons_eq_cons.2 ⟨by omega, rfl⟩⟩⟩⟩⟩⟩
theorem of_one20 (V o : Int) (q f : Nat) (hV : 0 ≤ V ∧ V < 256 ^ 20) (ho : 0 ≤ o ∧ o < 256) (hq : 8 * 20 / 51 = q) (hf : 8 * 20 % 51 = f) (hA : f ≤ 43 ∨ q = 4) :
    (0 ≤ o * 2 ^ f ∧ o * 2 ^ f < 18446744073709551616) ∧ (0 ≤ (digs V).getD q 0 ∧ (digs V).getD q 0 < (2 ^ f : Nat)) ∧ (o * 2 ^ f % 2251799813685248) % (2 ^ f : Nat) = 0 ∧ (digs V).set q ((digs V).getD q 0 + o * 2 ^ f % 2251799813685248) = digs (V + 256 ^ 20 * o) := by
  obtain rfl : q = 3 := by omega
  obtain rfl : f = 7 := by omega
  clear hA hq hf
  simp only [digs, List.getD_cons_zero, List.getD_cons_succ, List.set_cons_zero, List.set_cons_succ, Int.reducePow, Nat.reducePow] at hV ⊢
  have e0 : (V + 1461501637330902918203684832716283019655932542976 * o) % 2251799813685248 = V % 2251799813685248 := by rw [show 1461501637330902918203684832716283019655932542976 * o = 2251799813685248 * (649037107316853453566312041152512 * o) by omega]; exact Int.add_mul_emod_self_left ..
  have e1 : (V + 1461501637330902918203684832716283019655932542976 * o) / 2251799813685248 % 2251799813685248 = V / 2251799813685248 % 2251799813685248 := by rw [show 1461501637330902918203684832716283019655932542976 * o = 2251799813685248 * (2251799813685248 * (288230376151711744 * o)) by omega]; exact dig_lt _ _ _ (by decide)
  have e2 : (V + 1461501637330902918203684832716283019655932542976 * o) / 5070602400912917605986812821504 % 2251799813685248 = V / 5070602400912917605986812821504 % 2251799813685248 := by rw [show 1461501637330902918203684832716283019655932542976 * o = 5070602400912917605986812821504 * (2251799813685248 * (128 * o)) by omega]; exact dig_lt _ _ _ (by decide)
  have eq : (V + 1461501637330902918203684832716283019655932542976 * o) / 11417981541647679048466287755595961091061972992 = V / 11417981541647679048466287755595961091061972992 + 128 * o := by rw [show 1461501637330902918203684832716283019655932542976 * o = 11417981541647679048466287755595961091061972992 * (128 * o) by omega]; exact dig_q _ _ _ (by decide)
  have hD : 0 ≤ V / 11417981541647679048466287755595961091061972992 ∧ V / 11417981541647679048466287755595961091061972992 < 128 := by omega
  have g4 : V / 25711008708143844408671393477458601640355247900524685364822016 = V / 11417981541647679048466287755595961091061972992 / 2251799813685248 := dig_gt _ _ _ _ (by decide) (by decide)
  have h4 : (V + 1461501637330902918203684832716283019655932542976 * o) / 25711008708143844408671393477458601640355247900524685364822016 = (V / 11417981541647679048466287755595961091061972992 + 128 * o) / 2251799813685248 := by rw [← eq]; exact dig_gt _ _ _ _ (by decide) (by decide)
  rw [e0, e1, e2, eq, h4, g4]
  generalize V / 11417981541647679048466287755595961091061972992 = D at *
  clear e0 e1 e2 eq g4 h4 hV
  refine ⟨by omega, by omega, by omega, List.cons_eq_cons.2 ⟨rfl, List.cons_eq_cons.2 ⟨rfl, List.cons_eq_cons.2 ⟨rfl, List.cons_eq_cons.2 ⟨by omega, List.cons_eq_cons.2 ⟨by omega, rfl⟩⟩⟩⟩⟩⟩
theorem of_one21 (V o : Int) (q f : Nat) (hV : 0 ≤ V ∧ V < 256 ^ 21) (ho : 0 ≤ o ∧ o < 256) (hq : 8 * 21 / 51 = q) (hf : 8 * 21 % 51 = f) (hA : f ≤ 43 ∨ q = 4) :
    (0 ≤ o * 2 ^ f ∧ o * 2 ^ f < 18446744073709551616) ∧ (0 ≤ (digs V).getD q 0 ∧ (digs V).getD q 0 < (2 ^ f : Nat)) ∧ (o * 2 ^ f % 2251799813685248) % (2 ^ f : Nat) = 0 ∧ (digs V).set q ((digs V).getD q 0 + o * 2 ^ f % 2251799813685248) = digs (V + 256 ^ 21 * o) := by
  obtain rfl : q = 3 := by omega
  obtain rfl : f = 15 := by omega
  clear hA hq hf
  simp only [digs, List.getD_cons_zero, List.getD_cons_succ, List.set_cons_zero, List.set_cons_succ, Int.reducePow, Nat.reducePow] at hV ⊢
  have e0 : (V + 374144419156711147060143317175368453031918731001856 * o) % 2251799813685248 = V % 2251799813685248 := by rw [show 374144419156711147060143317175368453031918731001856 * o = 2251799813685248 * (166153499473114484112975882535043072 * o) by omega]; exact Int.add_mul_emod_self_left ..
  have e1 : (V + 374144419156711147060143317175368453031918731001856 * o) / 2251799813685248 % 2251799813685248 = V / 2251799813685248 % 2251799813685248 := by rw [show 374144419156711147060143317175368453031918731001856 * o = 2251799813685248 * (2251799813685248 * (73786976294838206464 * o)) by omega]; exact dig_lt _ _ _ (by decide)
  have e2 : (V + 374144419156711147060143317175368453031918731001856 * o) / 5070602400912917605986812821504 % 2251799813685248 = V / 5070602400912917605986812821504 % 2251799813685248 := by rw [show 374144419156711147060143317175368453031918731001856 * o = 5070602400912917605986812821504 * (2251799813685248 * (32768 * o)) by omega]; exact dig_lt _ _ _ (by decide)
  have eq : (V + 374144419156711147060143317175368453031918731001856 * o) / 11417981541647679048466287755595961091061972992 = V / 11417981541647679048466287755595961091061972992 + 32768 * o := by rw [show 374144419156711147060143317175368453031918731001856 * o = 11417981541647679048466287755595961091061972992 * (32768 * o) by omega]; exact dig_q _ _ _ (by decide)
  have hD : 0 ≤ V / 11417981541647679048466287755595961091061972992 ∧ V / 11417981541647679048466287755595961091061972992 < 32768 := by omega
  have g4 : V / 25711008708143844408671393477458601640355247900524685364822016 = V / 11417981541647679048466287755595961091061972992 / 2251799813685248 := dig_gt _ _ _ _ (by decide) (by decide)
  have h4 : (V + 374144419156711147060143317175368453031918731001856 * o) / 25711008708143844408671393477458601640355247900524685364822016 = (V / 11417981541647679048466287755595961091061972992 + 32768 * o) / 2251799813685248 := by rw [← eq]; exact dig_gt _ _ _ _ (by decide) (by decide)
  rw [e0, e1, e2, eq, h4, g4]
  generalize V / 11417981541647679048466287755595961091061972992 = D at *
  clear e0 e1 e2 eq g4 h4 hV
  refine ⟨by omega, by omega, by omega, List.cons_eq_cons.2 ⟨rfl, List.cons_eq_cons.2 ⟨rfl, List.cons_eq_cons.2 ⟨rfl, List.cons_eq_cons.2 ⟨by omega, List.cons_eq_cons.2 ⟨by omega, rfl⟩⟩⟩⟩⟩⟩
theorem of_one22 (V o : Int) (q f : Nat) (hV : 0 ≤ V ∧ V < 256 ^ 22) (ho : 0 ≤ o ∧ o < 256) (hq : 8 * 22 / 51 = q) (hf : 8 * 22 % 51 = f) (hA : f ≤ 43 ∨ q = 4) :
    (0 ≤ o * 2 ^ f ∧ o * 2 ^ f < 18446744073709551616) ∧ (0 ≤ (digs V).getD q 0 ∧ (digs V).getD q 0 < (2 ^ f : Nat)) ∧ (o * 2 ^ f % 2251799813685248) % (2 ^ f : Nat) = 0 ∧ (digs V).set q ((digs V).getD q 0 + o * 2 ^ f % 2251799813685248) = digs (V + 256 ^ 22 * o) := by
  obtain rfl : q = 3 := by omega
  obtain rfl : f = 23 := by omega
  clear hA hq hf
  simp only [digs, List.getD_cons_zero, List.getD_cons_succ, List.set_cons_zero, List.set_cons_succ, Int.reducePow, Nat.reducePow] at hV ⊢
  have e0 : (V + 95780971304118053647396689196894323976171195136475136 * o) % 2251799813685248 = V % 2251799813685248 := by rw [show 95780971304118053647396689196894323976171195136475136 * o = 2251799813685248 * (42535295865117307932921825928971026432 * o) by omega]; exact Int.add_mul_emod_self_left ..
  have e1 : (V + 95780971304118053647396689196894323976171195136475136 * o) / 2251799813685248 % 2251799813685248 = V / 2251799813685248 % 2251799813685248 := by rw [show 95780971304118053647396689196894323976171195136475136 * o = 2251799813685248 * (2251799813685248 * (18889465931478580854784 * o)) by omega]; exact dig_lt _ _ _ (by decide)
  have e2 : (V + 95780971304118053647396689196894323976171195136475136 * o) / 5070602400912917605986812821504 % 2251799813685248 = V / 5070602400912917605986812821504 % 2251799813685248 := by rw [show 95780971304118053647396689196894323976171195136475136 * o = 5070602400912917605986812821504 * (2251799813685248 * (8388608 * o)) by omega]; exact dig_lt _ _ _ (by decide)
  have eq : (V + 95780971304118053647396689196894323976171195136475136 * o) / 11417981541647679048466287755595961091061972992 = V / 11417981541647679048466287755595961091061972992 + 8388608 * o := by rw [show 95780971304118053647396689196894323976171195136475136 * o = 11417981541647679048466287755595961091061972992 * (8388608 * o) by omega]; exact dig_q _ _ _ (by decide)
  have hD : 0 ≤ V / 11417981541647679048466287755595961091061972992 ∧ V / 11417981541647679048466287755595961091061972992 < 8388608 := by omega
  have g4 : V / 25711008708143844408671393477458601640355247900524685364822016 = V / 11417981541647679048466287755595961091061972992 / 2251799813685248 := dig_gt _ _ _ _ (by decide) (by decide)
  have h4 : (V + 95780971304118053647396689196894323976171195136475136 * o) / 25711008708143844408671393477458601640355247900524685364822016 = (V / 11417981541647679048466287755595961091061972992 + 8388608 * o) / 2251799813685248 := by rw [← eq]; exact dig_gt _ _ _ _ (by decide) (by decide)
  rw [e0, e1, e2, eq, h4, g4]
  generalize V / 11417981541647679048466287755595961091061972992 = D at *
  clear e0 e1 e2 eq g4 h4 hV
  refine ⟨by omega, by omega, by omega, List.cons_eq_cons.2 ⟨rfl, List.cons_eq_cons.2 ⟨rfl, List.cons_eq_cons.2 ⟨rfl, List.cons_eq_cons.2 ⟨by omega, List.cons_eq_cons.2 ⟨by omega, rfl⟩⟩⟩⟩⟩⟩
theorem of_one23 (V o : Int) (q f : Nat) (hV : 0 ≤ V ∧ V < 256 ^ 23) (ho : 0 ≤ o ∧ o < 256) (hq : 8 * 23 / 51 = q) (hf : 8 * 23 % 51 = f) (hA : f ≤ 43 ∨ q = 4) :
    (0 ≤ o * 2 ^ f ∧ o * 2 ^ f < 18446744073709551616) ∧ (0 ≤ (digs V).getD q 0 ∧ (digs V).getD q 0 < (2 ^ f : Nat)) ∧ (o * 2 ^ f % 2251799813685248) % (2 ^ f : Nat) = 0 ∧ (digs V).set q ((digs V).getD q 0 + o * 2 ^ f % 2251799813685248) = digs (V + 256 ^ 23 * o) := by
  obtain rfl : q = 3 := by omega
  obtain rfl : f = 31 := by omega
  clear hA hq hf
  simp only [digs, List.getD_cons_zero, List.getD_cons_succ, List.set_cons_zero, List.set_cons_succ, Int.reducePow, Nat.reducePow] at hV ⊢
  have e0 : (V + 24519928653854221733733552434404946937899825954937634816 * o) % 2251799813685248 = V % 2251799813685248 := by rw [show 24519928653854221733733552434404946937899825954937634816 * o = 2251799813685248 * (10889035741470030830827987437816582766592 * o) by omega]; exact Int.add_mul_emod_self_left ..
  have e1 : (V + 24519928653854221733733552434404946937899825954937634816 * o) / 2251799813685248 % 2251799813685248 = V / 2251799813685248 % 2251799813685248 := by rw [show 24519928653854221733733552434404946937899825954937634816 * o = 2251799813685248 * (2251799813685248 * (4835703278458516698824704 * o)) by omega]; exact dig_lt _ _ _ (by decide)
  have e2 : (V + 24519928653854221733733552434404946937899825954937634816 * o) / 5070602400912917605986812821504 % 2251799813685248 = V / 5070602400912917605986812821504 % 2251799813685248 := by rw [show 24519928653854221733733552434404946937899825954937634816 * o = 5070602400912917605986812821504 * (2251799813685248 * (2147483648 * o)) by omega]; exact dig_lt _ _ _ (by decide)
  have eq : (V + 24519928653854221733733552434404946937899825954937634816 * o) / 11417981541647679048466287755595961091061972992 = V / 11417981541647679048466287755595961091061972992 + 2147483648 * o := by rw [show 24519928653854221733733552434404946937899825954937634816 * o = 11417981541647679048466287755595961091061972992 * (2147483648 * o) by omega]; exact dig_q _ _ _ (by decide)
  have hD : 0 ≤ V / 11417981541647679048466287755595961091061972992 ∧ V / 11417981541647679048466287755595961091061972992 < 2147483648 := by omega
  have g4 : V / 25711008708143844408671393477458601640355247900524685364822016 = V / 11417981541647679048466287755595961091061972992 / 2251799813685248 := dig_gt _ _ _ _ (by decide) (by decide)
  have h4 : (V + 24519928653854221733733552434404946937899825954937634816 * o) / 25711008708143844408671393477458601640355247900524685364822016 = (V / 11417981541647679048466287755595961091061972992 + 2147483648 * o) / 2251799813685248 := by rw [← eq]; exact dig_gt _ _ _ _ (by decide) (by decide)
  rw [e0, e1, e2, eq, h4, g4]
  generalize V / 11417981541647679048466287755595961091061972992 = D at *
  clear e0 e1 e2 eq g4 h4 hV
  refine ⟨by omega, by omega, by omega, List.cons_eq_cons.2 ⟨rfl, List.cons_eq_cons.2 ⟨rfl, List.cons_eq_cons.2 ⟨rfl, List.cons_eq_cons.2 ⟨by omega, List.cons_eq_cons.2 ⟨by omega, rfl⟩⟩⟩⟩⟩⟩
theorem of_one24 (V o : Int) (q f : Nat) (hV : 0 ≤ V ∧ V < 256 ^ 24) (ho : 0 ≤ o ∧ o < 256) (hq : 8 * 24 / 51 = q) (hf : 8 * 24 % 51 = f) (hA : f ≤ 43 ∨ q = 4) :
    (0 ≤ o * 2 ^ f ∧ o * 2 ^ f < 18446744073709551616) ∧ (0 ≤ (digs V).getD q 0 ∧ (digs V).getD q 0 < (2 ^ f : Nat)) ∧ (o * 2 ^ f % 2251799813685248) % (2 ^ f : Nat) = 0 ∧ (digs V).set q ((digs V).getD q 0 + o * 2 ^ f % 2251799813685248) = digs (V + 256 ^ 24 * o) := by
  obtain rfl : q = 3 := by omega
  obtain rfl : f = 39 := by omega
  clear hA hq hf
  simp only [digs, List.getD_cons_zero, List.getD_cons_succ, List.set_cons_zero, List.set_cons_succ, Int.reducePow, Nat.reducePow] at hV ⊢
  have e0 : (V + 6277101735386680763835789423207666416102355444464034512896 * o) % 2251799813685248 = V % 2251799813685248 := by rw [show 6277101735386680763835789423207666416102355444464034512896 * o = 2251799813685248 * (2787593149816327892691964784081045188247552 * o) by omega]; exact Int.add_mul_emod_self_left ..
  have e1 : (V + 6277101735386680763835789423207666416102355444464034512896 * o) / 2251799813685248 % 2251799813685248 = V / 2251799813685248 % 2251799813685248 := by rw [show 6277101735386680763835789423207666416102355444464034512896 * o = 2251799813685248 * (2251799813685248 * (1237940039285380274899124224 * o)) by omega]; exact dig_lt _ _ _ (by decide)
  have e2 : (V + 6277101735386680763835789423207666416102355444464034512896 * o) / 5070602400912917605986812821504 % 2251799813685248 = V / 5070602400912917605986812821504 % 2251799813685248 := by rw [show 6277101735386680763835789423207666416102355444464034512896 * o = 5070602400912917605986812821504 * (2251799813685248 * (549755813888 * o)) by omega]; exact dig_lt _ _ _ (by decide)
  have eq : (V + 6277101735386680763835789423207666416102355444464034512896 * o) / 11417981541647679048466287755595961091061972992 = V / 11417981541647679048466287755595961091061972992 + 549755813888 * o := by rw [show 6277101735386680763835789423207666416102355444464034512896 * o = 11417981541647679048466287755595961091061972992 * (549755813888 * o) by omega]; exact dig_q _ _ _ (by decide)
  have hD : 0 ≤ V / 11417981541647679048466287755595961091061972992 ∧ V / 11417981541647679048466287755595961091061972992 < 549755813888 := by omega
  have g4 : V / 25711008708143844408671393477458601640355247900524685364822016 = V / 11417981541647679048466287755595961091061972992 / 2251799813685248 := dig_gt _ _ _ _ (by decide) (by decide)
  have h4 : (V + 6277101735386680763835789423207666416102355444464034512896 * o) / 25711008708143844408671393477458601640355247900524685364822016 = (V / 11417981541647679048466287755595961091061972992 + 549755813888 * o) / 2251799813685248 := by rw [← eq]; exact dig_gt _ _ _ _ (by decide) (by decide)
  rw [e0, e1, e2, eq, h4, g4]
  generalize V / 11417981541647679048466287755595961091061972992 = D at *
  clear e0 e1 e2 eq g4 h4 hV
  refine ⟨by omega, by omega, by omega, List.cons_eq_cons.2 ⟨rfl, List.cons_eq_cons.2 ⟨rfl, List.cons_eq_cons.2 ⟨rfl, List.cons_eq_cons.2 ⟨by omega, List.cons_eq_cons.2 ⟨by omega, rfl⟩⟩⟩⟩⟩⟩
theorem of_one26 (V o : Int) (q f : Nat) (hV : 0 ≤ V ∧ V < 256 ^ 26) (ho : 0 ≤ o ∧ o < 256) (hq : 8 * 26 / 51 = q) (hf : 8 * 26 % 51 = f) (hA : f ≤ 43 ∨ q = 4) :
    (0 ≤ o * 2 ^ f ∧ o * 2 ^ f < 18446744073709551616) ∧ (0 ≤ (digs V).getD q 0 ∧ (digs V).getD q 0 < (2 ^ f : Nat)) ∧ (o * 2 ^ f % 2251799813685248) % (2 ^ f : Nat) = 0 ∧ (digs V).set q ((digs V).getD q 0 + o * 2 ^ f % 2251799813685248) = digs (V + 256 ^ 26 * o) := by
  obtain rfl : q = 4 := by omega
  obtain rfl : f = 4 := by omega
  clear hA hq hf
  simp only [digs, List.getD_cons_zero, List.getD_cons_succ, List.set_cons_zero, List.set_cons_succ, Int.reducePow, Nat.reducePow] at hV ⊢
  have e0 : (V + 411376139330301510538742295639337626245683966408394965837152256 * o) % 2251799813685248 = V % 2251799813685248 := by rw [show 411376139330301510538742295639337626245683966408394965837152256 * o = 2251799813685248 * (182687704666362864775460604089535377456991567872 * o) by omega]; exact Int.add_mul_emod_self_left ..
  have e1 : (V + 411376139330301510538742295639337626245683966408394965837152256 * o) / 2251799813685248 % 2251799813685248 = V / 2251799813685248 % 2251799813685248 := by rw [show 411376139330301510538742295639337626245683966408394965837152256 * o = 2251799813685248 * (2251799813685248 * (81129638414606681695789005144064 * o)) by omega]; exact dig_lt _ _ _ (by decide)
  have e2 : (V + 411376139330301510538742295639337626245683966408394965837152256 * o) / 5070602400912917605986812821504 % 2251799813685248 = V / 5070602400912917605986812821504 % 2251799813685248 := by rw [show 411376139330301510538742295639337626245683966408394965837152256 * o = 5070602400912917605986812821504 * (2251799813685248 * (36028797018963968 * o)) by omega]; exact dig_lt _ _ _ (by decide)
  have e3 : (V + 411376139330301510538742295639337626245683966408394965837152256 * o) / 11417981541647679048466287755595961091061972992 % 2251799813685248 = V / 11417981541647679048466287755595961091061972992 % 2251799813685248 := by rw [show 411376139330301510538742295639337626245683966408394965837152256 * o = 11417981541647679048466287755595961091061972992 * (2251799813685248 * (16 * o)) by omega]; exact dig_lt _ _ _ (by decide)
  have eq : (V + 411376139330301510538742295639337626245683966408394965837152256 * o) / 25711008708143844408671393477458601640355247900524685364822016 = V / 25711008708143844408671393477458601640355247900524685364822016 + 16 * o := by rw [show 411376139330301510538742295639337626245683966408394965837152256 * o = 25711008708143844408671393477458601640355247900524685364822016 * (16 * o) by omega]; exact dig_q _ _ _ (by decide)
  have hD : 0 ≤ V / 25711008708143844408671393477458601640355247900524685364822016 ∧ V / 25711008708143844408671393477458601640355247900524685364822016 < 16 := by omega
  rw [e0, e1, e2, e3, eq]
  generalize V / 25711008708143844408671393477458601640355247900524685364822016 = D at *
  clear e0 e1 e2 e3 eq hV
  refine ⟨by omega, by omega, by omega, List.cons_eq_cons.2 ⟨rfl, List.cons_eq_cons.2 ⟨rfl, List.cons_eq_cons.2 ⟨rfl, List.cons_eq_cons.2 ⟨rfl, List.cons_eq_cons.2 ⟨by omega, rfl⟩⟩⟩⟩⟩⟩
theorem of_one27 (V o : Int) (q f : Nat) (hV : 0 ≤ V ∧ V < 256 ^ 27) (ho : 0 ≤ o ∧ o < 256) (hq : 8 * 27 / 51 = q) (hf : 8 * 27 % 51 = f) (hA : f ≤ 43 ∨ q = 4) :
    (0 ≤ o * 2 ^ f ∧ o * 2 ^ f < 18446744073709551616) ∧ (0 ≤ (digs V).getD q 0 ∧ (digs V).getD q 0 < (2 ^ f : Nat)) ∧ (o * 2 ^ f % 2251799813685248) % (2 ^ f : Nat) = 0 ∧ (digs V).set q ((digs V).getD q 0 + o * 2 ^ f % 2251799813685248) = digs (V + 256 ^ 27 * o) := by
  obtain rfl : q = 4 := by omega
  obtain rfl : f = 12 := by omega
  clear hA hq hf
  simp only [digs, List.getD_cons_zero, List.getD_cons_succ, List.set_cons_zero, List.set_cons_succ, Int.reducePow, Nat.reducePow] at hV ⊢
  have e0 : (V + 105312291668557186697918027683670432318895095400549111254310977536 * o) % 2251799813685248 = V % 2251799813685248 := by rw [show 105312291668557186697918027683670432318895095400549111254310977536 * o = 2251799813685248 * (46768052394588893382517914646921056628989841375232 * o) by omega]; exact Int.add_mul_emod_self_left ..
  have e1 : (V + 105312291668557186697918027683670432318895095400549111254310977536 * o) / 2251799813685248 % 2251799813685248 = V / 2251799813685248 % 2251799813685248 := by rw [show 105312291668557186697918027683670432318895095400549111254310977536 * o = 2251799813685248 * (2251799813685248 * (20769187434139310514121985316880384 * o)) by omega]; exact dig_lt _ _ _ (by decide)
  have e2 : (V + 105312291668557186697918027683670432318895095400549111254310977536 * o) / 5070602400912917605986812821504 % 2251799813685248 = V / 5070602400912917605986812821504 % 2251799813685248 := by rw [show 105312291668557186697918027683670432318895095400549111254310977536 * o = 5070602400912917605986812821504 * (2251799813685248 * (9223372036854775808 * o)) by omega]; exact dig_lt _ _ _ (by decide)
  have e3 : (V + 105312291668557186697918027683670432318895095400549111254310977536 * o) / 11417981541647679048466287755595961091061972992 % 2251799813685248 = V / 11417981541647679048466287755595961091061972992 % 2251799813685248 := by rw [show 105312291668557186697918027683670432318895095400549111254310977536 * o = 11417981541647679048466287755595961091061972992 * (2251799813685248 * (4096 * o)) by omega]; exact dig_lt _ _ _ (by decide)
  have eq : (V + 105312291668557186697918027683670432318895095400549111254310977536 * o) / 25711008708143844408671393477458601640355247900524685364822016 = V / 25711008708143844408671393477458601640355247900524685364822016 + 4096 * o := by rw [show 105312291668557186697918027683670432318895095400549111254310977536 * o = 25711008708143844408671393477458601640355247900524685364822016 * (4096 * o) by omega]; exact dig_q _ _ _ (by decide)
  have hD : 0 ≤ V / 25711008708143844408671393477458601640355247900524685364822016 ∧ V / 25711008708143844408671393477458601640355247900524685364822016 < 4096 := by omega
  rw [e0, e1, e2, e3, eq]
  generalize V / 25711008708143844408671393477458601640355247900524685364822016 = D at *
  clear e0 e1 e2 e3 eq hV
  refine ⟨by omega, by omega, by omega, List.cons_eq_cons.2 ⟨rfl, List.cons_eq_cons.2 ⟨rfl, List.cons_eq_cons.2 ⟨rfl, List.cons_eq_cons.2 ⟨rfl, List.cons_eq_cons.2 ⟨by omega, rfl⟩⟩⟩⟩⟩⟩
theorem of_one28 (V o : Int) (q f : Nat) (hV : 0 ≤ V ∧ V < 256 ^ 28) (ho : 0 ≤ o ∧ o < 256) (hq : 8 * 28 / 51 = q) (hf : 8 * 28 % 51 = f) (hA : f ≤ 43 ∨ q = 4) :
    (0 ≤ o * 2 ^ f ∧ o * 2 ^ f < 18446744073709551616) ∧ (0 ≤ (digs V).getD q 0 ∧ (digs V).getD q 0 < (2 ^ f : Nat)) ∧ (o * 2 ^ f % 2251799813685248) % (2 ^ f : Nat) = 0 ∧ (digs V).set q ((digs V).getD q 0 + o * 2 ^ f % 2251799813685248) = digs (V + 256 ^ 28 * o) := by
  obtain rfl : q = 4 := by omega
  obtain rfl : f = 20 := by omega
  clear hA hq hf
  simp only [digs, List.getD_cons_zero, List.getD_cons_succ, List.set_cons_zero, List.set_cons_succ, Int.reducePow, Nat.reducePow] at hV ⊢
  have e0 : (V + 26959946667150639794667015087019630673637144422540572481103610249216 * o) % 2251799813685248 = V % 2251799813685248 := by rw [show 26959946667150639794667015087019630673637144422540572481103610249216 * o = 2251799813685248 * (11972621413014756705924586149611790497021399392059392 * o) by omega]; exact Int.add_mul_emod_self_left ..
  have e1 : (V + 26959946667150639794667015087019630673637144422540572481103610249216 * o) / 2251799813685248 % 2251799813685248 = V / 2251799813685248 % 2251799813685248 := by rw [show 26959946667150639794667015087019630673637144422540572481103610249216 * o = 2251799813685248 * (2251799813685248 * (5316911983139663491615228241121378304 * o)) by omega]; exact dig_lt _ _ _ (by decide)
  have e2 : (V + 26959946667150639794667015087019630673637144422540572481103610249216 * o) / 5070602400912917605986812821504 % 2251799813685248 = V / 5070602400912917605986812821504 % 2251799813685248 := by rw [show 26959946667150639794667015087019630673637144422540572481103610249216 * o = 5070602400912917605986812821504 * (2251799813685248 * (2361183241434822606848 * o)) by omega]; exact dig_lt _ _ _ (by decide)
  have e3 : (V + 26959946667150639794667015087019630673637144422540572481103610249216 * o) / 11417981541647679048466287755595961091061972992 % 2251799813685248 = V / 11417981541647679048466287755595961091061972992 % 2251799813685248 := by rw [show 26959946667150639794667015087019630673637144422540572481103610249216 * o = 11417981541647679048466287755595961091061972992 * (2251799813685248 * (1048576 * o)) by omega]; exact dig_lt _ _ _ (by decide)
  have eq : (V + 26959946667150639794667015087019630673637144422540572481103610249216 * o) / 25711008708143844408671393477458601640355247900524685364822016 = V / 25711008708143844408671393477458601640355247900524685364822016 + 1048576 * o := by rw [show 26959946667150639794667015087019630673637144422540572481103610249216 * o = 25711008708143844408671393477458601640355247900524685364822016 * (1048576 * o) by omega]; exact dig_q _ _ _ (by decide)
  have hD : 0 ≤ V / 25711008708143844408671393477458601640355247900524685364822016 ∧ V / 25711008708143844408671393477458601640355247900524685364822016 < 1048576 := by omega
  rw [e0, e1, e2, e3, eq]
  generalize V / 25711008708143844408671393477458601640355247900524685364822016 = D at *
  clear e0 e1 e2 e3 eq hV
  refine ⟨by omega, by omega, by omega, List.cons_eq_cons.2 ⟨rfl, List.cons_eq_cons.2 ⟨rfl, List.cons_eq_cons.2 ⟨rfl, List.cons_eq_cons.2 ⟨rfl, List.cons_eq_cons.2 ⟨by omega, rfl⟩⟩⟩⟩⟩⟩
theorem of_one29 (V o : Int) (q f : Nat) (hV : 0 ≤ V ∧ V < 256 ^ 29) (ho : 0 ≤ o ∧ o < 256) (hq : 8 * 29 / 51 = q) (hf : 8 * 29 % 51 = f) (hA : f ≤ 43 ∨ q = 4) :
    (0 ≤ o * 2 ^ f ∧ o * 2 ^ f < 18446744073709551616) ∧ (0 ≤ (digs V).getD q 0 ∧ (digs V).getD q 0 < (2 ^ f : Nat)) ∧ (o * 2 ^ f % 2251799813685248) % (2 ^ f : Nat) = 0 ∧ (digs V).set q ((digs V).getD q 0 + o * 2 ^ f % 2251799813685248) = digs (V + 256 ^ 29 * o) := by
  obtain rfl : q = 4 := by omega
  obtain rfl : f = 28 := by omega
  clear hA hq hf
  simp only [digs, List.getD_cons_zero, List.getD_cons_succ, List.set_cons_zero, List.set_cons_succ, Int.reducePow, Nat.reducePow] at hV ⊢
  have e0 : (V + 6901746346790563787434755862277025452451108972170386555162524223799296 * o) % 2251799813685248 = V % 2251799813685248 := by rw [show 6901746346790563787434755862277025452451108972170386555162524223799296 * o = 2251799813685248 * (3064991081731777716716694054300618367237478244367204352 * o) by omega]; exact Int.add_mul_emod_self_left ..
  have e1 : (V + 6901746346790563787434755862277025452451108972170386555162524223799296 * o) / 2251799813685248 % 2251799813685248 = V / 2251799813685248 % 2251799813685248 := by rw [show 6901746346790563787434755862277025452451108972170386555162524223799296 * o = 2251799813685248 * (2251799813685248 * (1361129467683753853853498429727072845824 * o)) by omega]; exact dig_lt _ _ _ (by decide)
  have e2 : (V + 6901746346790563787434755862277025452451108972170386555162524223799296 * o) / 5070602400912917605986812821504 % 2251799813685248 = V / 5070602400912917605986812821504 % 2251799813685248 := by rw [show 6901746346790563787434755862277025452451108972170386555162524223799296 * o = 5070602400912917605986812821504 * (2251799813685248 * (604462909807314587353088 * o)) by omega]; exact dig_lt _ _ _ (by decide)
  have e3 : (V + 6901746346790563787434755862277025452451108972170386555162524223799296 * o) / 11417981541647679048466287755595961091061972992 % 2251799813685248 = V / 11417981541647679048466287755595961091061972992 % 2251799813685248 := by rw [show 6901746346790563787434755862277025452451108972170386555162524223799296 * o = 11417981541647679048466287755595961091061972992 * (2251799813685248 * (268435456 * o)) by omega]; exact dig_lt _ _ _ (by decide)
  have eq : (V + 6901746346790563787434755862277025452451108972170386555162524223799296 * o) / 25711008708143844408671393477458601640355247900524685364822016 = V / 25711008708143844408671393477458601640355247900524685364822016 + 268435456 * o := by rw [show 6901746346790563787434755862277025452451108972170386555162524223799296 * o = 25711008708143844408671393477458601640355247900524685364822016 * (268435456 * o) by omega]; exact dig_q _ _ _ (by decide)
  have hD : 0 ≤ V / 25711008708143844408671393477458601640355247900524685364822016 ∧ V / 25711008708143844408671393477458601640355247900524685364822016 < 268435456 := by omega
  rw [e0, e1, e2, e3, eq]
  generalize V / 25711008708143844408671393477458601640355247900524685364822016 = D at *
  clear e0 e1 e2 e3 eq hV
  refine ⟨by omega, by omega, by omega, List.cons_eq_cons.2 ⟨rfl, List.cons_eq_cons.2 ⟨rfl, List.cons_eq_cons.2 ⟨rfl, List.cons_eq_cons.2 ⟨rfl, List.cons_eq_cons.2 ⟨by omega, rfl⟩⟩⟩⟩⟩⟩
theorem of_one30 (V o : Int) (q f : Nat) (hV : 0 ≤ V ∧ V < 256 ^ 30) (ho : 0 ≤ o ∧ o < 256) (hq : 8 * 30 / 51 = q) (hf : 8 * 30 % 51 = f) (hA : f ≤ 43 ∨ q = 4) :
    (0 ≤ o * 2 ^ f ∧ o * 2 ^ f < 18446744073709551616) ∧ (0 ≤ (digs V).getD q 0 ∧ (digs V).getD q 0 < (2 ^ f : Nat)) ∧ (o * 2 ^ f % 2251799813685248) % (2 ^ f : Nat) = 0 ∧ (digs V).set q ((digs V).getD q 0 + o * 2 ^ f % 2251799813685248) = digs (V + 256 ^ 30 * o) := by
  obtain rfl : q = 4 := by omega
  obtain rfl : f = 36 := by omega
  clear hA hq hf
  simp only [digs, List.getD_cons_zero, List.getD_cons_succ, List.set_cons_zero, List.set_cons_succ, Int.reducePow, Nat.reducePow] at hV ⊢
  have e0 : (V + 1766847064778384329583297500742918515827483896875618958121606201292619776 * o) % 2251799813685248 = V % 2251799813685248 := by rw [show 1766847064778384329583297500742918515827483896875618958121606201292619776 * o = 2251799813685248 * (784637716923335095479473677900958302012794430558004314112 * o) by omega]; exact Int.add_mul_emod_self_left ..
  have e1 : (V + 1766847064778384329583297500742918515827483896875618958121606201292619776 * o) / 2251799813685248 % 2251799813685248 = V / 2251799813685248 % 2251799813685248 := by rw [show 1766847064778384329583297500742918515827483896875618958121606201292619776 * o = 2251799813685248 * (2251799813685248 * (348449143727040986586495598010130648530944 * o)) by omega]; exact dig_lt _ _ _ (by decide)
  have e2 : (V + 1766847064778384329583297500742918515827483896875618958121606201292619776 * o) / 5070602400912917605986812821504 % 2251799813685248 = V / 5070602400912917605986812821504 % 2251799813685248 := by rw [show 1766847064778384329583297500742918515827483896875618958121606201292619776 * o = 5070602400912917605986812821504 * (2251799813685248 * (154742504910672534362390528 * o)) by omega]; exact dig_lt _ _ _ (by decide)
  have e3 : (V + 1766847064778384329583297500742918515827483896875618958121606201292619776 * o) / 11417981541647679048466287755595961091061972992 % 2251799813685248 = V / 11417981541647679048466287755595961091061972992 % 2251799813685248 := by rw [show 1766847064778384329583297500742918515827483896875618958121606201292619776 * o = 11417981541647679048466287755595961091061972992 * (2251799813685248 * (68719476736 * o)) by omega]; exact dig_lt _ _ _ (by decide)
  have eq : (V + 1766847064778384329583297500742918515827483896875618958121606201292619776 * o) / 25711008708143844408671393477458601640355247900524685364822016 = V / 25711008708143844408671393477458601640355247900524685364822016 + 68719476736 * o := by rw [show 1766847064778384329583297500742918515827483896875618958121606201292619776 * o = 25711008708143844408671393477458601640355247900524685364822016 * (68719476736 * o) by omega]; exact dig_q _ _ _ (by decide)
  have hD : 0 ≤ V / 25711008708143844408671393477458601640355247900524685364822016 ∧ V / 25711008708143844408671393477458601640355247900524685364822016 < 68719476736 := by omega
  rw [e0, e1, e2, e3, eq]
  generalize V / 25711008708143844408671393477458601640355247900524685364822016 = D at *
  clear e0 e1 e2 e3 eq hV
  refine ⟨by omega, by omega, by omega, List.cons_eq_cons.2 ⟨rfl, List.cons_eq_cons.2 ⟨rfl, List.cons_eq_cons.2 ⟨rfl, List.cons_eq_cons.2 ⟨rfl, List.cons_eq_cons.2 ⟨by omega, rfl⟩⟩⟩⟩⟩⟩
theorem of_one31 (V o : Int) (q f : Nat) (hV : 0 ≤ V ∧ V < 256 ^ 31) (ho : 0 ≤ o ∧ o < 256) (hq : 8 * 31 / 51 = q) (hf : 8 * 31 % 51 = f) (hA : f ≤ 43 ∨ q = 4) :
    (0 ≤ o * 2 ^ f ∧ o * 2 ^ f < 18446744073709551616) ∧ (0 ≤ (digs V).getD q 0 ∧ (digs V).getD q 0 < (2 ^ f : Nat)) ∧ (o * 2 ^ f % 2251799813685248) % (2 ^ f : Nat) = 0 ∧ (digs V).set q ((digs V).getD q 0 + o * 2 ^ f % 2251799813685248) = digs (V + 256 ^ 31 * o) := by
  obtain rfl : q = 4 := by omega
  obtain rfl : f = 44 := by omega
  clear hA hq hf
  simp only [digs, List.getD_cons_zero, List.getD_cons_succ, List.set_cons_zero, List.set_cons_succ, Int.reducePow, Nat.reducePow] at hV ⊢
  have e0 : (V + 452312848583266388373324160190187140051835877600158453279131187530910662656 * o) % 2251799813685248 = V % 2251799813685248 := by rw [show 452312848583266388373324160190187140051835877600158453279131187530910662656 * o = 2251799813685248 * (200867255532373784442745261542645325315275374222849104412672 * o) by omega]; exact Int.add_mul_emod_self_left ..
  have e1 : (V + 452312848583266388373324160190187140051835877600158453279131187530910662656 * o) / 2251799813685248 % 2251799813685248 = V / 2251799813685248 % 2251799813685248 := by rw [show 452312848583266388373324160190187140051835877600158453279131187530910662656 * o = 2251799813685248 * (2251799813685248 * (89202980794122492566142873090593446023921664 * o)) by omega]; exact dig_lt _ _ _ (by decide)
  have e2 : (V + 452312848583266388373324160190187140051835877600158453279131187530910662656 * o) / 5070602400912917605986812821504 % 2251799813685248 = V / 5070602400912917605986812821504 % 2251799813685248 := by rw [show 452312848583266388373324160190187140051835877600158453279131187530910662656 * o = 5070602400912917605986812821504 * (2251799813685248 * (39614081257132168796771975168 * o)) by omega]; exact dig_lt _ _ _ (by decide)
  have e3 : (V + 452312848583266388373324160190187140051835877600158453279131187530910662656 * o) / 11417981541647679048466287755595961091061972992 % 2251799813685248 = V / 11417981541647679048466287755595961091061972992 % 2251799813685248 := by rw [show 452312848583266388373324160190187140051835877600158453279131187530910662656 * o = 11417981541647679048466287755595961091061972992 * (2251799813685248 * (17592186044416 * o)) by omega]; exact dig_lt _ _ _ (by decide)
  have eq : (V + 452312848583266388373324160190187140051835877600158453279131187530910662656 * o) / 25711008708143844408671393477458601640355247900524685364822016 = V / 25711008708143844408671393477458601640355247900524685364822016 + 17592186044416 * o := by rw [show 452312848583266388373324160190187140051835877600158453279131187530910662656 * o = 25711008708143844408671393477458601640355247900524685364822016 * (17592186044416 * o) by omega]; exact dig_q _ _ _ (by decide)
  have hD : 0 ≤ V / 25711008708143844408671393477458601640355247900524685364822016 ∧ V / 25711008708143844408671393477458601640355247900524685364822016 < 17592186044416 := by omega
  rw [e0, e1, e2, e3, eq]
  generalize V / 25711008708143844408671393477458601640355247900524685364822016 = D at *
  clear e0 e1 e2 e3 eq hV
  refine ⟨by omega, by omega, by omega, List.cons_eq_cons.2 ⟨rfl, List.cons_eq_cons.2 ⟨rfl, List.cons_eq_cons.2 ⟨rfl, List.cons_eq_cons.2 ⟨rfl, List.cons_eq_cons.2 ⟨by omega, rfl⟩⟩⟩⟩⟩⟩
theorem of_one (V o : Int) (k q f : Nat) (hk : k < 32) (hV : 0 ≤ V ∧ V < 256 ^ k) (ho : 0 ≤ o ∧ o < 256) (hq : 8 * k / 51 = q) (hf : 8 * k % 51 = f) (hA : f ≤ 43 ∨ q = 4) :
    (0 ≤ o * 2 ^ f ∧ o * 2 ^ f < 18446744073709551616) ∧ (0 ≤ (digs V).getD q 0 ∧ (digs V).getD q 0 < (2 ^ f : Nat)) ∧ (o * 2 ^ f % 2251799813685248) % (2 ^ f : Nat) = 0 ∧ (digs V).set q ((digs V).getD q 0 + o * 2 ^ f % 2251799813685248) = digs (V + 256 ^ k * o) := by
  have : k = 0 ∨ k = 1 ∨ k = 2 ∨ k = 3 ∨ k = 4 ∨ k = 5 ∨ k = 7 ∨ k = 8 ∨ k = 9 ∨ k = 10 ∨ k = 11 ∨ k = 13 ∨ k = 14 ∨ k = 15 ∨ k = 16 ∨ k = 17 ∨ k = 18 ∨ k = 20 ∨ k = 21 ∨ k = 22 ∨ k = 23 ∨ k = 24 ∨ k = 26 ∨ k = 27 ∨ k = 28 ∨ k = 29 ∨ k = 30 ∨ k = 31 := by omega
  rcases this with rfl | rfl | rfl | rfl | rfl | rfl | rfl | rfl | rfl | rfl | rfl | rfl | rfl | rfl | rfl | rfl | rfl | rfl | rfl | rfl | rfl | rfl | rfl | rfl | rfl | rfl | rfl | rfl
  · exact of_one0 V o q f hV ho hq hf hA
  · exact of_one1 V o q f hV ho hq hf hA
  · exact of_one2 V o q f hV ho hq hf hA
  · exact of_one3 V o q f hV ho hq hf hA
  · exact of_one4 V o q f hV ho hq hf hA
  · exact of_one5 V o q f hV ho hq hf hA
  · exact of_one7 V o q f hV ho hq hf hA
  · exact of_one8 V o q f hV ho hq hf hA
  · exact of_one9 V o q f hV ho hq hf hA
  · exact of_one10 V o q f hV ho hq hf hA
  · exact of_one11 V o q f hV ho hq hf hA
  · exact of_one13 V o q f hV ho hq hf hA
  · exact of_one14 V o q f hV ho hq hf hA
  · exact of_one15 V o q f hV ho hq hf hA
  · exact of_one16 V o q f hV ho hq hf hA
  · exact of_one17 V o q f hV ho hq hf hA
  · exact of_one18 V o q f hV ho hq hf hA
  · exact of_one20 V o q f hV ho hq hf hA
  · exact of_one21 V o q f hV ho hq hf hA
  · exact of_one22 V o q f hV ho hq hf hA
  · exact of_one23 V o q f hV ho hq hf hA
  · exact of_one24 V o q f hV ho hq hf hA
  · exact of_one26 V o q f hV ho hq hf hA
  · exact of_one27 V o q f hV ho hq hf hA
  · exact of_one28 V o q f hV ho hq hf hA
  · exact of_one29 V o q f hV ho hq hf hA
  · exact of_one30 V o q f hV ho hq hf hA
  · exact of_one31 V o q f hV ho hq hf hA
set_option maxHeartbeats 4000000 in
theorem of_two (V o : Int) (k q f s : Nat) (hk : k < 32) (hV : 0 ≤ V ∧ V < 256 ^ k) (ho : 0 ≤ o ∧ o < 256) (hq : 8 * k / 51 = q) (hf : 8 * k % 51 = f) (hs : 51 - f = s) (hA : 43 < f) (hB : q < 4) :
    (0 ≤ o * 2 ^ f ∧ o * 2 ^ f < 18446744073709551616) ∧ (0 ≤ (digs V).getD q 0 ∧ (digs V).getD q 0 < (2 ^ f : Nat)) ∧ (o * 2 ^ f % 2251799813685248) % (2 ^ f : Nat) = 0 ∧ (digs V).getD (q + 1) 0 = 0 ∧ (0 ≤ o / 2 ^ s ∧ o / 2 ^ s < 256) ∧ ((digs V).set q ((digs V).getD q 0 + o * 2 ^ f % 2251799813685248)).set (q + 1) (o / 2 ^ s) = digs (V + 256 ^ k * o) := by
  have : k = 6 ∨ k = 12 ∨ k = 19 ∨ k = 25 := by omega
  rcases this with rfl | rfl | rfl | rfl
  · obtain rfl : q = 0 := by omega
    obtain rfl : f = 48 := by omega
    obtain rfl : s = 3 := by omega
    clear hA hq hf hB hs
    simp only [digs, List.getD_cons_zero, List.getD_cons_succ, List.set_cons_zero, List.set_cons_succ, Int.reducePow, Nat.reducePow, Nat.reduceAdd] at hV ⊢
    refine ⟨by omega, by omega, by omega, by omega, by omega, List.cons_eq_cons.2 ⟨by omega, List.cons_eq_cons.2 ⟨by omega, List.cons_eq_cons.2 ⟨by omega, List.cons_eq_cons.2 ⟨by omega, List.cons_eq_cons.2 ⟨by omega, rfl⟩⟩⟩⟩⟩⟩
  · obtain rfl : q = 1 := by omega
    obtain rfl : f = 45 := by omega
    obtain rfl : s = 6 := by omega
    clear hA hq hf hB hs
    simp only [digs, List.getD_cons_zero, List.getD_cons_succ, List.set_cons_zero, List.set_cons_succ, Int.reducePow, Nat.reducePow, Nat.reduceAdd] at hV ⊢
    have e0 : (V + 79228162514264337593543950336 * o) % 2251799813685248 = V % 2251799813685248 := by rw [show 79228162514264337593543950336 * o = 2251799813685248 * (35184372088832 * o) by omega]; exact Int.add_mul_emod_self_left ..
    have eq : (V + 79228162514264337593543950336 * o) / 2251799813685248 = V / 2251799813685248 + 35184372088832 * o := by rw [show 79228162514264337593543950336 * o = 2251799813685248 * (35184372088832 * o) by omega]; exact dig_q _ _ _ (by decide)
    have hD : 0 ≤ V / 2251799813685248 ∧ V / 2251799813685248 < 35184372088832 := by omega
    have g2 : V / 5070602400912917605986812821504 = V / 2251799813685248 / 2251799813685248 := dig_gt _ _ _ _ (by decide) (by decide)
    have h2 : (V + 79228162514264337593543950336 * o) / 5070602400912917605986812821504 = (V / 2251799813685248 + 35184372088832 * o) / 2251799813685248 := by rw [← eq]; exact dig_gt _ _ _ _ (by decide) (by decide)
    have g3 : V / 11417981541647679048466287755595961091061972992 = V / 2251799813685248 / 5070602400912917605986812821504 := dig_gt _ _ _ _ (by decide) (by decide)
    have h3 : (V + 79228162514264337593543950336 * o) / 11417981541647679048466287755595961091061972992 = (V / 2251799813685248 + 35184372088832 * o) / 5070602400912917605986812821504 := by rw [← eq]; exact dig_gt _ _ _ _ (by decide) (by decide)
    have g4 : V / 25711008708143844408671393477458601640355247900524685364822016 = V / 2251799813685248 / 11417981541647679048466287755595961091061972992 := dig_gt _ _ _ _ (by decide) (by decide)
    have h4 : (V + 79228162514264337593543950336 * o) / 25711008708143844408671393477458601640355247900524685364822016 = (V / 2251799813685248 + 35184372088832 * o) / 11417981541647679048466287755595961091061972992 := by rw [← eq]; exact dig_gt _ _ _ _ (by decide) (by decide)
    rw [e0, eq, h2, h3, h4, g2, g3, g4]
    generalize V / 2251799813685248 = D at *
    clear e0 eq g2 g3 g4 h2 h3 h4 hV
    refine ⟨by omega, by omega, by omega, by omega, by omega, List.cons_eq_cons.2 ⟨rfl, List.cons_eq_cons.2 ⟨by omega, List.cons_eq_cons.2 ⟨by omega, List.cons_eq_cons.2 ⟨by omega, List.cons_eq_cons.2 ⟨by omega, rfl⟩⟩⟩⟩⟩⟩
  · obtain rfl : q = 2 := by omega
    obtain rfl : f = 50 := by omega
    obtain rfl : s = 1 := by omega
    clear hA hq hf hB hs
    simp only [digs, List.getD_cons_zero, List.getD_cons_succ, List.set_cons_zero, List.set_cons_succ, Int.reducePow, Nat.reducePow, Nat.reduceAdd] at hV ⊢
    have e0 : (V + 5708990770823839524233143877797980545530986496 * o) % 2251799813685248 = V % 2251799813685248 := by rw [show 5708990770823839524233143877797980545530986496 * o = 2251799813685248 * (2535301200456458802993406410752 * o) by omega]; exact Int.add_mul_emod_self_left ..
    have e1 : (V + 5708990770823839524233143877797980545530986496 * o) / 2251799813685248 % 2251799813685248 = V / 2251799813685248 % 2251799813685248 := by rw [show 5708990770823839524233143877797980545530986496 * o = 2251799813685248 * (2251799813685248 * (1125899906842624 * o)) by omega]; exact dig_lt _ _ _ (by decide)
    have eq : (V + 5708990770823839524233143877797980545530986496 * o) / 5070602400912917605986812821504 = V / 5070602400912917605986812821504 + 1125899906842624 * o := by rw [show 5708990770823839524233143877797980545530986496 * o = 5070602400912917605986812821504 * (1125899906842624 * o) by omega]; exact dig_q _ _ _ (by decide)
    have hD : 0 ≤ V / 5070602400912917605986812821504 ∧ V / 5070602400912917605986812821504 < 1125899906842624 := by omega
    have g3 : V / 11417981541647679048466287755595961091061972992 = V / 5070602400912917605986812821504 / 2251799813685248 := dig_gt _ _ _ _ (by decide) (by decide)
    have h3 : (V + 5708990770823839524233143877797980545530986496 * o) / 11417981541647679048466287755595961091061972992 = (V / 5070602400912917605986812821504 + 1125899906842624 * o) / 2251799813685248 := by rw [← eq]; exact dig_gt _ _ _ _ (by decide) (by decide)
    have g4 : V / 25711008708143844408671393477458601640355247900524685364822016 = V / 5070602400912917605986812821504 / 5070602400912917605986812821504 := dig_gt _ _ _ _ (by decide) (by decide)
    have h4 : (V + 5708990770823839524233143877797980545530986496 * o) / 25711008708143844408671393477458601640355247900524685364822016 = (V / 5070602400912917605986812821504 + 1125899906842624 * o) / 5070602400912917605986812821504 := by rw [← eq]; exact dig_gt _ _ _ _ (by decide) (by decide)
    rw [e0, e1, eq, h3, h4, g3, g4]
    generalize V / 5070602400912917605986812821504 = D at *
    clear e0 e1 eq g3 g4 h3 h4 hV
    refine ⟨by omega, by omega, by omega, by omega, by omega, List.cons_eq_cons.2 ⟨rfl, List.cons_eq_cons.2 ⟨rfl, List.cons_eq_cons.2 ⟨by omega, List.cons_eq_cons.2 ⟨by omega, List.cons_eq_cons.2 ⟨by omega, rfl⟩⟩⟩⟩⟩⟩
  · obtain rfl : q = 3 := by omega
    obtain rfl : f = 47 := by omega
    obtain rfl : s = 4 := by omega
    clear hA hq hf hB hs
    simp only [digs, List.getD_cons_zero, List.getD_cons_succ, List.set_cons_zero, List.set_cons_succ, Int.reducePow, Nat.reducePow, Nat.reduceAdd] at hV ⊢
    have e0 : (V + 1606938044258990275541962092341162602522202993782792835301376 * o) % 2251799813685248 = V % 2251799813685248 := by rw [show 1606938044258990275541962092341162602522202993782792835301376 * o = 2251799813685248 * (713623846352979940529142984724747568191373312 * o) by omega]; exact Int.add_mul_emod_self_left ..
    have e1 : (V + 1606938044258990275541962092341162602522202993782792835301376 * o) / 2251799813685248 % 2251799813685248 = V / 2251799813685248 % 2251799813685248 := by rw [show 1606938044258990275541962092341162602522202993782792835301376 * o = 2251799813685248 * (2251799813685248 * (316912650057057350374175801344 * o)) by omega]; exact dig_lt _ _ _ (by decide)
    have e2 : (V + 1606938044258990275541962092341162602522202993782792835301376 * o) / 5070602400912917605986812821504 % 2251799813685248 = V / 5070602400912917605986812821504 % 2251799813685248 := by rw [show 1606938044258990275541962092341162602522202993782792835301376 * o = 5070602400912917605986812821504 * (2251799813685248 * (140737488355328 * o)) by omega]; exact dig_lt _ _ _ (by decide)
    have eq : (V + 1606938044258990275541962092341162602522202993782792835301376 * o) / 11417981541647679048466287755595961091061972992 = V / 11417981541647679048466287755595961091061972992 + 140737488355328 * o := by rw [show 1606938044258990275541962092341162602522202993782792835301376 * o = 11417981541647679048466287755595961091061972992 * (140737488355328 * o) by omega]; exact dig_q _ _ _ (by decide)
    have hD : 0 ≤ V / 11417981541647679048466287755595961091061972992 ∧ V / 11417981541647679048466287755595961091061972992 < 140737488355328 := by omega
    have g4 : V / 25711008708143844408671393477458601640355247900524685364822016 = V / 11417981541647679048466287755595961091061972992 / 2251799813685248 := dig_gt _ _ _ _ (by decide) (by decide)
    have h4 : (V + 1606938044258990275541962092341162602522202993782792835301376 * o) / 25711008708143844408671393477458601640355247900524685364822016 = (V / 11417981541647679048466287755595961091061972992 + 140737488355328 * o) / 2251799813685248 := by rw [← eq]; exact dig_gt _ _ _ _ (by decide) (by decide)
    rw [e0, e1, e2, eq, h4, g4]
    generalize V / 11417981541647679048466287755595961091061972992 = D at *
    clear e0 e1 e2 eq g4 h4 hV
    refine ⟨by omega, by omega, by omega, by omega, by omega, List.cons_eq_cons.2 ⟨rfl, List.cons_eq_cons.2 ⟨rfl, List.cons_eq_cons.2 ⟨rfl, List.cons_eq_cons.2 ⟨by omega, List.cons_eq_cons.2 ⟨by omega, rfl⟩⟩⟩⟩⟩⟩
end Go.Proofs.Ytnifolefhelmcaa
