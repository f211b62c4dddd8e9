/- Joined by program: what the theorem reaches. -/
import Derived.Test.YthlbjkfjkggdoaaGreatDoorJA
import Derived.Test.YthlbjkfjkggdoaaGreatDoorJC
namespace Go.Proofs.YthlbjkfjkggdoaaGreatDoor
open Go.RowKit
set_option linter.unusedVariables false
set_option linter.unusedSimpArgs false
set_option maxRecDepth 20000
set_option maxHeartbeats 4000000
theorem digs_fe (v : Int) (h : 0 ≤ v) : Fe (digs v) (v % 57896044618658097711785492504343953926634992332820282019728792003956564819968 % PR) := by
 refine Fe.of ⟨by omega, by omega⟩ ⟨by omega, by omega⟩ ⟨by omega, by omega⟩ ⟨by omega, by omega⟩ ⟨by omega, by omega⟩ ?_
 congr 1
 unfold v5
 omega
theorem or64 (s : Nat) (a b : Int) (hs : s ≤ 63) (ha : 0 ≤ a ∧ a < (2 ^ s : Nat)) (hb : 0 ≤ b ∧ b < 18446744073709551616) (hm : b % (2 ^ s : Nat) = 0) : bits .or .u64 a b = a + b := by
 obtain ⟨a, rfl⟩ := Int.eq_ofNat_of_zero_le ha.1
 obtain ⟨b, rfl⟩ := Int.eq_ofNat_of_zero_le hb.1
 have h2 : (2 : Nat) ^ s ≤ 2 ^ 63 := Nat.pow_le_pow_right (by decide) hs
 have h3 := ha.2
 rw [u64_or _ _ (by omega) (by omega) (by omega) (by omega)]
 have h4 : b % 2 ^ s = 0 := by omega
 obtain ⟨c, rfl⟩ := Nat.dvd_of_mod_eq_zero h4
 have h := Nat.shiftLeft_add_eq_or_of_lt (i := s) (b := a) (by omega) c
 rw [Int.toNat_natCast, Int.toNat_natCast, Nat.or_comm, Nat.mul_comm, ← Nat.shiftLeft_eq, ← h]
 simp [Nat.shiftLeft_eq, Int.add_comm]
theorem or64_zero (b : Int) (hb : 0 ≤ b ∧ b < 18446744073709551616) : bits .or .u64 0 b = b := by
 rw [u64_or _ _ (by decide) (by decide) hb.1 hb.2]
 simp; omega
theorem dig_lt (V c z : Int) (hc : c ≠ 0) : (V + c * (2251799813685248 * z)) / c % 2251799813685248 = V / c % 2251799813685248 := by
 rw [Int.add_mul_ediv_left _ _ hc, Int.add_mul_emod_self_left]
theorem dig_q (V c z : Int) (hc : c ≠ 0) : (V + c * z) / c = V / c + z := Int.add_mul_ediv_left _ _ hc
theorem dig_gt (V c m n : Int) (hc : 0 ≤ c) (h : c * m = n) : V / n = V / c / m := by rw [← h, Int.ediv_ediv_of_nonneg hc]
theorem dq1 (V z : Int) : digs (V + 2251799813685248 * z) = [V % 2251799813685248, (V / 2251799813685248 + z) % 2251799813685248, (V / 2251799813685248 + z) / 2251799813685248 % 2251799813685248, (V / 2251799813685248 + z) / 5070602400912917605986812821504 % 2251799813685248, (V / 2251799813685248 + z) / 11417981541647679048466287755595961091061972992 % 2251799813685248] := by
 have e0 : (V + 2251799813685248 * z) % 2251799813685248 = V % 2251799813685248 := by rw [show 2251799813685248 * z = 2251799813685248 * (z) by omega]; exact Int.add_mul_emod_self_left ..
 unfold digs
 rw [e0, dig_gt (V + 2251799813685248 * z) 2251799813685248 2251799813685248 5070602400912917605986812821504 (by decide) (by decide), dig_gt (V + 2251799813685248 * z) 2251799813685248 5070602400912917605986812821504 11417981541647679048466287755595961091061972992 (by decide) (by decide), dig_gt (V + 2251799813685248 * z) 2251799813685248 11417981541647679048466287755595961091061972992 25711008708143844408671393477458601640355247900524685364822016 (by decide) (by decide), dig_q V 2251799813685248 z (by decide)]
theorem dv1 (V : Int) : digs V = [V % 2251799813685248, V / 2251799813685248 % 2251799813685248, V / 2251799813685248 / 2251799813685248 % 2251799813685248, V / 2251799813685248 / 5070602400912917605986812821504 % 2251799813685248, V / 2251799813685248 / 11417981541647679048466287755595961091061972992 % 2251799813685248] := by
 have h := dq1 V 0
 rwa [Int.mul_zero, Int.add_zero, Int.add_zero] at h
theorem dq2 (V z : Int) : digs (V + 5070602400912917605986812821504 * z) = [V % 2251799813685248, V / 2251799813685248 % 2251799813685248, (V / 5070602400912917605986812821504 + z) % 2251799813685248, (V / 5070602400912917605986812821504 + z) / 2251799813685248 % 2251799813685248, (V / 5070602400912917605986812821504 + z) / 5070602400912917605986812821504 % 2251799813685248] := by
 have e0 : (V + 5070602400912917605986812821504 * z) % 2251799813685248 = V % 2251799813685248 := by rw [show 5070602400912917605986812821504 * z = 2251799813685248 * (2251799813685248 * z) by omega]; exact Int.add_mul_emod_self_left ..
 have e1 : (V + 5070602400912917605986812821504 * z) / 2251799813685248 % 2251799813685248 = V / 2251799813685248 % 2251799813685248 := by rw [show 5070602400912917605986812821504 * z = 2251799813685248 * (2251799813685248 * (z)) by omega]; exact dig_lt _ _ _ (by decide)
 unfold digs
 rw [e0, e1, dig_gt (V + 5070602400912917605986812821504 * z) 5070602400912917605986812821504 2251799813685248 11417981541647679048466287755595961091061972992 (by decide) (by decide), dig_gt (V + 5070602400912917605986812821504 * z) 5070602400912917605986812821504 5070602400912917605986812821504 25711008708143844408671393477458601640355247900524685364822016 (by decide) (by decide), dig_q V 5070602400912917605986812821504 z (by decide)]
theorem dv2 (V : Int) : digs V = [V % 2251799813685248, V / 2251799813685248 % 2251799813685248, V / 5070602400912917605986812821504 % 2251799813685248, V / 5070602400912917605986812821504 / 2251799813685248 % 2251799813685248, V / 5070602400912917605986812821504 / 5070602400912917605986812821504 % 2251799813685248] := by
 have h := dq2 V 0
 rwa [Int.mul_zero, Int.add_zero, Int.add_zero] at h
theorem dq3 (V z : Int) : digs (V + 11417981541647679048466287755595961091061972992 * z) = [V % 2251799813685248, V / 2251799813685248 % 2251799813685248, V / 5070602400912917605986812821504 % 2251799813685248, (V / 11417981541647679048466287755595961091061972992 + z) % 2251799813685248, (V / 11417981541647679048466287755595961091061972992 + z) / 2251799813685248 % 2251799813685248] := by
 have e0 : (V + 11417981541647679048466287755595961091061972992 * z) % 2251799813685248 = V % 2251799813685248 := by rw [show 11417981541647679048466287755595961091061972992 * z = 2251799813685248 * (5070602400912917605986812821504 * z) by omega]; exact Int.add_mul_emod_self_left ..
 have e1 : (V + 11417981541647679048466287755595961091061972992 * z) / 2251799813685248 % 2251799813685248 = V / 2251799813685248 % 2251799813685248 := by rw [show 11417981541647679048466287755595961091061972992 * z = 2251799813685248 * (2251799813685248 * (2251799813685248 * z)) by omega]; exact dig_lt _ _ _ (by decide)
 have e2 : (V + 11417981541647679048466287755595961091061972992 * z) / 5070602400912917605986812821504 % 2251799813685248 = V / 5070602400912917605986812821504 % 2251799813685248 := by rw [show 11417981541647679048466287755595961091061972992 * z = 5070602400912917605986812821504 * (2251799813685248 * (z)) by omega]; exact dig_lt _ _ _ (by decide)
 unfold digs
 rw [e0, e1, e2, dig_gt (V + 11417981541647679048466287755595961091061972992 * z) 11417981541647679048466287755595961091061972992 2251799813685248 25711008708143844408671393477458601640355247900524685364822016 (by decide) (by decide), dig_q V 11417981541647679048466287755595961091061972992 z (by decide)]
theorem dv3 (V : Int) : digs V = [V % 2251799813685248, V / 2251799813685248 % 2251799813685248, V / 5070602400912917605986812821504 % 2251799813685248, V / 11417981541647679048466287755595961091061972992 % 2251799813685248, V / 11417981541647679048466287755595961091061972992 / 2251799813685248 % 2251799813685248] := by
 have h := dq3 V 0
 rwa [Int.mul_zero, Int.add_zero, Int.add_zero] at h
theorem dq4 (V z : Int) : digs (V + 25711008708143844408671393477458601640355247900524685364822016 * z) = [V % 2251799813685248, V / 2251799813685248 % 2251799813685248, V / 5070602400912917605986812821504 % 2251799813685248, V / 11417981541647679048466287755595961091061972992 % 2251799813685248, (V / 25711008708143844408671393477458601640355247900524685364822016 + z) % 2251799813685248] := by
 have e0 : (V + 25711008708143844408671393477458601640355247900524685364822016 * z) % 2251799813685248 = V % 2251799813685248 := by rw [show 25711008708143844408671393477458601640355247900524685364822016 * z = 2251799813685248 * (11417981541647679048466287755595961091061972992 * z) by omega]; exact Int.add_mul_emod_self_left ..
 have e1 : (V + 25711008708143844408671393477458601640355247900524685364822016 * z) / 2251799813685248 % 2251799813685248 = V / 2251799813685248 % 2251799813685248 := by rw [show 25711008708143844408671393477458601640355247900524685364822016 * z = 2251799813685248 * (2251799813685248 * (5070602400912917605986812821504 * z)) by omega]; exact dig_lt _ _ _ (by decide)
 have e2 : (V + 25711008708143844408671393477458601640355247900524685364822016 * z) / 5070602400912917605986812821504 % 2251799813685248 = V / 5070602400912917605986812821504 % 2251799813685248 := by rw [show 25711008708143844408671393477458601640355247900524685364822016 * z = 5070602400912917605986812821504 * (2251799813685248 * (2251799813685248 * z)) by omega]; exact dig_lt _ _ _ (by decide)
 have e3 : (V + 25711008708143844408671393477458601640355247900524685364822016 * z) / 11417981541647679048466287755595961091061972992 % 2251799813685248 = V / 11417981541647679048466287755595961091061972992 % 2251799813685248 := by rw [show 25711008708143844408671393477458601640355247900524685364822016 * z = 11417981541647679048466287755595961091061972992 * (2251799813685248 * (z)) by omega]; exact dig_lt _ _ _ (by decide)
 unfold digs
 rw [e0, e1, e2, e3, dig_q V 25711008708143844408671393477458601640355247900524685364822016 z (by decide)]
theorem dv4 (V : Int) : digs V = [V % 2251799813685248, V / 2251799813685248 % 2251799813685248, V / 5070602400912917605986812821504 % 2251799813685248, V / 11417981541647679048466287755595961091061972992 % 2251799813685248, V / 25711008708143844408671393477458601640355247900524685364822016 % 2251799813685248] := by
 have h := dq4 V 0
 rwa [Int.mul_zero, Int.add_zero, Int.add_zero] at h
def OfP (V o : Int) (k q f : Nat) : Prop := (0 ≤ o * 2 ^ f ∧ o * 2 ^ f < 18446744073709551616) ∧ (0 ≤ (digs V).getD q 0 ∧ (digs V).getD q 0 < (2 ^ f : Nat)) ∧ (o * 2 ^ f % 2251799813685248) % (2 ^ f : Nat) = 0 ∧ (digs V).set q ((digs V).getD q 0 + o * 2 ^ f % 2251799813685248) = digs (V + 256 ^ k * o)
theorem two_f (f : Nat) (hf : f ≤ 43) : 0 < (2 : Int) ^ f ∧ (2 : Int) ^ f ≤ 8796093022208 := by
 have h := Nat.pow_le_pow_right (n := 2) (by decide) hf
 have e : ((2 ^ f : Nat) : Int) = (2 : Int) ^ f := by simp
 have p := Nat.pow_pos (a := 2) (n := f) (by decide)
 omega
theorem oq0 (V o : Int) (k f : Nat) (hc : (256 : Int) ^ k = 1 * 2 ^ f) (hf : f ≤ 43) (hV : 0 ≤ V ∧ V < 256 ^ k) (ho : 0 ≤ o ∧ o < 256) : OfP V o k 0 f := by
 have ht := two_f f hf
 have e : ((2 ^ f : Nat) : Int) = (2 : Int) ^ f := by simp
 unfold OfP
 rw [e, hc, Int.one_mul]
 rw [hc, Int.one_mul] at hV
 unfold digs
 generalize (2 : Int) ^ f = t at *
 obtain ⟨D, rfl⟩ : ∃ D, D = V := ⟨_, rfl⟩
 have hD : 0 ≤ D ∧ D < t := hV
 have hP : 0 ≤ t * o ∧ t * o ≤ 255 * t := ⟨Int.mul_nonneg (by omega) ho.1, by
  have := Int.mul_le_mul_of_nonneg_left (show o ≤ 255 by omega) (show 0 ≤ t by omega)
  omega⟩
 have hm : (o * t) % t = 0 := Int.mul_emod_left _ _
 rw [Int.mul_comm t o] at *
 generalize o * t = P at *
 have m3 : P % 2251799813685248 = P := by omega
 simp only [List.getD_cons_zero, List.getD_cons_succ, List.set_cons_zero, List.set_cons_succ]
 rw [m3]
 refine ⟨by omega, by omega, hm, ?_⟩
 simp only [List.cons.injEq, and_true, true_and]
 omega
theorem oq1 (V o : Int) (k f : Nat) (hc : (256 : Int) ^ k = 2251799813685248 * 2 ^ f) (hf : f ≤ 43) (hV : 0 ≤ V ∧ V < 256 ^ k) (ho : 0 ≤ o ∧ o < 256) : OfP V o k 1 f := by
 have ht := two_f f hf
 have e : ((2 ^ f : Nat) : Int) = (2 : Int) ^ f := by simp
 unfold OfP
 rw [e, hc, Int.mul_assoc, dq1, dv1 V]
 rw [hc] at hV
 generalize (2 : Int) ^ f = t at *
 have hD : 0 ≤ V / 2251799813685248 ∧ V / 2251799813685248 < t := ⟨Int.ediv_nonneg hV.1 (by decide), Int.ediv_lt_of_lt_mul (by decide) (by rw [Int.mul_comm]; exact hV.2)⟩
 generalize V / 2251799813685248 = D at *
 have hP : 0 ≤ t * o ∧ t * o ≤ 255 * t := ⟨Int.mul_nonneg (by omega) ho.1, by
  have := Int.mul_le_mul_of_nonneg_left (show o ≤ 255 by omega) (show 0 ≤ t by omega)
  omega⟩
 have hm : (o * t) % t = 0 := Int.mul_emod_left _ _
 rw [Int.mul_comm t o] at *
 generalize o * t = P at *
 have m3 : P % 2251799813685248 = P := by omega
 simp only [List.getD_cons_zero, List.getD_cons_succ, List.set_cons_zero, List.set_cons_succ]
 rw [m3]
 refine ⟨by omega, by omega, hm, ?_⟩
 simp only [List.cons.injEq, and_true, true_and]
 omega
theorem oq2 (V o : Int) (k f : Nat) (hc : (256 : Int) ^ k = 5070602400912917605986812821504 * 2 ^ f) (hf : f ≤ 43) (hV : 0 ≤ V ∧ V < 256 ^ k) (ho : 0 ≤ o ∧ o < 256) : OfP V o k 2 f := by
 have ht := two_f f hf
 have e : ((2 ^ f : Nat) : Int) = (2 : Int) ^ f := by simp
 unfold OfP
 rw [e, hc, Int.mul_assoc, dq2, dv2 V]
 rw [hc] at hV
 generalize (2 : Int) ^ f = t at *
 have hD : 0 ≤ V / 5070602400912917605986812821504 ∧ V / 5070602400912917605986812821504 < t := ⟨Int.ediv_nonneg hV.1 (by decide), Int.ediv_lt_of_lt_mul (by decide) (by rw [Int.mul_comm]; exact hV.2)⟩
 generalize V / 5070602400912917605986812821504 = D at *
 have hP : 0 ≤ t * o ∧ t * o ≤ 255 * t := ⟨Int.mul_nonneg (by omega) ho.1, by
  have := Int.mul_le_mul_of_nonneg_left (show o ≤ 255 by omega) (show 0 ≤ t by omega)
  omega⟩
 have hm : (o * t) % t = 0 := Int.mul_emod_left _ _
 rw [Int.mul_comm t o] at *
 generalize o * t = P at *
 have m3 : P % 2251799813685248 = P := by omega
 simp only [List.getD_cons_zero, List.getD_cons_succ, List.set_cons_zero, List.set_cons_succ]
 rw [m3]
 refine ⟨by omega, by omega, hm, ?_⟩
 simp only [List.cons.injEq, and_true, true_and]
 omega
theorem oq3 (V o : Int) (k f : Nat) (hc : (256 : Int) ^ k = 11417981541647679048466287755595961091061972992 * 2 ^ f) (hf : f ≤ 43) (hV : 0 ≤ V ∧ V < 256 ^ k) (ho : 0 ≤ o ∧ o < 256) : OfP V o k 3 f := by
 have ht := two_f f hf
 have e : ((2 ^ f : Nat) : Int) = (2 : Int) ^ f := by simp
 unfold OfP
 rw [e, hc, Int.mul_assoc, dq3, dv3 V]
 rw [hc] at hV
 generalize (2 : Int) ^ f = t at *
 have hD : 0 ≤ V / 11417981541647679048466287755595961091061972992 ∧ V / 11417981541647679048466287755595961091061972992 < t := ⟨Int.ediv_nonneg hV.1 (by decide), Int.ediv_lt_of_lt_mul (by decide) (by rw [Int.mul_comm]; exact hV.2)⟩
 generalize V / 11417981541647679048466287755595961091061972992 = D at *
 have hP : 0 ≤ t * o ∧ t * o ≤ 255 * t := ⟨Int.mul_nonneg (by omega) ho.1, by
  have := Int.mul_le_mul_of_nonneg_left (show o ≤ 255 by omega) (show 0 ≤ t by omega)
  omega⟩
 have hm : (o * t) % t = 0 := Int.mul_emod_left _ _
 rw [Int.mul_comm t o] at *
 generalize o * t = P at *
 have m3 : P % 2251799813685248 = P := by omega
 simp only [List.getD_cons_zero, List.getD_cons_succ, List.set_cons_zero, List.set_cons_succ]
 rw [m3]
 refine ⟨by omega, by omega, hm, ?_⟩
 simp only [List.cons.injEq, and_true, true_and]
 omega
theorem of_one26 (V o : Int) (hV : 0 ≤ V ∧ V < 256 ^ 26) (ho : 0 ≤ o ∧ o < 256) : OfP V o 26 4 4 := by
 unfold OfP
 rw [show (256 : Int) ^ 26 * o = 25711008708143844408671393477458601640355247900524685364822016 * (16 * o) by omega, dq4, dv4 V]
 have hD : 0 ≤ V / 25711008708143844408671393477458601640355247900524685364822016 ∧ V / 25711008708143844408671393477458601640355247900524685364822016 < 16 := by omega
 generalize V / 25711008708143844408671393477458601640355247900524685364822016 = D at *
 clear hV
 simp only [List.getD_cons_zero, List.getD_cons_succ, List.set_cons_zero, List.set_cons_succ, Int.reducePow, Nat.reducePow]
 refine ⟨by omega, by omega, by omega, ?_⟩
 simp only [List.cons.injEq, and_true, true_and]
 omega
theorem of_one27 (V o : Int) (hV : 0 ≤ V ∧ V < 256 ^ 27) (ho : 0 ≤ o ∧ o < 256) : OfP V o 27 4 12 := by
 unfold OfP
 rw [show (256 : Int) ^ 27 * o = 25711008708143844408671393477458601640355247900524685364822016 * (4096 * o) by omega, dq4, dv4 V]
 have hD : 0 ≤ V / 25711008708143844408671393477458601640355247900524685364822016 ∧ V / 25711008708143844408671393477458601640355247900524685364822016 < 4096 := by omega
 generalize V / 25711008708143844408671393477458601640355247900524685364822016 = D at *
 clear hV
 simp only [List.getD_cons_zero, List.getD_cons_succ, List.set_cons_zero, List.set_cons_succ, Int.reducePow, Nat.reducePow]
 refine ⟨by omega, by omega, by omega, ?_⟩
 simp only [List.cons.injEq, and_true, true_and]
 omega
theorem of_one28 (V o : Int) (hV : 0 ≤ V ∧ V < 256 ^ 28) (ho : 0 ≤ o ∧ o < 256) : OfP V o 28 4 20 := by
 unfold OfP
 rw [show (256 : Int) ^ 28 * o = 25711008708143844408671393477458601640355247900524685364822016 * (1048576 * o) by omega, dq4, dv4 V]
 have hD : 0 ≤ V / 25711008708143844408671393477458601640355247900524685364822016 ∧ V / 25711008708143844408671393477458601640355247900524685364822016 < 1048576 := by omega
 generalize V / 25711008708143844408671393477458601640355247900524685364822016 = D at *
 clear hV
 simp only [List.getD_cons_zero, List.getD_cons_succ, List.set_cons_zero, List.set_cons_succ, Int.reducePow, Nat.reducePow]
 refine ⟨by omega, by omega, by omega, ?_⟩
 simp only [List.cons.injEq, and_true, true_and]
 omega
theorem of_one29 (V o : Int) (hV : 0 ≤ V ∧ V < 256 ^ 29) (ho : 0 ≤ o ∧ o < 256) : OfP V o 29 4 28 := by
 unfold OfP
 rw [show (256 : Int) ^ 29 * o = 25711008708143844408671393477458601640355247900524685364822016 * (268435456 * o) by omega, dq4, dv4 V]
 have hD : 0 ≤ V / 25711008708143844408671393477458601640355247900524685364822016 ∧ V / 25711008708143844408671393477458601640355247900524685364822016 < 268435456 := by omega
 generalize V / 25711008708143844408671393477458601640355247900524685364822016 = D at *
 clear hV
 simp only [List.getD_cons_zero, List.getD_cons_succ, List.set_cons_zero, List.set_cons_succ, Int.reducePow, Nat.reducePow]
 refine ⟨by omega, by omega, by omega, ?_⟩
 simp only [List.cons.injEq, and_true, true_and]
 omega
theorem of_one30 (V o : Int) (hV : 0 ≤ V ∧ V < 256 ^ 30) (ho : 0 ≤ o ∧ o < 256) : OfP V o 30 4 36 := by
 unfold OfP
 rw [show (256 : Int) ^ 30 * o = 25711008708143844408671393477458601640355247900524685364822016 * (68719476736 * o) by omega, dq4, dv4 V]
 have hD : 0 ≤ V / 25711008708143844408671393477458601640355247900524685364822016 ∧ V / 25711008708143844408671393477458601640355247900524685364822016 < 68719476736 := by omega
 generalize V / 25711008708143844408671393477458601640355247900524685364822016 = D at *
 clear hV
 simp only [List.getD_cons_zero, List.getD_cons_succ, List.set_cons_zero, List.set_cons_succ, Int.reducePow, Nat.reducePow]
 refine ⟨by omega, by omega, by omega, ?_⟩
 simp only [List.cons.injEq, and_true, true_and]
 omega
theorem of_one31 (V o : Int) (hV : 0 ≤ V ∧ V < 256 ^ 31) (ho : 0 ≤ o ∧ o < 256) : OfP V o 31 4 44 := by
 unfold OfP
 rw [show (256 : Int) ^ 31 * o = 25711008708143844408671393477458601640355247900524685364822016 * (17592186044416 * o) by omega, dq4, dv4 V]
 have hD : 0 ≤ V / 25711008708143844408671393477458601640355247900524685364822016 ∧ V / 25711008708143844408671393477458601640355247900524685364822016 < 17592186044416 := by omega
 generalize V / 25711008708143844408671393477458601640355247900524685364822016 = D at *
 clear hV
 simp only [List.getD_cons_zero, List.getD_cons_succ, List.set_cons_zero, List.set_cons_succ, Int.reducePow, Nat.reducePow]
 refine ⟨by omega, by omega, by omega, ?_⟩
 simp only [List.cons.injEq, and_true, true_and]
 omega
theorem of_one (V o : Int) (k q f : Nat) (hk : k < 32) (hV : 0 ≤ V ∧ V < 256 ^ k) (ho : 0 ≤ o ∧ o < 256) (hq : 8 * k / 51 = q) (hf : 8 * k % 51 = f) (hA : f ≤ 43 ∨ q = 4) :
  (0 ≤ o * 2 ^ f ∧ o * 2 ^ f < 18446744073709551616) ∧ (0 ≤ (digs V).getD q 0 ∧ (digs V).getD q 0 < (2 ^ f : Nat)) ∧ (o * 2 ^ f % 2251799813685248) % (2 ^ f : Nat) = 0 ∧ (digs V).set q ((digs V).getD q 0 + o * 2 ^ f % 2251799813685248) = digs (V + 256 ^ k * o) := by
 change OfP V o k q f
 have : k = 0 ∨ k = 1 ∨ k = 2 ∨ k = 3 ∨ k = 4 ∨ k = 5 ∨ k = 7 ∨ k = 8 ∨ k = 9 ∨ k = 10 ∨ k = 11 ∨ k = 13 ∨ k = 14 ∨ k = 15 ∨ k = 16 ∨ k = 17 ∨ k = 18 ∨ k = 20 ∨ k = 21 ∨ k = 22 ∨ k = 23 ∨ k = 24 ∨ k = 26 ∨ k = 27 ∨ k = 28 ∨ k = 29 ∨ k = 30 ∨ k = 31 := by omega
 rcases this with rfl | rfl | rfl | rfl | rfl | rfl | rfl | rfl | rfl | rfl | rfl | rfl | rfl | rfl | rfl | rfl | rfl | rfl | rfl | rfl | rfl | rfl | rfl | rfl | rfl | rfl | rfl | rfl
 ·obtain rfl : q = 0 := by omega
  obtain rfl : f = 0 := by omega
  exact oq0 V o 0 0 (by decide) (by decide) hV ho
 ·obtain rfl : q = 0 := by omega
  obtain rfl : f = 8 := by omega
  exact oq0 V o 1 8 (by decide) (by decide) hV ho
 ·obtain rfl : q = 0 := by omega
  obtain rfl : f = 16 := by omega
  exact oq0 V o 2 16 (by decide) (by decide) hV ho
 ·obtain rfl : q = 0 := by omega
  obtain rfl : f = 24 := by omega
  exact oq0 V o 3 24 (by decide) (by decide) hV ho
 ·obtain rfl : q = 0 := by omega
  obtain rfl : f = 32 := by omega
  exact oq0 V o 4 32 (by decide) (by decide) hV ho
 ·obtain rfl : q = 0 := by omega
  obtain rfl : f = 40 := by omega
  exact oq0 V o 5 40 (by decide) (by decide) hV ho
 ·obtain rfl : q = 1 := by omega
  obtain rfl : f = 5 := by omega
  exact oq1 V o 7 5 (by decide) (by decide) hV ho
 ·obtain rfl : q = 1 := by omega
  obtain rfl : f = 13 := by omega
  exact oq1 V o 8 13 (by decide) (by decide) hV ho
 ·obtain rfl : q = 1 := by omega
  obtain rfl : f = 21 := by omega
  exact oq1 V o 9 21 (by decide) (by decide) hV ho
 ·obtain rfl : q = 1 := by omega
  obtain rfl : f = 29 := by omega
  exact oq1 V o 10 29 (by decide) (by decide) hV ho
 ·obtain rfl : q = 1 := by omega
  obtain rfl : f = 37 := by omega
  exact oq1 V o 11 37 (by decide) (by decide) hV ho
 ·obtain rfl : q = 2 := by omega
  obtain rfl : f = 2 := by omega
  exact oq2 V o 13 2 (by decide) (by decide) hV ho
 ·obtain rfl : q = 2 := by omega
  obtain rfl : f = 10 := by omega
  exact oq2 V o 14 10 (by decide) (by decide) hV ho
 ·obtain rfl : q = 2 := by omega
  obtain rfl : f = 18 := by omega
  exact oq2 V o 15 18 (by decide) (by decide) hV ho
 ·obtain rfl : q = 2 := by omega
  obtain rfl : f = 26 := by omega
  exact oq2 V o 16 26 (by decide) (by decide) hV ho
 ·obtain rfl : q = 2 := by omega
  obtain rfl : f = 34 := by omega
  exact oq2 V o 17 34 (by decide) (by decide) hV ho
 ·obtain rfl : q = 2 := by omega
  obtain rfl : f = 42 := by omega
  exact oq2 V o 18 42 (by decide) (by decide) hV ho
 ·obtain rfl : q = 3 := by omega
  obtain rfl : f = 7 := by omega
  exact oq3 V o 20 7 (by decide) (by decide) hV ho
 ·obtain rfl : q = 3 := by omega
  obtain rfl : f = 15 := by omega
  exact oq3 V o 21 15 (by decide) (by decide) hV ho
 ·obtain rfl : q = 3 := by omega
  obtain rfl : f = 23 := by omega
  exact oq3 V o 22 23 (by decide) (by decide) hV ho
 ·obtain rfl : q = 3 := by omega
  obtain rfl : f = 31 := by omega
  exact oq3 V o 23 31 (by decide) (by decide) hV ho
 ·obtain rfl : q = 3 := by omega
  obtain rfl : f = 39 := by omega
  exact oq3 V o 24 39 (by decide) (by decide) hV ho
 ·obtain rfl : q = 4 := by omega
  obtain rfl : f = 4 := by omega
  exact of_one26 V o hV ho
 ·obtain rfl : q = 4 := by omega
  obtain rfl : f = 12 := by omega
  exact of_one27 V o hV ho
 ·obtain rfl : q = 4 := by omega
  obtain rfl : f = 20 := by omega
  exact of_one28 V o hV ho
 ·obtain rfl : q = 4 := by omega
  obtain rfl : f = 28 := by omega
  exact of_one29 V o hV ho
 ·obtain rfl : q = 4 := by omega
  obtain rfl : f = 36 := by omega
  exact of_one30 V o hV ho
 ·obtain rfl : q = 4 := by omega
  obtain rfl : f = 44 := by omega
  exact of_one31 V o hV ho
theorem of_two (V o : Int) (k q f s : Nat) (hk : k < 32) (hV : 0 ≤ V ∧ V < 256 ^ k) (ho : 0 ≤ o ∧ o < 256) (hq : 8 * k / 51 = q) (hf : 8 * k % 51 = f) (hs : 51 - f = s) (hA : 43 < f) (hB : q < 4) :
  (0 ≤ o * 2 ^ f ∧ o * 2 ^ f < 18446744073709551616) ∧ (0 ≤ (digs V).getD q 0 ∧ (digs V).getD q 0 < (2 ^ f : Nat)) ∧ (o * 2 ^ f % 2251799813685248) % (2 ^ f : Nat) = 0 ∧ (digs V).getD (q + 1) 0 = 0 ∧ (0 ≤ o / 2 ^ s ∧ o / 2 ^ s < 256) ∧ ((digs V).set q ((digs V).getD q 0 + o * 2 ^ f % 2251799813685248)).set (q + 1) (o / 2 ^ s) = digs (V + 256 ^ k * o) := by
 have : k = 6 ∨ k = 12 ∨ k = 19 ∨ k = 25 := by omega
 rcases this with rfl | rfl | rfl | rfl
 ·obtain rfl : q = 0 := by omega
  obtain rfl : f = 48 := by omega
  obtain rfl : s = 3 := by omega
  clear hA hq hf hB hs
  simp only [digs, List.getD_cons_zero, List.getD_cons_succ, List.set_cons_zero, List.set_cons_succ, Int.reducePow, Nat.reducePow, Nat.reduceAdd] at hV ⊢
  refine ⟨by omega, by omega, by omega, by omega, by omega, List.cons_eq_cons.2 ⟨by omega, List.cons_eq_cons.2 ⟨by omega, List.cons_eq_cons.2 ⟨by omega, List.cons_eq_cons.2 ⟨by omega, List.cons_eq_cons.2 ⟨by omega, rfl⟩⟩⟩⟩⟩⟩
 ·obtain rfl : q = 1 := by omega
  obtain rfl : f = 45 := by omega
  obtain rfl : s = 6 := by omega
  clear hA hq hf hB hs
  simp only [digs, List.getD_cons_zero, List.getD_cons_succ, List.set_cons_zero, List.set_cons_succ, Int.reducePow, Nat.reducePow, Nat.reduceAdd] at hV ⊢
  have e0 : (V + 79228162514264337593543950336 * o) % 2251799813685248 = V % 2251799813685248 := by rw [show 79228162514264337593543950336 * o = 2251799813685248 * (35184372088832 * o) by omega]; exact Int.add_mul_emod_self_left ..
  have eq : (V + 79228162514264337593543950336 * o) / 2251799813685248 = V / 2251799813685248 + 35184372088832 * o := by rw [show 79228162514264337593543950336 * o = 2251799813685248 * (35184372088832 * o) by omega]; exact dig_q _ _ _ (by decide)
  have hD : 0 ≤ V / 2251799813685248 ∧ V / 2251799813685248 < 35184372088832 := by omega
  have g2 : V / 5070602400912917605986812821504 = V / 2251799813685248 / 2251799813685248 := dig_gt _ _ _ _ (by decide) (by decide)
  have h2 : (V + 79228162514264337593543950336 * o) / 5070602400912917605986812821504 = (V / 2251799813685248 + 35184372088832 * o) / 2251799813685248 := by rw [← eq]; exact dig_gt _ _ _ _ (by decide) (by decide)
  have g3 : V / 11417981541647679048466287755595961091061972992 = V / 2251799813685248 / 5070602400912917605986812821504 := dig_gt _ _ _ _ (by decide) (by decide)
  have h3 : (V + 79228162514264337593543950336 * o) / 11417981541647679048466287755595961091061972992 = (V / 2251799813685248 + 35184372088832 * o) / 5070602400912917605986812821504 := by rw [← eq]; exact dig_gt _ _ _ _ (by decide) (by decide)
  have g4 : V / 25711008708143844408671393477458601640355247900524685364822016 = V / 2251799813685248 / 11417981541647679048466287755595961091061972992 := dig_gt _ _ _ _ (by decide) (by decide)
  have h4 : (V + 79228162514264337593543950336 * o) / 25711008708143844408671393477458601640355247900524685364822016 = (V / 2251799813685248 + 35184372088832 * o) / 11417981541647679048466287755595961091061972992 := by rw [← eq]; exact dig_gt _ _ _ _ (by decide) (by decide)
  rw [e0, eq, h2, h3, h4, g2, g3, g4]
  generalize V / 2251799813685248 = D at *
  clear e0 eq g2 g3 g4 h2 h3 h4 hV
  refine ⟨by omega, by omega, by omega, by omega, by omega, List.cons_eq_cons.2 ⟨rfl, List.cons_eq_cons.2 ⟨by omega, List.cons_eq_cons.2 ⟨by omega, List.cons_eq_cons.2 ⟨by omega, List.cons_eq_cons.2 ⟨by omega, rfl⟩⟩⟩⟩⟩⟩
 ·obtain rfl : q = 2 := by omega
  obtain rfl : f = 50 := by omega
  obtain rfl : s = 1 := by omega
  clear hA hq hf hB hs
  simp only [digs, List.getD_cons_zero, List.getD_cons_succ, List.set_cons_zero, List.set_cons_succ, Int.reducePow, Nat.reducePow, Nat.reduceAdd] at hV ⊢
  have e0 : (V + 5708990770823839524233143877797980545530986496 * o) % 2251799813685248 = V % 2251799813685248 := by rw [show 5708990770823839524233143877797980545530986496 * o = 2251799813685248 * (2535301200456458802993406410752 * o) by omega]; exact Int.add_mul_emod_self_left ..
  have e1 : (V + 5708990770823839524233143877797980545530986496 * o) / 2251799813685248 % 2251799813685248 = V / 2251799813685248 % 2251799813685248 := by rw [show 5708990770823839524233143877797980545530986496 * o = 2251799813685248 * (2251799813685248 * (1125899906842624 * o)) by omega]; exact dig_lt _ _ _ (by decide)
  have eq : (V + 5708990770823839524233143877797980545530986496 * o) / 5070602400912917605986812821504 = V / 5070602400912917605986812821504 + 1125899906842624 * o := by rw [show 5708990770823839524233143877797980545530986496 * o = 5070602400912917605986812821504 * (1125899906842624 * o) by omega]; exact dig_q _ _ _ (by decide)
  have hD : 0 ≤ V / 5070602400912917605986812821504 ∧ V / 5070602400912917605986812821504 < 1125899906842624 := by omega
  have g3 : V / 11417981541647679048466287755595961091061972992 = V / 5070602400912917605986812821504 / 2251799813685248 := dig_gt _ _ _ _ (by decide) (by decide)
  have h3 : (V + 5708990770823839524233143877797980545530986496 * o) / 11417981541647679048466287755595961091061972992 = (V / 5070602400912917605986812821504 + 1125899906842624 * o) / 2251799813685248 := by rw [← eq]; exact dig_gt _ _ _ _ (by decide) (by decide)
  have g4 : V / 25711008708143844408671393477458601640355247900524685364822016 = V / 5070602400912917605986812821504 / 5070602400912917605986812821504 := dig_gt _ _ _ _ (by decide) (by decide)
  have h4 : (V + 5708990770823839524233143877797980545530986496 * o) / 25711008708143844408671393477458601640355247900524685364822016 = (V / 5070602400912917605986812821504 + 1125899906842624 * o) / 5070602400912917605986812821504 := by rw [← eq]; exact dig_gt _ _ _ _ (by decide) (by decide)
  rw [e0, e1, eq, h3, h4, g3, g4]
  generalize V / 5070602400912917605986812821504 = D at *
  clear e0 e1 eq g3 g4 h3 h4 hV
  refine ⟨by omega, by omega, by omega, by omega, by omega, List.cons_eq_cons.2 ⟨rfl, List.cons_eq_cons.2 ⟨rfl, List.cons_eq_cons.2 ⟨by omega, List.cons_eq_cons.2 ⟨by omega, List.cons_eq_cons.2 ⟨by omega, rfl⟩⟩⟩⟩⟩⟩
 ·obtain rfl : q = 3 := by omega
  obtain rfl : f = 47 := by omega
  obtain rfl : s = 4 := by omega
  clear hA hq hf hB hs
  simp only [digs, List.getD_cons_zero, List.getD_cons_succ, List.set_cons_zero, List.set_cons_succ, Int.reducePow, Nat.reducePow, Nat.reduceAdd] at hV ⊢
  have e0 : (V + 1606938044258990275541962092341162602522202993782792835301376 * o) % 2251799813685248 = V % 2251799813685248 := by rw [show 1606938044258990275541962092341162602522202993782792835301376 * o = 2251799813685248 * (713623846352979940529142984724747568191373312 * o) by omega]; exact Int.add_mul_emod_self_left ..
  have e1 : (V + 1606938044258990275541962092341162602522202993782792835301376 * o) / 2251799813685248 % 2251799813685248 = V / 2251799813685248 % 2251799813685248 := by rw [show 1606938044258990275541962092341162602522202993782792835301376 * o = 2251799813685248 * (2251799813685248 * (316912650057057350374175801344 * o)) by omega]; exact dig_lt _ _ _ (by decide)
  have e2 : (V + 1606938044258990275541962092341162602522202993782792835301376 * o) / 5070602400912917605986812821504 % 2251799813685248 = V / 5070602400912917605986812821504 % 2251799813685248 := by rw [show 1606938044258990275541962092341162602522202993782792835301376 * o = 5070602400912917605986812821504 * (2251799813685248 * (140737488355328 * o)) by omega]; exact dig_lt _ _ _ (by decide)
  have eq : (V + 1606938044258990275541962092341162602522202993782792835301376 * o) / 11417981541647679048466287755595961091061972992 = V / 11417981541647679048466287755595961091061972992 + 140737488355328 * o := by rw [show 1606938044258990275541962092341162602522202993782792835301376 * o = 11417981541647679048466287755595961091061972992 * (140737488355328 * o) by omega]; exact dig_q _ _ _ (by decide)
  have hD : 0 ≤ V / 11417981541647679048466287755595961091061972992 ∧ V / 11417981541647679048466287755595961091061972992 < 140737488355328 := by omega
  have g4 : V / 25711008708143844408671393477458601640355247900524685364822016 = V / 11417981541647679048466287755595961091061972992 / 2251799813685248 := dig_gt _ _ _ _ (by decide) (by decide)
  have h4 : (V + 1606938044258990275541962092341162602522202993782792835301376 * o) / 25711008708143844408671393477458601640355247900524685364822016 = (V / 11417981541647679048466287755595961091061972992 + 140737488355328 * o) / 2251799813685248 := by rw [← eq]; exact dig_gt _ _ _ _ (by decide) (by decide)
  rw [e0, e1, e2, eq, h4, g4]
  generalize V / 11417981541647679048466287755595961091061972992 = D at *
  clear e0 e1 e2 eq g4 h4 hV
  refine ⟨by omega, by omega, by omega, by omega, by omega, List.cons_eq_cons.2 ⟨rfl, List.cons_eq_cons.2 ⟨rfl, List.cons_eq_cons.2 ⟨rfl, List.cons_eq_cons.2 ⟨by omega, List.cons_eq_cons.2 ⟨by omega, rfl⟩⟩⟩⟩⟩⟩
theorem idx_A32 (zs : List Int) (hl : zs.length = 32) (k : Nat) (hk : k < 32) (w : World) : (Instr.index 22 (.agg (u8s zs).toArray) (.int .i64 k)).run Tryz.prog w = .ok (.int .u8 (zs.getD k 0)) w := by
 have hsz : ∀ w, (sizeOf 5).run Tryz.prog w = .ok 1 w := fun w => by
  have h := infoB8
  cases hq : Tryz.prog.info? 5 with
  | none => simp [hq] at h
  | some i => simp [hq] at h; simp [sizeOf, typeInfo, hq, h.2]
 have px : (Go.part 5 (u8s zs).toArray (k * 1)).run Tryz.prog w = .ok (.int .u8 (zs.getD k 0)) w := by
  simp [Go.part, isAgg, run_underlying Tryz.underlying5, u8s, List.getD, List.getElem?_eq_getElem (show k < zs.length by omega)]
 rw [Nat.mul_one] at px
 simp [Instr.index, run_underlying Tryz.underlying22, asIntOf, hsz, hk, px]
theorem le_takeS (a : List Int) (k : Nat) (hk : k < a.length) : le (a.take (k + 1)) = le (a.take k) + 256 ^ k * a.getD k 0 := by
 have app : ∀ (x y : List Int), le (x ++ y) = le x + 256 ^ x.length * le y := by
  intro x y
  induction x with
  | nil => simp [le]
  | cons z x ih => simp only [List.cons_append, le, ih, List.length_cons, Int.pow_succ]; rw [Int.mul_add, ← Int.add_assoc, Int.mul_comm (256 ^ x.length) 256, Int.mul_assoc]
 rw [List.take_succ_eq_append_getElem hk, app, List.length_take, Nat.min_eq_left (by omega)]
 simp [le, List.getD, hk]
theorem fof_any (bs : List Int) (hl : bs.length = 32) (hb : Bytes bs) (w : World) :
  Calls Tryz.prog 78 #[.agg (u8s bs).toArray] w fun e w' => ∃ r, e = .returned (.agg (u64s r).toArray) ∧ Fe r (le bs % 57896044618658097711785492504343953926634992332820282019728792003956564819968 % PR) ∧ Below w.heap.size w w' := by
 have HL : Hid (bs.length = 32 ∧ Bytes bs ∧ (u8s bs).length = 32) := ⟨hl, hb, by rw [u8s_length]; exact hl⟩
 clear hl hb
 go_enter Tryz.func78, Tryz.ntmps78
 go_wp2_with (first | (refine wpList_box_new rfl 22 (.tmp 0) rfl (u8s bs) rfl ?_; intro x1 z1 s1 l1) | ((with_reducible show wpList _ _ _ _ _ x1); refine wpList_alloc_new rfl 116 rfl 5 _ zeroElem ?_; intro x2 z2 s2 l2; rw [s1] at z2; have b1 := z1.later l2 (by omega)) | ((with_reducible show wpList _ _ _ _ _ x2); refine wpList_alloc_new rfl 116 rfl 5 _ zeroElem ?_; intro x3 z3 s3 l3; rw [s2, s1] at z3; have b2 := b1.later l3 (by omega)) | (refine wpList_load_blk rfl 22 _ rfl w.heap.size rfl (u8s bs) _ b2 Tryz.underlying22 rfl (by rw [HL.out.2.2]; exact size32) ?_))
 have WW : Hid (Below w.heap.size w x3 ∧ Blk x3 (w.heap.size + 1) 116 (u64s [0, 0, 0, 0, 0]) ∧ Blk x3 (w.heap.size + 1 + 1) 116 (u64s [0, 0, 0, 0, 0])) := ⟨below_chain (below_chain l1 l2 (by omega)) l3 (by omega), z2.later l3 (by omega), z3⟩
 clear z1 s1 l1 z2 s2 l2 z3 s3 l3 b1 b2
 go_loopw [9] (fun i wr => ∃ (k : Nat), k ≤ 32 ∧ i = .int .i64 k ∧ Blk wr (w.heap.size + 1 + 1) 116 (u64s (digs (le (bs.take k)))) ∧ Kept (fun x => x = w.heap.size + 1 + 1) x3 wr) (fun i _ => 32 - (intOf i).toNat)
 case atStart => exact ⟨0, by omega, rfl, WW.out.2.2, Kept.refl _ _⟩
 case round =>
  obtain ⟨k, hk, rfl, hblk, hkp⟩ := hrel
  by_cases hlt : k < 32
  ·have i1 : (k : Int) < 32 := by omega
   have i3 : (0 : Int) ≤ (k : Int) := by omega
   obtain ⟨q, hq⟩ : ∃ q : Nat, 8 * k / 51 = q := ⟨_, rfl⟩
   obtain ⟨f, hf⟩ : ∃ f : Nat, 8 * k % 51 = f := ⟨_, rfl⟩
   have j1 : IntKind.i64.wrap (8 * (k : Int)) = 8 * (k : Int) := by simp only [IntKind.wrap, IntKind.bits, IntKind.signed]; simp; omega
   have j2 : Int.tdiv (8 * (k : Int)) 51 = (q : Int) := by rw [Int.tdiv_eq_ediv_of_nonneg (by omega)]; omega
   have j3 : Int.tmod (8 * (k : Int)) 51 = (f : Int) := by rw [Int.tmod_eq_emod_of_nonneg (by omega)]; omega
   have hq5 : q < 5 := by omega
   have hf5 : f < 51 := by omega
   have f1 := idx_A32 bs HL.out.1 k hlt
   have hO : 0 ≤ bs.getD k 0 ∧ bs.getD k 0 < 256 := by have := HL.out.2.1.at k (by rw [HL.out.1]; exact hlt); omega
   have hS := le_takeS bs k (by rw [HL.out.1]; exact hlt)
   obtain ⟨O, hOO⟩ : ∃ z, bs.getD k 0 = z := ⟨_, rfl⟩
   rw [hOO] at f1 hO hS
   have hV := le_bd (bs.take k) (fun z hz => HL.out.2.1 z (List.mem_of_mem_take hz))
   rw [List.length_take, HL.out.1, Nat.min_eq_left hk] at hV
   obtain ⟨V, hVV⟩ : ∃ z, le (bs.take k) = z := ⟨_, rfl⟩
   rw [hVV] at hV hS hblk
   obtain ⟨X, hX⟩ : ∃ z, (digs V).getD q 0 = z := ⟨_, rfl⟩
   have ck : wr.cell? ⟨w.heap.size + 1 + 1, q, none⟩ = some (.int .u64 X) := by
    rw [hblk.cell, u64s_getD (l := digs V) (show q < (digs V).length from hq5), ← hX]
    simp [List.getD, show q < (digs V).length from hq5]
   have fg := hblk.frozen q
   have j4 : (q : Int) < 5 := by omega
   have j5 : (0 : Int) ≤ (q : Int) := by omega
   have j6 : (f : Int) < 51 := by omega
   have j7 : (0 : Int) ≤ (f : Int) := by omega
   by_cases hA : (43 : Int) < (f : Int)
   ·by_cases hC : (q : Int) + 1 < 5
    ·obtain ⟨q1, hq1⟩ : ∃ q1 : Nat, q + 1 = q1 := ⟨_, rfl⟩
     obtain ⟨s, hs⟩ : ∃ s : Nat, 51 - f = s := ⟨_, rfl⟩
     have M := of_two V O k q f s hlt hV hO hq hf hs (by omega) (by omega)
     rw [hX, ← hS] at M
     obtain ⟨m1, m2, m3, m4, m5, m6⟩ := M
     rw [hq1] at m4 m6
     have hq15 : q1 < 5 := by omega
     have dk : wr.cell? ⟨w.heap.size + 1 + 1, q1, none⟩ = some (.int .u64 0) := by
      rw [hblk.cell, u64s_getD (l := digs V) (show q1 < (digs V).length from hq15), ← m4]
      simp [List.getD, show q1 < (digs V).length from hq15]
     have fh := hblk.frozen q1
     have g2 : (q : Int) + 1 = (q1 : Int) := by omega
     have g4 : (51 - (f : Int)) = (s : Int) := by omega
     have g5 : (q1 : Int) < 5 := by omega
     have g6 : (0 : Int) ≤ (q1 : Int) := by omega
     have g7 : (0 : Int) ≤ (s : Int) := by omega
     have g8 : IntKind.i64.wrap (q1 : Int) = (q1 : Int) := by simp only [IntKind.wrap, IntKind.bits, IntKind.signed]; simp; omega
     have g9 : IntKind.i64.wrap (s : Int) = (s : Int) := by simp only [IntKind.wrap, IntKind.bits, IntKind.signed]; simp; omega
     have t0 : IntKind.u64.wrap O = O := by rw [IntKind.wrap_u64]; omega
     have t1 : IntKind.u64.wrap (O * 2 ^ f) = O * 2 ^ f := by rw [IntKind.wrap_u64]; omega
     have t2 := and51 (O * 2 ^ f) m1.1 m1.2
     have t3 := or64 f X (O * 2 ^ f % 2251799813685248) (by omega) m2 (by omega) m3
     have t4 := or64_zero (O / 2 ^ s) ⟨m5.1, by omega⟩
     have hne : q1 ≠ q := by omega
     rw [g2] at hC
     have HQ : Hid (Blk wr (w.heap.size + 1 + 1) 116 (u64s (digs V)) ∧ Kept (fun x => x = w.heap.size + 1 + 1) x3 wr ∧ ((digs V).set q (X + O * 2 ^ f % 2251799813685248)).set q1 (O / 2 ^ s) = digs (le (bs.take (k + 1)))) := ⟨hblk, hkp, m6⟩
     clear hq1 hs hq hf hX hblk hkp m1 m2 m3 m4 m5 m6 hS hV hVV hOO hO
     go_wp2_with fail
     go_region_with fail
     go_wp2_with fail
     go_region_with fail
     go_wp2_with fail
     all_goals (
     go_roundw
     case rel =>
      have R := ((HQ.out.1.set q (.int .u64 (X + O * 2 ^ f % 2251799813685248))).set q1 (.int .u64 (O / 2 ^ s))).drew.drew
      rw [u64s_set, u64s_set, HQ.out.2.2] at R
      exact ⟨k + 1, by omega, by go_num, R, (((HQ.out.2.1.setCell rfl _).setCell rfl _).drewN 1).drewN 1⟩
     case measure => simp [intOf]; omega)
    ·have M := of_one V O k q f hlt hV hO hq hf (by omega)
     rw [hX, ← hS] at M
     obtain ⟨m1, m2, m3, m6⟩ := M
     have t0 : IntKind.u64.wrap O = O := by rw [IntKind.wrap_u64]; omega
     have t1 : IntKind.u64.wrap (O * 2 ^ f) = O * 2 ^ f := by rw [IntKind.wrap_u64]; omega
     have t2 := and51 (O * 2 ^ f) m1.1 m1.2
     have t3 := or64 f X (O * 2 ^ f % 2251799813685248) (by omega) m2 (by omega) m3
     have HQ : Hid (Blk wr (w.heap.size + 1 + 1) 116 (u64s (digs V)) ∧ Kept (fun x => x = w.heap.size + 1 + 1) x3 wr ∧ (digs V).set q (X + O * 2 ^ f % 2251799813685248) = digs (le (bs.take (k + 1)))) := ⟨hblk, hkp, m6⟩
     clear hq hf hX hblk hkp m1 m2 m3 m6 hS hV hVV hOO hO
     go_wp2_with fail
     go_region_with fail
     go_wp2_with fail
     all_goals (
     go_roundw
     case rel =>
      have R := (HQ.out.1.set q (.int .u64 (X + O * 2 ^ f % 2251799813685248))).drew
      rw [u64s_set, HQ.out.2.2] at R
      exact ⟨k + 1, by omega, by go_num, R, (HQ.out.2.1.setCell rfl _).drewN 1⟩
     case measure => simp [intOf]; omega)
   ·have M := of_one V O k q f hlt hV hO hq hf (by omega)
    rw [hX, ← hS] at M
    obtain ⟨m1, m2, m3, m6⟩ := M
    have t0 : IntKind.u64.wrap O = O := by rw [IntKind.wrap_u64]; omega
    have t1 : IntKind.u64.wrap (O * 2 ^ f) = O * 2 ^ f := by rw [IntKind.wrap_u64]; omega
    have t2 := and51 (O * 2 ^ f) m1.1 m1.2
    have t3 := or64 f X (O * 2 ^ f % 2251799813685248) (by omega) m2 (by omega) m3
    have HQ : Hid (Blk wr (w.heap.size + 1 + 1) 116 (u64s (digs V)) ∧ Kept (fun x => x = w.heap.size + 1 + 1) x3 wr ∧ (digs V).set q (X + O * 2 ^ f % 2251799813685248) = digs (le (bs.take (k + 1)))) := ⟨hblk, hkp, m6⟩
    clear hq hf hX hblk hkp m1 m2 m3 m6 hS hV hVV hOO hO
    go_wp2_with fail
    go_region_with fail
    go_wp2_with fail
    all_goals (
    go_roundw
    case rel =>
     have R := (HQ.out.1.set q (.int .u64 (X + O * 2 ^ f % 2251799813685248))).drew
     rw [u64s_set, HQ.out.2.2] at R
     exact ⟨k + 1, by omega, by go_num, R, (HQ.out.2.1.setCell rfl _).drewN 1⟩
    case measure => simp [intOf]; omega)
  ·have hk5 : k = 32 := by omega
   have i1 : ¬ ((k : Int) < 32) := by omega
   have X1 : Hid (Blk wr (w.heap.size + 1 + 1) 116 (u64s (digs (le bs))) ∧ Blk wr (w.heap.size + 1) 116 (u64s [0, 0, 0, 0, 0]) ∧ Below w.heap.size w wr ∧ Fe (digs (le bs)) (le bs % 57896044618658097711785492504343953926634992332820282019728792003956564819968 % PR)) := ⟨by rw [hk5, List.take_of_length_le (by rw [HL.out.1]; omega)] at hblk; exact hblk, WW.out.2.1.kept hkp (by omega), below_kept WW.out.1 hkp WW.out.1.size (fun j hj => by omega), digs_fe _ (le_bd bs HL.out.2.1).1⟩
   obtain ⟨lr, hlr⟩ : ∃ z, digs (le bs) = z := ⟨_, rfl⟩
   rw [hlr] at X1
   have HF : Hid (lr.length = 5) := X1.out.2.2.2.len
   clear hblk hkp hk5 hlt hk hlr
   go_wp2_with (first | (refine wpList_load_blk rfl 116 _ rfl (w.heap.size + 1 + 1) rfl (u64s lr) _ X1.out.1 Tryz.underlying116 rfl (by rw [u64s_length, HF.out]; exact sizeElem) ?_) | (refine wpList_store_blk rfl 116 116 _ _ rfl _ rfl _ (u64s lr) rfl X1.out.2.1 (by rw [u64s_length, HF.out]; rfl) (by rw [u64s_length, HF.out]; exact sizeElem) (u64s_one _) ?_; intro w6 b6 s6 k6))
   exact ret_blk rfl (w.heap.size + 1) (u64s lr) _ rfl b6 Tryz.underlying116 rfl (by rw [u64s_length, HF.out]; exact sizeElem) rfl ⟨lr, rfl, X1.out.2.2.2, below_kept X1.out.2.2.1 k6 X1.out.2.2.1.size (fun j hj => by omega)⟩
theorem bits_any (es : List Int) (hl : es.length = 32) (w : World) :
  Calls Tryz.prog 203 #[.agg (u8s es).toArray] w fun e w' => ∃ gL gE, e = .returned (.func (.func 228) #[] #[.pointer (some ⟨gL, 0, none⟩), .pointer (some ⟨gE, 0, none⟩)]) ∧ w.heap.size ≤ gL ∧ w.heap.size ≤ gE ∧ Blk w' gL 3 [.int .i64 256] ∧ Blk w' gE 22 (u8s es) ∧ Below w.heap.size w w' := by
 clear hl
 go_enter Tryz.func203, Tryz.ntmps203
 go_wp2_with (refine wpList_box_new rfl 22 (.tmp 0) rfl (u8s es) rfl ?_; intro x1 z1 s1 l1)
 have l2 : Below x1.heap.size x1 (x1.alloc (Obj.cells #[Value.int IntKind.i64 256] 3)) := (Below.refl _ _).alloc (Nat.le_refl _) _
 have b2 : Blk (x1.alloc (Obj.cells #[Value.int IntKind.i64 256] 3)) (w.heap.size + 1) 3 [.int .i64 256] := by
  rw [← s1]
  exact heap_alloc_new x1 _
 go_ret
 exact ⟨w.heap.size + 1, w.heap.size, rfl, by omega, Nat.le_refl _, b2, z1.later l2 (by omega), below_chain l1 l2 (by omega)⟩
theorem bit_of (es : List Int) (hl : es.length = 32) (hb : Bytes es) (n : Nat) (hn : n < 256) : (es.getD (n / 8) 0 / 2 ^ (n % 8)) % 2 = (((le es).toNat / 2 ^ n % 2 : Nat) : Int) := by
 have h0 := (le_bd es hb).1
 obtain ⟨E, hE⟩ := Int.eq_ofNat_of_zero_le h0
 have e1 : es.getD (n / 8) 0 = le es / 256 ^ (n / 8) % 256 := by
  have h := leB_at 32 (le es) (n / 8) (by omega)
  rw [← hl, leB_le es hb] at h
  exact h
 rw [e1, hE]
 have e2 : (E : Int) / 256 ^ (n / 8) = ((E / 256 ^ (n / 8) : Nat) : Int) := by simp
 have e3 : E / 2 ^ n = E / 256 ^ (n / 8) / 2 ^ (n % 8) := by
  rw [Nat.div_div_eq_div_mul]
  congr 1
  rw [show (256 : Nat) = 2 ^ 8 from rfl, ← Nat.pow_mul, ← Nat.pow_add]
  congr 1
  omega
 rw [e2, Int.toNat_natCast, e3]
 generalize E / 256 ^ (n / 8) = A
 have hf : n % 8 < 8 := Nat.mod_lt _ (by decide)
 generalize n % 8 = f at hf
 have : f = 0 ∨ f = 1 ∨ f = 2 ∨ f = 3 ∨ f = 4 ∨ f = 5 ∨ f = 6 ∨ f = 7 := by omega
 rcases this with rfl | rfl | rfl | rfl | rfl | rfl | rfl | rfl <;> simp only [Int.reducePow, Nat.reducePow] <;> omega
theorem clo_any (es : List Int) (hl : es.length = 32) (hb : Bytes es) (n : Nat) (hn : n < 256) (gL gE : Nat) (w : World) (hL : Blk w gL 3 [.int .i64 ((n : Int) + 1)]) (hE : Blk w gE 22 (u8s es)) :
  Calls Tryz.prog 228 #[.pointer (some ⟨gL, 0, none⟩), .pointer (some ⟨gE, 0, none⟩)] w fun e w' => e = .returned (.int .u64 (es.getD (n / 8) 0 / 2 ^ (n % 8))) ∧ Blk w' gL 3 [.int .i64 (n : Int)] ∧ Kept (fun k => k = gL) w w' := by
 have hne : gE ≠ gL := fun e => by
  subst e
  unfold Blk at hL hE
  rw [hE] at hL
  simp at hL
 obtain ⟨q, hq⟩ : ∃ q : Nat, n / 8 = q := ⟨_, rfl⟩
 obtain ⟨f, hf⟩ : ∃ f : Nat, n % 8 = f := ⟨_, rfl⟩
 have hq32 : q < 32 := by omega
 have hf8 : f < 8 := by omega
 have hX : 0 ≤ es.getD q 0 ∧ es.getD q 0 < 256 := by have := hb.at q (by rw [hl]; exact hq32); omega
 have cL : w.cell? ⟨gL, 0, none⟩ = some (.int .i64 ((n : Int) + 1)) := hL.cell 0
 have cE : w.cell? ⟨gE, q, none⟩ = some (.int .u8 (es.getD q 0)) := u8s_cell hE q (by rw [hl]; exact hq32)
 have fL := hL.frozen 0
 rw [hq, hf]
 obtain ⟨X, hXX⟩ : ∃ z, es.getD q 0 = z := ⟨_, rfl⟩
 rw [hXX] at hX cE ⊢
 have j1 : IntKind.i64.wrap ((n : Int) + 1 - 1) = (n : Int) := by simp only [IntKind.wrap, IntKind.bits, IntKind.signed]; simp; omega
 have j0 : (n : Int) + 1 - 1 = (n : Int) := by omega
 have j9 : IntKind.i64.wrap (n : Int) = (n : Int) := by simp only [IntKind.wrap, IntKind.bits, IntKind.signed]; simp; omega
 have j2 : Int.tdiv (n : Int) 8 = (q : Int) := by rw [Int.tdiv_eq_ediv_of_nonneg (by omega)]; omega
 have j3 : Int.tmod (n : Int) 8 = (f : Int) := by rw [Int.tmod_eq_emod_of_nonneg (by omega)]; omega
 have j4 : (q : Int) < 32 := by omega
 have j5 : (0 : Int) ≤ (q : Int) := by omega
 have j7 : (0 : Int) ≤ (f : Int) := by omega
 have hD : 0 ≤ X / 2 ^ f ∧ X / 2 ^ f < 256 := by
  have : f = 0 ∨ f = 1 ∨ f = 2 ∨ f = 3 ∨ f = 4 ∨ f = 5 ∨ f = 6 ∨ f = 7 := by omega
  rcases this with rfl | rfl | rfl | rfl | rfl | rfl | rfl | rfl <;> simp only [Int.reducePow] <;> omega
 have j8 : IntKind.u64.wrap (X / 2 ^ f) = X / 2 ^ f := by rw [IntKind.wrap_u64]; omega
 have HB : Hid (Blk w gL 3 [.int .i64 ((n : Int) + 1)]) := hL
 clear hL hE hq hf hXX hl hb hX hn
 go_enter Tryz.func228, Tryz.ntmps228
 go_wp2_with fail
 go_quiet (fail)
 go_wp2_with fail
 go_ret
 refine ⟨rfl, ?_, ?_⟩
 ·exact (HB.out.set 0 (.int .i64 (n : Int))).drewN nq
 ·exact ((Kept.refl (fun k => k = gL) w).setCell rfl _).drewN nq
theorem pm_l (a b : Int) : (a % PR * b) % PR = (a * b) % PR := by rw [Int.mul_emod (a % PR), Int.emod_emod_of_dvd _ (Int.dvd_refl _), ← Int.mul_emod]
theorem pm_r (a b : Int) : (a * (b % PR)) % PR = (a * b) % PR := by rw [Int.mul_comm, pm_l, Int.mul_comm]
namespace FT
def pm (m : Nat) : Nat → Nat → Nat → Nat
 | 0, _, _ => 1 % m
 | f + 1, a, n => let r := pm m f (a * a % m) (n / 2); if n % 2 = 1 then r * a % m else r
theorem pm_eq (m : Nat) : ∀ f a n, n < 2 ^ f → pm m f a n = a ^ n % m
 | 0, a, n, h => by
   have : n = 0 := by simp at h; exact h
   subst this; rfl
 | f + 1, a, n, h => by
   have ih := pm_eq m f (a * a % m) (n / 2) (by rw [Nat.pow_succ] at h; omega)
   have e : (a * a % m) ^ (n / 2) % m = a ^ (2 * (n / 2)) % m := by
    rw [← Nat.pow_mod, Nat.pow_mul, Nat.pow_two]
   show (if n % 2 = 1 then pm m f (a * a % m) (n / 2) * a % m else pm m f (a * a % m) (n / 2)) = _
   rw [ih, e]
   split
   ·rename_i h1
    have : a ^ n = a ^ (2 * (n / 2)) * a := by rw [← Nat.pow_succ]; congr 1; omega
    rw [this, Nat.mod_mul_mod]
   ·have : 2 * (n / 2) = n := by omega
    rw [this]
def Cyc (m : Nat) : Prop := 1 < m ∧ ∀ x, 0 < x → x < m → x ^ (m - 1) % m = 1
def Irr (q : Nat) : Prop := 1 < q ∧ ∀ d, d ∣ q → d = 1 ∨ d = q
theorem Cyc.pow {m : Nat} (h : Cyc m) (x : Nat) (hx : x % m ≠ 0) : x ^ (m - 1) % m = 1 := by
 rw [Nat.pow_mod]; exact h.2 _ (by omega) (Nat.mod_lt _ (by have := h.1; omega))
theorem Cyc.euclid {m : Nat} (h : Cyc m) (x y : Nat) (hxy : (x * y) % m = 0) : x % m = 0 ∨ y % m = 0 := by
 by_cases hx : x % m = 0
 ·exact .inl hx
 ·right
  have e := h.pow x hx
  have h1 := h.1
  have e2 : x ^ (m - 1) = x ^ (m - 2) * x := by rw [← Nat.pow_succ]; congr 1; omega
  have e3 : (x ^ (m - 1) * y) % m = y % m := by rw [Nat.mul_mod, e, Nat.one_mul, Nat.mod_mod]
  rw [← e3, e2, Nat.mul_assoc, Nat.mul_mod, hxy, Nat.mul_zero, Nat.zero_mod]
theorem Cyc.irr {m : Nat} (h : Cyc m) : Irr m := by
 refine ⟨h.1, fun d hd => ?_⟩
 obtain ⟨e, he⟩ := hd
 have h1 := h.1
 have hm : (d * e) % m = 0 := by rw [← he, Nat.mod_self]
 have hd0 : 0 < d := Nat.pos_of_ne_zero (fun h => by subst h; simp at he; omega)
 have he0 : 0 < e := Nat.pos_of_ne_zero (fun h => by subst h; simp at he; omega)
 rcases h.euclid d e hm with h2 | h2
 ·right
  have hle : m ≤ d := Nat.le_of_dvd hd0 (Nat.dvd_of_mod_eq_zero h2)
  have : d ≤ m := by rw [he]; exact Nat.le_mul_of_pos_right _ he0
  omega
 ·left
  have hle : m ≤ e := Nat.le_of_dvd he0 (Nat.dvd_of_mod_eq_zero h2)
  have h3 : d * e ≤ 1 * e := by omega
  have := Nat.le_of_mul_le_mul_right h3 he0
  omega
theorem holes : ∀ (n : Nat) (f : Nat → Nat), (∀ i, i ≤ n → f i < n) → ∃ i j, i < j ∧ j ≤ n ∧ f i = f j
 | 0, f, h => absurd (h 0 (Nat.le_refl 0)) (Nat.not_lt_zero _)
 | n + 1, f, h => by
   by_cases hc : ∃ i, i ≤ n ∧ f i = f (n + 1)
   ·obtain ⟨i, hi, e⟩ := hc; exact ⟨i, n + 1, by omega, Nat.le_refl _, e⟩
   ·have hne : ∀ i, i ≤ n → f i ≠ f (n + 1) := fun i hi e => hc ⟨i, hi, e⟩
    obtain ⟨i, j, hij, hj, e⟩ := holes n (fun i => if f (n + 1) < f i then f i - 1 else f i) (fun i hi => by
     have h1 := h i (by omega); have h2 := h (n + 1) (Nat.le_refl _); have h3 := hne i hi
     show (if f (n + 1) < f i then f i - 1 else f i) < n
     split <;> omega)
    refine ⟨i, j, hij, by omega, ?_⟩
    have h1 := hne i (by omega); have h2 := hne j hj
    revert e
    show (if f (n + 1) < f i then f i - 1 else f i) = (if f (n + 1) < f j then f j - 1 else f j) → _
    split <;> split <;> intro e <;> omega
def prod : List Nat → Nat
 | [] => 1
 | q :: l => q * prod l
theorem some_divides : ∀ (l : List Nat) (k : Nat), (∀ q, q ∈ l → Irr q) → 1 < k → k ∣ prod l → ∃ q, q ∈ l ∧ q ∣ k
 | [], k, _, hk, hd => absurd (Nat.le_of_dvd (by decide) hd) (by show ¬ k ≤ 1; omega)
 | q :: l, k, hq, hk, hd => by
   by_cases h : q ∣ k
   ·exact ⟨q, List.mem_cons_self .., h⟩
   ·have hg : Nat.gcd k q = 1 := by
     rcases (hq q (List.mem_cons_self ..)).2 _ (Nat.gcd_dvd_right k q) with e | e
     ·exact e
     ·exact absurd (e ▸ Nat.gcd_dvd_left k q) h
    obtain ⟨r, hr, hrk⟩ := some_divides l k (fun r hr => hq r (List.mem_cons_of_mem _ hr)) hk (Nat.Coprime.dvd_of_dvd_mul_left hg hd)
    exact ⟨r, List.mem_cons_of_mem _ hr, hrk⟩
theorem lucas (m g : Nat) (l : List Nat) (hm : 2 < m) (hl : prod l = m - 1) (hi : ∀ q, q ∈ l → Irr q) (h1 : g ^ (m - 1) % m = 1) (hn : ∀ q, q ∈ l → g ^ ((m - 1) / q) % m ≠ 1) : Cyc m := by
 -- powers of an exponent with value one
 have one_mul : ∀ a k, g ^ a % m = 1 → g ^ (a * k) % m = 1 := fun a k h => by
  rw [Nat.pow_mul, Nat.pow_mod, h, Nat.one_pow]; exact Nat.mod_eq_of_lt (by omega)
 have one_add : ∀ a b, g ^ a % m = 1 → g ^ (a + b) % m = g ^ b % m := fun a b h => by
  rw [Nat.pow_add, Nat.mul_mod, h, Nat.one_mul, Nat.mod_mod]
 -- the values with value one are closed under gcd
 have key : ∀ d, 0 < d → d < m - 1 → g ^ d % m ≠ 1 := by
  intro d hd hdm e
  -- strong induction: the least such d divides m - 1
  have : ∃ o, 0 < o ∧ o < m - 1 ∧ g ^ o % m = 1 ∧ ∀ k, 0 < k → k < o → g ^ k % m ≠ 1 := by
   induction d using Nat.strongRecOn with
   | ind d ih =>
    by_cases h : ∃ k, 0 < k ∧ k < d ∧ g ^ k % m = 1
    ·obtain ⟨k, k0, kd, ke⟩ := h
     exact ih k kd k0 (by omega) ke
    ·exact ⟨d, hd, hdm, e, fun k k0 kd ke => h ⟨k, k0, kd, ke⟩⟩
  obtain ⟨o, o0, om, oe, ol⟩ := this
  have hr : (m - 1) % o = 0 := by
   by_cases h : (m - 1) % o = 0
   ·exact h
   ·refine absurd ?_ (ol ((m - 1) % o) (by omega) (Nat.mod_lt _ o0))
    have e2 := one_add (o * ((m - 1) / o)) ((m - 1) % o) (one_mul o _ oe)
    rw [Nat.div_add_mod, h1] at e2
    exact e2.symm
  obtain ⟨k, hk⟩ := Nat.dvd_of_mod_eq_zero hr
  have hk1 : 1 < k := by
   rcases Nat.lt_or_ge 1 k with h | h
   ·exact h
   ·have : o * k ≤ o * 1 := Nat.mul_le_mul_left _ h
    omega
  obtain ⟨q, hq, c, hc⟩ := some_divides l k hi hk1 (by rw [hl, hk]; exact Nat.dvd_mul_left k o)
  refine hn q hq ?_
  have hq0 : 0 < q := by have := (hi q hq).1; omega
  have : (m - 1) / q = o * c := by
   rw [hk, hc, Nat.mul_comm q c, ← Nat.mul_assoc]; exact Nat.mul_div_cancel _ hq0
  rw [this]; exact one_mul o c oe
 refine ⟨by omega, fun x x0 xm => ?_⟩
 -- g has an inverse
 have inv : ∀ a b, (g * a) % m = (g * b) % m → a % m = b % m := fun a b h => by
  have e : ∀ c, (g ^ (m - 2) * (g * c)) % m = c % m := fun c => by
   rw [← Nat.mul_assoc, ← Nat.pow_succ, Nat.mul_mod]
   have : (m - 2).succ = m - 1 := by omega
   rw [this, h1, Nat.one_mul, Nat.mod_mod]
  rw [← e a, ← e b, Nat.mul_mod, h, ← Nat.mul_mod]
 have invn : ∀ k a b, (g ^ k * a) % m = (g ^ k * b) % m → a % m = b % m := fun k => by
  induction k with
  | zero => intro a b h; simpa using h
  | succ k ih => intro a b h; refine ih a b (inv _ _ ?_); rw [← Nat.mul_assoc, ← Nat.mul_assoc, Nat.mul_comm g (g ^ k), ← Nat.pow_succ]; exact h
 have inj : ∀ i j, i < j → j < m - 1 → g ^ i % m ≠ g ^ j % m := fun i j hij hj e => by
  refine key (j - i) (by omega) (by omega) ?_
  have h2 : (g ^ i * g ^ (j - i)) % m = (g ^ i * 1) % m := by rw [← Nat.pow_add, Nat.mul_one, e]; congr 2; omega
  have := invn i _ _ h2
  rw [this]; exact Nat.mod_eq_of_lt (by omega)
 have pos : ∀ i, 0 < g ^ i % m := fun i => by
  rcases Nat.eq_zero_or_pos (g ^ i % m) with h | h
  ·exfalso
   have h2 : (g ^ i * 1) % m = (g ^ i * 0) % m := by rw [Nat.mul_one, h, Nat.mul_zero, Nat.zero_mod]
   have := invn i _ _ h2
   rw [Nat.mod_eq_of_lt (by omega : 1 < m), Nat.zero_mod] at this
   omega
  ·exact h
 by_cases hx : ∃ i, i < m - 1 ∧ g ^ i % m = x
 ·obtain ⟨i, hi2, e⟩ := hx
  rw [← e, ← Nat.pow_mod, ← Nat.pow_mul, Nat.mul_comm]
  exact one_mul _ _ h1
 ·exfalso
  obtain ⟨i, j, hij, hj, e⟩ := holes (m - 1) (fun i => if i < m - 1 then g ^ i % m - 1 else x - 1) (fun i hi2 => by
   show (if i < m - 1 then g ^ i % m - 1 else x - 1) < m - 1
   have := pos i; have := Nat.mod_lt (g ^ i) (by omega : m > 0)
   split <;> omega)
  have pi := pos i; have pj := pos j
  revert e
  show (if i < m - 1 then g ^ i % m - 1 else x - 1) = (if j < m - 1 then g ^ j % m - 1 else x - 1) → False
  rw [if_pos (by omega : i < m - 1)]
  split
  ·rename_i hj2; intro e; exact inj i j hij hj2 (by omega)
  ·intro e; exact hx ⟨i, by omega, by omega⟩
def noDiv (q : Nat) : Nat → Nat → Bool
 | 0, _ => true
 | f + 1, d => q % d != 0 && noDiv q f (d + 1)
theorem noDiv_ok (q : Nat) : ∀ f d, noDiv q f d = true → ∀ k, d ≤ k → k < d + f → q % k ≠ 0
 | 0, d, _, k, h1, h2 => by omega
 | f + 1, d, h, k, h1, h2 => by
   unfold noDiv at h
   rw [Bool.and_eq_true, bne_iff_ne] at h
   by_cases e : k = d
   ·subst e; exact h.1
   ·exact noDiv_ok q f (d + 1) h.2 k (by omega) (by omega)
theorem irr_small (q s : Nat) (hq : 1 < q) (hs : q < s * s) (h : noDiv q (s - 2) 2 = true) : Irr q := by
 refine ⟨hq, fun d hd => ?_⟩
 obtain ⟨e, he⟩ := hd
 have hd0 : 0 < d := Nat.pos_of_ne_zero (fun h => by subst h; simp at he; omega)
 have he0 : 0 < e := Nat.pos_of_ne_zero (fun h => by subst h; simp at he; omega)
 have lt : ∀ a b, q = a * b → 0 < a → 0 < b → a < s → a = 1 := fun a b hab ha hb has => by
  by_cases h1 : a = 1
  ·exact h1
  ·refine absurd ?_ (noDiv_ok q _ _ h a (by omega) (by omega))
   rw [hab]; exact Nat.mul_mod_right a b
 rcases Nat.lt_or_ge d s with h1 | h1
 ·exact .inl (lt d e he hd0 he0 h1)
 ·right
  have : e < s := by
   rcases Nat.lt_or_ge e s with h2 | h2
   ·exact h2
   ·have := Nat.mul_le_mul h1 h2; omega
  have := lt e d (by rw [Nat.mul_comm]; exact he) he0 hd0 this
  rw [he, this, Nat.mul_one]
theorem irr_of (m g : Nat) (l : List Nat) (f : Nat) (hm : 2 < m) (hl : prod l = m - 1) (hi : ∀ q, q ∈ l → Irr q) (hf : m - 1 < 2 ^ f) (h1 : pm m f g (m - 1) = 1) (hn : l.all (fun q => pm m f g ((m - 1) / q) != 1) = true) : Cyc m :=
 lucas m g l hm hl hi (by rw [← pm_eq m f _ _ hf]; exact h1) (fun q hq => by
  have h := List.all_eq_true.1 hn q hq
  rw [bne_iff_ne, pm_eq m f _ _ (Nat.lt_of_le_of_lt (Nat.div_le_self _ _) hf)] at h
  exact h)
theorem i2 : Irr 2 := irr_small 2 2 (by decide) (by decide +kernel) (by decide +kernel)
theorem i3 : Irr 3 := irr_small 3 2 (by decide) (by decide +kernel) (by decide +kernel)
theorem i5 : Irr 5 := irr_small 5 3 (by decide) (by decide +kernel) (by decide +kernel)
theorem i7 : Irr 7 := irr_small 7 3 (by decide) (by decide +kernel) (by decide +kernel)
theorem i13 : Irr 13 := irr_small 13 4 (by decide) (by decide +kernel) (by decide +kernel)
theorem i19 : Irr 19 := irr_small 19 5 (by decide) (by decide +kernel) (by decide +kernel)
theorem i31 : Irr 31 := irr_small 31 6 (by decide) (by decide +kernel) (by decide +kernel)
theorem i47 : Irr 47 := irr_small 47 7 (by decide) (by decide +kernel) (by decide +kernel)
theorem i103 : Irr 103 := irr_small 103 11 (by decide) (by decide +kernel) (by decide +kernel)
theorem i107 : Irr 107 := irr_small 107 11 (by decide) (by decide +kernel) (by decide +kernel)
theorem i127 : Irr 127 := irr_small 127 12 (by decide) (by decide +kernel) (by decide +kernel)
theorem i223 : Irr 223 := irr_small 223 15 (by decide) (by decide +kernel) (by decide +kernel)
theorem i353 : Irr 353 := irr_small 353 19 (by decide) (by decide +kernel) (by decide +kernel)
theorem i991 : Irr 991 := irr_small 991 32 (by decide) (by decide +kernel) (by decide +kernel)
theorem i2437 : Irr 2437 := irr_small 2437 50 (by decide) (by decide +kernel) (by decide +kernel)
theorem i4153 : Irr 4153 := irr_small 4153 65 (by decide) (by decide +kernel) (by decide +kernel)
theorem i57467 : Irr 57467 := irr_small 57467 240 (by decide) (by decide +kernel) (by decide +kernel)
theorem i65147 : Irr 65147 := irr_small 65147 256 (by decide) (by decide +kernel) (by decide +kernel)
theorem i75707 : Irr 75707 := irr_small 75707 276 (by decide) (by decide +kernel) (by decide +kernel)
theorem i132049 : Irr 132049 := irr_small 132049 364 (by decide) (by decide +kernel) (by decide +kernel)
theorem i430751 : Irr 430751 := irr_small 430751 657 (by decide) (by decide +kernel) (by decide +kernel)
theorem i569003 : Irr 569003 := irr_small 569003 755 (by decide) (by decide +kernel) (by decide +kernel)
theorem i1923133 : Irr 1923133 := irr_small 1923133 1387 (by decide) (by decide +kernel) (by decide +kernel)
theorem c8574133 : Cyc 8574133 := irr_of 8574133 2 [2, 2, 3, 7, 103, 991] 24 (by decide) (by decide +kernel) (fun q hq => by
 simp only [List.mem_cons, List.not_mem_nil, or_false] at hq
 rcases hq with rfl | rfl | rfl | rfl | rfl | rfl
 ·exact i2
 ·exact i2
 ·exact i3
 ·exact i7
 ·exact i103
 ·exact i991
 ) (by decide +kernel) (by decide +kernel) (by decide +kernel)
theorem c2773320623 : Cyc 2773320623 := irr_of 2773320623 5 [2, 2437, 569003] 32 (by decide) (by decide +kernel) (fun q hq => by
 simp only [List.mem_cons, List.not_mem_nil, or_false] at hq
 rcases hq with rfl | rfl | rfl
 ·exact i2
 ·exact i2437
 ·exact i569003
 ) (by decide +kernel) (by decide +kernel) (by decide +kernel)
theorem c72106336199 : Cyc 72106336199 := irr_of 72106336199 7 [2, 13, 2773320623] 37 (by decide) (by decide +kernel) (fun q hq => by
 simp only [List.mem_cons, List.not_mem_nil, or_false] at hq
 rcases hq with rfl | rfl | rfl
 ·exact i2
 ·exact i13
 ·exact c2773320623.irr
 ) (by decide +kernel) (by decide +kernel) (by decide +kernel)
theorem c1919519569386763 : Cyc 1919519569386763 := irr_of 1919519569386763 2 [2, 3, 7, 19, 47, 47, 127, 8574133] 51 (by decide) (by decide +kernel) (fun q hq => by
 simp only [List.mem_cons, List.not_mem_nil, or_false] at hq
 rcases hq with rfl | rfl | rfl | rfl | rfl | rfl | rfl | rfl
 ·exact i2
 ·exact i3
 ·exact i7
 ·exact i19
 ·exact i47
 ·exact i47
 ·exact i127
 ·exact c8574133.irr
 ) (by decide +kernel) (by decide +kernel) (by decide +kernel)
theorem c31757755568855353 : Cyc 31757755568855353 := irr_of 31757755568855353 10 [2, 2, 2, 3, 31, 107, 223, 4153, 430751] 55 (by decide) (by decide +kernel) (fun q hq => by
 simp only [List.mem_cons, List.not_mem_nil, or_false] at hq
 rcases hq with rfl | rfl | rfl | rfl | rfl | rfl | rfl | rfl | rfl
 ·exact i2
 ·exact i2
 ·exact i2
 ·exact i3
 ·exact i31
 ·exact i107
 ·exact i223
 ·exact i4153
 ·exact i430751
 ) (by decide +kernel) (by decide +kernel) (by decide +kernel)
theorem c75445702479781427272750846543864801 : Cyc 75445702479781427272750846543864801 := irr_of 75445702479781427272750846543864801 7 [2, 2, 2, 2, 2, 3, 3, 5, 5, 75707, 72106336199, 1919519569386763] 116 (by decide) (by decide +kernel) (fun q hq => by
 simp only [List.mem_cons, List.not_mem_nil, or_false] at hq
 rcases hq with rfl | rfl | rfl | rfl | rfl | rfl | rfl | rfl | rfl | rfl | rfl | rfl
 ·exact i2
 ·exact i2
 ·exact i2
 ·exact i2
 ·exact i2
 ·exact i3
 ·exact i3
 ·exact i5
 ·exact i5
 ·exact i75707
 ·exact c72106336199.irr
 ·exact c1919519569386763.irr
 ) (by decide +kernel) (by decide +kernel) (by decide +kernel)
theorem c74058212732561358302231226437062788676166966415465897661863160754340907 : Cyc 74058212732561358302231226437062788676166966415465897661863160754340907 := irr_of 74058212732561358302231226437062788676166966415465897661863160754340907 2 [2, 3, 353, 57467, 132049, 1923133, 31757755568855353, 75445702479781427272750846543864801] 236 (by decide) (by decide +kernel) (fun q hq => by
 simp only [List.mem_cons, List.not_mem_nil, or_false] at hq
 rcases hq with rfl | rfl | rfl | rfl | rfl | rfl | rfl | rfl
 ·exact i2
 ·exact i3
 ·exact i353
 ·exact i57467
 ·exact i132049
 ·exact i1923133
 ·exact c31757755568855353.irr
 ·exact c75445702479781427272750846543864801.irr
 ) (by decide +kernel) (by decide +kernel) (by decide +kernel)
theorem c57896044618658097711785492504343953926634992332820282019728792003956564819949 : Cyc 57896044618658097711785492504343953926634992332820282019728792003956564819949 := irr_of 57896044618658097711785492504343953926634992332820282019728792003956564819949 2 [2, 2, 3, 65147, 74058212732561358302231226437062788676166966415465897661863160754340907] 255 (by decide) (by decide +kernel) (fun q hq => by
 simp only [List.mem_cons, List.not_mem_nil, or_false] at hq
 rcases hq with rfl | rfl | rfl | rfl | rfl
 ·exact i2
 ·exact i2
 ·exact i3
 ·exact i65147
 ·exact c74058212732561358302231226437062788676166966415465897661863160754340907.irr
 ) (by decide +kernel) (by decide +kernel) (by decide +kernel)
end FT
namespace EC
section
variable {M : Nat} [NeZero M]
def iv (a : Fin M) : Fin M := ⟨a.val ^ (M - 2) % M, Nat.mod_lt _ (Nat.pos_of_ne_zero (NeZero.ne M))⟩
structure Fl (M : Nat) [NeZero M] : Prop where
 inv : ∀ a : Fin M, a ≠ 0 → a * iv a = 1
 one : (0 : Fin M) ≠ 1
def On (D : Fin M) (P : Fin M × Fin M) : Prop := P.1*P.1 + P.2*P.2 = 1 + D*P.1*P.1*P.2*P.2
def dl (D : Fin M) (P Q : Fin M × Fin M) : Fin M := D*P.1*Q.1*P.2*Q.2
def add (D : Fin M) (P Q : Fin M × Fin M) : Fin M × Fin M := ((P.1*Q.2+P.2*Q.1) * iv (1 + dl D P Q), (P.2*Q.2 - P.1*Q.1) * iv (1 - dl D P Q))
def O : Fin M × Fin M := (0, 1)
theorem mul_zero_or (F : Fl M) {a b : Fin M} (h : a*b = 0) : a = 0 ∨ b = 0 := by
 by_cases ha : a = 0
 ·exact .inl ha
 ·right; have := F.inv a ha; grind
theorem cancel (F : Fl M) {a b c : Fin M} (hc : c ≠ 0) (h : a*c = b*c) : a = b := by
 have := F.inv c hc; grind
theorem div_of (F : Fl M) {a c : Fin M} (hc : c ≠ 0) : a * iv c * c = a := by
 have := F.inv c hc
 grind
structure Ns (D : Fin M) : Prop where
 fl : Fl M
 ns : ∀ s : Fin M, s*s ≠ D
 two : (2 : Fin M) ≠ 0
theorem no_one {D : Fin M} (h : Ns D) (x1 y1 x2 y2 e : Fin M) (h1 : On D (x1, y1)) (h2 : On D (x2, y2)) (he : e*e = 1) (hd : D*x1*x2*y1*y2 = e) : False := by
 have h1 : x1*x1+y1*y1 = 1 + D*x1*x1*y1*y1 := h1
 have h2 : x2*x2+y2*y2 = 1 + D*x2*x2*y2*y2 := h2
 have a1 : (x1 + e*y1)*(x1+e*y1) = D*(x1*y1*(x2+y2))*(x1*y1*(x2+y2)) := by grind
 have a2 : (x1 - e*y1)*(x1-e*y1) = D*(x1*y1*(x2-y2))*(x1*y1*(x2-y2)) := by grind
 have key : ∀ s t : Fin M, s*s = D*t*t → t = 0 := by
  intro s t h3
  apply Classical.byContradiction
  intro ht
  have ht' := h.fl.inv t ht
  exact h.ns (s * iv t) (by grind)
 have b1 := key _ _ a1
 have b2 := key _ _ a2
 have b3 : 2*(x1*y1*x2) = 0 := by grind
 have b4 : x1*y1*x2 = 0 := (mul_zero_or h.fl b3).resolve_left h.two
 have : e = 0 := by grind
 have : (1 : Fin M) = 0 := by grind
 exact h.fl.one this.symm
theorem dl_ne {D : Fin M} (h : Ns D) {P Q : Fin M × Fin M} (hP : On D P) (hQ : On D Q) : 1 + dl D P Q ≠ 0 ∧ 1 - dl D P Q ≠ 0 :=
 ⟨fun e => no_one h P.1 P.2 Q.1 Q.2 (-1) hP hQ (by grind) (by unfold dl at e; grind), fun e => no_one h P.1 P.2 Q.1 Q.2 1 hP hQ (by grind) (by unfold dl at e; grind)⟩
theorem add_eq {D : Fin M} (h : Ns D) {P Q : Fin M × Fin M} (hP : On D P) (hQ : On D Q) : (add D P Q).1 * (1 + dl D P Q) = P.1*Q.2+P.2*Q.1 ∧ (add D P Q).2 * (1 - dl D P Q) = P.2*Q.2 - P.1*Q.1 := by
 obtain ⟨n1, n2⟩ := dl_ne h hP hQ
 exact ⟨div_of h.fl n1, div_of h.fl n2⟩
theorem add_on {D : Fin M} (h : Ns D) {P Q : Fin M × Fin M} (hP : On D P) (hQ : On D Q) : On D (add D P Q) := by
 obtain ⟨n1, n2⟩ := dl_ne h hP hQ
 obtain ⟨e1, e2⟩ := add_eq h hP hQ
 obtain ⟨x1, y1⟩ := P
 obtain ⟨x2, y2⟩ := Q
 generalize add D (x1, y1) (x2, y2) = R at *
 obtain ⟨x, y⟩ := R
 unfold On dl at *
 simp only at *
 have hc := (show (x1*y2+y1*x2)*(x1*y2+y1*x2)*((1-D*x1*x2*y1*y2)*(1-D*x1*x2*y1*y2)) + (y1*y2-x1*x2)*(y1*y2-x1*x2)*((1+D*x1*x2*y1*y2)*(1+D*x1*x2*y1*y2)) = (1-D*x1*x2*y1*y2)*(1-D*x1*x2*y1*y2)*((1+D*x1*x2*y1*y2)*(1+D*x1*x2*y1*y2)) + D*((x1*y2+y1*x2)*(x1*y2+y1*x2))*((y1*y2-x1*x2)*(y1*y2-x1*x2)) by clear e1 e2 n1 n2; grind)
 rw [← e1, ← e2] at hc
 clear hP hQ e1 e2
 generalize D*x1*x2*y1*y2 = d at *
 refine cancel h.fl n1 (cancel h.fl n1 (cancel h.fl n2 (cancel h.fl n2 ?_)))
 grind
theorem add_comm (D : Fin M) (P Q : Fin M × Fin M) : add D P Q = add D Q P := by
 have : dl D P Q = dl D Q P := by unfold dl; grind
 unfold add; rw [this]
 refine Prod.ext ?_ ?_
 ·show _ * _ = _ * _; congr 1; grind
 ·show _ * _ = _ * _; congr 1; grind
theorem O_on (D : Fin M) : On D O := by unfold On O; grind
theorem add_O {D : Fin M} (h : Ns D) {P : Fin M × Fin M} (hP : On D P) : add D P O = P := by
 obtain ⟨e1, e2⟩ := add_eq h hP (O_on D)
 have : dl D P O = 0 := by unfold dl O; grind
 rw [this] at e1 e2
 unfold O at *
 refine Prod.ext ?_ ?_ <;> grind
theorem id_as {v w g5 g7 n m c k : Fin M} (a5 : v*g5 = n) (a7 : w*g7 = m) (ax : c*n*(k*g7) = k*m*(c*g5)) : v*(c*g5)*(k*g7) = w*(c*g5)*(k*g7) := by
 rw [show v*(c*g5)*(k*g7) = c*(v*g5)*(k*g7) by clear a5 a7 ax; grind, show w*(c*g5)*(k*g7) = k*(w*g7)*(c*g5) by clear a5 a7 ax; grind, a5, a7, ax]
theorem add_assoc {D : Fin M} (h : Ns D) {P Q R : Fin M × Fin M} (hP : On D P) (hQ : On D Q) (hR : On D R) : add D (add D P Q) R = add D P (add D Q R) := by
 have hPQ := add_on h hP hQ
 have hQR := add_on h hQ hR
 obtain ⟨n1, n2⟩ := dl_ne h hP hQ
 obtain ⟨n3, n4⟩ := dl_ne h hQ hR
 obtain ⟨n5, n6⟩ := dl_ne h hPQ hR
 obtain ⟨n7, n8⟩ := dl_ne h hP hQR
 obtain ⟨a1, a2⟩ := add_eq h hP hQ
 obtain ⟨a3, a4⟩ := add_eq h hQ hR
 obtain ⟨a5, a6⟩ := add_eq h hPQ hR
 obtain ⟨a7, a8⟩ := add_eq h hP hQR
 clear hPQ hQR
 generalize add D (add D P Q) R = V at *
 generalize add D P (add D Q R) = W at *
 generalize add D P Q = S at *
 generalize add D Q R = T at *
 obtain ⟨x1, y1⟩ := P
 obtain ⟨x2, y2⟩ := Q
 obtain ⟨x3, y3⟩ := R
 obtain ⟨s1, s2⟩ := S
 obtain ⟨t1, t2⟩ := T
 obtain ⟨v1, v2⟩ := V
 obtain ⟨w1, w2⟩ := W
 unfold On dl at *
 simp only at *
 have ax : ((x1*y2+y1*x2)*(1-D*x1*x2*y1*y2)*y3 + (y1*y2-x1*x2)*(1+D*x1*x2*y1*y2)*x3) * ((1-D*x2*x3*y2*y3)*(1+D*x2*x3*y2*y3) + D*x1*y1*(x2*y3+y2*x3)*(y2*y3-x2*x3))
  = ((x2*y3+y2*x3)*(1-D*x2*x3*y2*y3)*y1 + (y2*y3-x2*x3)*(1+D*x2*x3*y2*y3)*x1) * ((1-D*x1*x2*y1*y2)*(1+D*x1*x2*y1*y2) + D*x3*y3*(x1*y2+y1*x2)*(y1*y2-x1*x2)) := by
  clear n1 n2 n3 n4 n5 n6 n7 n8 a1 a2 a3 a4 a5 a6 a7 a8
  grind
 have ay : ((y1*y2-x1*x2)*(1+D*x1*x2*y1*y2)*y3 - (x1*y2+y1*x2)*(1-D*x1*x2*y1*y2)*x3) * ((1-D*x2*x3*y2*y3)*(1+D*x2*x3*y2*y3) - D*x1*y1*(x2*y3+y2*x3)*(y2*y3-x2*x3))
  = ((y2*y3-x2*x3)*(1+D*x2*x3*y2*y3)*y1 - (x2*y3+y2*x3)*(1-D*x2*x3*y2*y3)*x1) * ((1-D*x1*x2*y1*y2)*(1+D*x1*x2*y1*y2) - D*x3*y3*(x1*y2+y1*x2)*(y1*y2-x1*x2)) := by
  clear n1 n2 n3 n4 n5 n6 n7 n8 a1 a2 a3 a4 a5 a6 a7 a8
  grind
 rw [← a1, ← a2, ← a3, ← a4] at ax ay
 clear hP hQ hR a1 a2 a3 a4
 generalize D*x1*x2*y1*y2 = d at *
 generalize D*x2*x3*y2*y3 = e at *
 have m5 : (1+d)*(1-d)*(1 + D*s1*x3*s2*y3) ≠ 0 := fun h0 => by
  rcases mul_zero_or h.fl h0 with h0 | h0
  ·rcases mul_zero_or h.fl h0 with h0 | h0
   ·exact n1 h0
   ·exact n2 h0
  ·exact n5 h0
 have m6 : (1+d)*(1-d)*(1 - D*s1*x3*s2*y3) ≠ 0 := fun h0 => by
  rcases mul_zero_or h.fl h0 with h0 | h0
  ·rcases mul_zero_or h.fl h0 with h0 | h0
   ·exact n1 h0
   ·exact n2 h0
  ·exact n6 h0
 have m7 : (1+e)*(1-e)*(1 + D*x1*t1*y1*t2) ≠ 0 := fun h0 => by
  rcases mul_zero_or h.fl h0 with h0 | h0
  ·rcases mul_zero_or h.fl h0 with h0 | h0
   ·exact n3 h0
   ·exact n4 h0
  ·exact n7 h0
 have m8 : (1+e)*(1-e)*(1 - D*x1*t1*y1*t2) ≠ 0 := fun h0 => by
  rcases mul_zero_or h.fl h0 with h0 | h0
  ·rcases mul_zero_or h.fl h0 with h0 | h0
   ·exact n3 h0
   ·exact n4 h0
  ·exact n8 h0
 refine Prod.ext (cancel h.fl m5 (cancel h.fl m7 ?_)) (cancel h.fl m6 (cancel h.fl m8 ?_))
 ·refine id_as a5 a7 ?_
  clear n1 n2 n3 n4 n5 n6 n7 n8 m5 m6 m7 m8 a5 a6 a7 a8 ay
  refine Eq.trans ?_ (ax.trans ?_)
  ·clear ax; grind
  ·clear ax; grind
 ·refine id_as a6 a8 ?_
  clear n1 n2 n3 n4 n5 n6 n7 n8 m5 m6 m7 m8 a5 a6 a7 a8 ax
  refine Eq.trans ?_ (ay.trans ?_)
  ·clear ay; grind
  ·clear ay; grind
end
end EC
namespace EC
section
variable {M : Nat} [NeZero M]
def mulN (D : Fin M) (P : Fin M × Fin M) : Nat → Fin M × Fin M
 | 0 => O
 | n + 1 => add D (mulN D P n) P
theorem mulN_on {D : Fin M} (h : Ns D) {P : Fin M × Fin M} (hP : On D P) : ∀ n, On D (mulN D P n)
 | 0 => O_on D
 | n + 1 => add_on h (mulN_on h hP n) hP
theorem mulN_add {D : Fin M} (h : Ns D) {P : Fin M × Fin M} (hP : On D P) (m : Nat) : ∀ n, mulN D P (m + n) = add D (mulN D P m) (mulN D P n)
 | 0 => (add_O h (mulN_on h hP m)).symm
 | n + 1 => by
   show add D (mulN D P (m + n)) P = add D (mulN D P m) (add D (mulN D P n) P)
   rw [mulN_add h hP m n, add_assoc h (mulN_on h hP m) (mulN_on h hP n) hP]
theorem mulN_mul {D : Fin M} (h : Ns D) {P : Fin M × Fin M} (hP : On D P) (n : Nat) : ∀ m, mulN D P (m * n) = mulN D (mulN D P n) m
 | 0 => by rw [Nat.zero_mul]; rfl
 | m + 1 => by
   rw [Nat.succ_mul, mulN_add h hP, mulN_mul h hP n m]; rfl
theorem mulN_one {D : Fin M} (h : Ns D) {P : Fin M × Fin M} (hP : On D P) : mulN D P 1 = P := by
 show add D O P = P
 rw [add_comm, add_O h hP]
theorem mulN_O {D : Fin M} (h : Ns D) : ∀ n, mulN D (O : Fin M × Fin M) n = O
 | 0 => rfl
 | n + 1 => by
   show add D (mulN D O n) O = O
   rw [mulN_O h n, add_O h (O_on D)]
def neg (P : Fin M × Fin M) : Fin M × Fin M := (-P.1, P.2)
theorem neg_on {D : Fin M} {P : Fin M × Fin M} (hP : On D P) : On D (neg P) := by unfold On neg at *; simp only; grind
theorem add_neg {D : Fin M} (h : Ns D) {P : Fin M × Fin M} (hP : On D P) : add D P (neg P) = O := by
 have F := h.fl
 obtain ⟨e1, e2⟩ := add_eq h hP (neg_on hP)
 obtain ⟨n1, n2⟩ := dl_ne h hP (neg_on hP)
 unfold On dl neg O at *
 simp only at *
 refine Prod.ext (cancel F n1 ?_) (cancel F n2 ?_)
 ·show _ = 0 * _; rw [e1]; grind
 ·show _ = 1 * _; rw [e2]; grind
theorem sub_of {D : Fin M} (h : Ns D) {P Q : Fin M × Fin M} (hP : On D P) (hQ : On D Q) : add D (add D Q P) (neg Q) = P := by
 rw [add_comm D Q P, add_assoc h hP hQ (neg_on hQ), add_neg h hQ, add_O h hP]
structure Rep (e x z : Fin M) (Q : Fin M × Fin M) : Prop where
 at_ : x * (1 - Q.2) = e * z * (1 + Q.2)
 ne : ¬ (x = 0 ∧ z = 0)
structure Cv (D A e : Fin M) : Prop where
 ns : Ns D
 sg : e*e = 1
 rel : D * (e*A + 2) = e*A - 2
 nz : e*A + 2 ≠ 0
theorem Rep.lam (F : Fl M) {e x z : Fin M} {Q : Fin M × Fin M} (h2 : (2 : Fin M) ≠ 0) (he : e*e = 1) (h : Rep e x z Q) : ∃ l, l ≠ 0 ∧ x = l * e * (1 + Q.2) ∧ z = l * (1 - Q.2) := by
 obtain ⟨h1, h3⟩ := h
 have i2 := F.inv 2 h2
 refine ⟨(e*x + z) * iv 2, fun h0 => h3 ?_, by grind, by grind⟩
 have z0 : e*x + z = 0 := by clear h1 h3 he; grind
 have x2 : 2*x = 0 := by clear h0 h3 i2; grind
 have x0 : x = 0 := (mul_zero_or F x2).resolve_left h2
 exact ⟨x0, by clear h0 h1 h3 he i2 x2; grind⟩
theorem id_x (l e y : Fin M) (hs : e*e = 1) : (l*e*(1+y))*(l*e*(1+y)) - (l*(1-y))*(l*(1-y)) = 4*l*l*y := by grind
theorem id_z (l e y A D : Fin M) (hs : e*e = 1) (hr : D * (e*A + 2) = e*A - 2) : 4*(l*e*(1+y))*(l*(1-y))*((l*e*(1+y))*(l*e*(1+y)) + A*(l*e*(1+y))*(l*(1-y)) + (l*(1-y))*(l*(1-y))) = 4*l*l*l*l*e*((1-y*y)*((e*A+2)*(1-D*y*y))) := by grind
theorem id_k1 (e A D a y : Fin M) (hr : D * (e*A + 2) = e*A - 2) (hQ : a*a + y*y = 1 + D*a*a*y*y) : (e*A+2)*(1-D*y*y)*(1-a*a) = 4*y*y := by grind
theorem id_k2 (D a y s : Fin M) (hQ : a*a + y*y = 1 + D*a*a*y*y) (e2 : s*(1 - D*a*a*y*y) = y*y - a*a) : (1 - s)*(1 - D*a*a*y*y) = 2*(1-y*y) := by grind
theorem id_k3 (D a y s : Fin M) (hQ : a*a + y*y = 1 + D*a*a*y*y) (e2 : s*(1 - D*a*a*y*y) = y*y - a*a) : (1 + s)*(1 - D*a*a*y*y) = 2*(1-a*a) := by grind
theorem id_d (l e y a t g s : Fin M) (hs : e*e = 1) (k1 : t*(1-a*a) = 4*y*y) (k2 : (1-s)*g = 2*(1-y*y)) (k3 : (1+s)*g = 2*(1-a*a)) : 4*l*l*y*(4*l*l*y)*(1-s)*g = e*(4*l*l*l*l*e*((1-y*y)*t))*(1+s)*g := by grind
theorem four_ne (F : Fl M) (h : (2:Fin M) ≠ 0) : (4:Fin M) ≠ 0 := fun q => h ((mul_zero_or F (show (2:Fin M)*2 = 0 by rw [← q]; grind)).elim id id)
theorem e_ne (F : Fl M) {e : Fin M} (h : e*e = 1) : e ≠ 0 := fun q => F.one (show (0:Fin M) = 1 by rw [← h, q]; grind)
theorem mul_ne (F : Fl M) {a b : Fin M} (ha : a ≠ 0) (hb : b ≠ 0) : a*b ≠ 0 := fun q => (mul_zero_or F q).elim ha hb
theorem id_p1 (p u e : Fin M) (he : e*e = 1) (hu : u*(1-p) = e*(1+p)) (q : p = 1) : (2:Fin M) = 0 := by subst q; grind
theorem id_x2 (l m e y r : Fin M) (he : e*e = 1) : (l*e*(1+y))*(m*e*(1+r)) - (l*(1-y))*(m*(1-r)) = 2*l*m*(y+r) := by grind
theorem id_z2 (l m e y r : Fin M) : (m*e*(1+r))*(l*(1-y)) - (l*e*(1+y))*(m*(1-r)) = 2*l*m*e*(r-y) := by grind
theorem id_s1 (d yr ab s : Fin M) (h : s*(1-d) = yr - ab) : (1+s)*(1-d) = 1 - d + yr - ab ∧ (1-s)*(1-d) = 1 - d - yr + ab := by constructor <;> grind
theorem id_s2 (d yr ab p : Fin M) (h : p*(1+d) = yr + ab) : (1+p)*(1+d) = 1 + d + yr + ab ∧ (1-p)*(1+d) = 1 + d - yr - ab := by constructor <;> grind
theorem id_k5 (D a b y r : Fin M) (hQ : a*a + y*y = 1 + D*a*a*y*y) (hR : b*b + r*r = 1 + D*b*b*r*r) : (1 - D*a*b*y*r + y*r - a*b)*(1 + D*a*b*y*r + y*r + a*b)*((r-y)*(r-y)) = (1 - D*a*b*y*r - y*r + a*b)*(1 + D*a*b*y*r - y*r - a*b)*((y+r)*(y+r)) := by grind
theorem id_f (l m e u p s y r : Fin M) (he : e*e = 1) (hu : u*(1-p) = e*(1+p)) (k : (1+s)*(1+p)*((r-y)*(r-y)) = (1-s)*(1-p)*((y+r)*(y+r))) : 4*(2*l*m*(y+r)*(2*l*m*(y+r)))*(1-s)*(1-p) = e*(u*(4*(2*l*m*e*(r-y)*(2*l*m*e*(r-y)))))*(1+s)*(1-p) := by grind
theorem rep_dbl {D A e x z : Fin M} {Q : Fin M × Fin M} (c : Cv D A e) (hQ : On D Q) (h : Rep e x z Q) : Rep e ((x*x - z*z)*(x*x - z*z)) (4*x*z*(x*x + A*x*z + z*z)) (add D Q Q) := by
 have F := c.ns.fl
 obtain ⟨l, l0, rfl, rfl⟩ := Rep.lam F c.ns.two c.sg h
 obtain ⟨n1, n2⟩ := dl_ne c.ns hQ hQ
 obtain ⟨e1, e2⟩ := add_eq c.ns hQ hQ
 generalize add D Q Q = R at *
 obtain ⟨a, y⟩ := Q
 obtain ⟨b, s⟩ := R
 unfold On dl at *
 simp only at *
 rw [id_x l e y c.sg, id_z l e y A D c.sg c.rel]
 have k1 := id_k1 e A D a y c.rel hQ
 refine ⟨?_, ?_⟩
 ·exact cancel F n2 (id_d l e y a _ _ s c.sg k1 (id_k2 D a y s hQ e2) (id_k3 D a y s hQ e2))
 ·rintro ⟨z1, z2⟩
  have f4 := four_ne F c.ns.two
  have y0 : y = 0 := by
   have q := (mul_zero_or F z1).elim id id
   exact (mul_zero_or F q).resolve_left (mul_ne F (mul_ne F f4 l0) l0)
  subst y0
  refine mul_ne F (mul_ne F (mul_ne F (mul_ne F (mul_ne F (mul_ne F f4 l0) l0) l0) l0) (e_ne F c.sg)) ?_ z2
  intro q
  exact c.nz (by rw [← q]; grind)
theorem rep_add {D A e u x z x' z' : Fin M} {P Q : Fin M × Fin M} (c : Cv D A e) (hP : On D P) (hQ : On D Q) (hu : u * (1 - P.2) = e * (1 + P.2)) (u0 : u ≠ 0) (h : Rep e x z Q) (h' : Rep e x' z' (add D Q P)) : Rep e (4*((x*x' - z*z')*(x*x' - z*z'))) (u*(4*((x'*z - x*z')*(x'*z - x*z')))) (add D Q (add D Q P)) := by
 have F := c.ns.fl
 obtain ⟨l, l0, rfl, rfl⟩ := Rep.lam F c.ns.two c.sg h
 obtain ⟨m, m0, rfl, rfl⟩ := Rep.lam F c.ns.two c.sg h'
 have hR := add_on c.ns hQ hP
 have hs := sub_of c.ns hP hQ
 obtain ⟨n1, n2⟩ := dl_ne c.ns hQ hR
 obtain ⟨e1, e2⟩ := add_eq c.ns hQ hR
 obtain ⟨n3, n4⟩ := dl_ne c.ns hR (neg_on hQ)
 obtain ⟨e3, e4⟩ := add_eq c.ns hR (neg_on hQ)
 rw [hs] at e3 e4
 obtain ⟨he, two⟩ : e*e = 1 ∧ (2 : Fin M) ≠ 0 := ⟨c.sg, c.ns.two⟩
 clear hs h h'
 generalize add D Q (add D Q P) = S at *
 generalize add D Q P = R at *
 obtain ⟨a, y⟩ := Q
 obtain ⟨b, r⟩ := R
 obtain ⟨g, s⟩ := S
 obtain ⟨f, p⟩ := P
 unfold On dl neg at *
 simp only at *
 clear c
 have p1 : p ≠ 1 := fun q => two (id_p1 p u e he hu q)
 have hd : (1 : Fin M) - D*b*(-a)*r*y = 1 + D*a*b*y*r := by clear hP hQ hR e1 e2 e3 e4 n1 n2 n3 n4 hu; grind
 rw [hd] at n4 e4
 have e4 : p*(1 + D*a*b*y*r) = y*r + a*b := by rw [e4]; clear hP hQ hR e1 e2 e3 e4 n1 n2 n3 n4 hu hd; grind
 clear n3 e3 hd
 have k : (1+s)*(1+p)*((r-y)*(r-y)) = (1-s)*(1-p)*((y+r)*(y+r)) := by
  obtain ⟨k1, k2⟩ := id_s1 (D*a*b*y*r) (y*r) (a*b) s e2
  obtain ⟨k3, k4⟩ := id_s2 (D*a*b*y*r) (y*r) (a*b) p e4
  have k5 := id_k5 D a b y r hQ hR
  rw [← k1, ← k2, ← k3, ← k4] at k5
  refine cancel F n2 (cancel F n4 ?_)
  clear k1 k2 k3 k4 e1 e2 e4 n1 n2 n4 hP hQ hR p1 u0 hu
  grind
 rw [id_x2 l m e y r he, id_z2 l m e y r]
 refine ⟨?_, ?_⟩
 ·have p2 : 1 - p ≠ 0 := fun q => p1 (by clear k hP hQ hR e1 e2 e4 n1 n2 n4 hu p1; grind)
  exact cancel F p2 (id_f l m e u p s y r he hu k)
 ·rintro ⟨z1, z2⟩
  have lm0 : 2*l*m ≠ 0 := mul_ne F (mul_ne F two l0) m0
  have w1 : y + r = 0 := by
   have q := (mul_zero_or F ((mul_zero_or F z1).resolve_left (four_ne F two))).elim id id
   exact (mul_zero_or F q).resolve_left lm0
  have w2 : r - y = 0 := by
   have q := (mul_zero_or F ((mul_zero_or F ((mul_zero_or F z2).resolve_left u0)).resolve_left (four_ne F two))).elim id id
   exact (mul_zero_or F q).resolve_left (mul_ne F lm0 (e_ne F he))
  have y0 : y = 0 := (mul_zero_or F (show 2*y = 0 by clear z1 z2 k hP hQ hR e1 e2 e4 n1 n2 n4 hu; grind)).resolve_left two
  have r0 : r = 0 := by clear z1 z2 k hP hQ hR e1 e2 e4 n1 n2 n4 hu; grind
  subst y0 r0
  have e5 : p = a*b := by clear z1 z2 k hP hQ hR e1 e2 n1 n2 n4 hu w1 w2; grind
  have aa : a*a = 1 := by clear z1 z2 k hP hR e1 e2 e4 n1 n2 n4 hu w1 w2 e5; grind
  have bb : b*b = 1 := by clear z1 z2 k hP hQ e1 e2 e4 n1 n2 n4 hu w1 w2 e5; grind
  have pp : (p - 1)*(p + 1) = 0 := by clear z1 z2 k hP hQ hR e1 e2 e4 n1 n2 n4 hu w1 w2; grind
  rcases mul_zero_or F pp with q | q
  ·exact p1 (by clear z1 z2 k hP hQ hR e1 e2 e4 n1 n2 n4 hu w1 w2 pp e5 aa bb; grind)
  ·have : u * 2 = 0 := by clear z1 z2 k hP hQ hR e1 e2 e4 n1 n2 n4 w1 w2 pp e5 aa bb; grind
   exact (mul_zero_or F this).elim u0 two
end
end EC
namespace EC
section
variable {M : Nat} [NeZero M]
def lst (k u x2 z2 x3 z3 : Fin M) : Fin M × Fin M × Fin M × Fin M :=
 ((x2+z2)*(x2+z2)*((x2-z2)*(x2-z2)),
   ((x2+z2)*(x2+z2) - (x2-z2)*(x2-z2))*((x2+z2)*(x2+z2) + k*((x2+z2)*(x2+z2) - (x2-z2)*(x2-z2))),
   ((x3-z3)*(x2+z2) + (x3+z3)*(x2-z2))*((x3-z3)*(x2+z2) + (x3+z3)*(x2-z2)),
   u*(((x3-z3)*(x2+z2) - (x3+z3)*(x2-z2))*((x3-z3)*(x2+z2) - (x3+z3)*(x2-z2))))
def bst (k u : Fin M) (b : Bool) (s : Fin M × Fin M × Fin M × Fin M) : Fin M × Fin M × Fin M × Fin M :=
 if b then ((lst k u s.2.2.1 s.2.2.2 s.1 s.2.1).2.2.1, (lst k u s.2.2.1 s.2.2.2 s.1 s.2.1).2.2.2, (lst k u s.2.2.1 s.2.2.2 s.1 s.2.1).1, (lst k u s.2.2.1 s.2.2.2 s.1 s.2.1).2.1)
 else lst k u s.1 s.2.1 s.2.2.1 s.2.2.2
def lad (k u : Fin M) (n t : Nat) : Nat → Fin M × Fin M × Fin M × Fin M
 | 0 => (1, 0, u, 1)
 | j + 1 => bst k u (n.testBit (t - 1 - j)) (lad k u n t j)
def mulU (k u : Fin M) (n t : Nat) : Fin M := (lad k u n t t).1 * iv (lad k u n t t).2.1
def U (e : Fin M) (Q : Fin M × Fin M) : Fin M := e * (1 + Q.2) * iv (1 - Q.2)
theorem id_b1 (x z : Fin M) : (x+z)*(x+z)*((x-z)*(x-z)) = (x*x - z*z)*(x*x - z*z) := by grind
theorem id_b2 (k A x z : Fin M) (hA : A = 4*k + 2) : ((x+z)*(x+z) - (x-z)*(x-z))*((x+z)*(x+z) + k*((x+z)*(x+z) - (x-z)*(x-z))) = 4*x*z*(x*x + A*x*z + z*z) := by subst hA; grind
theorem id_b3 (x z x' z' : Fin M) : ((x'-z')*(x+z) + (x'+z')*(x-z))*((x'-z')*(x+z) + (x'+z')*(x-z)) = 4*((x*x' - z*z')*(x*x' - z*z')) := by grind
theorem id_b4 (u x z x' z' : Fin M) : u*(((x'-z')*(x+z) - (x'+z')*(x-z))*((x'-z')*(x+z) - (x'+z')*(x-z))) = u*(4*((x'*z - x*z')*(x'*z - x*z'))) := by grind
theorem id_b5 (x z x' z' : Fin M) : (x'-z')*(x+z) + (x'+z')*(x-z) = (x-z)*(x'+z') + (x+z)*(x'-z') := by grind
theorem id_b6 (x z x' z' : Fin M) : ((x'-z')*(x+z) - (x'+z')*(x-z))*((x'-z')*(x+z) - (x'+z')*(x-z)) = ((x-z)*(x'+z') - (x+z)*(x'-z'))*((x-z)*(x'+z') - (x+z)*(x'-z')) := by grind
def At (D e : Fin M) (P : Fin M × Fin M) (n : Nat) (s : Fin M × Fin M × Fin M × Fin M) : Prop :=
 Rep e s.1 s.2.1 (mulN D P n) ∧ Rep e s.2.2.1 s.2.2.2 (mulN D P (n + 1))
theorem at_step {D A e k u : Fin M} {P : Fin M × Fin M} (c : Cv D A e) (hA : A = 4*k + 2) (hP : On D P) (hu : u*(1 - P.2) = e*(1 + P.2)) (u0 : u ≠ 0) (n : Nat) (b : Bool) (s : Fin M × Fin M × Fin M × Fin M) (h : At D e P n s) : At D e P (2*n + b.toNat) (bst k u b s) := by
 obtain ⟨h1, h2⟩ := h
 have hn := mulN_on c.ns hP n
 have hn1 := mulN_on c.ns hP (n + 1)
 have hs := rep_add c hP hn hu u0 h1 h2
 have e2 : mulN D P (n + 1) = add D (mulN D P n) P := rfl
 rw [← e2, ← mulN_add c.ns hP] at hs
 cases b
 ·show At D e P (2*n) (lst k u s.1 s.2.1 s.2.2.1 s.2.2.2)
  have hd := rep_dbl c hn h1
  rw [← mulN_add c.ns hP] at hd
  refine ⟨?_, ?_⟩
  ·rw [show 2*n = n + n by omega]
   show Rep e ((s.1+s.2.1)*(s.1+s.2.1)*((s.1-s.2.1)*(s.1-s.2.1))) _ _
   rw [id_b1]
   show Rep e _ (((s.1+s.2.1)*(s.1+s.2.1) - (s.1-s.2.1)*(s.1-s.2.1))*((s.1+s.2.1)*(s.1+s.2.1) + k*((s.1+s.2.1)*(s.1+s.2.1) - (s.1-s.2.1)*(s.1-s.2.1)))) _
   rw [id_b2 k A _ _ hA]
   exact hd
  ·rw [show 2*n + 1 = n + (n + 1) by omega]
   show Rep e (((s.2.2.1-s.2.2.2)*(s.1+s.2.1) + (s.2.2.1+s.2.2.2)*(s.1-s.2.1))*((s.2.2.1-s.2.2.2)*(s.1+s.2.1) + (s.2.2.1+s.2.2.2)*(s.1-s.2.1))) _ _
   rw [id_b3]
   show Rep e _ (u*(((s.2.2.1-s.2.2.2)*(s.1+s.2.1) - (s.2.2.1+s.2.2.2)*(s.1-s.2.1))*((s.2.2.1-s.2.2.2)*(s.1+s.2.1) - (s.2.2.1+s.2.2.2)*(s.1-s.2.1)))) _
   rw [id_b4]
   exact hs
 ·have hd := rep_dbl c hn1 h2
  rw [← mulN_add c.ns hP] at hd
  refine ⟨?_, ?_⟩
  ·rw [show 2*n + true.toNat = n + (n + 1) by show 2*n + 1 = _; omega]
   show Rep e (((s.1-s.2.1)*(s.2.2.1+s.2.2.2) + (s.1+s.2.1)*(s.2.2.1-s.2.2.2))*((s.1-s.2.1)*(s.2.2.1+s.2.2.2) + (s.1+s.2.1)*(s.2.2.1-s.2.2.2))) _ _
   rw [← id_b5, id_b3]
   show Rep e _ (u*(((s.1-s.2.1)*(s.2.2.1+s.2.2.2) - (s.1+s.2.1)*(s.2.2.1-s.2.2.2))*((s.1-s.2.1)*(s.2.2.1+s.2.2.2) - (s.1+s.2.1)*(s.2.2.1-s.2.2.2)))) _
   rw [← id_b6, id_b4]
   exact hs
  ·rw [show 2*n + true.toNat + 1 = n + 1 + (n + 1) by show 2*n + 1 + 1 = _; omega]
   show Rep e ((s.2.2.1+s.2.2.2)*(s.2.2.1+s.2.2.2)*((s.2.2.1-s.2.2.2)*(s.2.2.1-s.2.2.2))) _ _
   rw [id_b1]
   show Rep e _ (((s.2.2.1+s.2.2.2)*(s.2.2.1+s.2.2.2) - (s.2.2.1-s.2.2.2)*(s.2.2.1-s.2.2.2))*((s.2.2.1+s.2.2.2)*(s.2.2.1+s.2.2.2) + k*((s.2.2.1+s.2.2.2)*(s.2.2.1+s.2.2.2) - (s.2.2.1-s.2.2.2)*(s.2.2.1-s.2.2.2)))) _
   rw [id_b2 k A _ _ hA]
   exact hd
theorem testBit_nat (n j : Nat) : n / 2 ^ j = 2 * (n / 2 ^ (j + 1)) + (n.testBit j).toNat := by
 rw [Nat.pow_succ, ← Nat.div_div_eq_div_mul, Nat.testBit_eq_decide_div_mod_eq]
 by_cases h : n / 2 ^ j % 2 = 1
 ·rw [decide_eq_true h]; show _ = _ + 1; omega
 ·rw [decide_eq_false h]; show _ = _ + 0; omega
theorem at_lad {D A e k u : Fin M} {P : Fin M × Fin M} (c : Cv D A e) (hA : A = 4*k + 2) (hP : On D P) (hu : u*(1 - P.2) = e*(1 + P.2)) (u0 : u ≠ 0) (n t : Nat) (hn : n < 2 ^ t) : ∀ j, j ≤ t → At D e P (n / 2 ^ (t - j)) (lad k u n t j)
 | 0, _ => by
   rw [Nat.sub_zero, Nat.div_eq_of_lt hn]
   have one : (1 : Fin M) ≠ 0 := fun h => c.ns.fl.one h.symm
   refine ⟨⟨?_, fun h => one h.1⟩, ⟨?_, fun h => one h.2⟩⟩
   ·show (1 : Fin M) * (1 - 1) = e * 0 * (1 + 1); grind
   ·show u * (1 - (mulN D P 1).2) = e * 1 * (1 + (mulN D P 1).2)
    rw [mulN_one c.ns hP, hu]; clear hu; grind
 | j + 1, hj => by
   have h := at_step c hA hP hu u0 _ (n.testBit (t - 1 - j)) _ (at_lad c hA hP hu u0 n t hn j (by omega))
   have e1 := testBit_nat n (t - (j + 1))
   rw [show t - (j + 1) + 1 = t - j by omega, show t - (j + 1) = t - 1 - j by omega] at e1
   rw [← e1] at h
   rw [show t - (j + 1) = t - 1 - j by omega]
   exact h
theorem iv_zero (hM : 2 < M) : iv (0 : Fin M) = 0 := by
 refine Fin.ext ?_
 show (0 : Fin M).val ^ (M - 2) % M = (0 : Fin M).val
 rw [Fin.val_zero, Nat.zero_pow (by omega), Nat.zero_mod]
theorem rep_U {D A e x z : Fin M} {Q : Fin M × Fin M} (hM : 2 < M) (c : Cv D A e) (h : Rep e x z Q) : x * iv z = U e Q := by
 have F := c.ns.fl
 obtain ⟨l, l0, rfl, rfl⟩ := Rep.lam F c.ns.two c.sg h
 unfold U
 clear h
 generalize Q.2 = y
 by_cases h : 1 - y = 0
 ·rw [h, show l * (0 : Fin M) = 0 by clear h; grind, iv_zero hM]; clear h; grind
 ·have i1 := F.inv _ h
  have i2 := F.inv _ (mul_ne F l0 h)
  refine cancel F (mul_ne F l0 h) ?_
  generalize iv (l * (1 - y)) = a at *
  generalize iv (1 - y) = b at *
  clear h l0
  generalize 1 - y = g at *
  generalize 1 + y = f at *
  grind
theorem mulU_at {D A e k u : Fin M} {P : Fin M × Fin M} (hM : 2 < M) (c : Cv D A e) (hA : A = 4*k + 2) (hP : On D P) (hu : u*(1 - P.2) = e*(1 + P.2)) (u0 : u ≠ 0) (n t : Nat) (hn : n < 2 ^ t) : mulU k u n t = U e (mulN D P n) := by
 have h := at_lad c hA hP hu u0 n t hn t (Nat.le_refl t)
 rw [Nat.sub_self, Nat.pow_zero, Nat.div_one] at h
 exact rep_U hM c h.1
theorem lad_zero (F : Fl M) (k : Fin M) (n t : Nat) : ∀ j, (lad k 0 n t j).1 * (lad k 0 n t j).2.1 = 0 ∧ (lad k 0 n t j).2.2.1 * (lad k 0 n t j).2.2.2 = 0
 | 0 => ⟨by show (1 : Fin M) * 0 = 0; grind, by show (0 : Fin M) * 1 = 0; grind⟩
 | j + 1 => by
   obtain ⟨h1, h2⟩ := lad_zero F k n t j
   have key : ∀ x2 z2 x3 z3 : Fin M, x2 * z2 = 0 → (lst k 0 x2 z2 x3 z3).2.1 = 0 ∧ (lst k 0 x2 z2 x3 z3).2.2.2 = 0 := by
    intro x2 z2 x3 z3 h
    refine ⟨?_, ?_⟩
    ·show ((x2+z2)*(x2+z2) - (x2-z2)*(x2-z2))*((x2+z2)*(x2+z2) + k*((x2+z2)*(x2+z2) - (x2-z2)*(x2-z2))) = 0
     rw [id_b2 k _ x2 z2 rfl]
     rw [show 4*x2*z2 = 4*(x2*z2) by clear h h1 h2; grind, h]
     clear h h1 h2; grind
    ·show 0*(((x3-z3)*(x2+z2) - (x3+z3)*(x2-z2))*((x3-z3)*(x2+z2) - (x3+z3)*(x2-z2))) = 0
     clear h h1 h2; grind
   have mz : ∀ a b : Fin M, b = 0 → a * b = 0 := fun a b h => by subst h; grind
   show (bst k 0 (n.testBit (t - 1 - j)) (lad k 0 n t j)).1 * (bst k 0 (n.testBit (t - 1 - j)) (lad k 0 n t j)).2.1 = 0 ∧ (bst k 0 (n.testBit (t - 1 - j)) (lad k 0 n t j)).2.2.1 * (bst k 0 (n.testBit (t - 1 - j)) (lad k 0 n t j)).2.2.2 = 0
   cases n.testBit (t - 1 - j)
   ·obtain ⟨k1, k2⟩ := key _ _ (lad k 0 n t j).2.2.1 (lad k 0 n t j).2.2.2 h1
    exact ⟨mz _ _ k1, mz _ _ k2⟩
   ·obtain ⟨k1, k2⟩ := key _ _ (lad k 0 n t j).1 (lad k 0 n t j).2.1 h2
    exact ⟨mz _ _ k2, mz _ _ k1⟩
theorem mulU_zero (hM : 2 < M) (F : Fl M) (k : Fin M) (n t : Nat) : mulU k 0 n t = 0 := by
 unfold mulU
 rcases mul_zero_or F (lad_zero F k n t t).1 with h | h
 ·rw [h]; grind
 ·rw [h, iv_zero hM]; grind
theorem U_zero {D A e : Fin M} {Q : Fin M × Fin M} (c : Cv D A e) (hQ : On D Q) (h : U e Q = 0) : Q = O ∨ Q = (0, -1) := by
 have F := c.ns.fl
 have hy : (1 - Q.2) * (1 + Q.2) = 0 := by
  by_cases h1 : 1 - Q.2 = 0
  ·rw [h1]; clear h h1 hQ; grind
  ·have i1 := F.inv _ h1
   have h2 : iv (1 - Q.2) ≠ 0 := fun q => F.one (by rw [← i1, q]; clear i1 q h h1 hQ; grind)
   have h3 := (mul_zero_or F h).resolve_right h2
   rw [(mul_zero_or F h3).resolve_left (e_ne F c.sg)]; clear h h1 h2 h3 i1 hQ; grind
 have d1 : (1 : Fin M) - D ≠ 0 := fun q => c.ns.ns 1 (by clear hy h hQ; grind)
 have hx : Q.1 = 0 := by
  have h1 : Q.1 * Q.1 * (1 - D) = 0 := by unfold On at hQ; clear h d1; grind
  exact (mul_zero_or F ((mul_zero_or F h1).resolve_right d1)).elim id id
 rcases mul_zero_or F hy with q | q
 ·left; exact Prod.ext hx (by show Q.2 = 1; clear h hx hy hQ d1; grind)
 ·right; exact Prod.ext hx (by show Q.2 = -1; clear h hx hy hQ d1; grind)
theorem U_O (hM : 2 < M) (e : Fin M) : U e (O : Fin M × Fin M) = 0 := by
 unfold U O
 show e * (1 + 1) * iv (1 - 1) = 0
 rw [show (1 : Fin M) - 1 = 0 by grind, iv_zero hM]; grind
theorem U_T (e : Fin M) : U e ((0, -1) : Fin M × Fin M) = 0 := by
 unfold U
 show e * (1 + -1) * iv (1 - -1) = 0
 grind
theorem T_on (D : Fin M) : On D (0, -1) := by unfold On; grind
theorem T_two {D : Fin M} (h : Ns D) : add D ((0, -1) : Fin M × Fin M) (0, -1) = O := by
 have : neg ((0, -1) : Fin M × Fin M) = (0, -1) := Prod.ext (by show -(0 : Fin M) = 0; grind) rfl
 have h2 := add_neg h (T_on D)
 rw [this] at h2; exact h2
theorem T_mul {D : Fin M} (h : Ns D) : ∀ n, mulN D ((0, -1) : Fin M × Fin M) n = O ∨ mulN D ((0, -1) : Fin M × Fin M) n = (0, -1)
 | 0 => .inl rfl
 | n + 1 => by
   rcases T_mul h n with q | q
   ·right; show add D (mulN D _ n) _ = _; rw [q, add_comm, add_O h (T_on D)]
   ·left; show add D (mulN D _ n) _ = _; rw [q, T_two h]
theorem U_at {D A e : Fin M} {Q : Fin M × Fin M} (hM : 2 < M) (c : Cv D A e) (h : U e Q ≠ 0) : U e Q * (1 - Q.2) = e * (1 + Q.2) := by
 have F := c.ns.fl
 by_cases h1 : 1 - Q.2 = 0
 ·exact absurd (by unfold U; rw [h1, iv_zero hM]; clear h h1; grind) h
 ·have i1 := F.inv _ h1
  unfold U
  clear h
  generalize 1 - Q.2 = g at *
  generalize iv g = b at *
  clear h1
  grind
def Has (A u : Fin M) : Prop := ∃ D e P, Cv D A e ∧ On D P ∧ u*(1 - P.2) = e*(1 + P.2)
theorem mulU_two {D A e k u : Fin M} {P : Fin M × Fin M} (hM : 2 < M) (c : Cv D A e) (hA : A = 4*k + 2) (hP : On D P) (hu : u*(1 - P.2) = e*(1 + P.2)) (u0 : u ≠ 0) (a b t : Nat) (ha : a < 2 ^ t) (hb : b < 2 ^ t) : mulU k (mulU k u b t) a t = U e (mulN D P (a * b)) := by
 rw [mulU_at hM c hA hP hu u0 b t hb]
 have hQ := mulN_on c.ns hP b
 rw [mulN_mul c.ns hP]
 by_cases h : U e (mulN D P b) = 0
 ·rw [h, mulU_zero hM c.ns.fl]
  rcases U_zero c hQ h with q | q
  ·rw [q, mulN_O c.ns, U_O hM]
  ·rw [q]
   rcases T_mul c.ns a with q2 | q2
   ·rw [q2, U_O hM]
   ·rw [q2, U_T]
 ·exact mulU_at hM c hA hQ (U_at hM c h) h a t ha
theorem meet {A k : Fin M} (hM : 2 < M) (F : Fl M) (hA : A = 4*k + 2) (has : ∀ u : Fin M, u ≠ 0 → Has A u) (u : Fin M) (a b t : Nat) (ha : a < 2 ^ t) (hb : b < 2 ^ t) : mulU k (mulU k u b t) a t = mulU k (mulU k u a t) b t := by
 by_cases u0 : u = 0
 ·subst u0; simp only [mulU_zero hM F]
 ·obtain ⟨D, e, P, c, hP, hu⟩ := has u u0
  rw [mulU_two hM c hA hP hu u0 a b t ha hb, mulU_two hM c hA hP hu u0 b a t hb ha, Nat.mul_comm]
theorem mulN_gcd {D : Fin M} {P : Fin M × Fin M} (h : Ns D) (hP : On D P) (m n : Nat) : mulN D P m = O → mulN D P n = O → mulN D P (Nat.gcd m n) = O := by
 induction m, n using Nat.gcd.induction with
 | H0 n => intro _ h2; rw [Nat.gcd_zero_left]; exact h2
 | H1 m n hm ih =>
   intro h1 h2
   rw [Nat.gcd_rec]
   refine ih ?_ h1
   have e := mulN_add h hP (m * (n / m)) (n % m)
   rw [Nat.div_add_mod, h2, Nat.mul_comm m, mulN_mul h hP, h1, mulN_O h, add_comm, add_O h (mulN_on h hP _)] at e
   exact e.symm
theorem strong {D A e u : Fin M} {P : Fin M × Fin M} (c : Cv D A e) (hP : On D P) (hu : u*(1 - P.2) = e*(1 + P.2)) (L n : Nat) (hL : mulN D P L = O) (hg : Nat.gcd (2 * n) L = 1) : U e (mulN D P n) ≠ 0 := by
 intro h
 have F := c.ns.fl
 have h2 : mulN D P (2 * n) = O := by
  rw [show 2 * n = n + n by omega, mulN_add c.ns hP]
  rcases U_zero c (mulN_on c.ns hP n) h with q | q
  ·rw [q, add_O c.ns (O_on D)]
  ·rw [q, T_two c.ns]
 have h3 := mulN_gcd c.ns hP _ _ h2 hL
 rw [hg, mulN_one c.ns hP] at h3
 rw [h3] at hu
 have h4 : e * 2 = 0 := by
  have : u * (1 - 1) = e * (1 + 1) := hu
  clear hu h h2 h3; grind
 exact (mul_zero_or F h4).elim (e_ne F c.sg) c.ns.two
theorem rep_O {D A e x : Fin M} {Q : Fin M × Fin M} (hM : 2 < M) (c : Cv D A e) (hQ : On D Q) (h : Rep e x 0 Q) : Q = O := by
 have F := c.ns.fl
 have h1 : x ≠ 0 := fun q => h.ne ⟨q, rfl⟩
 have h2 : x * (1 - Q.2) = 0 := by rw [h.at_]; clear h; grind
 have h3 := (mul_zero_or F h2).resolve_left h1
 have h4 : U e Q = 0 := by
  unfold U
  rw [h3, iv_zero hM]; clear h h1 h2 hQ; grind
 rcases U_zero c hQ h4 with q | q
 ·exact q
 ·exfalso
  rw [q] at h3
  have h5 : (1 : Fin M) - (-1) = 0 := h3
  exact c.ns.two (by clear h h1 h2 hQ h3 h4 q; grind)
end
end EC
namespace EC
theorem i11 : FT.Irr 11 := FT.irr_small 11 4 (by decide) (by decide +kernel) (by decide +kernel)
theorem i23 : FT.Irr 23 := FT.irr_small 23 5 (by decide) (by decide +kernel) (by decide +kernel)
theorem i409477 : FT.Irr 409477 := FT.irr_small 409477 640 (by decide) (by decide +kernel) (by decide +kernel)
theorem c14741173 : FT.Cyc 14741173 := FT.irr_of 14741173 2 [2, 2, 3, 3, 409477] 24 (by decide) (by decide +kernel) (fun q hq => by
 simp only [List.mem_cons, List.not_mem_nil, or_false] at hq
 rcases hq with rfl | rfl | rfl | rfl | rfl
 ·exact FT.i2
 ·exact FT.i2
 ·exact FT.i3
 ·exact FT.i3
 ·exact i409477
 ) (by decide +kernel) (by decide +kernel) (by decide +kernel)
theorem c58964693 : FT.Cyc 58964693 := FT.irr_of 58964693 2 [2, 2, 14741173] 26 (by decide) (by decide +kernel) (fun q hq => by
 simp only [List.mem_cons, List.not_mem_nil, or_false] at hq
 rcases hq with rfl | rfl | rfl
 ·exact FT.i2
 ·exact FT.i2
 ·exact c14741173.irr
 ) (by decide +kernel) (by decide +kernel) (by decide +kernel)
theorem i30703 : FT.Irr 30703 := FT.irr_small 30703 176 (by decide) (by decide +kernel) (by decide +kernel)
theorem i82163 : FT.Irr 82163 := FT.irr_small 82163 287 (by decide) (by decide +kernel) (by decide +kernel)
theorem i132667 : FT.Irr 132667 := FT.irr_small 132667 365 (by decide) (by decide +kernel) (by decide +kernel)
theorem i137849 : FT.Irr 137849 := FT.irr_small 137849 372 (by decide) (by decide +kernel) (by decide +kernel)
theorem c3044861653679985063343 : FT.Cyc 3044861653679985063343 := FT.irr_of 3044861653679985063343 5 [2, 3, 11, 30703, 82163, 132667, 137849] 72 (by decide) (by decide +kernel) (fun q hq => by
 simp only [List.mem_cons, List.not_mem_nil, or_false] at hq
 rcases hq with rfl | rfl | rfl | rfl | rfl | rfl | rfl
 ·exact FT.i2
 ·exact FT.i3
 ·exact i11
 ·exact i30703
 ·exact i82163
 ·exact i132667
 ·exact i137849
 ) (by decide +kernel) (by decide +kernel) (by decide +kernel)
theorem c198211423230930754013084525763697 : FT.Cyc 198211423230930754013084525763697 := FT.irr_of 198211423230930754013084525763697 5 [2, 2, 2, 2, 3, 23, 58964693, 3044861653679985063343] 108 (by decide) (by decide +kernel) (fun q hq => by
 simp only [List.mem_cons, List.not_mem_nil, or_false] at hq
 rcases hq with rfl | rfl | rfl | rfl | rfl | rfl | rfl | rfl
 ·exact FT.i2
 ·exact FT.i2
 ·exact FT.i2
 ·exact FT.i2
 ·exact FT.i3
 ·exact i23
 ·exact c58964693.irr
 ·exact c3044861653679985063343.irr
 ) (by decide +kernel) (by decide +kernel) (by decide +kernel)
theorem i269 : FT.Irr 269 := FT.irr_small 269 17 (by decide) (by decide +kernel) (by decide +kernel)
theorem i73 : FT.Irr 73 := FT.irr_small 73 9 (by decide) (by decide +kernel) (by decide +kernel)
theorem i307 : FT.Irr 307 := FT.irr_small 307 18 (by decide) (by decide +kernel) (by decide +kernel)
theorem i5879 : FT.Irr 5879 := FT.irr_small 5879 77 (by decide) (by decide +kernel) (by decide +kernel)
theorem c292386187 : FT.Cyc 292386187 := FT.irr_of 292386187 2 [2, 3, 3, 3, 3, 307, 5879] 29 (by decide) (by decide +kernel) (fun q hq => by
 simp only [List.mem_cons, List.not_mem_nil, or_false] at hq
 rcases hq with rfl | rfl | rfl | rfl | rfl | rfl | rfl
 ·exact FT.i2
 ·exact FT.i3
 ·exact FT.i3
 ·exact FT.i3
 ·exact FT.i3
 ·exact i307
 ·exact i5879
 ) (by decide +kernel) (by decide +kernel) (by decide +kernel)
theorem c213441916511 : FT.Cyc 213441916511 := FT.irr_of 213441916511 13 [2, 5, 73, 292386187] 38 (by decide) (by decide +kernel) (fun q hq => by
 simp only [List.mem_cons, List.not_mem_nil, or_false] at hq
 rcases hq with rfl | rfl | rfl | rfl
 ·exact FT.i2
 ·exact FT.i5
 ·exact i73
 ·exact c292386187.irr
 ) (by decide +kernel) (by decide +kernel) (by decide +kernel)
theorem i1361 : FT.Irr 1361 := FT.irr_small 1361 37 (by decide) (by decide +kernel) (by decide +kernel)
theorem i2851 : FT.Irr 2851 := FT.irr_small 2851 54 (by decide) (by decide +kernel) (by decide +kernel)
theorem i41 : FT.Irr 41 := FT.irr_small 41 7 (by decide) (by decide +kernel) (by decide +kernel)
theorem i43 : FT.Irr 43 := FT.irr_small 43 7 (by decide) (by decide +kernel) (by decide +kernel)
theorem i531581 : FT.Irr 531581 := FT.irr_small 531581 730 (by decide) (by decide +kernel) (by decide +kernel)
theorem i1224481 : FT.Irr 1224481 := FT.irr_small 1224481 1107 (by decide) (by decide +kernel) (by decide +kernel)
theorem c1257559732178653 : FT.Cyc 1257559732178653 := FT.irr_of 1257559732178653 2 [2, 2, 3, 7, 23, 531581, 1224481] 51 (by decide) (by decide +kernel) (fun q hq => by
 simp only [List.mem_cons, List.not_mem_nil, or_false] at hq
 rcases hq with rfl | rfl | rfl | rfl | rfl | rfl | rfl
 ·exact FT.i2
 ·exact FT.i2
 ·exact FT.i3
 ·exact FT.i7
 ·exact i23
 ·exact i531581
 ·exact i1224481
 ) (by decide +kernel) (by decide +kernel) (by decide +kernel)
theorem c4434155615661930479 : FT.Cyc 4434155615661930479 := FT.irr_of 4434155615661930479 17 [2, 41, 43, 1257559732178653] 62 (by decide) (by decide +kernel) (fun q hq => by
 simp only [List.mem_cons, List.not_mem_nil, or_false] at hq
 rcases hq with rfl | rfl | rfl | rfl
 ·exact FT.i2
 ·exact i41
 ·exact i43
 ·exact c1257559732178653.irr
 ) (by decide +kernel) (by decide +kernel) (by decide +kernel)
theorem c172054593956031949258510691 : FT.Cyc 172054593956031949258510691 := FT.irr_of 172054593956031949258510691 2 [2, 5, 1361, 2851, 4434155615661930479] 88 (by decide) (by decide +kernel) (fun q hq => by
 simp only [List.mem_cons, List.not_mem_nil, or_false] at hq
 rcases hq with rfl | rfl | rfl | rfl | rfl
 ·exact FT.i2
 ·exact FT.i5
 ·exact i1361
 ·exact i2851
 ·exact c4434155615661930479.irr
 ) (by decide +kernel) (by decide +kernel) (by decide +kernel)
theorem c19757330305831588566944191468367130476339 : FT.Cyc 19757330305831588566944191468367130476339 := FT.irr_of 19757330305831588566944191468367130476339 2 [2, 269, 213441916511, 172054593956031949258510691] 134 (by decide) (by decide +kernel) (fun q hq => by
 simp only [List.mem_cons, List.not_mem_nil, or_false] at hq
 rcases hq with rfl | rfl | rfl | rfl
 ·exact FT.i2
 ·exact i269
 ·exact c213441916511.irr
 ·exact c172054593956031949258510691.irr
 ) (by decide +kernel) (by decide +kernel) (by decide +kernel)
theorem c276602624281642239937218680557139826668747 : FT.Cyc 276602624281642239937218680557139826668747 := FT.irr_of 276602624281642239937218680557139826668747 2 [2, 7, 19757330305831588566944191468367130476339] 138 (by decide) (by decide +kernel) (fun q hq => by
 simp only [List.mem_cons, List.not_mem_nil, or_false] at hq
 rcases hq with rfl | rfl | rfl
 ·exact FT.i2
 ·exact FT.i7
 ·exact c19757330305831588566944191468367130476339.irr
 ) (by decide +kernel) (by decide +kernel) (by decide +kernel)
theorem c7237005577332262213973186563042994240857116359379907606001950938285454250989 : FT.Cyc 7237005577332262213973186563042994240857116359379907606001950938285454250989 := FT.irr_of 7237005577332262213973186563042994240857116359379907606001950938285454250989 2 [2, 2, 3, 11, 198211423230930754013084525763697, 276602624281642239937218680557139826668747] 253 (by decide) (by decide +kernel) (fun q hq => by
 simp only [List.mem_cons, List.not_mem_nil, or_false] at hq
 rcases hq with rfl | rfl | rfl | rfl | rfl | rfl
 ·exact FT.i2
 ·exact FT.i2
 ·exact FT.i3
 ·exact i11
 ·exact c198211423230930754013084525763697.irr
 ·exact c276602624281642239937218680557139826668747.irr
 ) (by decide +kernel) (by decide +kernel) (by decide +kernel)
abbrev LN : Nat := 7237005577332262213973186563042994240857116359379907606001950938285454250989
theorem LN_irr : FT.Irr LN := c7237005577332262213973186563042994240857116359379907606001950938285454250989.irr
end EC
namespace EC
section
variable {M : Nat} [NeZero M]
theorem on_of (F : Fl M) (A u r : Fin M) (hr : r*r = (A+2)*(u*(u*u + A*u + 1))) (r0 : r ≠ 0) (a0 : A+2 ≠ 0) (u1 : u+1 ≠ 0) :
  On ((A-2)*iv (A+2)) (u*(A+2)*iv r, (u-1)*iv (u+1)) ∧ u*(1 - (u-1)*iv (u+1)) = 1 + (u-1)*iv (u+1) := by
 have u0 : u ≠ 0 := fun h => r0 (by
  have : r*r = 0 := by rw [hr, h]; grind
  exact (mul_zero_or F this).elim id id)
 have i1 := F.inv _ a0
 have i2 := F.inv _ u1
 have i3 := F.inv _ r0
 refine ⟨?_, ?_⟩
 ·show u*(A+2)*iv r*(u*(A+2)*iv r) + (u-1)*iv (u+1)*((u-1)*iv (u+1)) = 1 + (A-2)*iv (A+2)*(u*(A+2)*iv r)*(u*(A+2)*iv r)*((u-1)*iv (u+1))*((u-1)*iv (u+1))
  generalize iv (A+2) = c at *
  generalize iv (u+1) = i at *
  generalize iv r = j at *
  have x2 : (u*(A+2)*j)*(u*(A+2)*j)*(u*u + A*u + 1) = u*(A+2) := by
   refine cancel F (mul_ne F a0 u0) ?_
   have : (u*(A+2)*j)*(u*(A+2)*j)*(u*u + A*u + 1)*((A+2)*u) = (u*(A+2))*(u*(A+2))*((r*r)*(j*j)) := by rw [hr]; clear i1 i2 i3 hr; grind
   rw [this, show r*r*(j*j) = (r*j)*(r*j) by clear i1 i2 i3 hr this; grind, i3]
   clear i1 i2 i3 hr this; grind
  generalize u*(A+2)*j = X at *
  clear hr i3
  refine cancel F (mul_ne F a0 (mul_ne F u1 u1)) ?_
  have s1 : (X*X + (u-1)*i*((u-1)*i))*((A+2)*((u+1)*(u+1))) = (A+2)*(X*X*((u+1)*(u+1)) + (u-1)*(u-1)*(((u+1)*i)*((u+1)*i))) := by clear i1 i2 x2; grind
  have s2 : (1 + (A-2)*c*X*X*((u-1)*i)*((u-1)*i))*((A+2)*((u+1)*(u+1))) = (A+2)*((u+1)*(u+1)) + (A-2)*((A+2)*c)*X*X*((u-1)*(u-1))*(((u+1)*i)*((u+1)*i)) := by clear i1 i2 x2; grind
  rw [s1, s2, i1, i2]
  clear s1 s2 i1 i2
  grind
 ·generalize iv (u+1) = i at *
  clear i1 i3 hr
  grind
end
abbrev PN : Nat := 57896044618658097711785492504343953926634992332820282019728792003956564819949
theorem PN_cyc : FT.Cyc PN := FT.c57896044618658097711785492504343953926634992332820282019728792003956564819949
theorem PN_fl : Fl PN := by
 refine ⟨fun a ha => Fin.ext ?_, by decide⟩
 show a.val * (a.val ^ (PN - 2) % PN) % PN = 1
 have h1 : a.val % PN ≠ 0 := fun h => ha (Fin.ext (by rw [Nat.mod_eq_of_lt a.isLt] at h; exact h))
 have h2 := PN_cyc.pow a.val h1
 obtain ⟨e, he⟩ : ∃ e, PN - 2 = e := ⟨_, rfl⟩
 have he1 : PN - 1 = e + 1 := by omega
 rw [he1] at h2
 rw [he]
 generalize a.val = x at *
 clear he he1
 rw [Nat.pow_succ] at h2
 rw [Nat.mul_mod_mod, Nat.mul_comm]
 exact h2
def E2 : Nat := 28948022309329048855892746252171976963317496166410141009864396001978282409974
def E4 : Nat := 14474011154664524427946373126085988481658748083205070504932198000989141204987
def E8 : Nat := 7237005577332262213973186563042994240829374041602535252466099000494570602494
theorem e_1 : PN - 1 = E2 + E2 := by decide
theorem e_2 : E2 = E4 + E4 := by decide
theorem e_4 : E8 + E8 = E4 + 1 := by decide
theorem pm1 (x : Nat) (h : x * x % PN = 1) : x % PN = 1 ∨ x % PN = PN - 1 := by
 have hb := Nat.mod_lt x (show PN > 0 by decide)
 rw [Nat.mul_mod] at h
 generalize x % PN = c at *
 have hc : 0 < c := Nat.pos_of_ne_zero (fun q => by subst q; revert h; decide)
 have h1 : ((c - 1) * (c + 1)) % PN = 0 := by
  have e : (c - 1) * (c + 1) = c * c - 1 := by
   obtain ⟨d, rfl⟩ : ∃ d, c = d + 1 := ⟨c - 1, by omega⟩
   rw [Nat.add_sub_cancel, Nat.mul_succ (d + 1) d, Nat.mul_comm (d + 1) d, Nat.mul_succ d (d + 1)]; omega
  rw [e]
  have := Nat.div_add_mod (c * c) PN
  rw [h] at this
  rw [← this, Nat.add_sub_cancel, Nat.mul_mod_right]
 rcases PN_cyc.euclid _ _ h1 with q | q
 ·left; rw [Nat.mod_eq_of_lt (by omega)] at q; omega
 ·right
  by_cases h2 : c + 1 < PN
  ·rw [Nat.mod_eq_of_lt h2] at q; omega
  ·omega
theorem minus_one (z : Nat) : ((PN - 1) * z * (PN - 1)) % PN = z % PN := by
 rw [Nat.mul_comm (PN - 1) z, Nat.mul_assoc, Nat.mul_mod, show (PN - 1) * (PN - 1) % PN = 1 by decide +kernel, Nat.mul_one, Nat.mod_mod]
theorem sq_of (z : Nat) (h : z ^ E2 % PN = 1) : ∃ r, r * r % PN = z % PN := by
 have h4 : (z ^ E4 * z ^ E4) % PN = 1 := by
  rw [← Nat.pow_add, ← e_2]; exact h
 have h8 : z ^ E8 * z ^ E8 = z ^ E4 * z := by rw [← Nat.pow_add, e_4, Nat.pow_succ]
 generalize z ^ E8 = r at *
 generalize z ^ E4 = t at *
 clear h
 rcases pm1 t h4 with q | q
 ·exact ⟨r, by rw [h8, Nat.mul_mod, q, Nat.one_mul, Nat.mod_mod]⟩
 ·refine ⟨r * 19681161376707505956807079304988542015446066515923890162744021073123829784752, ?_⟩
  rw [Nat.mul_mul_mul_comm, h8, Nat.mul_mod, show 19681161376707505956807079304988542015446066515923890162744021073123829784752 * 19681161376707505956807079304988542015446066515923890162744021073123829784752 % PN = PN - 1 by decide +kernel, Nat.mul_mod t z, q, Nat.mod_mul_mod, minus_one, Nat.mod_mod]
theorem chi_N : 236839902240 ^ E2 % PN = PN - 1 := by
 rw [← FT.pm_eq PN 255 236839902240 E2 (by decide +kernel)]
 decide +kernel
theorem chi (z : Nat) (hz : z % PN ≠ 0) : z ^ E2 % PN = 1 ∨ z ^ E2 % PN = PN - 1 := by
 have h := PN_cyc.pow z hz
 rw [e_1, Nat.pow_add] at h
 exact pm1 _ h
theorem no_sq (s : Nat) : s * s % PN ≠ 236839902240 := by
 intro h
 have s0 : s % PN ≠ 0 := fun q => by
  rw [Nat.mul_mod, q] at h; revert h; decide
 have h1 := PN_cyc.pow s s0
 rw [e_1, Nat.pow_add, ← Nat.mul_pow, Nat.pow_mod, h, chi_N] at h1
 revert h1; decide
theorem sq_or_nat (z : Nat) (hz : z % PN ≠ 0) : (∃ r, r * r % PN = z % PN) ∨ ∃ r, r * r % PN = z * 236839902240 % PN := by
 rcases chi z hz with h | h
 ·exact .inl (sq_of z h)
 ·refine .inr (sq_of _ ?_)
  rw [Nat.mul_pow, Nat.mul_mod, h, chi_N]; decide +kernel
theorem no_sqF (s : Fin PN) : s * s ≠ 236839902240 := fun h => no_sq s.val (congrArg Fin.val h)
theorem sq_or (z : Fin PN) (hz : z ≠ 0) : (∃ r, r * r = z) ∨ ∃ r, r * r = z * 236839902240 := by
 have lift : ∀ (r : Nat) (a : Fin PN), r * r % PN = a.val → ∃ r : Fin PN, r * r = a := fun r a h =>
  ⟨⟨r % PN, Nat.mod_lt _ (by decide)⟩, Fin.ext (by show (r % PN) * (r % PN) % PN = a.val; rw [← Nat.mul_mod]; exact h)⟩
 have hb := Nat.mod_eq_of_lt z.isLt
 rcases sq_or_nat z.val (fun h => hz (Fin.ext (by rw [hb] at h; exact h))) with ⟨r, hr⟩ | ⟨r, hr⟩
 ·exact .inl (lift r z (by rw [hr, hb]))
 ·exact .inr (lift r (z * 236839902240) hr)
theorem two_ne : (2 : Fin PN) ≠ 0 := by decide
theorem cv_one : Cv (((486662 : Fin PN) - 2) * iv ((486662 : Fin PN) + 2)) 486662 1 := by
 have a0 : (486662 : Fin PN) + 2 ≠ 0 := by decide
 have i1 := PN_fl.inv _ a0
 refine ⟨⟨PN_fl, fun s hs => ?_, two_ne⟩, by decide, ?_, by decide⟩
 ·refine no_sqF (s * ((486662 : Fin PN) + 2)) ?_
  have : s * ((486662 : Fin PN) + 2) * (s * ((486662 : Fin PN) + 2)) = s * s * (((486662 : Fin PN) + 2) * ((486662 : Fin PN) + 2)) := by generalize (486662 : Fin PN) + 2 = a; grind
  rw [this, hs]
  have e : ((486662 : Fin PN) - 2) * iv ((486662 : Fin PN) + 2) * (((486662 : Fin PN) + 2) * ((486662 : Fin PN) + 2)) = ((486662 : Fin PN) - 2) * ((486662 : Fin PN) + 2) := by
   generalize (486662 : Fin PN) + 2 = a at *
   generalize (486662 : Fin PN) - 2 = b at *
   generalize iv a = c at *
   clear this hs a0
   grind
  rw [e]; decide
 ·rw [show (1 : Fin PN) * 486662 = 486662 by decide]
  generalize (486662 : Fin PN) + 2 = a at *
  generalize (486662 : Fin PN) - 2 = b at *
  generalize iv a = c at *
  clear a0
  grind
theorem cv_two : Cv ((-(486662 : Fin PN) - 2) * iv (-(486662 : Fin PN) + 2)) 486662 (-1) := by
 have a0 : -(486662 : Fin PN) + 2 ≠ 0 := by decide
 have i1 := PN_fl.inv _ a0
 refine ⟨⟨PN_fl, fun s hs => ?_, two_ne⟩, by decide, ?_, by decide⟩
 ·refine no_sqF (s * (-(486662 : Fin PN) + 2)) ?_
  have : s * (-(486662 : Fin PN) + 2) * (s * (-(486662 : Fin PN) + 2)) = s * s * ((-(486662 : Fin PN) + 2) * (-(486662 : Fin PN) + 2)) := by generalize -(486662 : Fin PN) + 2 = a; grind
  rw [this, hs]
  have e : (-(486662 : Fin PN) - 2) * iv (-(486662 : Fin PN) + 2) * ((-(486662 : Fin PN) + 2) * (-(486662 : Fin PN) + 2)) = (-(486662 : Fin PN) - 2) * (-(486662 : Fin PN) + 2) := by
   generalize -(486662 : Fin PN) + 2 = a at *
   generalize -(486662 : Fin PN) - 2 = b at *
   generalize iv a = c at *
   clear this hs a0
   grind
  rw [e]; decide
 ·rw [show (-1 : Fin PN) * 486662 = -486662 by decide]
  generalize -(486662 : Fin PN) + 2 = a at *
  generalize -(486662 : Fin PN) - 2 = b at *
  generalize iv a = c at *
  clear a0
  grind
theorem has (u : Fin PN) (u0 : u ≠ 0) : Has 486662 u := by
 have F := PN_fl
 have g0 : u*u + 486662*u + 1 ≠ 0 := fun h => no_sqF (2*u + 486662) (by
  have e : (2*u + 486662)*(2*u + 486662) = 4*(u*u + 486662*u + 1) + (486662*486662 - 4) := by
   generalize (486662 : Fin PN) = A
   clear h; grind
  rw [e, h]; decide)
 have f0 := mul_ne F u0 g0
 have a0 : (486662 : Fin PN) + 2 ≠ 0 := by decide
 have b0 : -(486662 : Fin PN) + 2 ≠ 0 := by decide
 rcases sq_or _ (mul_ne F a0 f0) with ⟨r, hr⟩ | ⟨r, hr⟩
 ·have r0 : r ≠ 0 := fun h => mul_ne F a0 f0 (by rw [← hr, h]; decide)
  have u1 : u + 1 ≠ 0 := fun h => by
   have hu : u = -1 := by clear hr f0 g0; grind
   refine no_sqF r ?_
   rw [hr, hu]; decide
  obtain ⟨h1, h2⟩ := on_of F 486662 u r hr r0 a0 u1
  refine ⟨_, 1, _, cv_one, h1, ?_⟩
  show u*(1 - (u-1)*iv (u+1)) = 1 * (1 + (u-1)*iv (u+1))
  rw [h2]; generalize (u-1)*iv (u+1) = t; clear h1 h2 hr; grind
 ·-- the other curve
  have i1 := F.inv _ a0
  have hr2 : (r * iv ((486662 : Fin PN) + 2)) * (r * iv ((486662 : Fin PN) + 2)) = ((486662 : Fin PN) - 2) * (u*(u*u + 486662*u + 1)) := by
   have e : (r * iv ((486662 : Fin PN) + 2)) * (r * iv ((486662 : Fin PN) + 2)) = (r*r) * (iv ((486662 : Fin PN) + 2) * iv ((486662 : Fin PN) + 2)) := by generalize iv ((486662 : Fin PN) + 2) = c; clear hr i1; grind
   rw [e, hr, show (236839902240 : Fin PN) = ((486662 : Fin PN) + 2) * ((486662 : Fin PN) - 2) by decide]
   generalize (486662 : Fin PN) + 2 = a at *
   generalize (486662 : Fin PN) - 2 = b at *
   generalize iv a = c at *
   generalize u*(u*u + 486662*u + 1) = f at *
   clear e hr f0 g0 a0 b0
   grind
  have hr3 : (r * iv ((486662 : Fin PN) + 2)) * (r * iv ((486662 : Fin PN) + 2)) = (-(486662 : Fin PN) + 2) * ((-u)*((-u)*(-u) + (-486662)*(-u) + 1)) := by
   rw [hr2]
   generalize (486662 : Fin PN) = A
   clear hr hr2; grind
  generalize r * iv ((486662 : Fin PN) + 2) = s at *
  have s0 : s ≠ 0 := fun h => mul_ne F (show (486662 : Fin PN) - 2 ≠ 0 by decide) f0 (by rw [← hr2, h]; decide)
  have u1 : -u + 1 ≠ 0 := fun h => by
   have hu : u = 1 := by clear hr hr2 hr3 f0 g0; grind
   refine no_sqF s ?_
   rw [hr2, hu]; decide
  obtain ⟨h1, h2⟩ := on_of F (-486662) (-u) s hr3 s0 b0 u1
  refine ⟨_, -1, _, cv_two, h1, ?_⟩
  show u*(1 - (-u-1)*iv (-u+1)) = -1 * (1 + (-u-1)*iv (-u+1))
  rw [← h2]; generalize (-u-1)*iv (-u+1) = t; clear h1 h2 hr hr2 hr3; grind
theorem big : 2 < PN := by decide
theorem cur : (486662 : Fin PN) = 4 * 121665 + 2 := by decide
theorem meetF (u : Fin PN) (a b : Nat) (ha : a < 2 ^ 255) (hb : b < 2 ^ 255) : mulU 121665 (mulU 121665 u b 255) a 255 = mulU 121665 (mulU 121665 u a 255) b 255 :=
 meet big PN_fl cur has u a b 255 ha hb
end EC
namespace EC
theorem base_order : (lad (121665 : Fin PN) 9 LN 253 253).2.1 = 0 := by decide +kernel
structure Cl (n : Nat) : Prop where
 lt : n < 2 ^ 255
 ge : 2 ^ 254 ≤ n
 by8 : n % 8 = 0
theorem Cl.coprime {n : Nat} (h : Cl n) : Nat.gcd n LN = 1 := by
 obtain ⟨k, hk⟩ := Nat.dvd_of_mod_eq_zero h.by8
 have h1 := h.lt
 have h2 := h.ge
 have k1 : 0 < k := by omega
 have k2 : k < LN := by
  have : (2 : Nat) ^ 255 = 8 * 2 ^ 252 := by decide
  have : (2 : Nat) ^ 252 < LN := by decide
  omega
 rcases LN_irr.2 _ (Nat.gcd_dvd_right n LN) with q | q
 ·exact q
 ·exfalso
  have h3 : LN ∣ 8 * k := by rw [← hk]; exact q ▸ Nat.gcd_dvd_left n LN
  have h4 : LN ∣ k := Nat.Coprime.dvd_of_dvd_mul_left (by decide +kernel : Nat.Coprime LN 8) h3
  have := Nat.le_of_dvd k1 h4
  omega
theorem nine : (9 : Fin PN) ≠ 0 := by decide
theorem order_of {D e : Fin PN} {P : Fin PN × Fin PN} (c : Cv D 486662 e) (hP : On D P) (hu : 9*(1 - P.2) = e*(1 + P.2)) : mulN D P LN = O := by
 have h := (at_lad c cur hP hu nine LN 253 (by decide +kernel) 253 (Nat.le_refl _)).1
 rw [Nat.sub_self, Nat.pow_zero, Nat.div_one, base_order] at h
 exact rep_O big c (mulN_on c.ns hP _) h
theorem cop2 {n : Nat} (h : Nat.gcd n LN = 1) : Nat.gcd (2 * n) LN = 1 := Nat.Coprime.mul_left (by decide +kernel : Nat.Coprime 2 LN) h
theorem secretF (m n : Nat) (hm : Cl m) (h : Cl n) : mulU 121665 (mulU 121665 (9 : Fin PN) n 255) m 255 ≠ 0 := by
 obtain ⟨D, e, P, c, hP, hu⟩ := has 9 nine
 rw [mulU_two big c cur hP hu nine m n 255 hm.lt h.lt]
 exact strong c hP hu LN (m * n) (order_of c hP hu) (cop2 (Nat.Coprime.mul_left hm.coprime h.coprime))
end EC
def clampL (ks : List Int) : List Int := (ks.set 0 (ks.getD 0 0 - ks.getD 0 0 % 8)).set 31 (ks.getD 31 0 % 64 + 64)
theorem clampL_length (ks : List Int) : (clampL ks).length = ks.length := by simp [clampL]
theorem zeroKey : (Tryz.prog.info? 23).map (fun i => (i.zero, i.size)) = some (some (.agg (u8s (List.replicate 32 0)).toArray), 32) := by kernel_rfl
theorem ksizeKey : (Tryz.prog.info? 23).map (·.size) = some 32 := by kernel_rfl
theorem low_code : ∀ n : Fin 256, bits .and .u8 (n.val : Int) 248 = (n.val : Int) - (n.val : Int) % 8 := by decide +kernel
theorem top_code8 : ∀ n : Fin 256, bits .or .u8 (bits .and .u8 (n.val : Int) 127) 64 = (n.val : Int) % 64 + 64 := by decide +kernel
theorem low8 (z : Int) (h : 0 ≤ z ∧ z < 256) : bits .and .u8 z 248 = z - z % 8 := by
 have := low_code ⟨z.toNat, by omega⟩
 rwa [show ((⟨z.toNat, by omega⟩ : Fin 256).val : Int) = z from Int.toNat_of_nonneg h.1] at this
theorem top8 (z : Int) (h : 0 ≤ z ∧ z < 256) : bits .or .u8 (bits .and .u8 z 127) 64 = z % 64 + 64 := by
 have := top_code8 ⟨z.toNat, by omega⟩
 rwa [show ((⟨z.toNat, by omega⟩ : Fin 256).val : Int) = z from Int.toNat_of_nonneg h.1] at this
theorem clamp_any (ks : List Int) (hl : ks.length = 32) (hb : Bytes ks) (w : World) :
  Calls Tryz.prog 77 #[.agg (u8s ks).toArray] w fun e w' => e = .returned (.agg (u8s (clampL ks)).toArray) ∧ Below w.heap.size w w' := by
 obtain ⟨a, ha⟩ : ∃ z, ks.getD 0 0 = z := ⟨_, rfl⟩
 obtain ⟨b, hb'⟩ : ∃ z, ks.getD 31 0 = z := ⟨_, rfl⟩
 have ba := hb.at 0 (by omega)
 have bb := hb.at 31 (by omega)
 rw [ha] at ba
 rw [hb'] at bb
 have c0 := low8 a ba
 have c1 := top8 b bb
 have HA : Hid (ks.getD 0 0 = a ∧ ks.getD 31 0 = b ∧ ks.length = 32 ∧ (u8s ks).length = 32) := ⟨ha, hb', hl, by rw [u8s_length, hl]⟩
 clear ha hb' hl hb
 go_enter Tryz.func77, Tryz.ntmps77
 go_wp2_with (first | ((with_reducible show wpList _ _ _ ({ dst := some 4, op := _, type := _, pos := _, after := _, guard := _ } :: _) _ _); refine Hid.out ?_) | (refine wpList_box_new rfl 23 (.tmp 0) rfl (u8s ks) rfl ?_; intro x1 z1 s1 l1) | (refine wpList_alloc_new rfl 23 rfl 32 _ zeroKey ?_; intro x2 z2 s2 l2))
 have e2 : x1.heap.size = w.heap.size + 1 := s1
 rw [e2] at z2
 have WW : Hid (Below w.heap.size w x2 ∧ Blk x2 w.heap.size 23 (u8s ks) ∧ Blk x2 (w.heap.size + 1) 23 (u8s (List.replicate 32 0))) := ⟨below_chain l1 l2 (by omega), z1.later l2 (by omega), z2⟩
 have q0 : x2.cell? ⟨w.heap.size, 0, none⟩ = some (.int .u8 a) := by rw [u8s_cell WW.out.2.1 0 (by rw [HA.out.2.2.1]; decide), HA.out.1]
 have q1 : x2.cell? ⟨w.heap.size, 31, none⟩ = some (.int .u8 b) := by rw [u8s_cell WW.out.2.1 31 (by rw [HA.out.2.2.1]; decide), HA.out.2.1]
 have f0 := WW.out.2.1.frozen 0
 have f1 := WW.out.2.1.frozen 31
 clear z1 s1 l1 z2 s2 l2
 change wpList _ _ _ _ _ _
 go_wp2_with (first | ((with_reducible show wpList _ _ _ ({ dst := some 15, op := _, type := _, pos := _, after := _, guard := _ } :: _) _ _); refine Hid.out ?_))
 change wpList _ _ _ _ _ _
 have R : Hid (Blk ((x2.setCell ⟨w.heap.size, 0, none⟩ (.int .u8 (a - a % 8))).setCell ⟨w.heap.size, 31, none⟩ (.int .u8 (b % 64 + 64))) w.heap.size 23 (u8s (clampL ks)) ∧ Blk ((x2.setCell ⟨w.heap.size, 0, none⟩ (.int .u8 (a - a % 8))).setCell ⟨w.heap.size, 31, none⟩ (.int .u8 (b % 64 + 64))) (w.heap.size + 1) 23 (u8s (List.replicate 32 0)) ∧ Below w.heap.size w ((x2.setCell ⟨w.heap.size, 0, none⟩ (.int .u8 (a - a % 8))).setCell ⟨w.heap.size, 31, none⟩ (.int .u8 (b % 64 + 64))) ∧ (u8s (clampL ks)).length = 32) := by
  refine ⟨?_, (WW.out.2.2.other (by simp) _).other (by simp) _, below_kept (S := fun k => k = w.heap.size) WW.out.1 (((Kept.refl (fun k => k = w.heap.size) x2).setCell (p := ⟨w.heap.size, 0, none⟩) rfl _).setCell (p := ⟨w.heap.size, 31, none⟩) rfl _) WW.out.1.size (fun j hj => by omega), by rw [u8s_length, clampL_length, HA.out.2.2.1]⟩
  have h := (WW.out.2.1.set 0 (.int .u8 (a - a % 8))).set 31 (.int .u8 (b % 64 + 64))
  rw [u8s_set, u8s_set] at h
  unfold clampL
  rw [HA.out.1, HA.out.2.1]
  exact h
 clear WW q0 q1 f0 f1
 obtain ⟨x3, hx3⟩ : ∃ z, z = (x2.setCell ⟨w.heap.size, 0, none⟩ (.int .u8 (a - a % 8))).setCell ⟨w.heap.size, 31, none⟩ (.int .u8 (b % 64 + 64)) := ⟨_, rfl⟩
 rw [← hx3] at R ⊢
 clear hx3
 go_wp2_with (first | (refine wpList_load_blk rfl 23 (.tmp 1) rfl w.heap.size rfl (u8s (clampL ks)) _ R.out.1 Tryz.underlying23 rfl (by rw [R.out.2.2.2]; exact ksizeKey) ?_) | (refine wpList_store_blk rfl 23 23 _ _ rfl _ rfl _ (u8s (clampL ks)) rfl R.out.2.1 (by rw [R.out.2.2.2]; rfl) (by rw [R.out.2.2.2]; exact ksizeKey) (u8s_one _) ?_; intro y7 b7 s7 k7))
 exact ret_blk rfl (w.heap.size + 1) (u8s (clampL ks)) _ rfl b7 Tryz.underlying23 rfl (by rw [R.out.2.2.2]; exact ksizeKey) rfl ⟨rfl, below_kept R.out.2.2.1 k7 R.out.2.2.1.size (fun j hj => by omega)⟩
end Go.Proofs.YthlbjkfjkggdoaaGreatDoor
