/- Joined by program: what the theorem reaches. -/
import Derived.Test.YthlbjkfjkggdoaaGreatDoorJA
import Derived.Test.YthlbjkfjkggdoaaGreatDoorJC
namespace Go.Proofs.YthlbjkfjkggdoaaGreatDoor
open Go.RowKit
set_option linter.unusedVariables false
set_option linter.unusedSimpArgs false
set_option maxRecDepth 20000
set_option maxHeartbeats 4000000
theorem mm2 (k m kn x y : Int) (h : k * m = kn) : (k * x) * (m * y) = kn * (x * y) := by rw [Int.mul_assoc, Int.mul_left_comm x m y, ← Int.mul_assoc, h]
theorem mm19 (x y : Int) : x * (y * 19) = 19 * (x * y) := by rw [← Int.mul_assoc, Int.mul_comm]
theorem mb2 {x y X Y : Int} (hx : 0 ≤ x ∧ x < X) (hy : 0 ≤ y ∧ y < Y) : 0 ≤ x * y ∧ x * y < X * Y :=
 ⟨Int.mul_nonneg hx.1 hy.1, Int.lt_of_le_of_lt (Int.mul_le_mul_of_nonneg_left (Int.le_of_lt hy.2) hx.1) (Int.mul_lt_mul_of_pos_right hx.2 (by omega))⟩
theorem mbN {x y X Y Z : Int} (h : X * Y = Z) (hx : 0 ≤ x ∧ x < X) (hy : 0 ≤ y ∧ y < Y) : 0 ≤ x * y ∧ x * y < Z := by
 rw [← h]; exact mb2 hx hy
theorem lim2 {x y : Int} (hx : Lim x) (hy : Lim y) : 0 ≤ x * y ∧ x * y < 5070602400986704582281919463424 := by
 have := mb2 hx hy
 exact ⟨this.1, by have h := this.2; rw [show (2251799813701632 : Int) * 2251799813701632 = 5070602400986704582281919463424 by decide] at h; exact h⟩
theorem v5_mul (a0 a1 a2 a3 a4 b0 b1 b2 b3 b4 : Int) : v5 a0 a1 a2 a3 a4 * v5 b0 b1 b2 b3 b4 = a0 * b0 + 2251799813685248 * (a0 * b1) + 5070602400912917605986812821504 * (a0 * b2) + 11417981541647679048466287755595961091061972992 * (a0 * b3) + 25711008708143844408671393477458601640355247900524685364822016 * (a0 * b4) + 2251799813685248 * (a1 * b0) + 5070602400912917605986812821504 * (a1 * b1) + 11417981541647679048466287755595961091061972992 * (a1 * b2) + 25711008708143844408671393477458601640355247900524685364822016 * (a1 * b3) + 57896044618658097711785492504343953926634992332820282019728792003956564819968 * (a1 * b4) + 5070602400912917605986812821504 * (a2 * b0) + 11417981541647679048466287755595961091061972992 * (a2 * b1) + 25711008708143844408671393477458601640355247900524685364822016 * (a2 * b2) + 57896044618658097711785492504343953926634992332820282019728792003956564819968 * (a2 * b3) + 130370302485407109521180524058200202307293977194619920040712988758680403184853549195737432064 * (a2 * b4) + 11417981541647679048466287755595961091061972992 * (a3 * b0) + 25711008708143844408671393477458601640355247900524685364822016 * (a3 * b1) + 57896044618658097711785492504343953926634992332820282019728792003956564819968 * (a3 * b2) + 130370302485407109521180524058200202307293977194619920040712988758680403184853549195737432064 * (a3 * b3) + 293567822846729153486185074598667128421960318613539983838411371441526128139326055432962374798096087878991872 * (a3 * b4) + 25711008708143844408671393477458601640355247900524685364822016 * (a4 * b0) + 57896044618658097711785492504343953926634992332820282019728792003956564819968 * (a4 * b1) + 130370302485407109521180524058200202307293977194619920040712988758680403184853549195737432064 * (a4 * b2) + 293567822846729153486185074598667128421960318613539983838411371441526128139326055432962374798096087878991872 * (a4 * b3) + 661055968790248598951915308032771039828404682964281219284648795274405791236311345825189210439715284847591212025023358304256 * (a4 * b4) := by
 have e01 : a0 * (2251799813685248 * b1) = 2251799813685248 * (a0 * b1) := Int.mul_left_comm ..
 have e02 : a0 * (5070602400912917605986812821504 * b2) = 5070602400912917605986812821504 * (a0 * b2) := Int.mul_left_comm ..
 have e03 : a0 * (11417981541647679048466287755595961091061972992 * b3) = 11417981541647679048466287755595961091061972992 * (a0 * b3) := Int.mul_left_comm ..
 have e04 : a0 * (25711008708143844408671393477458601640355247900524685364822016 * b4) = 25711008708143844408671393477458601640355247900524685364822016 * (a0 * b4) := Int.mul_left_comm ..
 have e10 : 2251799813685248 * a1 * b0 = 2251799813685248 * (a1 * b0) := Int.mul_assoc ..
 have e11 : 2251799813685248 * a1 * (2251799813685248 * b1) = 5070602400912917605986812821504 * (a1 * b1) := mm2 _ _ _ _ _ (by decide)
 have e12 : 2251799813685248 * a1 * (5070602400912917605986812821504 * b2) = 11417981541647679048466287755595961091061972992 * (a1 * b2) := mm2 _ _ _ _ _ (by decide)
 have e13 : 2251799813685248 * a1 * (11417981541647679048466287755595961091061972992 * b3) = 25711008708143844408671393477458601640355247900524685364822016 * (a1 * b3) := mm2 _ _ _ _ _ (by decide)
 have e14 : 2251799813685248 * a1 * (25711008708143844408671393477458601640355247900524685364822016 * b4) = 57896044618658097711785492504343953926634992332820282019728792003956564819968 * (a1 * b4) := mm2 _ _ _ _ _ (by decide)
 have e20 : 5070602400912917605986812821504 * a2 * b0 = 5070602400912917605986812821504 * (a2 * b0) := Int.mul_assoc ..
 have e21 : 5070602400912917605986812821504 * a2 * (2251799813685248 * b1) = 11417981541647679048466287755595961091061972992 * (a2 * b1) := mm2 _ _ _ _ _ (by decide)
 have e22 : 5070602400912917605986812821504 * a2 * (5070602400912917605986812821504 * b2) = 25711008708143844408671393477458601640355247900524685364822016 * (a2 * b2) := mm2 _ _ _ _ _ (by decide)
 have e23 : 5070602400912917605986812821504 * a2 * (11417981541647679048466287755595961091061972992 * b3) = 57896044618658097711785492504343953926634992332820282019728792003956564819968 * (a2 * b3) := mm2 _ _ _ _ _ (by decide)
 have e24 : 5070602400912917605986812821504 * a2 * (25711008708143844408671393477458601640355247900524685364822016 * b4) = 130370302485407109521180524058200202307293977194619920040712988758680403184853549195737432064 * (a2 * b4) := mm2 _ _ _ _ _ (by decide)
 have e30 : 11417981541647679048466287755595961091061972992 * a3 * b0 = 11417981541647679048466287755595961091061972992 * (a3 * b0) := Int.mul_assoc ..
 have e31 : 11417981541647679048466287755595961091061972992 * a3 * (2251799813685248 * b1) = 25711008708143844408671393477458601640355247900524685364822016 * (a3 * b1) := mm2 _ _ _ _ _ (by decide)
 have e32 : 11417981541647679048466287755595961091061972992 * a3 * (5070602400912917605986812821504 * b2) = 57896044618658097711785492504343953926634992332820282019728792003956564819968 * (a3 * b2) := mm2 _ _ _ _ _ (by decide)
 have e33 : 11417981541647679048466287755595961091061972992 * a3 * (11417981541647679048466287755595961091061972992 * b3) = 130370302485407109521180524058200202307293977194619920040712988758680403184853549195737432064 * (a3 * b3) := mm2 _ _ _ _ _ (by decide)
 have e34 : 11417981541647679048466287755595961091061972992 * a3 * (25711008708143844408671393477458601640355247900524685364822016 * b4) = 293567822846729153486185074598667128421960318613539983838411371441526128139326055432962374798096087878991872 * (a3 * b4) := mm2 _ _ _ _ _ (by decide)
 have e40 : 25711008708143844408671393477458601640355247900524685364822016 * a4 * b0 = 25711008708143844408671393477458601640355247900524685364822016 * (a4 * b0) := Int.mul_assoc ..
 have e41 : 25711008708143844408671393477458601640355247900524685364822016 * a4 * (2251799813685248 * b1) = 57896044618658097711785492504343953926634992332820282019728792003956564819968 * (a4 * b1) := mm2 _ _ _ _ _ (by decide)
 have e42 : 25711008708143844408671393477458601640355247900524685364822016 * a4 * (5070602400912917605986812821504 * b2) = 130370302485407109521180524058200202307293977194619920040712988758680403184853549195737432064 * (a4 * b2) := mm2 _ _ _ _ _ (by decide)
 have e43 : 25711008708143844408671393477458601640355247900524685364822016 * a4 * (11417981541647679048466287755595961091061972992 * b3) = 293567822846729153486185074598667128421960318613539983838411371441526128139326055432962374798096087878991872 * (a4 * b3) := mm2 _ _ _ _ _ (by decide)
 have e44 : 25711008708143844408671393477458601640355247900524685364822016 * a4 * (25711008708143844408671393477458601640355247900524685364822016 * b4) = 661055968790248598951915308032771039828404682964281219284648795274405791236311345825189210439715284847591212025023358304256 * (a4 * b4) := mm2 _ _ _ _ _ (by decide)
 unfold v5
 simp only [Int.add_mul, Int.mul_add, e01, e02, e03, e04, e10, e11, e12, e13, e14, e20, e21, e22, e23, e24, e30, e31, e32, e33, e34, e40, e41, e42, e43, e44]
 omega
theorem mul_rows (a0 a1 a2 a3 a4 b0 b1 b2 b3 b4 : Int) (ha0 : Lim a0) (ha1 : Lim a1) (ha2 : Lim a2) (ha3 : Lim a3) (ha4 : Lim a4) (hb0 : Lim b0) (hb1 : Lim b1) (hb2 : Lim b2) (hb3 : Lim b3) (hb4 : Lim b4) :
  (0 ≤ a0 * b0 + a1 * (b4 * 19) + a2 * (b3 * 19) + a3 * (b2 * 19) + a4 * (b1 * 19) ∧ a0 * b0 + a1 * (b4 * 19) + a2 * (b3 * 19) + a3 * (b2 * 19) + a4 * (b1 * 19) < 649037107316853453566312041152512) ∧ (0 ≤ a0 * b1 + a1 * b0 + a2 * (b4 * 19) + a3 * (b3 * 19) + a4 * (b2 * 19) ∧ a0 * b1 + a1 * b0 + a2 * (b4 * 19) + a3 * (b3 * 19) + a4 * (b2 * 19) < 649037107316853453566312041152512) ∧ (0 ≤ a0 * b2 + a1 * b1 + a2 * b0 + a3 * (b4 * 19) + a4 * (b3 * 19) ∧ a0 * b2 + a1 * b1 + a2 * b0 + a3 * (b4 * 19) + a4 * (b3 * 19) < 649037107316853453566312041152512) ∧ (0 ≤ a0 * b3 + a1 * b2 + a2 * b1 + a3 * b0 + a4 * (b4 * 19) ∧ a0 * b3 + a1 * b2 + a2 * b1 + a3 * b0 + a4 * (b4 * 19) < 649037107316853453566312041152512) ∧ (0 ≤ a0 * b4 + a1 * b3 + a2 * b2 + a3 * b1 + a4 * b0 ∧ a0 * b4 + a1 * b3 + a2 * b2 + a3 * b1 + a4 * b0 < 40564819207303340847894502572032) ∧
  v5 (a0 * b0 + a1 * (b4 * 19) + a2 * (b3 * 19) + a3 * (b2 * 19) + a4 * (b1 * 19)) (a0 * b1 + a1 * b0 + a2 * (b4 * 19) + a3 * (b3 * 19) + a4 * (b2 * 19)) (a0 * b2 + a1 * b1 + a2 * b0 + a3 * (b4 * 19) + a4 * (b3 * 19)) (a0 * b3 + a1 * b2 + a2 * b1 + a3 * b0 + a4 * (b4 * 19)) (a0 * b4 + a1 * b3 + a2 * b2 + a3 * b1 + a4 * b0) % PR = (v5 a0 a1 a2 a3 a4 * v5 b0 b1 b2 b3 b4) % PR := by
 have m00 := lim2 ha0 hb0
 have m01 := lim2 ha0 hb1
 have m02 := lim2 ha0 hb2
 have m03 := lim2 ha0 hb3
 have m04 := lim2 ha0 hb4
 have m10 := lim2 ha1 hb0
 have m11 := lim2 ha1 hb1
 have m12 := lim2 ha1 hb2
 have m13 := lim2 ha1 hb3
 have m14 := lim2 ha1 hb4
 have m20 := lim2 ha2 hb0
 have m21 := lim2 ha2 hb1
 have m22 := lim2 ha2 hb2
 have m23 := lim2 ha2 hb3
 have m24 := lim2 ha2 hb4
 have m30 := lim2 ha3 hb0
 have m31 := lim2 ha3 hb1
 have m32 := lim2 ha3 hb2
 have m33 := lim2 ha3 hb3
 have m34 := lim2 ha3 hb4
 have m40 := lim2 ha4 hb0
 have m41 := lim2 ha4 hb1
 have m42 := lim2 ha4 hb2
 have m43 := lim2 ha4 hb3
 have m44 := lim2 ha4 hb4
 simp only [mm19]
 rw [v5_mul]
 generalize a0 * b0 = p00 at *
 generalize a0 * b1 = p01 at *
 generalize a0 * b2 = p02 at *
 generalize a0 * b3 = p03 at *
 generalize a0 * b4 = p04 at *
 generalize a1 * b0 = p10 at *
 generalize a1 * b1 = p11 at *
 generalize a1 * b2 = p12 at *
 generalize a1 * b3 = p13 at *
 generalize a1 * b4 = p14 at *
 generalize a2 * b0 = p20 at *
 generalize a2 * b1 = p21 at *
 generalize a2 * b2 = p22 at *
 generalize a2 * b3 = p23 at *
 generalize a2 * b4 = p24 at *
 generalize a3 * b0 = p30 at *
 generalize a3 * b1 = p31 at *
 generalize a3 * b2 = p32 at *
 generalize a3 * b3 = p33 at *
 generalize a3 * b4 = p34 at *
 generalize a4 * b0 = p40 at *
 generalize a4 * b1 = p41 at *
 generalize a4 * b2 = p42 at *
 generalize a4 * b3 = p43 at *
 generalize a4 * b4 = p44 at *
 clear ha0 ha1 ha2 ha3 ha4 hb0 hb1 hb2 hb3 hb4
 refine ⟨by omega, by omega, by omega, by omega, by omega, ?_⟩
 unfold v5 PR
 omega
theorem sq_rows (a0 a1 a2 a3 a4 : Int) :
  a0 * a0 + (a1 * 2) * (a4 * 19) + (a2 * 2) * (a3 * 19) = a0 * a0 + a1 * (a4 * 19) + a2 * (a3 * 19) + a3 * (a2 * 19) + a4 * (a1 * 19) ∧ (a0 * 2) * a1 + (a2 * 2) * (a4 * 19) + a3 * (a3 * 19) = a0 * a1 + a1 * a0 + a2 * (a4 * 19) + a3 * (a3 * 19) + a4 * (a2 * 19) ∧ (a0 * 2) * a2 + a1 * a1 + (a3 * 2) * (a4 * 19) = a0 * a2 + a1 * a1 + a2 * a0 + a3 * (a4 * 19) + a4 * (a3 * 19) ∧ (a0 * 2) * a3 + (a1 * 2) * a2 + a4 * (a4 * 19) = a0 * a3 + a1 * a2 + a2 * a1 + a3 * a0 + a4 * (a4 * 19) ∧ (a0 * 2) * a4 + (a1 * 2) * a3 + a2 * a2 = a0 * a4 + a1 * a3 + a2 * a2 + a3 * a1 + a4 * a0 := by
 have e01 := Int.mul_comm a1 a0
 have e02 := Int.mul_comm a2 a0
 have e03 := Int.mul_comm a3 a0
 have e04 := Int.mul_comm a4 a0
 have e12 := Int.mul_comm a2 a1
 have e13 := Int.mul_comm a3 a1
 have e14 := Int.mul_comm a4 a1
 have e23 := Int.mul_comm a3 a2
 have e24 := Int.mul_comm a4 a2
 have e34 := Int.mul_comm a4 a3
 have t2 : ∀ x y : Int, x * 2 * y = 2 * (x * y) := fun x y => by rw [Int.mul_comm x 2, Int.mul_assoc]
 simp only [mm19, t2, e01, e02, e03, e04, e12, e13, e14, e23, e24, e34]
 generalize a0 * a0 = p00 at *
 generalize a0 * a1 = p01 at *
 generalize a0 * a2 = p02 at *
 generalize a0 * a3 = p03 at *
 generalize a0 * a4 = p04 at *
 generalize a1 * a1 = p11 at *
 generalize a1 * a2 = p12 at *
 generalize a1 * a3 = p13 at *
 generalize a1 * a4 = p14 at *
 generalize a2 * a2 = p22 at *
 generalize a2 * a3 = p23 at *
 generalize a2 * a4 = p24 at *
 generalize a3 * a3 = p33 at *
 generalize a3 * a4 = p34 at *
 generalize a4 * a4 = p44 at *
 refine ⟨by omega, by omega, by omega, by omega, by omega⟩
theorem zeroWide : (Tryz.prog.info? 206).map (fun i => (i.zero, i.size)) = some (some (.agg (u64s [0, 0]).toArray), 2) := by kernel_rfl
theorem sizeWide : (Tryz.prog.info? 206).map (·.size) = some 2 := by kernel_rfl
theorem fproduct_any (x y : Int) (hx : Word x) (hy : Word y) (w : World) :
  Calls Tryz.prog 168 #[.int .u64 x, .int .u64 y] w fun e w' => e = .returned (.agg (u64s (pr (x * y))).toArray) ∧ Below w.heap.size w w' := by
 obtain ⟨z, hz⟩ : ∃ z, x * y = z := ⟨_, rfl⟩
 have hm := mul64_any x y hx hy
 rw [hz] at hm ⊢
 clear hz
 go_enter Tryz.func168, Tryz.ntmps168
 go_wp2_with (go_at_call 199; refine (hm _).mono ?_; rintro e w' ⟨rfl, rfl⟩)
 simp [bodyPost, results, Tryz.results168, go_sem, pr, u64s]
 exact (Below.refl _ _).alloc (Nat.le_refl _) _
theorem fplus_any (s x y : Int) (hx : Word x) (hy : Word y) (hs : 0 ≤ s) (hb : s + x * y < 340282366920938463463374607431768211456) (w : World) :
  Calls Tryz.prog 169 #[.agg (u64s (pr s)).toArray, .int .u64 x, .int .u64 y] w fun e w' => e = .returned (.agg (u64s (pr (s + x * y))).toArray) ∧ Below w.heap.size w w' := by
 have hz0 : 0 ≤ x * y := Int.mul_nonneg hx.1 hy.1
 have hm := mul64_any x y hx hy
 obtain ⟨z, hz⟩ : ∃ z, x * y = z := ⟨_, rfl⟩
 rw [hz] at hm hb hz0 ⊢
 clear hz
 obtain ⟨s0, hs0⟩ : ∃ r, s % 18446744073709551616 = r := ⟨_, rfl⟩
 obtain ⟨s1, hs1⟩ : ∃ r, s / 18446744073709551616 = r := ⟨_, rfl⟩
 obtain ⟨z0, hz0'⟩ : ∃ r, z % 18446744073709551616 = r := ⟨_, rfl⟩
 obtain ⟨z1, hz1⟩ : ∃ r, z / 18446744073709551616 = r := ⟨_, rfl⟩
 have e0 : (s + z) % 18446744073709551616 = (s0 + z0) % 18446744073709551616 := by omega
 have e1 : (s + z) / 18446744073709551616 = s1 + z1 + (s0 + z0) / 18446744073709551616 := by omega
 have w1 : IntKind.u64.wrap (s1 + z1) = s1 + z1 := by rw [IntKind.wrap_u64]; omega
 have w2 : IntKind.u64.wrap (s1 + z1 + (s0 + z0) / 18446744073709551616) = s1 + z1 + (s0 + z0) / 18446744073709551616 := by rw [IntKind.wrap_u64]; omega
 simp only [pr, u64s, List.map_cons, List.map_nil, hs0, hs1, e0, e1]
 rw [hz0', hz1] at hm
 have a0 : Word s0 := ⟨by omega, by omega⟩
 have b0 : Word z0 := ⟨by omega, by omega⟩
 clear hs hb hz0 hs0 hs1 hz0' hz1 e0 e1
 go_enter Tryz.func169, Tryz.ntmps169
 go_wp2_with (first | (go_at_call 199; refine (hm _).mono ?_; rintro e w' ⟨rfl, rfl⟩) | simp only [add64_0 s0 z0 a0 b0])
 simp [bodyPost, results, Tryz.results169, go_sem]
 exact ((Below.refl _ _).alloc (Nat.le_refl _) _).alloc (by simp) _
theorem frest_any (s : Int) (hs : 0 ≤ s) (hb : s < 41538374868278621028243970633760768) (w : World) :
  Calls Tryz.prog 201 #[.agg (u64s (pr s)).toArray] w fun e w' => e = .returned (.int .u64 (s % 2251799813685248)) ∧ Below w.heap.size w w' := by
 obtain ⟨s0, hs0⟩ : ∃ r, s % 18446744073709551616 = r := ⟨_, rfl⟩
 obtain ⟨s1, hs1⟩ : ∃ r, s / 18446744073709551616 = r := ⟨_, rfl⟩
 have e0 := and51 s0 (by omega) (by omega)
 have e1 : s % 2251799813685248 = s0 % 2251799813685248 := by omega
 simp only [pr, u64s, List.map_cons, List.map_nil, hs0, hs1, e1]
 clear hs0 hs1 hs hb e1
 go_enter Tryz.func201, Tryz.ntmps201
 go_wp2_with fail
 go_ret
 exact ⟨rfl, (Below.refl _ _).alloc (Nat.le_refl _) _⟩
theorem fover_any (s : Int) (hs : 0 ≤ s) (hb : s < 41538374868278621028243970633760768) (w : World) :
  Calls Tryz.prog 202 #[.agg (u64s (pr s)).toArray] w fun e w' => e = .returned (.int .u64 (s / 2251799813685248)) ∧ Below w.heap.size w w' := by
 obtain ⟨s0, hs0⟩ : ∃ r, s % 18446744073709551616 = r := ⟨_, rfl⟩
 obtain ⟨s1, hs1⟩ : ∃ r, s / 18446744073709551616 = r := ⟨_, rfl⟩
 have e0 : bits .or .u64 (s1 * 8192) (s0 / 2251799813685248) = s0 / 2251799813685248 + s1 * 8192 := or_behind 13 (s0 / 2251799813685248) s1 ⟨by omega, by simp; omega⟩ (by omega) (by simp; omega) (by omega)
 have e1 : s / 2251799813685248 = s0 / 2251799813685248 + s1 * 8192 := by omega
 have w1 : IntKind.u64.wrap (s1 * 8192) = s1 * 8192 := by rw [IntKind.wrap_u64]; omega
 simp only [pr, u64s, List.map_cons, List.map_nil, hs0, hs1, e1]
 clear hs0 hs1 hs hb e1
 go_enter Tryz.func202, Tryz.ntmps202
 go_wp2_with fail
 go_ret
 exact ⟨rfl, (Below.refl _ _).alloc (Nat.le_refl _) _⟩
theorem last_cell {o : Oper} {a : Act} {w : World} {K : Act → World → Prop} {Q : Exit → Act → World → Prop} (x y : Operand) (ho : o.op = .store 24 x y) (hdst : o.dst = none) (b off : Nat) (hx : a.eval x = .pointer (some ⟨b, off, none⟩)) (t : TypeId) (l : List Int) (z : Int) (hy : a.eval y = .int .u64 z) (hb : Blk w b t (u64s l)) (hl : off < l.length)
  (h : ∀ w', Blk w' b t (u64s (l.set off z)) → w'.heap.size = w.heap.size → Kept (fun k => k = b) w w' → K a w') : o.wp Tryz.prog a w K Q := by
 have hc : w.cell? ⟨b, off, none⟩ = some (.int .u64 l[off]) := by rw [hb.cell, u64s_getD hl]
 have hf := hb.frozen off
 have R := hb.set off (.int .u64 z)
 rw [u64s_set] at R
 have S : (w.setCell ⟨b, off, none⟩ (.int .u64 z)).heap.size = w.heap.size := by simp [World.setCell]
 have h2 := h _ R S ((Kept.refl _ _).setCell (S := fun k => k = b) rfl _)
 unfold Oper.wp execOp
 simp only [ho, hx, hy]
 go_simp
 exact h2
theorem fold_num (r0 r1 r2 r3 r4 : Int) : v5 (r0 % 2251799813685248 + r4 / 2251799813685248 * 19) (r1 % 2251799813685248 + r0 / 2251799813685248) (r2 % 2251799813685248 + r1 / 2251799813685248) (r3 % 2251799813685248 + r2 / 2251799813685248) (r4 % 2251799813685248 + r3 / 2251799813685248) % PR = v5 r0 r1 r2 r3 r4 % PR := by
 unfold v5 PR
 omega
theorem fold_any (g : Nat) (a b c d e r0 r1 r2 r3 r4 : Int) (w : World) (hB : Blk w g 116 (u64s [a, b, c, d, e])) (h0 : 0 ≤ r0 ∧ r0 < 649037107316853453566312041152512) (h1 : 0 ≤ r1 ∧ r1 < 649037107316853453566312041152512) (h2 : 0 ≤ r2 ∧ r2 < 649037107316853453566312041152512) (h3 : 0 ≤ r3 ∧ r3 < 649037107316853453566312041152512) (h4 : 0 ≤ r4 ∧ r4 < 40564819207303340847894502572032) :
  Calls Tryz.prog 170 #[.pointer (some ⟨g, 0, none⟩), .agg (u64s (pr r0)).toArray, .agg (u64s (pr r1)).toArray, .agg (u64s (pr r2)).toArray, .agg (u64s (pr r3)).toArray, .agg (u64s (pr r4)).toArray] w fun x w' => x = .returned (.tuple #[]) ∧ (∃ l, Blk w' g 116 (u64s l) ∧ Fe l (v5 r0 r1 r2 r3 r4 % PR)) ∧ Kept (fun k => k = g) w w' := by
 have HC : Hid ((∀ w, Calls Tryz.prog 201 #[.agg (u64s (pr r0)).toArray] w fun e w' => e = .returned (.int .u64 (r0 % 2251799813685248)) ∧ Below w.heap.size w w') ∧ (∀ w, Calls Tryz.prog 201 #[.agg (u64s (pr r1)).toArray] w fun e w' => e = .returned (.int .u64 (r1 % 2251799813685248)) ∧ Below w.heap.size w w') ∧ (∀ w, Calls Tryz.prog 201 #[.agg (u64s (pr r2)).toArray] w fun e w' => e = .returned (.int .u64 (r2 % 2251799813685248)) ∧ Below w.heap.size w w') ∧ (∀ w, Calls Tryz.prog 201 #[.agg (u64s (pr r3)).toArray] w fun e w' => e = .returned (.int .u64 (r3 % 2251799813685248)) ∧ Below w.heap.size w w') ∧ (∀ w, Calls Tryz.prog 201 #[.agg (u64s (pr r4)).toArray] w fun e w' => e = .returned (.int .u64 (r4 % 2251799813685248)) ∧ Below w.heap.size w w')) := ⟨frest_any _ (by omega) (by omega), frest_any _ (by omega) (by omega), frest_any _ (by omega) (by omega), frest_any _ (by omega) (by omega), frest_any _ (by omega) (by omega)⟩
 have HO : Hid ((∀ w, Calls Tryz.prog 202 #[.agg (u64s (pr r0)).toArray] w fun e w' => e = .returned (.int .u64 (r0 / 2251799813685248)) ∧ Below w.heap.size w w') ∧ (∀ w, Calls Tryz.prog 202 #[.agg (u64s (pr r1)).toArray] w fun e w' => e = .returned (.int .u64 (r1 / 2251799813685248)) ∧ Below w.heap.size w w') ∧ (∀ w, Calls Tryz.prog 202 #[.agg (u64s (pr r2)).toArray] w fun e w' => e = .returned (.int .u64 (r2 / 2251799813685248)) ∧ Below w.heap.size w w') ∧ (∀ w, Calls Tryz.prog 202 #[.agg (u64s (pr r3)).toArray] w fun e w' => e = .returned (.int .u64 (r3 / 2251799813685248)) ∧ Below w.heap.size w w') ∧ (∀ w, Calls Tryz.prog 202 #[.agg (u64s (pr r4)).toArray] w fun e w' => e = .returned (.int .u64 (r4 / 2251799813685248)) ∧ Below w.heap.size w w')) := ⟨fover_any _ (by omega) (by omega), fover_any _ (by omega) (by omega), fover_any _ (by omega) (by omega), fover_any _ (by omega) (by omega), fover_any _ (by omega) (by omega)⟩
 have HR : Hid (Fe (cr (r0 % 2251799813685248 + r4 / 2251799813685248 * 19) (r1 % 2251799813685248 + r0 / 2251799813685248) (r2 % 2251799813685248 + r1 / 2251799813685248) (r3 % 2251799813685248 + r2 / 2251799813685248) (r4 % 2251799813685248 + r3 / 2251799813685248)) (v5 r0 r1 r2 r3 r4 % PR) ∧ (0 ≤ (r0 % 2251799813685248 + r4 / 2251799813685248 * 19) ∧ (r0 % 2251799813685248 + r4 / 2251799813685248 * 19) < 1152921504606846976) ∧ (0 ≤ (r1 % 2251799813685248 + r0 / 2251799813685248) ∧ (r1 % 2251799813685248 + r0 / 2251799813685248) < 1152921504606846976) ∧ (0 ≤ (r2 % 2251799813685248 + r1 / 2251799813685248) ∧ (r2 % 2251799813685248 + r1 / 2251799813685248) < 1152921504606846976) ∧ (0 ≤ (r3 % 2251799813685248 + r2 / 2251799813685248) ∧ (r3 % 2251799813685248 + r2 / 2251799813685248) < 1152921504606846976) ∧ (0 ≤ (r4 % 2251799813685248 + r3 / 2251799813685248) ∧ (r4 % 2251799813685248 + r3 / 2251799813685248) < 1152921504606846976)) := by
  have hh := cr_fe (r0 % 2251799813685248 + r4 / 2251799813685248 * 19) (r1 % 2251799813685248 + r0 / 2251799813685248) (r2 % 2251799813685248 + r1 / 2251799813685248) (r3 % 2251799813685248 + r2 / 2251799813685248) (r4 % 2251799813685248 + r3 / 2251799813685248) (by omega) (by omega) (by omega) (by omega) (by omega)
  rw [fold_num] at hh
  exact ⟨hh, by omega, by omega, by omega, by omega, by omega⟩
 have v0 : IntKind.u64.wrap (r4 / 2251799813685248 * 19) = r4 / 2251799813685248 * 19 := by rw [IntKind.wrap_u64]; omega
 have u0 : IntKind.u64.wrap (r0 % 2251799813685248 + r4 / 2251799813685248 * 19) = (r0 % 2251799813685248 + r4 / 2251799813685248 * 19) := by rw [IntKind.wrap_u64]; omega
 have u1 : IntKind.u64.wrap (r1 % 2251799813685248 + r0 / 2251799813685248) = (r1 % 2251799813685248 + r0 / 2251799813685248) := by rw [IntKind.wrap_u64]; omega
 have u2 : IntKind.u64.wrap (r2 % 2251799813685248 + r1 / 2251799813685248) = (r2 % 2251799813685248 + r1 / 2251799813685248) := by rw [IntKind.wrap_u64]; omega
 have u3 : IntKind.u64.wrap (r3 % 2251799813685248 + r2 / 2251799813685248) = (r3 % 2251799813685248 + r2 / 2251799813685248) := by rw [IntKind.wrap_u64]; omega
 have u4 : IntKind.u64.wrap (r4 % 2251799813685248 + r3 / 2251799813685248) = (r4 % 2251799813685248 + r3 / 2251799813685248) := by rw [IntKind.wrap_u64]; omega
 have HB : Hid (Blk w g 116 (u64s [a, b, c, d, e])) := hB
 have HL : Hid (g < w.heap.size) := hB.lt
 clear hB h0 h1 h2 h3 h4
 go_enter Tryz.func170, Tryz.ntmps170
 go_wp2_with (first | (refine wpList_box_new rfl 206 (.tmp 1) rfl (u64s (pr r0)) rfl ?_; intro x1 b1 s1 l1) | (refine wpList_box_new rfl 206 (.tmp 2) rfl (u64s (pr r1)) rfl ?_; intro x2 b2 s2 l2) | (refine wpList_box_new rfl 206 (.tmp 3) rfl (u64s (pr r2)) rfl ?_; intro x3 b3 s3 l3) | (refine wpList_box_new rfl 206 (.tmp 4) rfl (u64s (pr r3)) rfl ?_; intro x4 b4 s4 l4) | (refine wpList_box_new rfl 206 (.tmp 5) rfl (u64s (pr r4)) rfl ?_; intro x5 b5 s5 l5))
 try simp only [Act.put, sA, sB, sC]
 have hl := HL.out
 have e2 : x1.heap.size = w.heap.size + 1 := s1
 have e3 : x2.heap.size = w.heap.size + 2 := by omega
 have e4 : x3.heap.size = w.heap.size + 3 := by omega
 have e5 : x4.heap.size = w.heap.size + 4 := by omega
 have W0 : Hid (Blk x5 g 116 (u64s [a, b, c, d, e]) ∧ Blk x5 w.heap.size 206 (u64s (pr r0)) ∧ Blk x5 (w.heap.size + 1) 206 (u64s (pr r1)) ∧ Blk x5 (w.heap.size + 2) 206 (u64s (pr r2)) ∧ Blk x5 (w.heap.size + 3) 206 (u64s (pr r3)) ∧ Blk x5 (w.heap.size + 4) 206 (u64s (pr r4)) ∧ Kept (fun k => k = g) w x5) := by
  rw [e2] at b2
  rw [e3] at b3
  rw [e4] at b4
  rw [e5] at b5
  exact ⟨((((HB.out.later l1 (by omega)).later l2 (by omega)).later l3 (by omega)).later l4 (by omega)).later l5 (by omega), (((b1.later l2 (by omega)).later l3 (by omega)).later l4 (by omega)).later l5 (by omega), ((b2.later l3 (by omega)).later l4 (by omega)).later l5 (by omega), (b3.later l4 (by omega)).later l5 (by omega), b4.later l5 (by omega), b5, Kept.new _ (below_chain (below_chain (below_chain (below_chain l1 l2 (by omega)) l3 (by omega)) l4 (by omega)) l5 (by omega))⟩
 rw [e2, e3, e4, e5]
 clear b1 s1 l1 b2 s2 l2 b3 s3 l3 b4 s4 l4 b5 s5 l5 e2 e3 e4 e5
 refine region_invT [.val (.pointer (some ⟨g, 0, none⟩)), .val (.agg (u64s (pr r0)).toArray), .val (.int .u64 (r0 % 2251799813685248)), .val (.agg (u64s (pr r4)).toArray), .val (.int .u64 (r4 / 2251799813685248)), .val (.int .u64 (r4 / 2251799813685248 * 19)), .val (.int .u64 (r0 % 2251799813685248 + r4 / 2251799813685248 * 19)), .val (.pointer (some ⟨g, 0, none⟩)), .val (.pointer (some ⟨g, 0, none⟩)), .val (.pointer (some ⟨g, 0, none⟩))] (by kernel_rfl) (by kernel_rfl) (by kernel_rfl) ?_ ?_
 ·refine Steps'.cons ?_ (Steps'.cons ?_ (Steps'.cons ?_ (Steps'.cons ?_ (Steps'.cons ?_ (Steps'.cons ?_ (Steps'.cons ?_ (Steps'.cons ?_ (Steps'.cons ?_ (Steps'.cons ?_ (Steps'.one _ _ _ _ _ _ _))))))))))
  ·intro ax wx hb hs hd
   have h0 : ax.tmps.getD 0 undef = (.pointer (some ⟨g, 0, none⟩)) := hs 0 (by kernel_rfl)
   refine Does.value (.pointer (some ⟨g, 0, none⟩)) ?_ rfl
   go_simp
  ·intro ax wx hb hs hd
   have h7 : ax.tmps.getD 7 undef = (.pointer (some ⟨w.heap.size, 0, none⟩)) := hs 7 (by kernel_rfl)
   exact Does.load 206 (.tmp 7) rfl w.heap.size 0 h7 (u64s (pr r0)) _ (((Blk.later W0.out.2.1 hb (Blk.lt W0.out.2.1)).whole)) Tryz.underlying206 rfl sizeWide
  ·intro ax wx hb hs hd
   have h13 := vOf (hd 1 13 rfl (by kernel_rfl) (by decide))
   refine Does.call 201 #[(.agg (u64s (pr r0)).toArray)] (by go_simp) ?_
   refine (HC.out.1 _).mono ?_
   rintro z w' ⟨rfl, l⟩
   exact ⟨_, rfl, rfl, l⟩
  ·intro ax wx hb hs hd
   have h11 : ax.tmps.getD 11 undef = (.pointer (some ⟨(w.heap.size + 4), 0, none⟩)) := hs 11 (by kernel_rfl)
   exact Does.load 206 (.tmp 11) rfl (w.heap.size + 4) 0 h11 (u64s (pr r4)) _ (((Blk.later W0.out.2.2.2.2.2.1 hb (Blk.lt W0.out.2.2.2.2.2.1)).whole)) Tryz.underlying206 rfl sizeWide
  ·intro ax wx hb hs hd
   have h15 := vOf (hd 3 15 rfl (by kernel_rfl) (by decide))
   refine Does.call 202 #[(.agg (u64s (pr r4)).toArray)] (by go_simp) ?_
   refine (HO.out.2.2.2.2 _).mono ?_
   rintro z w' ⟨rfl, l⟩
   exact ⟨_, rfl, rfl, l⟩
  ·intro ax wx hb hs hd
   have h16 := vOf (hd 4 16 rfl (by kernel_rfl) (by decide))
   refine Does.value (.int .u64 (r4 / 2251799813685248 * 19)) ?_ rfl
   go_simp
  ·intro ax wx hb hs hd
   have h14 := vOf (hd 2 14 rfl (by kernel_rfl) (by decide))
   have h17 := vOf (hd 5 17 rfl (by kernel_rfl) (by decide))
   refine Does.value (.int .u64 (r0 % 2251799813685248 + r4 / 2251799813685248 * 19)) ?_ rfl
   go_simp
  ·intro ax wx hb hs hd
   have h12 := vOf (hd 0 12 rfl (by kernel_rfl) (by decide))
   refine Does.value (.pointer (some ⟨g, 0, none⟩)) ?_ rfl
   go_simp
  ·intro ax wx hb hs hd
   have h19 := vOf (hd 7 19 rfl (by kernel_rfl) (by decide))
   refine Does.value (.pointer (some ⟨g, 0, none⟩)) ?_ rfl
   go_simp
  ·intro ax wx hb hs hd
   have h20 := vOf (hd 8 20 rfl (by kernel_rfl) (by decide))
   refine Does.value (.pointer (some ⟨g, 0, none⟩)) ?_ rfl
   go_simp
 ·intro wx hb
  iterate 10 refine @Ends.val _ _ _ _ _ _ _ _ _ _ rfl ?_
  refine @Ends.one _ _ _ _ _ _ _ ?_
  simp only [Act.put, sA, sB, sC]
  refine last_cell (.tmp 21) (.tmp 18) rfl rfl g 0 rfl 116 [a, b, c, d, e] (r0 % 2251799813685248 + r4 / 2251799813685248 * 19) rfl (Blk.later W0.out.1 hb (Blk.lt W0.out.1)) (by simp) ?_
  intro y n1 n2 n3
  simp only [List.set_cons_zero, List.set_cons_succ] at n1
  have W1 : Hid (Blk y g 116 (u64s [(r0 % 2251799813685248 + r4 / 2251799813685248 * 19), b, c, d, e]) ∧ Blk y w.heap.size 206 (u64s (pr r0)) ∧ Blk y (w.heap.size + 1) 206 (u64s (pr r1)) ∧ Blk y (w.heap.size + 2) 206 (u64s (pr r2)) ∧ Blk y (w.heap.size + 3) 206 (u64s (pr r3)) ∧ Blk y (w.heap.size + 4) 206 (u64s (pr r4)) ∧ Kept (fun k => k = g) w y) := ⟨n1, (Blk.later W0.out.2.1 hb (Blk.lt W0.out.2.1)).kept n3 (by omega), (Blk.later W0.out.2.2.1 hb (Blk.lt W0.out.2.2.1)).kept n3 (by omega), (Blk.later W0.out.2.2.2.1 hb (Blk.lt W0.out.2.2.2.1)).kept n3 (by omega), (Blk.later W0.out.2.2.2.2.1 hb (Blk.lt W0.out.2.2.2.2.1)).kept n3 (by omega), (Blk.later W0.out.2.2.2.2.2.1 hb (Blk.lt W0.out.2.2.2.2.2.1)).kept n3 (by omega), W0.out.2.2.2.2.2.2.trans ((Kept.new _ hb).trans n3)⟩
  obtain ⟨y0, rfl⟩ : ∃ q, q = y := ⟨_, rfl⟩
  clear W0 n1 n2 n3 hb
  go_wp2_with fail
  refine region_invT [.val (.pointer (some ⟨g, 0, none⟩)), .val (.agg (u64s (pr r1)).toArray), .val (.int .u64 (r1 % 2251799813685248)), .val (.agg (u64s (pr r0)).toArray), .val (.int .u64 (r0 / 2251799813685248)), .val (.int .u64 (r1 % 2251799813685248 + r0 / 2251799813685248)), .val (.pointer (some ⟨g, 0, none⟩)), .val (.pointer (some ⟨g, 0, none⟩)), .val (.pointer (some ⟨g, 1, none⟩))] (by kernel_rfl) (by kernel_rfl) (by kernel_rfl) ?_ ?_
  ·refine Steps'.cons ?_ (Steps'.cons ?_ (Steps'.cons ?_ (Steps'.cons ?_ (Steps'.cons ?_ (Steps'.cons ?_ (Steps'.cons ?_ (Steps'.cons ?_ (Steps'.cons ?_ (Steps'.one _ _ _ _ _ _ _)))))))))
   ·intro ax wx hb hs hd
    have h0 : ax.tmps.getD 0 undef = (.pointer (some ⟨g, 0, none⟩)) := hs 0 (by kernel_rfl)
    refine Does.value (.pointer (some ⟨g, 0, none⟩)) ?_ rfl
    go_simp
   ·intro ax wx hb hs hd
    have h8 : ax.tmps.getD 8 undef = (.pointer (some ⟨(w.heap.size + 1), 0, none⟩)) := hs 8 (by kernel_rfl)
    exact Does.load 206 (.tmp 8) rfl (w.heap.size + 1) 0 h8 (u64s (pr r1)) _ (((Blk.later W1.out.2.2.1 hb (Blk.lt W1.out.2.2.1)).whole)) Tryz.underlying206 rfl sizeWide
   ·intro ax wx hb hs hd
    have h23 := vOf (hd 1 23 rfl (by kernel_rfl) (by decide))
    refine Does.call 201 #[(.agg (u64s (pr r1)).toArray)] (by go_simp) ?_
    refine (HC.out.2.1 _).mono ?_
    rintro z w' ⟨rfl, l⟩
    exact ⟨_, rfl, rfl, l⟩
   ·intro ax wx hb hs hd
    have h7 : ax.tmps.getD 7 undef = (.pointer (some ⟨w.heap.size, 0, none⟩)) := hs 7 (by kernel_rfl)
    exact Does.load 206 (.tmp 7) rfl w.heap.size 0 h7 (u64s (pr r0)) _ (((Blk.later W1.out.2.1 hb (Blk.lt W1.out.2.1)).whole)) Tryz.underlying206 rfl sizeWide
   ·intro ax wx hb hs hd
    have h25 := vOf (hd 3 25 rfl (by kernel_rfl) (by decide))
    refine Does.call 202 #[(.agg (u64s (pr r0)).toArray)] (by go_simp) ?_
    refine (HO.out.1 _).mono ?_
    rintro z w' ⟨rfl, l⟩
    exact ⟨_, rfl, rfl, l⟩
   ·intro ax wx hb hs hd
    have h24 := vOf (hd 2 24 rfl (by kernel_rfl) (by decide))
    have h26 := vOf (hd 4 26 rfl (by kernel_rfl) (by decide))
    refine Does.value (.int .u64 (r1 % 2251799813685248 + r0 / 2251799813685248)) ?_ rfl
    go_simp
   ·intro ax wx hb hs hd
    have h22 := vOf (hd 0 22 rfl (by kernel_rfl) (by decide))
    refine Does.value (.pointer (some ⟨g, 0, none⟩)) ?_ rfl
    go_simp
   ·intro ax wx hb hs hd
    have h28 := vOf (hd 6 28 rfl (by kernel_rfl) (by decide))
    refine Does.value (.pointer (some ⟨g, 0, none⟩)) ?_ rfl
    go_simp
   ·intro ax wx hb hs hd
    have h29 := vOf (hd 7 29 rfl (by kernel_rfl) (by decide))
    refine Does.value (.pointer (some ⟨g, 1, none⟩)) ?_ rfl
    go_simp
  ·intro wx hb
   iterate 9 refine @Ends.val _ _ _ _ _ _ _ _ _ _ rfl ?_
   refine @Ends.one _ _ _ _ _ _ _ ?_
   simp only [Act.put, sA, sB, sC]
   refine last_cell (.tmp 30) (.tmp 27) rfl rfl g 1 rfl 116 [(r0 % 2251799813685248 + r4 / 2251799813685248 * 19), b, c, d, e] (r1 % 2251799813685248 + r0 / 2251799813685248) rfl (Blk.later W1.out.1 hb (Blk.lt W1.out.1)) (by simp) ?_
   intro y n1 n2 n3
   simp only [List.set_cons_zero, List.set_cons_succ] at n1
   have W2 : Hid (Blk y g 116 (u64s [(r0 % 2251799813685248 + r4 / 2251799813685248 * 19), (r1 % 2251799813685248 + r0 / 2251799813685248), c, d, e]) ∧ Blk y w.heap.size 206 (u64s (pr r0)) ∧ Blk y (w.heap.size + 1) 206 (u64s (pr r1)) ∧ Blk y (w.heap.size + 2) 206 (u64s (pr r2)) ∧ Blk y (w.heap.size + 3) 206 (u64s (pr r3)) ∧ Blk y (w.heap.size + 4) 206 (u64s (pr r4)) ∧ Kept (fun k => k = g) w y) := ⟨n1, (Blk.later W1.out.2.1 hb (Blk.lt W1.out.2.1)).kept n3 (by omega), (Blk.later W1.out.2.2.1 hb (Blk.lt W1.out.2.2.1)).kept n3 (by omega), (Blk.later W1.out.2.2.2.1 hb (Blk.lt W1.out.2.2.2.1)).kept n3 (by omega), (Blk.later W1.out.2.2.2.2.1 hb (Blk.lt W1.out.2.2.2.2.1)).kept n3 (by omega), (Blk.later W1.out.2.2.2.2.2.1 hb (Blk.lt W1.out.2.2.2.2.2.1)).kept n3 (by omega), W1.out.2.2.2.2.2.2.trans ((Kept.new _ hb).trans n3)⟩
   obtain ⟨y1, rfl⟩ : ∃ q, q = y := ⟨_, rfl⟩
   clear W1 n1 n2 n3 hb
   go_wp2_with fail
   refine region_invT [.val (.pointer (some ⟨g, 0, none⟩)), .val (.agg (u64s (pr r2)).toArray), .val (.int .u64 (r2 % 2251799813685248)), .val (.agg (u64s (pr r1)).toArray), .val (.int .u64 (r1 / 2251799813685248)), .val (.int .u64 (r2 % 2251799813685248 + r1 / 2251799813685248)), .val (.pointer (some ⟨g, 0, none⟩)), .val (.pointer (some ⟨g, 0, none⟩)), .val (.pointer (some ⟨g, 2, none⟩))] (by kernel_rfl) (by kernel_rfl) (by kernel_rfl) ?_ ?_
   ·refine Steps'.cons ?_ (Steps'.cons ?_ (Steps'.cons ?_ (Steps'.cons ?_ (Steps'.cons ?_ (Steps'.cons ?_ (Steps'.cons ?_ (Steps'.cons ?_ (Steps'.cons ?_ (Steps'.one _ _ _ _ _ _ _)))))))))
    ·intro ax wx hb hs hd
     have h0 : ax.tmps.getD 0 undef = (.pointer (some ⟨g, 0, none⟩)) := hs 0 (by kernel_rfl)
     refine Does.value (.pointer (some ⟨g, 0, none⟩)) ?_ rfl
     go_simp
    ·intro ax wx hb hs hd
     have h9 : ax.tmps.getD 9 undef = (.pointer (some ⟨(w.heap.size + 2), 0, none⟩)) := hs 9 (by kernel_rfl)
     exact Does.load 206 (.tmp 9) rfl (w.heap.size + 2) 0 h9 (u64s (pr r2)) _ (((Blk.later W2.out.2.2.2.1 hb (Blk.lt W2.out.2.2.2.1)).whole)) Tryz.underlying206 rfl sizeWide
    ·intro ax wx hb hs hd
     have h32 := vOf (hd 1 32 rfl (by kernel_rfl) (by decide))
     refine Does.call 201 #[(.agg (u64s (pr r2)).toArray)] (by go_simp) ?_
     refine (HC.out.2.2.1 _).mono ?_
     rintro z w' ⟨rfl, l⟩
     exact ⟨_, rfl, rfl, l⟩
    ·intro ax wx hb hs hd
     have h8 : ax.tmps.getD 8 undef = (.pointer (some ⟨(w.heap.size + 1), 0, none⟩)) := hs 8 (by kernel_rfl)
     exact Does.load 206 (.tmp 8) rfl (w.heap.size + 1) 0 h8 (u64s (pr r1)) _ (((Blk.later W2.out.2.2.1 hb (Blk.lt W2.out.2.2.1)).whole)) Tryz.underlying206 rfl sizeWide
    ·intro ax wx hb hs hd
     have h34 := vOf (hd 3 34 rfl (by kernel_rfl) (by decide))
     refine Does.call 202 #[(.agg (u64s (pr r1)).toArray)] (by go_simp) ?_
     refine (HO.out.2.1 _).mono ?_
     rintro z w' ⟨rfl, l⟩
     exact ⟨_, rfl, rfl, l⟩
    ·intro ax wx hb hs hd
     have h33 := vOf (hd 2 33 rfl (by kernel_rfl) (by decide))
     have h35 := vOf (hd 4 35 rfl (by kernel_rfl) (by decide))
     refine Does.value (.int .u64 (r2 % 2251799813685248 + r1 / 2251799813685248)) ?_ rfl
     go_simp
    ·intro ax wx hb hs hd
     have h31 := vOf (hd 0 31 rfl (by kernel_rfl) (by decide))
     refine Does.value (.pointer (some ⟨g, 0, none⟩)) ?_ rfl
     go_simp
    ·intro ax wx hb hs hd
     have h37 := vOf (hd 6 37 rfl (by kernel_rfl) (by decide))
     refine Does.value (.pointer (some ⟨g, 0, none⟩)) ?_ rfl
     go_simp
    ·intro ax wx hb hs hd
     have h38 := vOf (hd 7 38 rfl (by kernel_rfl) (by decide))
     refine Does.value (.pointer (some ⟨g, 2, none⟩)) ?_ rfl
     go_simp
   ·intro wx hb
    iterate 9 refine @Ends.val _ _ _ _ _ _ _ _ _ _ rfl ?_
    refine @Ends.one _ _ _ _ _ _ _ ?_
    simp only [Act.put, sA, sB, sC]
    refine last_cell (.tmp 39) (.tmp 36) rfl rfl g 2 rfl 116 [(r0 % 2251799813685248 + r4 / 2251799813685248 * 19), (r1 % 2251799813685248 + r0 / 2251799813685248), c, d, e] (r2 % 2251799813685248 + r1 / 2251799813685248) rfl (Blk.later W2.out.1 hb (Blk.lt W2.out.1)) (by simp) ?_
    intro y n1 n2 n3
    simp only [List.set_cons_zero, List.set_cons_succ] at n1
    have W3 : Hid (Blk y g 116 (u64s [(r0 % 2251799813685248 + r4 / 2251799813685248 * 19), (r1 % 2251799813685248 + r0 / 2251799813685248), (r2 % 2251799813685248 + r1 / 2251799813685248), d, e]) ∧ Blk y w.heap.size 206 (u64s (pr r0)) ∧ Blk y (w.heap.size + 1) 206 (u64s (pr r1)) ∧ Blk y (w.heap.size + 2) 206 (u64s (pr r2)) ∧ Blk y (w.heap.size + 3) 206 (u64s (pr r3)) ∧ Blk y (w.heap.size + 4) 206 (u64s (pr r4)) ∧ Kept (fun k => k = g) w y) := ⟨n1, (Blk.later W2.out.2.1 hb (Blk.lt W2.out.2.1)).kept n3 (by omega), (Blk.later W2.out.2.2.1 hb (Blk.lt W2.out.2.2.1)).kept n3 (by omega), (Blk.later W2.out.2.2.2.1 hb (Blk.lt W2.out.2.2.2.1)).kept n3 (by omega), (Blk.later W2.out.2.2.2.2.1 hb (Blk.lt W2.out.2.2.2.2.1)).kept n3 (by omega), (Blk.later W2.out.2.2.2.2.2.1 hb (Blk.lt W2.out.2.2.2.2.2.1)).kept n3 (by omega), W2.out.2.2.2.2.2.2.trans ((Kept.new _ hb).trans n3)⟩
    obtain ⟨y2, rfl⟩ : ∃ q, q = y := ⟨_, rfl⟩
    clear W2 n1 n2 n3 hb
    go_wp2_with fail
    refine region_invT [.val (.pointer (some ⟨g, 0, none⟩)), .val (.agg (u64s (pr r3)).toArray), .val (.int .u64 (r3 % 2251799813685248)), .val (.agg (u64s (pr r2)).toArray), .val (.int .u64 (r2 / 2251799813685248)), .val (.int .u64 (r3 % 2251799813685248 + r2 / 2251799813685248)), .val (.pointer (some ⟨g, 0, none⟩)), .val (.pointer (some ⟨g, 0, none⟩)), .val (.pointer (some ⟨g, 3, none⟩))] (by kernel_rfl) (by kernel_rfl) (by kernel_rfl) ?_ ?_
    ·refine Steps'.cons ?_ (Steps'.cons ?_ (Steps'.cons ?_ (Steps'.cons ?_ (Steps'.cons ?_ (Steps'.cons ?_ (Steps'.cons ?_ (Steps'.cons ?_ (Steps'.cons ?_ (Steps'.one _ _ _ _ _ _ _)))))))))
     ·intro ax wx hb hs hd
      have h0 : ax.tmps.getD 0 undef = (.pointer (some ⟨g, 0, none⟩)) := hs 0 (by kernel_rfl)
      refine Does.value (.pointer (some ⟨g, 0, none⟩)) ?_ rfl
      go_simp
     ·intro ax wx hb hs hd
      have h10 : ax.tmps.getD 10 undef = (.pointer (some ⟨(w.heap.size + 3), 0, none⟩)) := hs 10 (by kernel_rfl)
      exact Does.load 206 (.tmp 10) rfl (w.heap.size + 3) 0 h10 (u64s (pr r3)) _ (((Blk.later W3.out.2.2.2.2.1 hb (Blk.lt W3.out.2.2.2.2.1)).whole)) Tryz.underlying206 rfl sizeWide
     ·intro ax wx hb hs hd
      have h41 := vOf (hd 1 41 rfl (by kernel_rfl) (by decide))
      refine Does.call 201 #[(.agg (u64s (pr r3)).toArray)] (by go_simp) ?_
      refine (HC.out.2.2.2.1 _).mono ?_
      rintro z w' ⟨rfl, l⟩
      exact ⟨_, rfl, rfl, l⟩
     ·intro ax wx hb hs hd
      have h9 : ax.tmps.getD 9 undef = (.pointer (some ⟨(w.heap.size + 2), 0, none⟩)) := hs 9 (by kernel_rfl)
      exact Does.load 206 (.tmp 9) rfl (w.heap.size + 2) 0 h9 (u64s (pr r2)) _ (((Blk.later W3.out.2.2.2.1 hb (Blk.lt W3.out.2.2.2.1)).whole)) Tryz.underlying206 rfl sizeWide
     ·intro ax wx hb hs hd
      have h43 := vOf (hd 3 43 rfl (by kernel_rfl) (by decide))
      refine Does.call 202 #[(.agg (u64s (pr r2)).toArray)] (by go_simp) ?_
      refine (HO.out.2.2.1 _).mono ?_
      rintro z w' ⟨rfl, l⟩
      exact ⟨_, rfl, rfl, l⟩
     ·intro ax wx hb hs hd
      have h42 := vOf (hd 2 42 rfl (by kernel_rfl) (by decide))
      have h44 := vOf (hd 4 44 rfl (by kernel_rfl) (by decide))
      refine Does.value (.int .u64 (r3 % 2251799813685248 + r2 / 2251799813685248)) ?_ rfl
      go_simp
     ·intro ax wx hb hs hd
      have h40 := vOf (hd 0 40 rfl (by kernel_rfl) (by decide))
      refine Does.value (.pointer (some ⟨g, 0, none⟩)) ?_ rfl
      go_simp
     ·intro ax wx hb hs hd
      have h46 := vOf (hd 6 46 rfl (by kernel_rfl) (by decide))
      refine Does.value (.pointer (some ⟨g, 0, none⟩)) ?_ rfl
      go_simp
     ·intro ax wx hb hs hd
      have h47 := vOf (hd 7 47 rfl (by kernel_rfl) (by decide))
      refine Does.value (.pointer (some ⟨g, 3, none⟩)) ?_ rfl
      go_simp
    ·intro wx hb
     iterate 9 refine @Ends.val _ _ _ _ _ _ _ _ _ _ rfl ?_
     refine @Ends.one _ _ _ _ _ _ _ ?_
     simp only [Act.put, sA, sB, sC]
     refine last_cell (.tmp 48) (.tmp 45) rfl rfl g 3 rfl 116 [(r0 % 2251799813685248 + r4 / 2251799813685248 * 19), (r1 % 2251799813685248 + r0 / 2251799813685248), (r2 % 2251799813685248 + r1 / 2251799813685248), d, e] (r3 % 2251799813685248 + r2 / 2251799813685248) rfl (Blk.later W3.out.1 hb (Blk.lt W3.out.1)) (by simp) ?_
     intro y n1 n2 n3
     simp only [List.set_cons_zero, List.set_cons_succ] at n1
     have W4 : Hid (Blk y g 116 (u64s [(r0 % 2251799813685248 + r4 / 2251799813685248 * 19), (r1 % 2251799813685248 + r0 / 2251799813685248), (r2 % 2251799813685248 + r1 / 2251799813685248), (r3 % 2251799813685248 + r2 / 2251799813685248), e]) ∧ Blk y w.heap.size 206 (u64s (pr r0)) ∧ Blk y (w.heap.size + 1) 206 (u64s (pr r1)) ∧ Blk y (w.heap.size + 2) 206 (u64s (pr r2)) ∧ Blk y (w.heap.size + 3) 206 (u64s (pr r3)) ∧ Blk y (w.heap.size + 4) 206 (u64s (pr r4)) ∧ Kept (fun k => k = g) w y) := ⟨n1, (Blk.later W3.out.2.1 hb (Blk.lt W3.out.2.1)).kept n3 (by omega), (Blk.later W3.out.2.2.1 hb (Blk.lt W3.out.2.2.1)).kept n3 (by omega), (Blk.later W3.out.2.2.2.1 hb (Blk.lt W3.out.2.2.2.1)).kept n3 (by omega), (Blk.later W3.out.2.2.2.2.1 hb (Blk.lt W3.out.2.2.2.2.1)).kept n3 (by omega), (Blk.later W3.out.2.2.2.2.2.1 hb (Blk.lt W3.out.2.2.2.2.2.1)).kept n3 (by omega), W3.out.2.2.2.2.2.2.trans ((Kept.new _ hb).trans n3)⟩
     obtain ⟨y3, rfl⟩ : ∃ q, q = y := ⟨_, rfl⟩
     clear W3 n1 n2 n3 hb
     go_wp2_with fail
     refine region_invT [.val (.pointer (some ⟨g, 0, none⟩)), .val (.agg (u64s (pr r4)).toArray), .val (.int .u64 (r4 % 2251799813685248)), .val (.agg (u64s (pr r3)).toArray), .val (.int .u64 (r3 / 2251799813685248)), .val (.int .u64 (r4 % 2251799813685248 + r3 / 2251799813685248)), .val (.pointer (some ⟨g, 0, none⟩)), .val (.pointer (some ⟨g, 0, none⟩)), .val (.pointer (some ⟨g, 4, none⟩))] (by kernel_rfl) (by kernel_rfl) (by kernel_rfl) ?_ ?_
     ·refine Steps'.cons ?_ (Steps'.cons ?_ (Steps'.cons ?_ (Steps'.cons ?_ (Steps'.cons ?_ (Steps'.cons ?_ (Steps'.cons ?_ (Steps'.cons ?_ (Steps'.cons ?_ (Steps'.one _ _ _ _ _ _ _)))))))))
      ·intro ax wx hb hs hd
       have h0 : ax.tmps.getD 0 undef = (.pointer (some ⟨g, 0, none⟩)) := hs 0 (by kernel_rfl)
       refine Does.value (.pointer (some ⟨g, 0, none⟩)) ?_ rfl
       go_simp
      ·intro ax wx hb hs hd
       have h11 : ax.tmps.getD 11 undef = (.pointer (some ⟨(w.heap.size + 4), 0, none⟩)) := hs 11 (by kernel_rfl)
       exact Does.load 206 (.tmp 11) rfl (w.heap.size + 4) 0 h11 (u64s (pr r4)) _ (((Blk.later W4.out.2.2.2.2.2.1 hb (Blk.lt W4.out.2.2.2.2.2.1)).whole)) Tryz.underlying206 rfl sizeWide
      ·intro ax wx hb hs hd
       have h50 := vOf (hd 1 50 rfl (by kernel_rfl) (by decide))
       refine Does.call 201 #[(.agg (u64s (pr r4)).toArray)] (by go_simp) ?_
       refine (HC.out.2.2.2.2 _).mono ?_
       rintro z w' ⟨rfl, l⟩
       exact ⟨_, rfl, rfl, l⟩
      ·intro ax wx hb hs hd
       have h10 : ax.tmps.getD 10 undef = (.pointer (some ⟨(w.heap.size + 3), 0, none⟩)) := hs 10 (by kernel_rfl)
       exact Does.load 206 (.tmp 10) rfl (w.heap.size + 3) 0 h10 (u64s (pr r3)) _ (((Blk.later W4.out.2.2.2.2.1 hb (Blk.lt W4.out.2.2.2.2.1)).whole)) Tryz.underlying206 rfl sizeWide
      ·intro ax wx hb hs hd
       have h52 := vOf (hd 3 52 rfl (by kernel_rfl) (by decide))
       refine Does.call 202 #[(.agg (u64s (pr r3)).toArray)] (by go_simp) ?_
       refine (HO.out.2.2.2.1 _).mono ?_
       rintro z w' ⟨rfl, l⟩
       exact ⟨_, rfl, rfl, l⟩
      ·intro ax wx hb hs hd
       have h51 := vOf (hd 2 51 rfl (by kernel_rfl) (by decide))
       have h53 := vOf (hd 4 53 rfl (by kernel_rfl) (by decide))
       refine Does.value (.int .u64 (r4 % 2251799813685248 + r3 / 2251799813685248)) ?_ rfl
       go_simp
      ·intro ax wx hb hs hd
       have h49 := vOf (hd 0 49 rfl (by kernel_rfl) (by decide))
       refine Does.value (.pointer (some ⟨g, 0, none⟩)) ?_ rfl
       go_simp
      ·intro ax wx hb hs hd
       have h55 := vOf (hd 6 55 rfl (by kernel_rfl) (by decide))
       refine Does.value (.pointer (some ⟨g, 0, none⟩)) ?_ rfl
       go_simp
      ·intro ax wx hb hs hd
       have h56 := vOf (hd 7 56 rfl (by kernel_rfl) (by decide))
       refine Does.value (.pointer (some ⟨g, 4, none⟩)) ?_ rfl
       go_simp
     ·intro wx hb
      iterate 9 refine @Ends.val _ _ _ _ _ _ _ _ _ _ rfl ?_
      refine @Ends.one _ _ _ _ _ _ _ ?_
      simp only [Act.put, sA, sB, sC]
      refine last_cell (.tmp 57) (.tmp 54) rfl rfl g 4 rfl 116 [(r0 % 2251799813685248 + r4 / 2251799813685248 * 19), (r1 % 2251799813685248 + r0 / 2251799813685248), (r2 % 2251799813685248 + r1 / 2251799813685248), (r3 % 2251799813685248 + r2 / 2251799813685248), e] (r4 % 2251799813685248 + r3 / 2251799813685248) rfl (Blk.later W4.out.1 hb (Blk.lt W4.out.1)) (by simp) ?_
      intro y n1 n2 n3
      simp only [List.set_cons_zero, List.set_cons_succ] at n1
      have W5 : Hid (Blk y g 116 (u64s [(r0 % 2251799813685248 + r4 / 2251799813685248 * 19), (r1 % 2251799813685248 + r0 / 2251799813685248), (r2 % 2251799813685248 + r1 / 2251799813685248), (r3 % 2251799813685248 + r2 / 2251799813685248), (r4 % 2251799813685248 + r3 / 2251799813685248)]) ∧ Blk y w.heap.size 206 (u64s (pr r0)) ∧ Blk y (w.heap.size + 1) 206 (u64s (pr r1)) ∧ Blk y (w.heap.size + 2) 206 (u64s (pr r2)) ∧ Blk y (w.heap.size + 3) 206 (u64s (pr r3)) ∧ Blk y (w.heap.size + 4) 206 (u64s (pr r4)) ∧ Kept (fun k => k = g) w y) := ⟨n1, (Blk.later W4.out.2.1 hb (Blk.lt W4.out.2.1)).kept n3 (by omega), (Blk.later W4.out.2.2.1 hb (Blk.lt W4.out.2.2.1)).kept n3 (by omega), (Blk.later W4.out.2.2.2.1 hb (Blk.lt W4.out.2.2.2.1)).kept n3 (by omega), (Blk.later W4.out.2.2.2.2.1 hb (Blk.lt W4.out.2.2.2.2.1)).kept n3 (by omega), (Blk.later W4.out.2.2.2.2.2.1 hb (Blk.lt W4.out.2.2.2.2.2.1)).kept n3 (by omega), W4.out.2.2.2.2.2.2.trans ((Kept.new _ hb).trans n3)⟩
      obtain ⟨y4, rfl⟩ : ∃ q, q = y := ⟨_, rfl⟩
      clear W4 n1 n2 n3 hb
      go_wp2_with (go_at_call 167; refine (carry_any g (r0 % 2251799813685248 + r4 / 2251799813685248 * 19) (r1 % 2251799813685248 + r0 / 2251799813685248) (r2 % 2251799813685248 + r1 / 2251799813685248) (r3 % 2251799813685248 + r2 / 2251799813685248) (r4 % 2251799813685248 + r3 / 2251799813685248) _ W5.out.1 HR.out.2.1 HR.out.2.2.1 HR.out.2.2.2.1 HR.out.2.2.2.2.1 HR.out.2.2.2.2.2).mono ?_; rintro z w' ⟨rfl, q1, q2⟩)
      go_end0
      exact ⟨rfl, ⟨_, q1, HR.out.1⟩, W5.out.2.2.2.2.2.2.trans q2⟩
theorem square_any (l : List Int) (x : Int) (hl : Fe l x) (w : World) :
  Calls Tryz.prog 128 #[.agg (u64s l).toArray] w fun e w' => ∃ r, e = .returned (.agg (u64s r).toArray) ∧ Fe r (x * x % PR) ∧ Below w.heap.size w w' := by
 obtain ⟨a0, a1, a2, a3, a4, rfl, ha0, ha1, ha2, ha3, ha4, hx⟩ := hl.parts
 have MR := mul_rows a0 a1 a2 a3 a4 a0 a1 a2 a3 a4 ha0 ha1 ha2 ha3 ha4 ha0 ha1 ha2 ha3 ha4
 obtain ⟨t0, t1, t2, t3, t4⟩ := sq_rows a0 a1 a2 a3 a4
 rw [Int.mul_emod, hx, ← t0, ← t1, ← t2, ← t3, ← t4] at MR
 have HF : Hid (v5 (a0 * a0 + (a1 * 2) * (a4 * 19) + (a2 * 2) * (a3 * 19)) ((a0 * 2) * a1 + (a2 * 2) * (a4 * 19) + a3 * (a3 * 19)) ((a0 * 2) * a2 + a1 * a1 + (a3 * 2) * (a4 * 19)) ((a0 * 2) * a3 + (a1 * 2) * a2 + a4 * (a4 * 19)) ((a0 * 2) * a4 + (a1 * 2) * a3 + a2 * a2) % PR = x * x % PR ∧ (∀ y, Blk y w.heap.size 116 (u64s [a0, a1, a2, a3, a4]) → Calls Tryz.prog 170 #[.pointer (some ⟨w.heap.size, 0, none⟩), (.agg (u64s (pr (a0 * a0 + (a1 * 2) * (a4 * 19) + (a2 * 2) * (a3 * 19)))).toArray), (.agg (u64s (pr ((a0 * 2) * a1 + (a2 * 2) * (a4 * 19) + a3 * (a3 * 19)))).toArray), (.agg (u64s (pr ((a0 * 2) * a2 + a1 * a1 + (a3 * 2) * (a4 * 19)))).toArray), (.agg (u64s (pr ((a0 * 2) * a3 + (a1 * 2) * a2 + a4 * (a4 * 19)))).toArray), (.agg (u64s (pr ((a0 * 2) * a4 + (a1 * 2) * a3 + a2 * a2))).toArray)] y fun x w' => x = .returned (.tuple #[]) ∧ (∃ l, Blk w' w.heap.size 116 (u64s l) ∧ Fe l (v5 (a0 * a0 + (a1 * 2) * (a4 * 19) + (a2 * 2) * (a3 * 19)) ((a0 * 2) * a1 + (a2 * 2) * (a4 * 19) + a3 * (a3 * 19)) ((a0 * 2) * a2 + a1 * a1 + (a3 * 2) * (a4 * 19)) ((a0 * 2) * a3 + (a1 * 2) * a2 + a4 * (a4 * 19)) ((a0 * 2) * a4 + (a1 * 2) * a3 + a2 * a2) % PR)) ∧ Kept (fun k => k = w.heap.size) y w')) := ⟨MR.2.2.2.2.2, fun y hB => fold_any _ _ _ _ _ _ _ _ _ _ _ y hB MR.1 MR.2.1 MR.2.2.1 MR.2.2.2.1 MR.2.2.2.2.1⟩
 clear MR hx hl t0 t1 t2 t3 t4
 have w_a0x2 : Word (a0 * 2) := ⟨by have := ha0; unfold Lim at *; omega, by have := ha0; unfold Lim at *; omega⟩
 have w_a1x2 : Word (a1 * 2) := ⟨by have := ha1; unfold Lim at *; omega, by have := ha1; unfold Lim at *; omega⟩
 have w_a2x2 : Word (a2 * 2) := ⟨by have := ha2; unfold Lim at *; omega, by have := ha2; unfold Lim at *; omega⟩
 have w_a3x19 : Word (a3 * 19) := ⟨by have := ha3; unfold Lim at *; omega, by have := ha3; unfold Lim at *; omega⟩
 have w_a3x2 : Word (a3 * 2) := ⟨by have := ha3; unfold Lim at *; omega, by have := ha3; unfold Lim at *; omega⟩
 have w_a4x19 : Word (a4 * 19) := ⟨by have := ha4; unfold Lim at *; omega, by have := ha4; unfold Lim at *; omega⟩
 have w_a0 : Word a0 := ⟨by have := ha0; unfold Lim at *; omega, by have := ha0; unfold Lim at *; omega⟩
 have w_a1 : Word a1 := ⟨by have := ha1; unfold Lim at *; omega, by have := ha1; unfold Lim at *; omega⟩
 have w_a2 : Word a2 := ⟨by have := ha2; unfold Lim at *; omega, by have := ha2; unfold Lim at *; omega⟩
 have w_a3 : Word a3 := ⟨by have := ha3; unfold Lim at *; omega, by have := ha3; unfold Lim at *; omega⟩
 have w_a4 : Word a4 := ⟨by have := ha4; unfold Lim at *; omega, by have := ha4; unfold Lim at *; omega⟩
 have p00 := mbN (x := a0) (y := a0) (X := 144115188075855872) (Y := 144115188075855872) (Z := 20769187434139310514121985316880384) (by decide) (by unfold Lim at *; omega) (by unfold Lim at *; omega)
 have p01 := mbN (x := (a1 * 2)) (y := (a4 * 19)) (X := 144115188075855872) (Y := 144115188075855872) (Z := 20769187434139310514121985316880384) (by decide) (by unfold Lim at *; omega) (by unfold Lim at *; omega)
 have p02 := mbN (x := (a2 * 2)) (y := (a3 * 19)) (X := 144115188075855872) (Y := 144115188075855872) (Z := 20769187434139310514121985316880384) (by decide) (by unfold Lim at *; omega) (by unfold Lim at *; omega)
 have p10 := mbN (x := (a0 * 2)) (y := a1) (X := 144115188075855872) (Y := 144115188075855872) (Z := 20769187434139310514121985316880384) (by decide) (by unfold Lim at *; omega) (by unfold Lim at *; omega)
 have p11 := mbN (x := (a2 * 2)) (y := (a4 * 19)) (X := 144115188075855872) (Y := 144115188075855872) (Z := 20769187434139310514121985316880384) (by decide) (by unfold Lim at *; omega) (by unfold Lim at *; omega)
 have p12 := mbN (x := a3) (y := (a3 * 19)) (X := 144115188075855872) (Y := 144115188075855872) (Z := 20769187434139310514121985316880384) (by decide) (by unfold Lim at *; omega) (by unfold Lim at *; omega)
 have p20 := mbN (x := (a0 * 2)) (y := a2) (X := 144115188075855872) (Y := 144115188075855872) (Z := 20769187434139310514121985316880384) (by decide) (by unfold Lim at *; omega) (by unfold Lim at *; omega)
 have p21 := mbN (x := a1) (y := a1) (X := 144115188075855872) (Y := 144115188075855872) (Z := 20769187434139310514121985316880384) (by decide) (by unfold Lim at *; omega) (by unfold Lim at *; omega)
 have p22 := mbN (x := (a3 * 2)) (y := (a4 * 19)) (X := 144115188075855872) (Y := 144115188075855872) (Z := 20769187434139310514121985316880384) (by decide) (by unfold Lim at *; omega) (by unfold Lim at *; omega)
 have p30 := mbN (x := (a0 * 2)) (y := a3) (X := 144115188075855872) (Y := 144115188075855872) (Z := 20769187434139310514121985316880384) (by decide) (by unfold Lim at *; omega) (by unfold Lim at *; omega)
 have p31 := mbN (x := (a1 * 2)) (y := a2) (X := 144115188075855872) (Y := 144115188075855872) (Z := 20769187434139310514121985316880384) (by decide) (by unfold Lim at *; omega) (by unfold Lim at *; omega)
 have p32 := mbN (x := a4) (y := (a4 * 19)) (X := 144115188075855872) (Y := 144115188075855872) (Z := 20769187434139310514121985316880384) (by decide) (by unfold Lim at *; omega) (by unfold Lim at *; omega)
 have p40 := mbN (x := (a0 * 2)) (y := a4) (X := 144115188075855872) (Y := 144115188075855872) (Z := 20769187434139310514121985316880384) (by decide) (by unfold Lim at *; omega) (by unfold Lim at *; omega)
 have p41 := mbN (x := (a1 * 2)) (y := a3) (X := 144115188075855872) (Y := 144115188075855872) (Z := 20769187434139310514121985316880384) (by decide) (by unfold Lim at *; omega) (by unfold Lim at *; omega)
 have p42 := mbN (x := a2) (y := a2) (X := 144115188075855872) (Y := 144115188075855872) (Z := 20769187434139310514121985316880384) (by decide) (by unfold Lim at *; omega) (by unfold Lim at *; omega)
 have H0 : Hid ((∀ w, Calls Tryz.prog 168 #[(.int .u64 a0), (.int .u64 a0)] w fun e w' => e = .returned (.agg (u64s (pr (a0 * a0))).toArray) ∧ Below w.heap.size w w') ∧ (∀ w, Calls Tryz.prog 169 #[(.agg (u64s (pr (a0 * a0))).toArray), (.int .u64 (a1 * 2)), (.int .u64 (a4 * 19))] w fun e w' => e = .returned (.agg (u64s (pr (a0 * a0 + (a1 * 2) * (a4 * 19)))).toArray) ∧ Below w.heap.size w w') ∧ (∀ w, Calls Tryz.prog 169 #[(.agg (u64s (pr (a0 * a0 + (a1 * 2) * (a4 * 19)))).toArray), (.int .u64 (a2 * 2)), (.int .u64 (a3 * 19))] w fun e w' => e = .returned (.agg (u64s (pr (a0 * a0 + (a1 * 2) * (a4 * 19) + (a2 * 2) * (a3 * 19)))).toArray) ∧ Below w.heap.size w w')) := ⟨fproduct_any _ _ w_a0 w_a0, fplus_any _ _ _ w_a1x2 w_a4x19 (by omega) (by omega), fplus_any _ _ _ w_a2x2 w_a3x19 (by omega) (by omega)⟩
 have H1 : Hid ((∀ w, Calls Tryz.prog 168 #[(.int .u64 (a0 * 2)), (.int .u64 a1)] w fun e w' => e = .returned (.agg (u64s (pr ((a0 * 2) * a1))).toArray) ∧ Below w.heap.size w w') ∧ (∀ w, Calls Tryz.prog 169 #[(.agg (u64s (pr ((a0 * 2) * a1))).toArray), (.int .u64 (a2 * 2)), (.int .u64 (a4 * 19))] w fun e w' => e = .returned (.agg (u64s (pr ((a0 * 2) * a1 + (a2 * 2) * (a4 * 19)))).toArray) ∧ Below w.heap.size w w') ∧ (∀ w, Calls Tryz.prog 169 #[(.agg (u64s (pr ((a0 * 2) * a1 + (a2 * 2) * (a4 * 19)))).toArray), (.int .u64 a3), (.int .u64 (a3 * 19))] w fun e w' => e = .returned (.agg (u64s (pr ((a0 * 2) * a1 + (a2 * 2) * (a4 * 19) + a3 * (a3 * 19)))).toArray) ∧ Below w.heap.size w w')) := ⟨fproduct_any _ _ w_a0x2 w_a1, fplus_any _ _ _ w_a2x2 w_a4x19 (by omega) (by omega), fplus_any _ _ _ w_a3 w_a3x19 (by omega) (by omega)⟩
 have H2 : Hid ((∀ w, Calls Tryz.prog 168 #[(.int .u64 (a0 * 2)), (.int .u64 a2)] w fun e w' => e = .returned (.agg (u64s (pr ((a0 * 2) * a2))).toArray) ∧ Below w.heap.size w w') ∧ (∀ w, Calls Tryz.prog 169 #[(.agg (u64s (pr ((a0 * 2) * a2))).toArray), (.int .u64 a1), (.int .u64 a1)] w fun e w' => e = .returned (.agg (u64s (pr ((a0 * 2) * a2 + a1 * a1))).toArray) ∧ Below w.heap.size w w') ∧ (∀ w, Calls Tryz.prog 169 #[(.agg (u64s (pr ((a0 * 2) * a2 + a1 * a1))).toArray), (.int .u64 (a3 * 2)), (.int .u64 (a4 * 19))] w fun e w' => e = .returned (.agg (u64s (pr ((a0 * 2) * a2 + a1 * a1 + (a3 * 2) * (a4 * 19)))).toArray) ∧ Below w.heap.size w w')) := ⟨fproduct_any _ _ w_a0x2 w_a2, fplus_any _ _ _ w_a1 w_a1 (by omega) (by omega), fplus_any _ _ _ w_a3x2 w_a4x19 (by omega) (by omega)⟩
 have H3 : Hid ((∀ w, Calls Tryz.prog 168 #[(.int .u64 (a0 * 2)), (.int .u64 a3)] w fun e w' => e = .returned (.agg (u64s (pr ((a0 * 2) * a3))).toArray) ∧ Below w.heap.size w w') ∧ (∀ w, Calls Tryz.prog 169 #[(.agg (u64s (pr ((a0 * 2) * a3))).toArray), (.int .u64 (a1 * 2)), (.int .u64 a2)] w fun e w' => e = .returned (.agg (u64s (pr ((a0 * 2) * a3 + (a1 * 2) * a2))).toArray) ∧ Below w.heap.size w w') ∧ (∀ w, Calls Tryz.prog 169 #[(.agg (u64s (pr ((a0 * 2) * a3 + (a1 * 2) * a2))).toArray), (.int .u64 a4), (.int .u64 (a4 * 19))] w fun e w' => e = .returned (.agg (u64s (pr ((a0 * 2) * a3 + (a1 * 2) * a2 + a4 * (a4 * 19)))).toArray) ∧ Below w.heap.size w w')) := ⟨fproduct_any _ _ w_a0x2 w_a3, fplus_any _ _ _ w_a1x2 w_a2 (by omega) (by omega), fplus_any _ _ _ w_a4 w_a4x19 (by omega) (by omega)⟩
 have H4 : Hid ((∀ w, Calls Tryz.prog 168 #[(.int .u64 (a0 * 2)), (.int .u64 a4)] w fun e w' => e = .returned (.agg (u64s (pr ((a0 * 2) * a4))).toArray) ∧ Below w.heap.size w w') ∧ (∀ w, Calls Tryz.prog 169 #[(.agg (u64s (pr ((a0 * 2) * a4))).toArray), (.int .u64 (a1 * 2)), (.int .u64 a3)] w fun e w' => e = .returned (.agg (u64s (pr ((a0 * 2) * a4 + (a1 * 2) * a3))).toArray) ∧ Below w.heap.size w w') ∧ (∀ w, Calls Tryz.prog 169 #[(.agg (u64s (pr ((a0 * 2) * a4 + (a1 * 2) * a3))).toArray), (.int .u64 a2), (.int .u64 a2)] w fun e w' => e = .returned (.agg (u64s (pr ((a0 * 2) * a4 + (a1 * 2) * a3 + a2 * a2))).toArray) ∧ Below w.heap.size w w')) := ⟨fproduct_any _ _ w_a0x2 w_a4, fplus_any _ _ _ w_a1x2 w_a3 (by omega) (by omega), fplus_any _ _ _ w_a2 w_a2 (by omega) (by omega)⟩
 have u_w_a0x2 : IntKind.u64.wrap (a0 * 2) = (a0 * 2) := by rw [IntKind.wrap_u64]; have := w_a0x2; unfold Word at this; omega
 have u_w_a1x2 : IntKind.u64.wrap (a1 * 2) = (a1 * 2) := by rw [IntKind.wrap_u64]; have := w_a1x2; unfold Word at this; omega
 have u_w_a2x2 : IntKind.u64.wrap (a2 * 2) = (a2 * 2) := by rw [IntKind.wrap_u64]; have := w_a2x2; unfold Word at this; omega
 have u_w_a3x19 : IntKind.u64.wrap (a3 * 19) = (a3 * 19) := by rw [IntKind.wrap_u64]; have := w_a3x19; unfold Word at this; omega
 have u_w_a3x2 : IntKind.u64.wrap (a3 * 2) = (a3 * 2) := by rw [IntKind.wrap_u64]; have := w_a3x2; unfold Word at this; omega
 have u_w_a4x19 : IntKind.u64.wrap (a4 * 19) = (a4 * 19) := by rw [IntKind.wrap_u64]; have := w_a4x19; unfold Word at this; omega
 generalize a0 * a0 = s00 at H0 HF
 generalize s00 + (a1 * 2) * (a4 * 19) = s01 at H0 HF
 generalize s01 + (a2 * 2) * (a3 * 19) = s02 at H0 HF
 generalize (a0 * 2) * a1 = s10 at H1 HF
 generalize s10 + (a2 * 2) * (a4 * 19) = s11 at H1 HF
 generalize s11 + a3 * (a3 * 19) = s12 at H1 HF
 generalize (a0 * 2) * a2 = s20 at H2 HF
 generalize s20 + a1 * a1 = s21 at H2 HF
 generalize s21 + (a3 * 2) * (a4 * 19) = s22 at H2 HF
 generalize (a0 * 2) * a3 = s30 at H3 HF
 generalize s30 + (a1 * 2) * a2 = s31 at H3 HF
 generalize s31 + a4 * (a4 * 19) = s32 at H3 HF
 generalize (a0 * 2) * a4 = s40 at H4 HF
 generalize s40 + (a1 * 2) * a3 = s41 at H4 HF
 generalize s41 + a2 * a2 = s42 at H4 HF
 clear ha0 ha1 ha2 ha3 ha4 p00 p01 p02 p10 p11 p12 p20 p21 p22 p30 p31 p32 p40 p41 p42 w_a0 w_a0x2 w_a1 w_a1x2 w_a2 w_a2x2 w_a3 w_a3x19 w_a3x2 w_a4 w_a4x19
 go_enter Tryz.func128, Tryz.ntmps128
 go_wp2_with (first | (refine wpList_box_new rfl 116 (.tmp 0) rfl (u64s [a0, a1, a2, a3, a4]) rfl ?_; intro x1 z1 s1 l1) | (refine wpList_alloc_new rfl 116 rfl 5 _ zeroElem ?_; intro x3 z3 s3 l3))
 rw [s1] at z3
 have B2 := z1.later l3 (by omega)
 have c0 : x3.cell? ⟨w.heap.size, 0, none⟩ = some (.int .u64 a0) := B2.cell 0
 have c1 : x3.cell? ⟨w.heap.size, 1, none⟩ = some (.int .u64 a1) := B2.cell 1
 have c2 : x3.cell? ⟨w.heap.size, 2, none⟩ = some (.int .u64 a2) := B2.cell 2
 have c3 : x3.cell? ⟨w.heap.size, 3, none⟩ = some (.int .u64 a3) := B2.cell 3
 have c4 : x3.cell? ⟨w.heap.size, 4, none⟩ = some (.int .u64 a4) := B2.cell 4
 have WW : Hid (Below w.heap.size w x3 ∧ Blk x3 w.heap.size 116 (u64s [a0, a1, a2, a3, a4]) ∧ Blk x3 (w.heap.size + 1) 116 (u64s [0, 0, 0, 0, 0])) := ⟨below_chain l1 l3 (by omega), B2, z3⟩
 clear z1 s1 l1 z3 s3 l3 B2
 try go_wp2_with fail
 go_quiet (fail)
 go_wp2_with fail
 obtain ⟨na, hna⟩ : ∃ q, nq = q := ⟨_, rfl⟩
 rw [hna]
 go_quiet (fail)
 go_wp2_with fail
 obtain ⟨y0, hy0⟩ : ∃ q, (x3.drewN na).drewN nq = q := ⟨_, rfl⟩
 have W0 : Hid (Below w.heap.size w y0 ∧ Blk y0 w.heap.size 116 (u64s [a0, a1, a2, a3, a4]) ∧ Blk y0 (w.heap.size + 1) 116 (u64s [0, 0, 0, 0, 0]) ∧ True) := by
  rw [← hy0]
  exact ⟨below_dn (below_dn WW.out.1 na) nq, WW.out.2.1, WW.out.2.2, trivial⟩
 rw [hy0]
 clear WW c0 c1 c2 c3 c4 hy0 hna
 refine region_invT [.val (.pointer (some ⟨w.heap.size, 0, none⟩)), .val (.pointer (some ⟨w.heap.size, 0, none⟩)), .val (.pointer (some ⟨w.heap.size, 0, none⟩)), .val (.int .u64 a0), .val (.pointer (some ⟨w.heap.size, 0, none⟩)), .val (.pointer (some ⟨w.heap.size, 0, none⟩)), .val (.pointer (some ⟨w.heap.size, 0, none⟩)), .val (.int .u64 a0), .val (.agg (u64s (pr s00)).toArray), .val (.int .u64 (a1 * 2)), .val (.int .u64 (a4 * 19)), .val (.agg (u64s (pr s01)).toArray), .val (.int .u64 (a2 * 2)), .val (.int .u64 (a3 * 19)), .val (.agg (u64s (pr s02)).toArray), .blk 206 (u64s [0, 0])] (by kernel_rfl) (by kernel_rfl) (by kernel_rfl) ?_ ?_
 ·refine Steps'.cons ?_ (Steps'.cons ?_ (Steps'.cons ?_ (Steps'.cons ?_ (Steps'.cons ?_ (Steps'.cons ?_ (Steps'.cons ?_ (Steps'.cons ?_ (Steps'.cons ?_ (Steps'.cons ?_ (Steps'.cons ?_ (Steps'.cons ?_ (Steps'.cons ?_ (Steps'.cons ?_ (Steps'.cons ?_ (Steps'.cons ?_ (Steps'.one _ _ _ _ _ _ _))))))))))))))))
  ·intro ax wx hb hs hd
   have h3 : ax.tmps.getD 3 undef = (.pointer (some ⟨w.heap.size, 0, none⟩)) := hs 3 (by kernel_rfl)
   exact Does.value _ (by clear hs hd; go_simp) rfl
  ·intro ax wx hb hs hd
   have h46 := vOf (hd 0 46 rfl (by kernel_rfl) (by decide))
   exact Does.value _ (by clear hs hd; go_simp) rfl
  ·intro ax wx hb hs hd
   have h47 := vOf (hd 1 47 rfl (by kernel_rfl) (by decide))
   exact Does.value _ (by clear hs hd; go_simp) rfl
  ·intro ax wx hb hs hd
   have h48 := vOf (hd 2 48 rfl (by kernel_rfl) (by decide))
   have cx : wx.cell? ⟨w.heap.size, 0, none⟩ = some (.int .u64 a0) := (Blk.later W0.out.2.1 hb (Blk.lt W0.out.2.1)).cell 0
   exact Does.value _ (by clear hs hd; go_simp) rfl
  ·intro ax wx hb hs hd
   have h3 : ax.tmps.getD 3 undef = (.pointer (some ⟨w.heap.size, 0, none⟩)) := hs 3 (by kernel_rfl)
   exact Does.value _ (by clear hs hd; go_simp) rfl
  ·intro ax wx hb hs hd
   have h50 := vOf (hd 4 50 rfl (by kernel_rfl) (by decide))
   exact Does.value _ (by clear hs hd; go_simp) rfl
  ·intro ax wx hb hs hd
   have h51 := vOf (hd 5 51 rfl (by kernel_rfl) (by decide))
   exact Does.value _ (by clear hs hd; go_simp) rfl
  ·intro ax wx hb hs hd
   have h52 := vOf (hd 6 52 rfl (by kernel_rfl) (by decide))
   have cx : wx.cell? ⟨w.heap.size, 0, none⟩ = some (.int .u64 a0) := (Blk.later W0.out.2.1 hb (Blk.lt W0.out.2.1)).cell 0
   exact Does.value _ (by clear hs hd; go_simp) rfl
  ·intro ax wx hb hs hd
   have h49 := vOf (hd 3 49 rfl (by kernel_rfl) (by decide))
   have h53 := vOf (hd 7 53 rfl (by kernel_rfl) (by decide))
   refine Does.call 168 #[(.int .u64 a0), (.int .u64 a0)] (by clear hs hd; go_simp) ?_
   refine (H0.out.1 _).mono ?_
   rintro z w' ⟨rfl, l⟩
   exact ⟨_, rfl, rfl, l⟩
  ·intro ax wx hb hs hd
   have h5 : ax.tmps.getD 5 undef = (.int .u64 (a1 * 2)) := hs 5 (by kernel_rfl)
   exact Does.value _ (by clear hs hd; go_simp) rfl
  ·intro ax wx hb hs hd
   have h9 : ax.tmps.getD 9 undef = (.int .u64 (a4 * 19)) := hs 9 (by kernel_rfl)
   exact Does.value _ (by clear hs hd; go_simp) rfl
  ·intro ax wx hb hs hd
   have h54 := vOf (hd 8 54 rfl (by kernel_rfl) (by decide))
   have h55 := vOf (hd 9 55 rfl (by kernel_rfl) (by decide))
   have h56 := vOf (hd 10 56 rfl (by kernel_rfl) (by decide))
   refine Does.call 169 #[(.agg (u64s (pr s00)).toArray), (.int .u64 (a1 * 2)), (.int .u64 (a4 * 19))] (by clear hs hd; go_simp) ?_
   refine (H0.out.2.1 _).mono ?_
   rintro z w' ⟨rfl, l⟩
   exact ⟨_, rfl, rfl, l⟩
  ·intro ax wx hb hs hd
   have h6 : ax.tmps.getD 6 undef = (.int .u64 (a2 * 2)) := hs 6 (by kernel_rfl)
   exact Does.value _ (by clear hs hd; go_simp) rfl
  ·intro ax wx hb hs hd
   have h8 : ax.tmps.getD 8 undef = (.int .u64 (a3 * 19)) := hs 8 (by kernel_rfl)
   exact Does.value _ (by clear hs hd; go_simp) rfl
  ·intro ax wx hb hs hd
   have h57 := vOf (hd 11 57 rfl (by kernel_rfl) (by decide))
   have h58 := vOf (hd 12 58 rfl (by kernel_rfl) (by decide))
   have h59 := vOf (hd 13 59 rfl (by kernel_rfl) (by decide))
   refine Does.call 169 #[(.agg (u64s (pr s01)).toArray), (.int .u64 (a2 * 2)), (.int .u64 (a3 * 19))] (by clear hs hd; go_simp) ?_
   refine (H0.out.2.2 _).mono ?_
   rintro z w' ⟨rfl, l⟩
   exact ⟨_, rfl, rfl, l⟩
  ·intro ax wx hb hs hd
   exact Does.alloc 206 rfl 2 _ zeroWide hb.size
 ·intro wx hb
  iterate 15 refine @Ends.val _ _ _ _ _ _ _ _ _ _ rfl ?_
  refine @Ends.blk _ _ _ _ _ _ _ _ _ 206 (u64s [0, 0]) rfl ?_
  intro g15 hg15 bg15
  refine @Ends.one _ _ _ _ _ _ _ ?_
  simp only [Act.put, sA, sB, sC]
  obtain ⟨G0, hG0⟩ : ∃ q, q = g15 := ⟨_, rfl⟩
  subst hG0
  refine last_store 206 (.tmp 10) (.tmp 60) rfl rfl G0 rfl 206 _ (u64s (pr s02)) rfl bg15 rfl sizeWide (u64s_one _) ?_
  intro y n1 n2 n3
  have q5 := hb.size
  have q10 := W0.out.2.1.lt
  have q11 := W0.out.2.2.1.lt
  have qz := W0.out.2.2.2
  have W1 : Hid (Below w.heap.size w y ∧ Blk y w.heap.size 116 (u64s [a0, a1, a2, a3, a4]) ∧ Blk y (w.heap.size + 1) 116 (u64s [0, 0, 0, 0, 0]) ∧ Blk y G0 206 (u64s (pr s02)) ∧ True ∧ w.heap.size + 2 ≤ G0) := ⟨below_kept (below_chain W0.out.1 hb (by omega)) n3 (by omega) (fun j hj => by omega), (W0.out.2.1.later hb q10).kept n3 (by omega), (W0.out.2.2.1.later hb q11).kept n3 (by omega), n1, trivial, by omega⟩
  obtain ⟨y1, rfl⟩ : ∃ q, q = y := ⟨_, rfl⟩
  clear W0 H0 n1 n2 n3 hb q5 qz hg15 bg15 q10 q11
  go_wp2_with fail
  refine region_invT [.val (.int .u64 (a0 * 2)), .val (.pointer (some ⟨w.heap.size, 0, none⟩)), .val (.pointer (some ⟨w.heap.size, 0, none⟩)), .val (.pointer (some ⟨w.heap.size, 1, none⟩)), .val (.int .u64 a1), .val (.agg (u64s (pr s10)).toArray), .val (.int .u64 (a2 * 2)), .val (.int .u64 (a4 * 19)), .val (.agg (u64s (pr s11)).toArray), .val (.pointer (some ⟨w.heap.size, 0, none⟩)), .val (.pointer (some ⟨w.heap.size, 0, none⟩)), .val (.pointer (some ⟨w.heap.size, 3, none⟩)), .val (.int .u64 a3), .val (.int .u64 (a3 * 19)), .val (.agg (u64s (pr s12)).toArray), .blk 206 (u64s [0, 0])] (by kernel_rfl) (by kernel_rfl) (by kernel_rfl) ?_ ?_
  ·refine Steps'.cons ?_ (Steps'.cons ?_ (Steps'.cons ?_ (Steps'.cons ?_ (Steps'.cons ?_ (Steps'.cons ?_ (Steps'.cons ?_ (Steps'.cons ?_ (Steps'.cons ?_ (Steps'.cons ?_ (Steps'.cons ?_ (Steps'.cons ?_ (Steps'.cons ?_ (Steps'.cons ?_ (Steps'.cons ?_ (Steps'.cons ?_ (Steps'.one _ _ _ _ _ _ _))))))))))))))))
   ·intro ax wx hb hs hd
    have h4 : ax.tmps.getD 4 undef = (.int .u64 (a0 * 2)) := hs 4 (by kernel_rfl)
    exact Does.value _ (by clear hs hd; go_simp) rfl
   ·intro ax wx hb hs hd
    have h3 : ax.tmps.getD 3 undef = (.pointer (some ⟨w.heap.size, 0, none⟩)) := hs 3 (by kernel_rfl)
    exact Does.value _ (by clear hs hd; go_simp) rfl
   ·intro ax wx hb hs hd
    have h62 := vOf (hd 1 62 rfl (by kernel_rfl) (by decide))
    exact Does.value _ (by clear hs hd; go_simp) rfl
   ·intro ax wx hb hs hd
    have h63 := vOf (hd 2 63 rfl (by kernel_rfl) (by decide))
    exact Does.value _ (by clear hs hd; go_simp) rfl
   ·intro ax wx hb hs hd
    have h64 := vOf (hd 3 64 rfl (by kernel_rfl) (by decide))
    have cx : wx.cell? ⟨w.heap.size, 1, none⟩ = some (.int .u64 a1) := (Blk.later W1.out.2.1 hb (Blk.lt W1.out.2.1)).cell 1
    exact Does.value _ (by clear hs hd; go_simp) rfl
   ·intro ax wx hb hs hd
    have h61 := vOf (hd 0 61 rfl (by kernel_rfl) (by decide))
    have h65 := vOf (hd 4 65 rfl (by kernel_rfl) (by decide))
    refine Does.call 168 #[(.int .u64 (a0 * 2)), (.int .u64 a1)] (by clear hs hd; go_simp) ?_
    refine (H1.out.1 _).mono ?_
    rintro z w' ⟨rfl, l⟩
    exact ⟨_, rfl, rfl, l⟩
   ·intro ax wx hb hs hd
    have h6 : ax.tmps.getD 6 undef = (.int .u64 (a2 * 2)) := hs 6 (by kernel_rfl)
    exact Does.value _ (by clear hs hd; go_simp) rfl
   ·intro ax wx hb hs hd
    have h9 : ax.tmps.getD 9 undef = (.int .u64 (a4 * 19)) := hs 9 (by kernel_rfl)
    exact Does.value _ (by clear hs hd; go_simp) rfl
   ·intro ax wx hb hs hd
    have h66 := vOf (hd 5 66 rfl (by kernel_rfl) (by decide))
    have h67 := vOf (hd 6 67 rfl (by kernel_rfl) (by decide))
    have h68 := vOf (hd 7 68 rfl (by kernel_rfl) (by decide))
    refine Does.call 169 #[(.agg (u64s (pr s10)).toArray), (.int .u64 (a2 * 2)), (.int .u64 (a4 * 19))] (by clear hs hd; go_simp) ?_
    refine (H1.out.2.1 _).mono ?_
    rintro z w' ⟨rfl, l⟩
    exact ⟨_, rfl, rfl, l⟩
   ·intro ax wx hb hs hd
    have h3 : ax.tmps.getD 3 undef = (.pointer (some ⟨w.heap.size, 0, none⟩)) := hs 3 (by kernel_rfl)
    exact Does.value _ (by clear hs hd; go_simp) rfl
   ·intro ax wx hb hs hd
    have h70 := vOf (hd 9 70 rfl (by kernel_rfl) (by decide))
    exact Does.value _ (by clear hs hd; go_simp) rfl
   ·intro ax wx hb hs hd
    have h71 := vOf (hd 10 71 rfl (by kernel_rfl) (by decide))
    exact Does.value _ (by clear hs hd; go_simp) rfl
   ·intro ax wx hb hs hd
    have h72 := vOf (hd 11 72 rfl (by kernel_rfl) (by decide))
    have cx : wx.cell? ⟨w.heap.size, 3, none⟩ = some (.int .u64 a3) := (Blk.later W1.out.2.1 hb (Blk.lt W1.out.2.1)).cell 3
    exact Does.value _ (by clear hs hd; go_simp) rfl
   ·intro ax wx hb hs hd
    have h8 : ax.tmps.getD 8 undef = (.int .u64 (a3 * 19)) := hs 8 (by kernel_rfl)
    exact Does.value _ (by clear hs hd; go_simp) rfl
   ·intro ax wx hb hs hd
    have h69 := vOf (hd 8 69 rfl (by kernel_rfl) (by decide))
    have h73 := vOf (hd 12 73 rfl (by kernel_rfl) (by decide))
    have h74 := vOf (hd 13 74 rfl (by kernel_rfl) (by decide))
    refine Does.call 169 #[(.agg (u64s (pr s11)).toArray), (.int .u64 a3), (.int .u64 (a3 * 19))] (by clear hs hd; go_simp) ?_
    refine (H1.out.2.2 _).mono ?_
    rintro z w' ⟨rfl, l⟩
    exact ⟨_, rfl, rfl, l⟩
   ·intro ax wx hb hs hd
    exact Does.alloc 206 rfl 2 _ zeroWide hb.size
  ·intro wx hb
   iterate 15 refine @Ends.val _ _ _ _ _ _ _ _ _ _ rfl ?_
   refine @Ends.blk _ _ _ _ _ _ _ _ _ 206 (u64s [0, 0]) rfl ?_
   intro g15 hg15 bg15
   refine @Ends.one _ _ _ _ _ _ _ ?_
   simp only [Act.put, sA, sB, sC]
   obtain ⟨G1, hG1⟩ : ∃ q, q = g15 := ⟨_, rfl⟩
   subst hG1
   refine last_store 206 (.tmp 11) (.tmp 75) rfl rfl G1 rfl 206 _ (u64s (pr s12)) rfl bg15 rfl sizeWide (u64s_one _) ?_
   intro y n1 n2 n3
   have q5 := hb.size
   have q10 := W1.out.2.1.lt
   have q11 := W1.out.2.2.1.lt
   have q12 := W1.out.2.2.2.1.lt
   have qz := W1.out.2.2.2.2
   have W2 : Hid (Below w.heap.size w y ∧ Blk y w.heap.size 116 (u64s [a0, a1, a2, a3, a4]) ∧ Blk y (w.heap.size + 1) 116 (u64s [0, 0, 0, 0, 0]) ∧ Blk y G0 206 (u64s (pr s02)) ∧ Blk y G1 206 (u64s (pr s12)) ∧ True ∧ w.heap.size + 2 ≤ G0 ∧ w.heap.size + 2 ≤ G1 ∧ G0 < G1) := ⟨below_kept (below_chain W1.out.1 hb (by omega)) n3 (by omega) (fun j hj => by omega), (W1.out.2.1.later hb q10).kept n3 (by omega), (W1.out.2.2.1.later hb q11).kept n3 (by omega), (W1.out.2.2.2.1.later hb q12).kept n3 (by omega), n1, trivial, by omega, by omega, by omega⟩
   obtain ⟨y2, rfl⟩ : ∃ q, q = y := ⟨_, rfl⟩
   clear W1 H1 n1 n2 n3 hb q5 qz hg15 bg15 q10 q11 q12
   go_wp2_with fail
   refine region_invT [.val (.int .u64 (a0 * 2)), .val (.pointer (some ⟨w.heap.size, 0, none⟩)), .val (.pointer (some ⟨w.heap.size, 0, none⟩)), .val (.pointer (some ⟨w.heap.size, 2, none⟩)), .val (.int .u64 a2), .val (.agg (u64s (pr s20)).toArray), .val (.pointer (some ⟨w.heap.size, 0, none⟩)), .val (.pointer (some ⟨w.heap.size, 0, none⟩)), .val (.pointer (some ⟨w.heap.size, 1, none⟩)), .val (.int .u64 a1), .val (.pointer (some ⟨w.heap.size, 0, none⟩)), .val (.pointer (some ⟨w.heap.size, 0, none⟩)), .val (.pointer (some ⟨w.heap.size, 1, none⟩)), .val (.int .u64 a1), .val (.agg (u64s (pr s21)).toArray), .val (.int .u64 (a3 * 2)), .val (.int .u64 (a4 * 19)), .val (.agg (u64s (pr s22)).toArray), .blk 206 (u64s [0, 0])] (by kernel_rfl) (by kernel_rfl) (by kernel_rfl) ?_ ?_
   ·refine Steps'.cons ?_ (Steps'.cons ?_ (Steps'.cons ?_ (Steps'.cons ?_ (Steps'.cons ?_ (Steps'.cons ?_ (Steps'.cons ?_ (Steps'.cons ?_ (Steps'.cons ?_ (Steps'.cons ?_ (Steps'.cons ?_ (Steps'.cons ?_ (Steps'.cons ?_ (Steps'.cons ?_ (Steps'.cons ?_ (Steps'.cons ?_ (Steps'.cons ?_ (Steps'.cons ?_ (Steps'.cons ?_ (Steps'.one _ _ _ _ _ _ _)))))))))))))))))))
    ·intro ax wx hb hs hd
     have h4 : ax.tmps.getD 4 undef = (.int .u64 (a0 * 2)) := hs 4 (by kernel_rfl)
     exact Does.value _ (by clear hs hd; go_simp) rfl
    ·intro ax wx hb hs hd
     have h3 : ax.tmps.getD 3 undef = (.pointer (some ⟨w.heap.size, 0, none⟩)) := hs 3 (by kernel_rfl)
     exact Does.value _ (by clear hs hd; go_simp) rfl
    ·intro ax wx hb hs hd
     have h77 := vOf (hd 1 77 rfl (by kernel_rfl) (by decide))
     exact Does.value _ (by clear hs hd; go_simp) rfl
    ·intro ax wx hb hs hd
     have h78 := vOf (hd 2 78 rfl (by kernel_rfl) (by decide))
     exact Does.value _ (by clear hs hd; go_simp) rfl
    ·intro ax wx hb hs hd
     have h79 := vOf (hd 3 79 rfl (by kernel_rfl) (by decide))
     have cx : wx.cell? ⟨w.heap.size, 2, none⟩ = some (.int .u64 a2) := (Blk.later W2.out.2.1 hb (Blk.lt W2.out.2.1)).cell 2
     exact Does.value _ (by clear hs hd; go_simp) rfl
    ·intro ax wx hb hs hd
     have h76 := vOf (hd 0 76 rfl (by kernel_rfl) (by decide))
     have h80 := vOf (hd 4 80 rfl (by kernel_rfl) (by decide))
     refine Does.call 168 #[(.int .u64 (a0 * 2)), (.int .u64 a2)] (by clear hs hd; go_simp) ?_
     refine (H2.out.1 _).mono ?_
     rintro z w' ⟨rfl, l⟩
     exact ⟨_, rfl, rfl, l⟩
    ·intro ax wx hb hs hd
     have h3 : ax.tmps.getD 3 undef = (.pointer (some ⟨w.heap.size, 0, none⟩)) := hs 3 (by kernel_rfl)
     exact Does.value _ (by clear hs hd; go_simp) rfl
    ·intro ax wx hb hs hd
     have h82 := vOf (hd 6 82 rfl (by kernel_rfl) (by decide))
     exact Does.value _ (by clear hs hd; go_simp) rfl
    ·intro ax wx hb hs hd
     have h83 := vOf (hd 7 83 rfl (by kernel_rfl) (by decide))
     exact Does.value _ (by clear hs hd; go_simp) rfl
    ·intro ax wx hb hs hd
     have h84 := vOf (hd 8 84 rfl (by kernel_rfl) (by decide))
     have cx : wx.cell? ⟨w.heap.size, 1, none⟩ = some (.int .u64 a1) := (Blk.later W2.out.2.1 hb (Blk.lt W2.out.2.1)).cell 1
     exact Does.value _ (by clear hs hd; go_simp) rfl
    ·intro ax wx hb hs hd
     have h3 : ax.tmps.getD 3 undef = (.pointer (some ⟨w.heap.size, 0, none⟩)) := hs 3 (by kernel_rfl)
     exact Does.value _ (by clear hs hd; go_simp) rfl
    ·intro ax wx hb hs hd
     have h86 := vOf (hd 10 86 rfl (by kernel_rfl) (by decide))
     exact Does.value _ (by clear hs hd; go_simp) rfl
    ·intro ax wx hb hs hd
     have h87 := vOf (hd 11 87 rfl (by kernel_rfl) (by decide))
     exact Does.value _ (by clear hs hd; go_simp) rfl
    ·intro ax wx hb hs hd
     have h88 := vOf (hd 12 88 rfl (by kernel_rfl) (by decide))
     have cx : wx.cell? ⟨w.heap.size, 1, none⟩ = some (.int .u64 a1) := (Blk.later W2.out.2.1 hb (Blk.lt W2.out.2.1)).cell 1
     exact Does.value _ (by clear hs hd; go_simp) rfl
    ·intro ax wx hb hs hd
     have h81 := vOf (hd 5 81 rfl (by kernel_rfl) (by decide))
     have h85 := vOf (hd 9 85 rfl (by kernel_rfl) (by decide))
     have h89 := vOf (hd 13 89 rfl (by kernel_rfl) (by decide))
     refine Does.call 169 #[(.agg (u64s (pr s20)).toArray), (.int .u64 a1), (.int .u64 a1)] (by clear hs hd; go_simp) ?_
     refine (H2.out.2.1 _).mono ?_
     rintro z w' ⟨rfl, l⟩
     exact ⟨_, rfl, rfl, l⟩
    ·intro ax wx hb hs hd
     have h7 : ax.tmps.getD 7 undef = (.int .u64 (a3 * 2)) := hs 7 (by kernel_rfl)
     exact Does.value _ (by clear hs hd; go_simp) rfl
    ·intro ax wx hb hs hd
     have h9 : ax.tmps.getD 9 undef = (.int .u64 (a4 * 19)) := hs 9 (by kernel_rfl)
     exact Does.value _ (by clear hs hd; go_simp) rfl
    ·intro ax wx hb hs hd
     have h90 := vOf (hd 14 90 rfl (by kernel_rfl) (by decide))
     have h91 := vOf (hd 15 91 rfl (by kernel_rfl) (by decide))
     have h92 := vOf (hd 16 92 rfl (by kernel_rfl) (by decide))
     refine Does.call 169 #[(.agg (u64s (pr s21)).toArray), (.int .u64 (a3 * 2)), (.int .u64 (a4 * 19))] (by clear hs hd; go_simp) ?_
     refine (H2.out.2.2 _).mono ?_
     rintro z w' ⟨rfl, l⟩
     exact ⟨_, rfl, rfl, l⟩
    ·intro ax wx hb hs hd
     exact Does.alloc 206 rfl 2 _ zeroWide hb.size
   ·intro wx hb
    iterate 18 refine @Ends.val _ _ _ _ _ _ _ _ _ _ rfl ?_
    refine @Ends.blk _ _ _ _ _ _ _ _ _ 206 (u64s [0, 0]) rfl ?_
    intro g18 hg18 bg18
    refine @Ends.one _ _ _ _ _ _ _ ?_
    simp only [Act.put, sA, sB, sC]
    obtain ⟨G2, hG2⟩ : ∃ q, q = g18 := ⟨_, rfl⟩
    subst hG2
    refine last_store 206 (.tmp 12) (.tmp 93) rfl rfl G2 rfl 206 _ (u64s (pr s22)) rfl bg18 rfl sizeWide (u64s_one _) ?_
    intro y n1 n2 n3
    have q5 := hb.size
    have q10 := W2.out.2.1.lt
    have q11 := W2.out.2.2.1.lt
    have q12 := W2.out.2.2.2.1.lt
    have q13 := W2.out.2.2.2.2.1.lt
    have qz := W2.out.2.2.2.2.2
    have W3 : Hid (Below w.heap.size w y ∧ Blk y w.heap.size 116 (u64s [a0, a1, a2, a3, a4]) ∧ Blk y (w.heap.size + 1) 116 (u64s [0, 0, 0, 0, 0]) ∧ Blk y G0 206 (u64s (pr s02)) ∧ Blk y G1 206 (u64s (pr s12)) ∧ Blk y G2 206 (u64s (pr s22)) ∧ True ∧ w.heap.size + 2 ≤ G0 ∧ w.heap.size + 2 ≤ G1 ∧ w.heap.size + 2 ≤ G2 ∧ G0 < G1 ∧ G1 < G2) := ⟨below_kept (below_chain W2.out.1 hb (by omega)) n3 (by omega) (fun j hj => by omega), (W2.out.2.1.later hb q10).kept n3 (by omega), (W2.out.2.2.1.later hb q11).kept n3 (by omega), (W2.out.2.2.2.1.later hb q12).kept n3 (by omega), (W2.out.2.2.2.2.1.later hb q13).kept n3 (by omega), n1, trivial, by omega, by omega, by omega, by omega, by omega⟩
    obtain ⟨y3, rfl⟩ : ∃ q, q = y := ⟨_, rfl⟩
    clear W2 H2 n1 n2 n3 hb q5 qz hg18 bg18 q10 q11 q12 q13
    go_wp2_with fail
    refine region_invT [.val (.int .u64 (a0 * 2)), .val (.pointer (some ⟨w.heap.size, 0, none⟩)), .val (.pointer (some ⟨w.heap.size, 0, none⟩)), .val (.pointer (some ⟨w.heap.size, 3, none⟩)), .val (.int .u64 a3), .val (.agg (u64s (pr s30)).toArray), .val (.int .u64 (a1 * 2)), .val (.pointer (some ⟨w.heap.size, 0, none⟩)), .val (.pointer (some ⟨w.heap.size, 0, none⟩)), .val (.pointer (some ⟨w.heap.size, 2, none⟩)), .val (.int .u64 a2), .val (.agg (u64s (pr s31)).toArray), .val (.pointer (some ⟨w.heap.size, 0, none⟩)), .val (.pointer (some ⟨w.heap.size, 0, none⟩)), .val (.pointer (some ⟨w.heap.size, 4, none⟩)), .val (.int .u64 a4), .val (.int .u64 (a4 * 19)), .val (.agg (u64s (pr s32)).toArray), .blk 206 (u64s [0, 0])] (by kernel_rfl) (by kernel_rfl) (by kernel_rfl) ?_ ?_
    ·refine Steps'.cons ?_ (Steps'.cons ?_ (Steps'.cons ?_ (Steps'.cons ?_ (Steps'.cons ?_ (Steps'.cons ?_ (Steps'.cons ?_ (Steps'.cons ?_ (Steps'.cons ?_ (Steps'.cons ?_ (Steps'.cons ?_ (Steps'.cons ?_ (Steps'.cons ?_ (Steps'.cons ?_ (Steps'.cons ?_ (Steps'.cons ?_ (Steps'.cons ?_ (Steps'.cons ?_ (Steps'.cons ?_ (Steps'.one _ _ _ _ _ _ _)))))))))))))))))))
     ·intro ax wx hb hs hd
      have h4 : ax.tmps.getD 4 undef = (.int .u64 (a0 * 2)) := hs 4 (by kernel_rfl)
      exact Does.value _ (by clear hs hd; go_simp) rfl
     ·intro ax wx hb hs hd
      have h3 : ax.tmps.getD 3 undef = (.pointer (some ⟨w.heap.size, 0, none⟩)) := hs 3 (by kernel_rfl)
      exact Does.value _ (by clear hs hd; go_simp) rfl
     ·intro ax wx hb hs hd
      have h95 := vOf (hd 1 95 rfl (by kernel_rfl) (by decide))
      exact Does.value _ (by clear hs hd; go_simp) rfl
     ·intro ax wx hb hs hd
      have h96 := vOf (hd 2 96 rfl (by kernel_rfl) (by decide))
      exact Does.value _ (by clear hs hd; go_simp) rfl
     ·intro ax wx hb hs hd
      have h97 := vOf (hd 3 97 rfl (by kernel_rfl) (by decide))
      have cx : wx.cell? ⟨w.heap.size, 3, none⟩ = some (.int .u64 a3) := (Blk.later W3.out.2.1 hb (Blk.lt W3.out.2.1)).cell 3
      exact Does.value _ (by clear hs hd; go_simp) rfl
     ·intro ax wx hb hs hd
      have h94 := vOf (hd 0 94 rfl (by kernel_rfl) (by decide))
      have h98 := vOf (hd 4 98 rfl (by kernel_rfl) (by decide))
      refine Does.call 168 #[(.int .u64 (a0 * 2)), (.int .u64 a3)] (by clear hs hd; go_simp) ?_
      refine (H3.out.1 _).mono ?_
      rintro z w' ⟨rfl, l⟩
      exact ⟨_, rfl, rfl, l⟩
     ·intro ax wx hb hs hd
      have h5 : ax.tmps.getD 5 undef = (.int .u64 (a1 * 2)) := hs 5 (by kernel_rfl)
      exact Does.value _ (by clear hs hd; go_simp) rfl
     ·intro ax wx hb hs hd
      have h3 : ax.tmps.getD 3 undef = (.pointer (some ⟨w.heap.size, 0, none⟩)) := hs 3 (by kernel_rfl)
      exact Does.value _ (by clear hs hd; go_simp) rfl
     ·intro ax wx hb hs hd
      have h101 := vOf (hd 7 101 rfl (by kernel_rfl) (by decide))
      exact Does.value _ (by clear hs hd; go_simp) rfl
     ·intro ax wx hb hs hd
      have h102 := vOf (hd 8 102 rfl (by kernel_rfl) (by decide))
      exact Does.value _ (by clear hs hd; go_simp) rfl
     ·intro ax wx hb hs hd
      have h103 := vOf (hd 9 103 rfl (by kernel_rfl) (by decide))
      have cx : wx.cell? ⟨w.heap.size, 2, none⟩ = some (.int .u64 a2) := (Blk.later W3.out.2.1 hb (Blk.lt W3.out.2.1)).cell 2
      exact Does.value _ (by clear hs hd; go_simp) rfl
     ·intro ax wx hb hs hd
      have h99 := vOf (hd 5 99 rfl (by kernel_rfl) (by decide))
      have h100 := vOf (hd 6 100 rfl (by kernel_rfl) (by decide))
      have h104 := vOf (hd 10 104 rfl (by kernel_rfl) (by decide))
      refine Does.call 169 #[(.agg (u64s (pr s30)).toArray), (.int .u64 (a1 * 2)), (.int .u64 a2)] (by clear hs hd; go_simp) ?_
      refine (H3.out.2.1 _).mono ?_
      rintro z w' ⟨rfl, l⟩
      exact ⟨_, rfl, rfl, l⟩
     ·intro ax wx hb hs hd
      have h3 : ax.tmps.getD 3 undef = (.pointer (some ⟨w.heap.size, 0, none⟩)) := hs 3 (by kernel_rfl)
      exact Does.value _ (by clear hs hd; go_simp) rfl
     ·intro ax wx hb hs hd
      have h106 := vOf (hd 12 106 rfl (by kernel_rfl) (by decide))
      exact Does.value _ (by clear hs hd; go_simp) rfl
     ·intro ax wx hb hs hd
      have h107 := vOf (hd 13 107 rfl (by kernel_rfl) (by decide))
      exact Does.value _ (by clear hs hd; go_simp) rfl
     ·intro ax wx hb hs hd
      have h108 := vOf (hd 14 108 rfl (by kernel_rfl) (by decide))
      have cx : wx.cell? ⟨w.heap.size, 4, none⟩ = some (.int .u64 a4) := (Blk.later W3.out.2.1 hb (Blk.lt W3.out.2.1)).cell 4
      exact Does.value _ (by clear hs hd; go_simp) rfl
     ·intro ax wx hb hs hd
      have h9 : ax.tmps.getD 9 undef = (.int .u64 (a4 * 19)) := hs 9 (by kernel_rfl)
      exact Does.value _ (by clear hs hd; go_simp) rfl
     ·intro ax wx hb hs hd
      have h105 := vOf (hd 11 105 rfl (by kernel_rfl) (by decide))
      have h109 := vOf (hd 15 109 rfl (by kernel_rfl) (by decide))
      have h110 := vOf (hd 16 110 rfl (by kernel_rfl) (by decide))
      refine Does.call 169 #[(.agg (u64s (pr s31)).toArray), (.int .u64 a4), (.int .u64 (a4 * 19))] (by clear hs hd; go_simp) ?_
      refine (H3.out.2.2 _).mono ?_
      rintro z w' ⟨rfl, l⟩
      exact ⟨_, rfl, rfl, l⟩
     ·intro ax wx hb hs hd
      exact Does.alloc 206 rfl 2 _ zeroWide hb.size
    ·intro wx hb
     iterate 18 refine @Ends.val _ _ _ _ _ _ _ _ _ _ rfl ?_
     refine @Ends.blk _ _ _ _ _ _ _ _ _ 206 (u64s [0, 0]) rfl ?_
     intro g18 hg18 bg18
     refine @Ends.one _ _ _ _ _ _ _ ?_
     simp only [Act.put, sA, sB, sC]
     obtain ⟨G3, hG3⟩ : ∃ q, q = g18 := ⟨_, rfl⟩
     subst hG3
     refine last_store 206 (.tmp 13) (.tmp 111) rfl rfl G3 rfl 206 _ (u64s (pr s32)) rfl bg18 rfl sizeWide (u64s_one _) ?_
     intro y n1 n2 n3
     have q5 := hb.size
     have q10 := W3.out.2.1.lt
     have q11 := W3.out.2.2.1.lt
     have q12 := W3.out.2.2.2.1.lt
     have q13 := W3.out.2.2.2.2.1.lt
     have q14 := W3.out.2.2.2.2.2.1.lt
     have qz := W3.out.2.2.2.2.2.2
     have W4 : Hid (Below w.heap.size w y ∧ Blk y w.heap.size 116 (u64s [a0, a1, a2, a3, a4]) ∧ Blk y (w.heap.size + 1) 116 (u64s [0, 0, 0, 0, 0]) ∧ Blk y G0 206 (u64s (pr s02)) ∧ Blk y G1 206 (u64s (pr s12)) ∧ Blk y G2 206 (u64s (pr s22)) ∧ Blk y G3 206 (u64s (pr s32)) ∧ True ∧ w.heap.size + 2 ≤ G0 ∧ w.heap.size + 2 ≤ G1 ∧ w.heap.size + 2 ≤ G2 ∧ w.heap.size + 2 ≤ G3 ∧ G0 < G1 ∧ G1 < G2 ∧ G2 < G3) := ⟨below_kept (below_chain W3.out.1 hb (by omega)) n3 (by omega) (fun j hj => by omega), (W3.out.2.1.later hb q10).kept n3 (by omega), (W3.out.2.2.1.later hb q11).kept n3 (by omega), (W3.out.2.2.2.1.later hb q12).kept n3 (by omega), (W3.out.2.2.2.2.1.later hb q13).kept n3 (by omega), (W3.out.2.2.2.2.2.1.later hb q14).kept n3 (by omega), n1, trivial, by omega, by omega, by omega, by omega, by omega, by omega, by omega⟩
     obtain ⟨y4, rfl⟩ : ∃ q, q = y := ⟨_, rfl⟩
     clear W3 H3 n1 n2 n3 hb q5 qz hg18 bg18 q10 q11 q12 q13 q14
     go_wp2_with fail
     refine region_invT ((.val (.int .u64 (a0 * 2))) :: (.val (.pointer (some ⟨w.heap.size, 0, none⟩))) :: (.val (.pointer (some ⟨w.heap.size, 0, none⟩))) :: (.val (.pointer (some ⟨w.heap.size, 4, none⟩))) :: (.val (.int .u64 a4)) :: (.val (.agg (u64s (pr s40)).toArray)) :: (.val (.int .u64 (a1 * 2))) :: (.val (.pointer (some ⟨w.heap.size, 0, none⟩))) :: (.val (.pointer (some ⟨w.heap.size, 0, none⟩))) :: (.val (.pointer (some ⟨w.heap.size, 3, none⟩))) :: (.val (.int .u64 a3)) :: (.val (.agg (u64s (pr s41)).toArray)) :: (.val (.pointer (some ⟨w.heap.size, 0, none⟩))) :: (.val (.pointer (some ⟨w.heap.size, 0, none⟩))) :: (.val (.pointer (some ⟨w.heap.size, 2, none⟩))) :: (.val (.int .u64 a2)) :: (.val (.pointer (some ⟨w.heap.size, 0, none⟩))) :: (.val (.pointer (some ⟨w.heap.size, 0, none⟩))) :: (.val (.pointer (some ⟨w.heap.size, 2, none⟩))) :: (.val (.int .u64 a2)) :: (.val (.agg (u64s (pr s42)).toArray)) :: (.blk 206 (u64s [0, 0])) :: []) (by kernel_rfl) (by kernel_rfl) (by kernel_rfl) ?_ ?_
     ·refine Steps'.cons ?_ (Steps'.cons ?_ (Steps'.cons ?_ (Steps'.cons ?_ (Steps'.cons ?_ (Steps'.cons ?_ (Steps'.cons ?_ (Steps'.cons ?_ (Steps'.cons ?_ (Steps'.cons ?_ (Steps'.cons ?_ (Steps'.cons ?_ (Steps'.cons ?_ (Steps'.cons ?_ (Steps'.cons ?_ (Steps'.cons ?_ (Steps'.cons ?_ (Steps'.cons ?_ (Steps'.cons ?_ (Steps'.cons ?_ (Steps'.cons ?_ (Steps'.cons ?_ (Steps'.one _ _ _ _ _ _ _))))))))))))))))))))))
      ·intro ax wx hb hs hd
       have h4 : ax.tmps.getD 4 undef = (.int .u64 (a0 * 2)) := hs 4 (by kernel_rfl)
       exact Does.value _ (by clear hs hd; go_simp) rfl
      ·intro ax wx hb hs hd
       have h3 : ax.tmps.getD 3 undef = (.pointer (some ⟨w.heap.size, 0, none⟩)) := hs 3 (by kernel_rfl)
       exact Does.value _ (by clear hs hd; go_simp) rfl
      ·intro ax wx hb hs hd
       have h113 := vOf (hd 1 113 rfl (by kernel_rfl) (by decide))
       exact Does.value _ (by clear hs hd; go_simp) rfl
      ·intro ax wx hb hs hd
       have h114 := vOf (hd 2 114 rfl (by kernel_rfl) (by decide))
       exact Does.value _ (by clear hs hd; go_simp) rfl
      ·intro ax wx hb hs hd
       have h115 := vOf (hd 3 115 rfl (by kernel_rfl) (by decide))
       have cx : wx.cell? ⟨w.heap.size, 4, none⟩ = some (.int .u64 a4) := (Blk.later W4.out.2.1 hb (Blk.lt W4.out.2.1)).cell 4
       exact Does.value _ (by clear hs hd; go_simp) rfl
      ·intro ax wx hb hs hd
       have h112 := vOf (hd 0 112 rfl (by kernel_rfl) (by decide))
       have h116 := vOf (hd 4 116 rfl (by kernel_rfl) (by decide))
       refine Does.call 168 #[(.int .u64 (a0 * 2)), (.int .u64 a4)] (by clear hs hd; go_simp) ?_
       refine (H4.out.1 _).mono ?_
       rintro z w' ⟨rfl, l⟩
       exact ⟨_, rfl, rfl, l⟩
      ·intro ax wx hb hs hd
       have h5 : ax.tmps.getD 5 undef = (.int .u64 (a1 * 2)) := hs 5 (by kernel_rfl)
       exact Does.value _ (by clear hs hd; go_simp) rfl
      ·intro ax wx hb hs hd
       have h3 : ax.tmps.getD 3 undef = (.pointer (some ⟨w.heap.size, 0, none⟩)) := hs 3 (by kernel_rfl)
       exact Does.value _ (by clear hs hd; go_simp) rfl
      ·intro ax wx hb hs hd
       have h119 := vOf (hd 7 119 rfl (by kernel_rfl) (by decide))
       exact Does.value _ (by clear hs hd; go_simp) rfl
      ·intro ax wx hb hs hd
       have h120 := vOf (hd 8 120 rfl (by kernel_rfl) (by decide))
       exact Does.value _ (by clear hs hd; go_simp) rfl
      ·intro ax wx hb hs hd
       have h121 := vOf (hd 9 121 rfl (by kernel_rfl) (by decide))
       have cx : wx.cell? ⟨w.heap.size, 3, none⟩ = some (.int .u64 a3) := (Blk.later W4.out.2.1 hb (Blk.lt W4.out.2.1)).cell 3
       exact Does.value _ (by clear hs hd; go_simp) rfl
      ·intro ax wx hb hs hd
       have h117 := vOf (hd 5 117 rfl (by kernel_rfl) (by decide))
       have h118 := vOf (hd 6 118 rfl (by kernel_rfl) (by decide))
       have h122 := vOf (hd 10 122 rfl (by kernel_rfl) (by decide))
       refine Does.call 169 #[(.agg (u64s (pr s40)).toArray), (.int .u64 (a1 * 2)), (.int .u64 a3)] (by clear hs hd; go_simp) ?_
       refine (H4.out.2.1 _).mono ?_
       rintro z w' ⟨rfl, l⟩
       exact ⟨_, rfl, rfl, l⟩
      ·intro ax wx hb hs hd
       have h3 : ax.tmps.getD 3 undef = (.pointer (some ⟨w.heap.size, 0, none⟩)) := hs 3 (by kernel_rfl)
       exact Does.value _ (by clear hs hd; go_simp) rfl
      ·intro ax wx hb hs hd
       have h124 := vOf (hd 12 124 rfl (by kernel_rfl) (by decide))
       exact Does.value _ (by clear hs hd; go_simp) rfl
      ·intro ax wx hb hs hd
       have h125 := vOf (hd 13 125 rfl (by kernel_rfl) (by decide))
       exact Does.value _ (by clear hs hd; go_simp) rfl
      ·intro ax wx hb hs hd
       have h126 := vOf (hd 14 126 rfl (by kernel_rfl) (by decide))
       have cx : wx.cell? ⟨w.heap.size, 2, none⟩ = some (.int .u64 a2) := (Blk.later W4.out.2.1 hb (Blk.lt W4.out.2.1)).cell 2
       exact Does.value _ (by clear hs hd; go_simp) rfl
      ·intro ax wx hb hs hd
       have h3 : ax.tmps.getD 3 undef = (.pointer (some ⟨w.heap.size, 0, none⟩)) := hs 3 (by kernel_rfl)
       exact Does.value _ (by clear hs hd; go_simp) rfl
      ·intro ax wx hb hs hd
       have h128 := vOf (hd 16 128 rfl (by kernel_rfl) (by decide))
       exact Does.value _ (by clear hs hd; go_simp) rfl
      ·intro ax wx hb hs hd
       have h129 := vOf (hd 17 129 rfl (by kernel_rfl) (by decide))
       exact Does.value _ (by clear hs hd; go_simp) rfl
      ·intro ax wx hb hs hd
       have h130 := vOf (hd 18 130 rfl (by kernel_rfl) (by decide))
       have cx : wx.cell? ⟨w.heap.size, 2, none⟩ = some (.int .u64 a2) := (Blk.later W4.out.2.1 hb (Blk.lt W4.out.2.1)).cell 2
       exact Does.value _ (by clear hs hd; go_simp) rfl
      ·intro ax wx hb hs hd
       have h123 := vOf (hd 11 123 rfl (by kernel_rfl) (by decide))
       have h127 := vOf (hd 15 127 rfl (by kernel_rfl) (by decide))
       have h131 := vOf (hd 19 131 rfl (by kernel_rfl) (by decide))
       refine Does.call 169 #[(.agg (u64s (pr s41)).toArray), (.int .u64 a2), (.int .u64 a2)] (by clear hs hd; go_simp) ?_
       refine (H4.out.2.2 _).mono ?_
       rintro z w' ⟨rfl, l⟩
       exact ⟨_, rfl, rfl, l⟩
      ·intro ax wx hb hs hd
       exact Does.alloc 206 rfl 2 _ zeroWide hb.size
     ·intro wx hb
      iterate 21 refine @Ends.val _ _ _ _ _ _ _ _ _ _ rfl ?_
      refine @Ends.blk _ _ _ _ _ _ _ _ _ 206 (u64s [0, 0]) rfl ?_
      intro g21 hg21 bg21
      refine @Ends.one _ _ _ _ _ _ _ ?_
      simp only [Act.put, sA, sB, sC]
      obtain ⟨G4, hG4⟩ : ∃ q, q = g21 := ⟨_, rfl⟩
      subst hG4
      refine last_store 206 (.tmp 14) (.tmp 132) rfl rfl G4 rfl 206 _ (u64s (pr s42)) rfl bg21 rfl sizeWide (u64s_one _) ?_
      intro y n1 n2 n3
      have q5 := hb.size
      have q10 := W4.out.2.1.lt
      have q11 := W4.out.2.2.1.lt
      have q12 := W4.out.2.2.2.1.lt
      have q13 := W4.out.2.2.2.2.1.lt
      have q14 := W4.out.2.2.2.2.2.1.lt
      have q15 := W4.out.2.2.2.2.2.2.1.lt
      have qz := W4.out.2.2.2.2.2.2.2
      have W5 : Hid (Below w.heap.size w y ∧ Blk y w.heap.size 116 (u64s [a0, a1, a2, a3, a4]) ∧ Blk y (w.heap.size + 1) 116 (u64s [0, 0, 0, 0, 0]) ∧ Blk y G0 206 (u64s (pr s02)) ∧ Blk y G1 206 (u64s (pr s12)) ∧ Blk y G2 206 (u64s (pr s22)) ∧ Blk y G3 206 (u64s (pr s32)) ∧ Blk y G4 206 (u64s (pr s42)) ∧ True ∧ w.heap.size + 2 ≤ G0 ∧ w.heap.size + 2 ≤ G1 ∧ w.heap.size + 2 ≤ G2 ∧ w.heap.size + 2 ≤ G3 ∧ w.heap.size + 2 ≤ G4 ∧ G0 < G1 ∧ G1 < G2 ∧ G2 < G3 ∧ G3 < G4) := ⟨below_kept (below_chain W4.out.1 hb (by omega)) n3 (by omega) (fun j hj => by omega), (W4.out.2.1.later hb q10).kept n3 (by omega), (W4.out.2.2.1.later hb q11).kept n3 (by omega), (W4.out.2.2.2.1.later hb q12).kept n3 (by omega), (W4.out.2.2.2.2.1.later hb q13).kept n3 (by omega), (W4.out.2.2.2.2.2.1.later hb q14).kept n3 (by omega), (W4.out.2.2.2.2.2.2.1.later hb q15).kept n3 (by omega), n1, trivial, by omega, by omega, by omega, by omega, by omega, by omega, by omega, by omega, by omega⟩
      obtain ⟨y5, rfl⟩ : ∃ q, q = y := ⟨_, rfl⟩
      clear W4 H4 n1 n2 n3 hb q5 qz hg21 bg21 q10 q11 q12 q13 q14 q15
      go_wp2_with (first | ((with_reducible show wpList _ _ _ (({ dst := some 133, op := _, type := _, pos := _, after := _, guard := _ } : Oper) :: _) _ _); refine wpList_load_blk rfl 206 (.tmp 10) rfl G0 rfl (u64s (pr s02)) _ W5.out.2.2.2.1 Tryz.underlying206 rfl sizeWide ?_) | ((with_reducible show wpList _ _ _ (({ dst := some 134, op := _, type := _, pos := _, after := _, guard := _ } : Oper) :: _) _ _); refine wpList_load_blk rfl 206 (.tmp 11) rfl G1 rfl (u64s (pr s12)) _ W5.out.2.2.2.2.1 Tryz.underlying206 rfl sizeWide ?_) | ((with_reducible show wpList _ _ _ (({ dst := some 135, op := _, type := _, pos := _, after := _, guard := _ } : Oper) :: _) _ _); refine wpList_load_blk rfl 206 (.tmp 12) rfl G2 rfl (u64s (pr s22)) _ W5.out.2.2.2.2.2.1 Tryz.underlying206 rfl sizeWide ?_) | ((with_reducible show wpList _ _ _ (({ dst := some 136, op := _, type := _, pos := _, after := _, guard := _ } : Oper) :: _) _ _); refine wpList_load_blk rfl 206 (.tmp 13) rfl G3 rfl (u64s (pr s32)) _ W5.out.2.2.2.2.2.2.1 Tryz.underlying206 rfl sizeWide ?_) | ((with_reducible show wpList _ _ _ (({ dst := some 137, op := _, type := _, pos := _, after := _, guard := _ } : Oper) :: _) _ _); refine wpList_load_blk rfl 206 (.tmp 14) rfl G4 rfl (u64s (pr s42)) _ W5.out.2.2.2.2.2.2.2.1 Tryz.underlying206 rfl sizeWide ?_) | (go_at_call 170; refine (HF.out.2 _ W5.out.2.1).mono ?_; rintro z y6 ⟨rfl, ⟨lr, q1, q2⟩, q3⟩; have HR : Hid (Blk y6 w.heap.size 116 (u64s lr) ∧ Blk y6 (w.heap.size + 1) 116 (u64s [0, 0, 0, 0, 0]) ∧ Below w.heap.size w y6 ∧ lr.length = 5 ∧ Fe lr (v5 s02 s12 s22 s32 s42 % PR)) := ⟨q1, W5.out.2.2.1.kept q3 (by omega), below_kept W5.out.1 q3 W5.out.1.size (fun j hj => by omega), q2.len, q2⟩; clear q1 q2 q3) | ((with_reducible show wpList _ _ _ (({ dst := some 139, op := _, type := _, pos := _, after := _, guard := _ } : Oper) :: _) _ _); refine wpList_load_blk rfl 116 (.tmp 1) rfl w.heap.size rfl (u64s lr) _ HR.out.1 Tryz.underlying116 rfl (by rw [u64s_length, HR.out.2.2.2.1]; exact sizeElem) ?_) | ((with_reducible show wpList _ _ _ (({ dst := none, op := _, type := _, pos := _, after := _, guard := _ } : Oper) :: _) _ _); refine wpList_store_blk rfl 116 116 _ _ rfl _ rfl _ (u64s lr) rfl HR.out.2.1 (by rw [u64s_length, HR.out.2.2.2.1]; rfl) (by rw [u64s_length, HR.out.2.2.2.1]; exact sizeElem) (u64s_one _) ?_; intro y7 b7 s7 k7))
      exact ret_blk rfl (w.heap.size + 1) (u64s lr) _ rfl b7 Tryz.underlying116 rfl (by rw [u64s_length, HR.out.2.2.2.1]; exact sizeElem) rfl ⟨lr, rfl, by have h := HR.out.2.2.2.2; rw [HF.out.1] at h; exact h, below_kept HR.out.2.2.1 k7 HR.out.2.2.1.size (fun j hj => by omega)⟩
end Go.Proofs.YthlbjkfjkggdoaaGreatDoor
