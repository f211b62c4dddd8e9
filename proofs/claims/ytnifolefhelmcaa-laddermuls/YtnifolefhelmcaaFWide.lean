/- Layer field: products of two words in 128 bits, their sums; fold: five such sums brought down to limbs. -/
import Derived.Test.YtnifolefhelmcaaFMath
import Derived.Test.YtnifolefhelmcaaTNum
namespace Go.Proofs.Ytnifolefhelmcaa
open Go.RowKit
set_option linter.unusedVariables false
set_option linter.unusedSimpArgs false

theorem zeroWide : (Try.prog.info? 99).map (fun i => (i.zero, i.size)) = some (some (.agg (u64s [0, 0]).toArray), 2) := by kernel_rfl
theorem sizeWide : (Try.prog.info? 99).map (·.size) = some 2 := by kernel_rfl
theorem fproduct_any (x y : Int) (hx : Word x) (hy : Word y) (w : World) :
    Calls Try.prog 70 #[.int .u64 x, .int .u64 y] w fun e w' => e = .returned (.agg (u64s (pr (x * y))).toArray) ∧ Below w.heap.size w w' := by
  obtain ⟨z, hz⟩ : ∃ z, x * y = z := ⟨_, rfl⟩
  have hm := mul64_any x y hx hy
  rw [hz] at hm ⊢
  clear hz
  go_enter Try.func70, Try.ntmps70
  go_wp2_with (go_at_call 92; refine (hm _).mono ?_; rintro e w' ⟨rfl, rfl⟩)
  simp [bodyPost, results, Try.results70, go_sem, pr, u64s]
  exact (Below.refl _ _).alloc (Nat.le_refl _) _
theorem fplus_any (s x y : Int) (hx : Word x) (hy : Word y) (hs : 0 ≤ s) (hb : s + x * y < 340282366920938463463374607431768211456) (w : World) :
    Calls Try.prog 71 #[.agg (u64s (pr s)).toArray, .int .u64 x, .int .u64 y] w fun e w' => e = .returned (.agg (u64s (pr (s + x * y))).toArray) ∧ Below w.heap.size w w' := by
  have hz0 : 0 ≤ x * y := Int.mul_nonneg hx.1 hy.1
  have hm := mul64_any x y hx hy
  obtain ⟨z, hz⟩ : ∃ z, x * y = z := ⟨_, rfl⟩
  rw [hz] at hm hb hz0 ⊢
  clear hz
  obtain ⟨s0, hs0⟩ : ∃ r, s % 18446744073709551616 = r := ⟨_, rfl⟩
  obtain ⟨s1, hs1⟩ : ∃ r, s / 18446744073709551616 = r := ⟨_, rfl⟩
  obtain ⟨z0, hz0'⟩ : ∃ r, z % 18446744073709551616 = r := ⟨_, rfl⟩
  obtain ⟨z1, hz1⟩ : ∃ r, z / 18446744073709551616 = r := ⟨_, rfl⟩
  have e0 : (s + z) % 18446744073709551616 = (s0 + z0) % 18446744073709551616 := by omega
  have e1 : (s + z) / 18446744073709551616 = s1 + z1 + (s0 + z0) / 18446744073709551616 := by omega
  have w1 : IntKind.u64.wrap (s1 + z1) = s1 + z1 := by rw [IntKind.wrap_u64]; omega
  have w2 : IntKind.u64.wrap (s1 + z1 + (s0 + z0) / 18446744073709551616) = s1 + z1 + (s0 + z0) / 18446744073709551616 := by rw [IntKind.wrap_u64]; omega
  simp only [pr, u64s, List.map_cons, List.map_nil, hs0, hs1, e0, e1]
  rw [hz0', hz1] at hm
  have a0 : Word s0 := ⟨by omega, by omega⟩
  have b0 : Word z0 := ⟨by omega, by omega⟩
  clear hs hb hz0 hs0 hs1 hz0' hz1 e0 e1
  go_enter Try.func71, Try.ntmps71
  go_wp2_with (first | (go_at_call 92; refine (hm _).mono ?_; rintro e w' ⟨rfl, rfl⟩) | simp only [add64_0 s0 z0 a0 b0])
  simp [bodyPost, results, Try.results71, go_sem]
  exact ((Below.refl _ _).alloc (Nat.le_refl _) _).alloc (by simp) _
theorem frest_any (s : Int) (hs : 0 ≤ s) (hb : s < 41538374868278621028243970633760768) (w : World) :
    Calls Try.prog 90 #[.agg (u64s (pr s)).toArray] w fun e w' => e = .returned (.int .u64 (s % 2251799813685248)) ∧ Below w.heap.size w w' := by
  obtain ⟨s0, hs0⟩ : ∃ r, s % 18446744073709551616 = r := ⟨_, rfl⟩
  obtain ⟨s1, hs1⟩ : ∃ r, s / 18446744073709551616 = r := ⟨_, rfl⟩
  have e0 := and51 s0 (by omega) (by omega)
  have e1 : s % 2251799813685248 = s0 % 2251799813685248 := by omega
  simp only [pr, u64s, List.map_cons, List.map_nil, hs0, hs1, e1]
  clear hs0 hs1 hs hb e1
  go_enter Try.func90, Try.ntmps90
  go_wp2_with fail
  go_ret
  exact ⟨rfl, (Below.refl _ _).alloc (Nat.le_refl _) _⟩
theorem fover_any (s : Int) (hs : 0 ≤ s) (hb : s < 41538374868278621028243970633760768) (w : World) :
    Calls Try.prog 91 #[.agg (u64s (pr s)).toArray] w fun e w' => e = .returned (.int .u64 (s / 2251799813685248)) ∧ Below w.heap.size w w' := by
  obtain ⟨s0, hs0⟩ : ∃ r, s % 18446744073709551616 = r := ⟨_, rfl⟩
  obtain ⟨s1, hs1⟩ : ∃ r, s / 18446744073709551616 = r := ⟨_, rfl⟩
  have e0 : bits .or .u64 (s1 * 8192) (s0 / 2251799813685248) = s0 / 2251799813685248 + s1 * 8192 := or_behind 13 (s0 / 2251799813685248) s1 ⟨by omega, by simp; omega⟩ (by omega) (by simp; omega) (by omega)
  have e1 : s / 2251799813685248 = s0 / 2251799813685248 + s1 * 8192 := by omega
  have w1 : IntKind.u64.wrap (s1 * 8192) = s1 * 8192 := by rw [IntKind.wrap_u64]; omega
  simp only [pr, u64s, List.map_cons, List.map_nil, hs0, hs1, e1]
  clear hs0 hs1 hs hb e1
  go_enter Try.func91, Try.ntmps91
  go_wp2_with fail
  go_ret
  exact ⟨rfl, (Below.refl _ _).alloc (Nat.le_refl _) _⟩
end Go.Proofs.Ytnifolefhelmcaa
