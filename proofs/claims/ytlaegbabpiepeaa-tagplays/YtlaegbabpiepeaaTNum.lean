/- Layer tag: words with carries, products, pairs, numbers: what each call answers, by value. -/
import Derived.Test.YtlaegbabpiepeaaTPlain
import Derived.Test.YtlaegbabpiepeaaPlain
import Derived.Test.YtlaegbabpiepeaaRInv
import Derived.Shelf.Spec.BitsCarry
import Derived.Shelf.Bits.Mul64
namespace Go.Proofs.Ytlaegbabpiepeaa
open Go.RowKit
set_option linter.unusedVariables false
set_option linter.unusedSimpArgs false

theorem bit_any (x : Int) (hx : Word x) (w : World) :
    Calls Try.prog 33 #[.int .u64 x] w fun e w' => e = .returned (.int .u64 (mk (x % 2 == 1))) ∧ w = w' := by
  have H : Hid (IntKind.u64.wrap (wrap64 (-wrap64 (bits .and .u64 x 1))) = mk (x % 2 == 1)) := bit_code x hx
  go_enter Try.func33, Try.ntmps33
  go_wp2
  go_ret
  exact ⟨ret_int H.out, rfl⟩
theorem ch64_any (m x y : Int) (hm : Word m) (hx : Word x) (hy : Word y) (w : World) :
    Calls Try.prog 45 #[.int .u64 m, .int .u64 x, .int .u64 y] w fun e w' => e = .returned (.int .u64 (pk m x y)) ∧ w = w' := by
  have H : Hid (bits .xor .u64 y (bits .and .u64 (bits .xor .u64 x y) m) = pk m x y) := choose_u64 m x y hm hx hy
  go_enter Try.func45, Try.ntmps45
  go_wp2
  go_ret
  exact ⟨ret_int H.out, rfl⟩
theorem pick_any (m x y : Int) (hm : Word m) (hx : Word x) (hy : Word y) (w : World) :
    Calls Try.prog 34 #[.int .u64 m, .int .u64 x, .int .u64 y] w fun e w' => e = .returned (.int .u64 (pk m x y)) ∧ w = w' := by
  go_enter Try.func34, Try.ntmps34
  go_wp2_with (go_at_call 45; refine (ch64_any _ _ _ hm hx hy _).mono ?_; rintro e w' ⟨rfl, rfl⟩)
  go_ret
  exact ⟨rfl, rfl⟩
theorem add64 (x y c : Int) (hx : Word x) (hy : Word y) (hc0 : 0 ≤ c) (hc : c ≤ 1) (w : World) : (callFunc 35 #[.int .u64 x, .int .u64 y, .int .u64 c]).run Try.prog w =
    .ok (.value (.tuple #[.int .u64 ((x + y + c) % 18446744073709551616), .int .u64 ((x + y + c) / 18446744073709551616)])) w := by
  obtain ⟨h1, h2⟩ := hx
  obtain ⟨h3, h4⟩ := hy
  obtain ⟨x, rfl⟩ := Int.eq_ofNat_of_zero_le h1
  obtain ⟨y, rfl⟩ := Int.eq_ofNat_of_zero_le h3
  obtain ⟨c, rfl⟩ := Int.eq_ofNat_of_zero_le hc0
  rw [run_callFunc_extern Try.func35 (by kernel_rfl) (by kernel_rfl) (by kernel_rfl) (e := add64Entry) (by kernel_rfl), run_add64 x y c (by omega) (by omega) (by omega) (by omega)]
  simp only [Result.andThen]
theorem add64_0 (x y : Int) (hx : Word x) (hy : Word y) (w : World) : (callFunc 35 #[.int .u64 x, .int .u64 y, .int .u64 0]).run Try.prog w =
    .ok (.value (.tuple #[.int .u64 ((x + y) % 18446744073709551616), .int .u64 ((x + y) / 18446744073709551616)])) w := by
  simpa using add64 x y 0 hx hy (Int.le_refl 0) (by decide) w
def bor (x y : Int) : Int := if x < y then 1 else 0
theorem bor_bd (x y : Int) : 0 ≤ bor x y ∧ bor x y ≤ 1 := by unfold bor; split <;> decide
theorem sub64 (x y b : Int) (hx : Word x) (hy : Word y) (hb0 : 0 ≤ b) (hb : b ≤ 1) (w : World) : (callFunc 32 #[.int .u64 x, .int .u64 y, .int .u64 b]).run Try.prog w =
    .ok (.value (.tuple #[.int .u64 ((x - y - b) % 18446744073709551616), .int .u64 (bor x (y + b))])) w := by
  obtain ⟨h1, h2⟩ := hx
  obtain ⟨h3, h4⟩ := hy
  obtain ⟨x, rfl⟩ := Int.eq_ofNat_of_zero_le h1
  obtain ⟨y, rfl⟩ := Int.eq_ofNat_of_zero_le h3
  obtain ⟨b, rfl⟩ := Int.eq_ofNat_of_zero_le hb0
  rw [run_callFunc_extern Try.func32 (by kernel_rfl) (by kernel_rfl) (by kernel_rfl) (e := sub64Entry) (by kernel_rfl), run_sub64 x y b (by omega)]
  have e1 : (((x + 18446744073709551616 - y - b) % 18446744073709551616 : Nat) : Int) = ((x : Int) - y - b) % 18446744073709551616 := by omega
  have e2 : ((if x < y + b then 1 else 0 : Nat) : Int) = bor x (y + b) := by unfold bor; split <;> split <;> omega
  rw [e1, e2]
  rfl
theorem sub64_0 (x y : Int) (hx : Word x) (hy : Word y) (w : World) : (callFunc 32 #[.int .u64 x, .int .u64 y, .int .u64 0]).run Try.prog w =
    .ok (.value (.tuple #[.int .u64 ((x - y) % 18446744073709551616), .int .u64 (bor x y)])) w := by
  simpa using sub64 x y 0 hx hy (Int.le_refl 0) (by decide) w
set_option maxHeartbeats 1000000 in
theorem mul64_nat (x y : Nat) (hx : x < 18446744073709551616) (hy : y < 18446744073709551616) (w : World) :
    Calls Try.prog 48 #[.int .u64 x, .int .u64 y] w fun e w' => e = .returned (.tuple #[.int .u64 ((x * y / 18446744073709551616 : Nat) : Int), .int .u64 ((x * y % 18446744073709551616 : Nat) : Int)]) ∧ w' = w := by
  obtain ⟨bd, bt, bw, hhi⟩ := Lib.mul64_hi x y hx hy
  have ba := Lib.half_mul_le (a := x / 4294967296) (b := y / 4294967296) (by omega) (by omega)
  have bb := Lib.half_mul_le (a := x / 4294967296) (b := y % 4294967296) (by omega) (by omega)
  have bc := Lib.half_mul_le (a := x % 4294967296) (b := y / 4294967296) (by omega) (by omega)
  have ba' : x / 4294967296 * (y / 4294967296) < 18446744073709551616 := by omega
  have bb' : x / 4294967296 * (y % 4294967296) < 18446744073709551616 := by omega
  have bc' : x % 4294967296 * (y / 4294967296) < 18446744073709551616 := by omega
  have bh1 : x / 4294967296 * (y / 4294967296) + (x / 4294967296 * (y % 4294967296) + x % 4294967296 * (y % 4294967296) / 4294967296) / 4294967296 < 18446744073709551616 := by omega
  have bh : x / 4294967296 * (y / 4294967296) + (x / 4294967296 * (y % 4294967296) + x % 4294967296 * (y % 4294967296) / 4294967296) / 4294967296 + ((x / 4294967296 * (y % 4294967296) + x % 4294967296 * (y % 4294967296) / 4294967296) % 4294967296 + x % 4294967296 * (y / 4294967296)) / 4294967296 < 18446744073709551616 := by omega
  go_enter Try.func48, Try.ntmps48
  go_wp2
  simp only [Mul64.maskN x hx, Mul64.maskN y hy, Mul64.divN, Mul64.mulN, Mul64.addN, Mul64.wrapN _ bd, Mul64.wrapN _ bb', Mul64.wrapN _ bt, Mul64.maskN _ bt, Mul64.wrapN _ bc', Mul64.wrapN _ bw, Mul64.wrapN _ ba', Mul64.wrapN _ bh1, Mul64.wrapN _ bh, Mul64.wrapM (x * y)]
  rw [hhi]
  go_ret2
  exact ⟨rfl, rfl⟩
theorem mul64_any (x y : Int) (hx : Word x) (hy : Word y) (w : World) :
    Calls Try.prog 48 #[.int .u64 x, .int .u64 y] w fun e w' => e = .returned (.tuple #[.int .u64 (x * y / 18446744073709551616), .int .u64 (x * y % 18446744073709551616)]) ∧ w = w' := by
  obtain ⟨h1, h2⟩ := hx
  obtain ⟨h3, h4⟩ := hy
  obtain ⟨x, rfl⟩ := Int.eq_ofNat_of_zero_le h1
  obtain ⟨y, rfl⟩ := Int.eq_ofNat_of_zero_le h3
  refine (mul64_nat x y (by omega) (by omega) w).mono ?_
  rintro e w' ⟨rfl, rfl⟩
  exact ⟨by simp, rfl⟩
theorem Blk.whole {w : World} {g : Nat} {t : TypeId} {vs : List Value} (h : Blk w g t vs) : w.rangeAt g 0 vs := fun j v hv => by rw [Nat.zero_add, h.cell]; exact hv
theorem zeroPair : (Try.prog.info? 58).map (fun i => (i.zero, i.size)) = some (some (.agg (u64s [0, 0]).toArray), 2) := by kernel_rfl
theorem sizePair : (Try.prog.info? 58).map (·.size) = some 2 := by kernel_rfl
theorem zeroNumber : (Try.prog.info? 55).map (fun i => (i.zero, i.size)) = some (some (.agg (u64s [0, 0, 0]).toArray), 3) := by kernel_rfl
theorem sizeNumber : (Try.prog.info? 55).map (·.size) = some 3 := by kernel_rfl
theorem product_any (x y : Int) (hx : Word x) (hy : Word y) (w : World) :
    Calls Try.prog 44 #[.int .u64 x, .int .u64 y] w fun e w' => e = .returned (.agg (u64s (pr (x * y))).toArray) ∧ Below w.heap.size w w' := by
  obtain ⟨z, hz⟩ : ∃ z, x * y = z := ⟨_, rfl⟩
  have hm := mul64_any x y hx hy
  rw [hz] at hm ⊢
  clear hz
  go_enter Try.func44, Try.ntmps44
  go_wp2_with (go_at_call 48; refine (hm _).mono ?_; rintro e w' ⟨rfl, rfl⟩)
  simp [bodyPost, results, Try.results44, go_sem, pr, u64s]
  exact (Below.refl _ _).alloc (Nat.le_refl _) _
theorem pplus_any (x y : Int) (hx : 0 ≤ x ∧ x < 340282366920938463463374607431768211456) (hy : 0 ≤ y ∧ y < 340282366920938463463374607431768211456) (w : World) :
    Calls Try.prog 21 #[.agg (u64s (pr x)).toArray, .agg (u64s (pr y)).toArray] w fun e w' => e = .returned (.agg (u64s (pr ((x + y) % 340282366920938463463374607431768211456))).toArray) ∧ Below w.heap.size w w' := by
  obtain ⟨x0, hx0⟩ : ∃ z, x % 18446744073709551616 = z := ⟨_, rfl⟩
  obtain ⟨x1, hx1⟩ : ∃ z, x / 18446744073709551616 = z := ⟨_, rfl⟩
  obtain ⟨y0, hy0⟩ : ∃ z, y % 18446744073709551616 = z := ⟨_, rfl⟩
  obtain ⟨y1, hy1⟩ : ∃ z, y / 18446744073709551616 = z := ⟨_, rfl⟩
  have e0 : (x + y) % 340282366920938463463374607431768211456 % 18446744073709551616 = (x0 + y0) % 18446744073709551616 := by omega
  have e1 : (x + y) % 340282366920938463463374607431768211456 / 18446744073709551616 = (x1 + y1 + (x0 + y0) / 18446744073709551616) % 18446744073709551616 := by omega
  simp only [pr, u64s, List.map_cons, List.map_nil, hx0, hx1, hy0, hy1, e0, e1]
  have a0 : Word x0 := ⟨by omega, by omega⟩
  have a1 : Word x1 := ⟨by omega, by omega⟩
  have b0 : Word y0 := ⟨by omega, by omega⟩
  have b1 : Word y1 := ⟨by omega, by omega⟩
  have k0 : 0 ≤ (x0 + y0) / 18446744073709551616 := by omega
  have k1 : (x0 + y0) / 18446744073709551616 ≤ 1 := by omega
  clear hx hy hx0 hx1 hy0 hy1 e0 e1
  go_enter Try.func21, Try.ntmps21
  go_wp2_with (first | simp only [add64_0 x0 y0 a0 b0] | simp only [add64 x1 y1 _ a1 b1 k0 k1])
  simp [bodyPost, results, Try.results21, go_sem]
  exact (((Below.refl _ _).alloc (Nat.le_refl _) _).alloc (by simp) _).alloc (by simp; omega) _
theorem nplus_any (x y : Int) (hx : 0 ≤ x) (hy : 0 ≤ y) (hs : x + y < 6277101735386680763835789423207666416102355444464034512896) (w : World) :
    Calls Try.prog 30 #[.agg (u64s (nm x)).toArray, .agg (u64s (nm y)).toArray] w fun e w' => e = .returned (.agg (u64s (nm (x + y))).toArray) ∧ Below w.heap.size w w' := by
  obtain ⟨x0, hx0⟩ : ∃ z, x % 18446744073709551616 = z := ⟨_, rfl⟩
  obtain ⟨x1, hx1⟩ : ∃ z, x / 18446744073709551616 % 18446744073709551616 = z := ⟨_, rfl⟩
  obtain ⟨x2, hx2⟩ : ∃ z, x / 340282366920938463463374607431768211456 = z := ⟨_, rfl⟩
  obtain ⟨y0, hy0⟩ : ∃ z, y % 18446744073709551616 = z := ⟨_, rfl⟩
  obtain ⟨y1, hy1⟩ : ∃ z, y / 18446744073709551616 % 18446744073709551616 = z := ⟨_, rfl⟩
  obtain ⟨y2, hy2⟩ : ∃ z, y / 340282366920938463463374607431768211456 = z := ⟨_, rfl⟩
  have e0 : (x + y) % 18446744073709551616 = (x0 + y0) % 18446744073709551616 := by omega
  have e1 : (x + y) / 18446744073709551616 % 18446744073709551616 = (x1 + y1 + (x0 + y0) / 18446744073709551616) % 18446744073709551616 := by omega
  have e2 : (x + y) / 340282366920938463463374607431768211456 = x2 + y2 + (x1 + y1 + (x0 + y0) / 18446744073709551616) / 18446744073709551616 := by omega
  simp only [nm, u64s, List.map_cons, List.map_nil, hx0, hx1, hx2, hy0, hy1, hy2, e0, e1, e2]
  have a0 : Word x0 := ⟨by omega, by omega⟩
  have a1 : Word x1 := ⟨by omega, by omega⟩
  have b0 : Word y0 := ⟨by omega, by omega⟩
  have b1 : Word y1 := ⟨by omega, by omega⟩
  have k0 : 0 ≤ (x0 + y0) / 18446744073709551616 := by omega
  have k1 : (x0 + y0) / 18446744073709551616 ≤ 1 := by omega
  have c0 : 0 ≤ x2 + y2 := by omega
  have c1 : x2 + y2 + (x1 + y1 + (x0 + y0) / 18446744073709551616) / 18446744073709551616 < 18446744073709551616 := by omega
  have v1 : IntKind.u64.wrap (x2 + y2) = x2 + y2 := by rw [IntKind.wrap_u64]; omega
  have v2 : IntKind.u64.wrap (x2 + y2 + (x1 + y1 + (x0 + y0) / 18446744073709551616) / 18446744073709551616) = x2 + y2 + (x1 + y1 + (x0 + y0) / 18446744073709551616) / 18446744073709551616 := by rw [IntKind.wrap_u64]; omega
  clear hx hy hs hx0 hx1 hx2 hy0 hy1 hy2 e0 e1 e2
  go_enter Try.func30, Try.ntmps30
  go_wp2_with (first | simp only [add64_0 x0 y0 a0 b0] | simp only [add64 x1 y1 _ a1 b1 k0 k1])
  simp [bodyPost, results, Try.results30, go_sem]
  exact (((Below.refl _ _).alloc (Nat.le_refl _) _).alloc (by simp) _).alloc (by simp; omega) _
end Go.Proofs.Ytlaegbabpiepeaa
