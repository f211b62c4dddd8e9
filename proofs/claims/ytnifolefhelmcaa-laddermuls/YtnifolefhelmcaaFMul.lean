/- Layer field: Mul. -/
import Derived.Test.YtnifolefhelmcaaFRows
import Derived.Test.YtnifolefhelmcaaFFold
namespace Go.Proofs.Ytnifolefhelmcaa
open Go.RowKit
set_option linter.unusedVariables false
set_option linter.unusedSimpArgs false

set_option maxRecDepth 20000 in
set_option maxHeartbeats 4000000 in
theorem mul_any (l k : List Int) (x y : Int) (hl : Fe l x) (hk : Fe k y) (w : World) :
    Calls Try.prog 31 #[.agg (u64s l).toArray, .agg (u64s k).toArray] w fun e w' => ∃ r, e = .returned (.agg (u64s r).toArray) ∧ Fe r (x * y % PR) ∧ Below w.heap.size w w' := by
  obtain ⟨a0, a1, a2, a3, a4, rfl, ha0, ha1, ha2, ha3, ha4, hx⟩ := hl.parts
  obtain ⟨b0, b1, b2, b3, b4, rfl, hb0, hb1, hb2, hb3, hb4, hy⟩ := hk.parts
  have MR := mul_rows a0 a1 a2 a3 a4 b0 b1 b2 b3 b4 ha0 ha1 ha2 ha3 ha4 hb0 hb1 hb2 hb3 hb4
  rw [Int.mul_emod, hx, hy] at MR
  have HF : Hid (v5 (a0 * b0 + a1 * (b4 * 19) + a2 * (b3 * 19) + a3 * (b2 * 19) + a4 * (b1 * 19)) (a0 * b1 + a1 * b0 + a2 * (b4 * 19) + a3 * (b3 * 19) + a4 * (b2 * 19)) (a0 * b2 + a1 * b1 + a2 * b0 + a3 * (b4 * 19) + a4 * (b3 * 19)) (a0 * b3 + a1 * b2 + a2 * b1 + a3 * b0 + a4 * (b4 * 19)) (a0 * b4 + a1 * b3 + a2 * b2 + a3 * b1 + a4 * b0) % PR = x * y % PR ∧ (∀ y, Blk y w.heap.size 27 (u64s [a0, a1, a2, a3, a4]) → Calls Try.prog 69 #[.pointer (some ⟨w.heap.size, 0, none⟩), (.agg (u64s (pr (a0 * b0 + a1 * (b4 * 19) + a2 * (b3 * 19) + a3 * (b2 * 19) + a4 * (b1 * 19)))).toArray), (.agg (u64s (pr (a0 * b1 + a1 * b0 + a2 * (b4 * 19) + a3 * (b3 * 19) + a4 * (b2 * 19)))).toArray), (.agg (u64s (pr (a0 * b2 + a1 * b1 + a2 * b0 + a3 * (b4 * 19) + a4 * (b3 * 19)))).toArray), (.agg (u64s (pr (a0 * b3 + a1 * b2 + a2 * b1 + a3 * b0 + a4 * (b4 * 19)))).toArray), (.agg (u64s (pr (a0 * b4 + a1 * b3 + a2 * b2 + a3 * b1 + a4 * b0))).toArray)] y fun x w' => x = .returned (.tuple #[]) ∧ (∃ l, Blk w' w.heap.size 27 (u64s l) ∧ Fe l (v5 (a0 * b0 + a1 * (b4 * 19) + a2 * (b3 * 19) + a3 * (b2 * 19) + a4 * (b1 * 19)) (a0 * b1 + a1 * b0 + a2 * (b4 * 19) + a3 * (b3 * 19) + a4 * (b2 * 19)) (a0 * b2 + a1 * b1 + a2 * b0 + a3 * (b4 * 19) + a4 * (b3 * 19)) (a0 * b3 + a1 * b2 + a2 * b1 + a3 * b0 + a4 * (b4 * 19)) (a0 * b4 + a1 * b3 + a2 * b2 + a3 * b1 + a4 * b0) % PR)) ∧ Kept (fun k => k = w.heap.size) y w')) := ⟨MR.2.2.2.2.2, fun y hB => fold_any _ _ _ _ _ _ _ _ _ _ _ y hB MR.1 MR.2.1 MR.2.2.1 MR.2.2.2.1 MR.2.2.2.2.1⟩
  clear MR hx hy hl hk
  have w_b1x19 : Word (b1 * 19) := ⟨by have := hb1; unfold Lim at *; omega, by have := hb1; unfold Lim at *; omega⟩
  have w_b2x19 : Word (b2 * 19) := ⟨by have := hb2; unfold Lim at *; omega, by have := hb2; unfold Lim at *; omega⟩
  have w_b3x19 : Word (b3 * 19) := ⟨by have := hb3; unfold Lim at *; omega, by have := hb3; unfold Lim at *; omega⟩
  have w_b4x19 : Word (b4 * 19) := ⟨by have := hb4; unfold Lim at *; omega, by have := hb4; unfold Lim at *; omega⟩
  have w_a0 : Word a0 := ⟨by have := ha0; unfold Lim at *; omega, by have := ha0; unfold Lim at *; omega⟩
  have w_a1 : Word a1 := ⟨by have := ha1; unfold Lim at *; omega, by have := ha1; unfold Lim at *; omega⟩
  have w_a2 : Word a2 := ⟨by have := ha2; unfold Lim at *; omega, by have := ha2; unfold Lim at *; omega⟩
  have w_a3 : Word a3 := ⟨by have := ha3; unfold Lim at *; omega, by have := ha3; unfold Lim at *; omega⟩
  have w_a4 : Word a4 := ⟨by have := ha4; unfold Lim at *; omega, by have := ha4; unfold Lim at *; omega⟩
  have w_b0 : Word b0 := ⟨by have := hb0; unfold Lim at *; omega, by have := hb0; unfold Lim at *; omega⟩
  have w_b1 : Word b1 := ⟨by have := hb1; unfold Lim at *; omega, by have := hb1; unfold Lim at *; omega⟩
  have w_b2 : Word b2 := ⟨by have := hb2; unfold Lim at *; omega, by have := hb2; unfold Lim at *; omega⟩
  have w_b3 : Word b3 := ⟨by have := hb3; unfold Lim at *; omega, by have := hb3; unfold Lim at *; omega⟩
  have w_b4 : Word b4 := ⟨by have := hb4; unfold Lim at *; omega, by have := hb4; unfold Lim at *; omega⟩
  have p00 : 0 ≤ a0 * b0 ∧ a0 * b0 < 20769187434139310514121985316880384 := by
    have := mb2 (x := a0) (y := b0) (X := 144115188075855872) (Y := 144115188075855872) ⟨by unfold Lim at *; omega, by unfold Lim at *; omega⟩ ⟨by unfold Lim at *; omega, by unfold Lim at *; omega⟩
    rw [show (144115188075855872 : Int) * 144115188075855872 = 20769187434139310514121985316880384 by decide] at this
    exact this
  have p01 : 0 ≤ a1 * (b4 * 19) ∧ a1 * (b4 * 19) < 20769187434139310514121985316880384 := by
    have := mb2 (x := a1) (y := (b4 * 19)) (X := 144115188075855872) (Y := 144115188075855872) ⟨by unfold Lim at *; omega, by unfold Lim at *; omega⟩ ⟨by unfold Lim at *; omega, by unfold Lim at *; omega⟩
    rw [show (144115188075855872 : Int) * 144115188075855872 = 20769187434139310514121985316880384 by decide] at this
    exact this
  have p02 : 0 ≤ a2 * (b3 * 19) ∧ a2 * (b3 * 19) < 20769187434139310514121985316880384 := by
    have := mb2 (x := a2) (y := (b3 * 19)) (X := 144115188075855872) (Y := 144115188075855872) ⟨by unfold Lim at *; omega, by unfold Lim at *; omega⟩ ⟨by unfold Lim at *; omega, by unfold Lim at *; omega⟩
    rw [show (144115188075855872 : Int) * 144115188075855872 = 20769187434139310514121985316880384 by decide] at this
    exact this
  have p03 : 0 ≤ a3 * (b2 * 19) ∧ a3 * (b2 * 19) < 20769187434139310514121985316880384 := by
    have := mb2 (x := a3) (y := (b2 * 19)) (X := 144115188075855872) (Y := 144115188075855872) ⟨by unfold Lim at *; omega, by unfold Lim at *; omega⟩ ⟨by unfold Lim at *; omega, by unfold Lim at *; omega⟩
    rw [show (144115188075855872 : Int) * 144115188075855872 = 20769187434139310514121985316880384 by decide] at this
    exact this
  have p04 : 0 ≤ a4 * (b1 * 19) ∧ a4 * (b1 * 19) < 20769187434139310514121985316880384 := by
    have := mb2 (x := a4) (y := (b1 * 19)) (X := 144115188075855872) (Y := 144115188075855872) ⟨by unfold Lim at *; omega, by unfold Lim at *; omega⟩ ⟨by unfold Lim at *; omega, by unfold Lim at *; omega⟩
    rw [show (144115188075855872 : Int) * 144115188075855872 = 20769187434139310514121985316880384 by decide] at this
    exact this
  have p10 : 0 ≤ a0 * b1 ∧ a0 * b1 < 20769187434139310514121985316880384 := by
    have := mb2 (x := a0) (y := b1) (X := 144115188075855872) (Y := 144115188075855872) ⟨by unfold Lim at *; omega, by unfold Lim at *; omega⟩ ⟨by unfold Lim at *; omega, by unfold Lim at *; omega⟩
    rw [show (144115188075855872 : Int) * 144115188075855872 = 20769187434139310514121985316880384 by decide] at this
    exact this
  have p11 : 0 ≤ a1 * b0 ∧ a1 * b0 < 20769187434139310514121985316880384 := by
    have := mb2 (x := a1) (y := b0) (X := 144115188075855872) (Y := 144115188075855872) ⟨by unfold Lim at *; omega, by unfold Lim at *; omega⟩ ⟨by unfold Lim at *; omega, by unfold Lim at *; omega⟩
    rw [show (144115188075855872 : Int) * 144115188075855872 = 20769187434139310514121985316880384 by decide] at this
    exact this
  have p12 : 0 ≤ a2 * (b4 * 19) ∧ a2 * (b4 * 19) < 20769187434139310514121985316880384 := by
    have := mb2 (x := a2) (y := (b4 * 19)) (X := 144115188075855872) (Y := 144115188075855872) ⟨by unfold Lim at *; omega, by unfold Lim at *; omega⟩ ⟨by unfold Lim at *; omega, by unfold Lim at *; omega⟩
    rw [show (144115188075855872 : Int) * 144115188075855872 = 20769187434139310514121985316880384 by decide] at this
    exact this
  have p13 : 0 ≤ a3 * (b3 * 19) ∧ a3 * (b3 * 19) < 20769187434139310514121985316880384 := by
    have := mb2 (x := a3) (y := (b3 * 19)) (X := 144115188075855872) (Y := 144115188075855872) ⟨by unfold Lim at *; omega, by unfold Lim at *; omega⟩ ⟨by unfold Lim at *; omega, by unfold Lim at *; omega⟩
    rw [show (144115188075855872 : Int) * 144115188075855872 = 20769187434139310514121985316880384 by decide] at this
    exact this
  have p14 : 0 ≤ a4 * (b2 * 19) ∧ a4 * (b2 * 19) < 20769187434139310514121985316880384 := by
    have := mb2 (x := a4) (y := (b2 * 19)) (X := 144115188075855872) (Y := 144115188075855872) ⟨by unfold Lim at *; omega, by unfold Lim at *; omega⟩ ⟨by unfold Lim at *; omega, by unfold Lim at *; omega⟩
    rw [show (144115188075855872 : Int) * 144115188075855872 = 20769187434139310514121985316880384 by decide] at this
    exact this
  have p20 : 0 ≤ a0 * b2 ∧ a0 * b2 < 20769187434139310514121985316880384 := by
    have := mb2 (x := a0) (y := b2) (X := 144115188075855872) (Y := 144115188075855872) ⟨by unfold Lim at *; omega, by unfold Lim at *; omega⟩ ⟨by unfold Lim at *; omega, by unfold Lim at *; omega⟩
    rw [show (144115188075855872 : Int) * 144115188075855872 = 20769187434139310514121985316880384 by decide] at this
    exact this
  have p21 : 0 ≤ a1 * b1 ∧ a1 * b1 < 20769187434139310514121985316880384 := by
    have := mb2 (x := a1) (y := b1) (X := 144115188075855872) (Y := 144115188075855872) ⟨by unfold Lim at *; omega, by unfold Lim at *; omega⟩ ⟨by unfold Lim at *; omega, by unfold Lim at *; omega⟩
    rw [show (144115188075855872 : Int) * 144115188075855872 = 20769187434139310514121985316880384 by decide] at this
    exact this
  have p22 : 0 ≤ a2 * b0 ∧ a2 * b0 < 20769187434139310514121985316880384 := by
    have := mb2 (x := a2) (y := b0) (X := 144115188075855872) (Y := 144115188075855872) ⟨by unfold Lim at *; omega, by unfold Lim at *; omega⟩ ⟨by unfold Lim at *; omega, by unfold Lim at *; omega⟩
    rw [show (144115188075855872 : Int) * 144115188075855872 = 20769187434139310514121985316880384 by decide] at this
    exact this
  have p23 : 0 ≤ a3 * (b4 * 19) ∧ a3 * (b4 * 19) < 20769187434139310514121985316880384 := by
    have := mb2 (x := a3) (y := (b4 * 19)) (X := 144115188075855872) (Y := 144115188075855872) ⟨by unfold Lim at *; omega, by unfold Lim at *; omega⟩ ⟨by unfold Lim at *; omega, by unfold Lim at *; omega⟩
    rw [show (144115188075855872 : Int) * 144115188075855872 = 20769187434139310514121985316880384 by decide] at this
    exact this
  have p24 : 0 ≤ a4 * (b3 * 19) ∧ a4 * (b3 * 19) < 20769187434139310514121985316880384 := by
    have := mb2 (x := a4) (y := (b3 * 19)) (X := 144115188075855872) (Y := 144115188075855872) ⟨by unfold Lim at *; omega, by unfold Lim at *; omega⟩ ⟨by unfold Lim at *; omega, by unfold Lim at *; omega⟩
    rw [show (144115188075855872 : Int) * 144115188075855872 = 20769187434139310514121985316880384 by decide] at this
    exact this
  have p30 : 0 ≤ a0 * b3 ∧ a0 * b3 < 20769187434139310514121985316880384 := by
    have := mb2 (x := a0) (y := b3) (X := 144115188075855872) (Y := 144115188075855872) ⟨by unfold Lim at *; omega, by unfold Lim at *; omega⟩ ⟨by unfold Lim at *; omega, by unfold Lim at *; omega⟩
    rw [show (144115188075855872 : Int) * 144115188075855872 = 20769187434139310514121985316880384 by decide] at this
    exact this
  have p31 : 0 ≤ a1 * b2 ∧ a1 * b2 < 20769187434139310514121985316880384 := by
    have := mb2 (x := a1) (y := b2) (X := 144115188075855872) (Y := 144115188075855872) ⟨by unfold Lim at *; omega, by unfold Lim at *; omega⟩ ⟨by unfold Lim at *; omega, by unfold Lim at *; omega⟩
    rw [show (144115188075855872 : Int) * 144115188075855872 = 20769187434139310514121985316880384 by decide] at this
    exact this
  have p32 : 0 ≤ a2 * b1 ∧ a2 * b1 < 20769187434139310514121985316880384 := by
    have := mb2 (x := a2) (y := b1) (X := 144115188075855872) (Y := 144115188075855872) ⟨by unfold Lim at *; omega, by unfold Lim at *; omega⟩ ⟨by unfold Lim at *; omega, by unfold Lim at *; omega⟩
    rw [show (144115188075855872 : Int) * 144115188075855872 = 20769187434139310514121985316880384 by decide] at this
    exact this
  have p33 : 0 ≤ a3 * b0 ∧ a3 * b0 < 20769187434139310514121985316880384 := by
    have := mb2 (x := a3) (y := b0) (X := 144115188075855872) (Y := 144115188075855872) ⟨by unfold Lim at *; omega, by unfold Lim at *; omega⟩ ⟨by unfold Lim at *; omega, by unfold Lim at *; omega⟩
    rw [show (144115188075855872 : Int) * 144115188075855872 = 20769187434139310514121985316880384 by decide] at this
    exact this
  have p34 : 0 ≤ a4 * (b4 * 19) ∧ a4 * (b4 * 19) < 20769187434139310514121985316880384 := by
    have := mb2 (x := a4) (y := (b4 * 19)) (X := 144115188075855872) (Y := 144115188075855872) ⟨by unfold Lim at *; omega, by unfold Lim at *; omega⟩ ⟨by unfold Lim at *; omega, by unfold Lim at *; omega⟩
    rw [show (144115188075855872 : Int) * 144115188075855872 = 20769187434139310514121985316880384 by decide] at this
    exact this
  have p40 : 0 ≤ a0 * b4 ∧ a0 * b4 < 20769187434139310514121985316880384 := by
    have := mb2 (x := a0) (y := b4) (X := 144115188075855872) (Y := 144115188075855872) ⟨by unfold Lim at *; omega, by unfold Lim at *; omega⟩ ⟨by unfold Lim at *; omega, by unfold Lim at *; omega⟩
    rw [show (144115188075855872 : Int) * 144115188075855872 = 20769187434139310514121985316880384 by decide] at this
    exact this
  have p41 : 0 ≤ a1 * b3 ∧ a1 * b3 < 20769187434139310514121985316880384 := by
    have := mb2 (x := a1) (y := b3) (X := 144115188075855872) (Y := 144115188075855872) ⟨by unfold Lim at *; omega, by unfold Lim at *; omega⟩ ⟨by unfold Lim at *; omega, by unfold Lim at *; omega⟩
    rw [show (144115188075855872 : Int) * 144115188075855872 = 20769187434139310514121985316880384 by decide] at this
    exact this
  have p42 : 0 ≤ a2 * b2 ∧ a2 * b2 < 20769187434139310514121985316880384 := by
    have := mb2 (x := a2) (y := b2) (X := 144115188075855872) (Y := 144115188075855872) ⟨by unfold Lim at *; omega, by unfold Lim at *; omega⟩ ⟨by unfold Lim at *; omega, by unfold Lim at *; omega⟩
    rw [show (144115188075855872 : Int) * 144115188075855872 = 20769187434139310514121985316880384 by decide] at this
    exact this
  have p43 : 0 ≤ a3 * b1 ∧ a3 * b1 < 20769187434139310514121985316880384 := by
    have := mb2 (x := a3) (y := b1) (X := 144115188075855872) (Y := 144115188075855872) ⟨by unfold Lim at *; omega, by unfold Lim at *; omega⟩ ⟨by unfold Lim at *; omega, by unfold Lim at *; omega⟩
    rw [show (144115188075855872 : Int) * 144115188075855872 = 20769187434139310514121985316880384 by decide] at this
    exact this
  have p44 : 0 ≤ a4 * b0 ∧ a4 * b0 < 20769187434139310514121985316880384 := by
    have := mb2 (x := a4) (y := b0) (X := 144115188075855872) (Y := 144115188075855872) ⟨by unfold Lim at *; omega, by unfold Lim at *; omega⟩ ⟨by unfold Lim at *; omega, by unfold Lim at *; omega⟩
    rw [show (144115188075855872 : Int) * 144115188075855872 = 20769187434139310514121985316880384 by decide] at this
    exact this
  have H0 : Hid ((∀ w, Calls Try.prog 70 #[(.int .u64 a0), (.int .u64 b0)] w fun e w' => e = .returned (.agg (u64s (pr (a0 * b0))).toArray) ∧ Below w.heap.size w w') ∧ (∀ w, Calls Try.prog 71 #[(.agg (u64s (pr (a0 * b0))).toArray), (.int .u64 a1), (.int .u64 (b4 * 19))] w fun e w' => e = .returned (.agg (u64s (pr (a0 * b0 + a1 * (b4 * 19)))).toArray) ∧ Below w.heap.size w w') ∧ (∀ w, Calls Try.prog 71 #[(.agg (u64s (pr (a0 * b0 + a1 * (b4 * 19)))).toArray), (.int .u64 a2), (.int .u64 (b3 * 19))] w fun e w' => e = .returned (.agg (u64s (pr (a0 * b0 + a1 * (b4 * 19) + a2 * (b3 * 19)))).toArray) ∧ Below w.heap.size w w') ∧ (∀ w, Calls Try.prog 71 #[(.agg (u64s (pr (a0 * b0 + a1 * (b4 * 19) + a2 * (b3 * 19)))).toArray), (.int .u64 a3), (.int .u64 (b2 * 19))] w fun e w' => e = .returned (.agg (u64s (pr (a0 * b0 + a1 * (b4 * 19) + a2 * (b3 * 19) + a3 * (b2 * 19)))).toArray) ∧ Below w.heap.size w w') ∧ (∀ w, Calls Try.prog 71 #[(.agg (u64s (pr (a0 * b0 + a1 * (b4 * 19) + a2 * (b3 * 19) + a3 * (b2 * 19)))).toArray), (.int .u64 a4), (.int .u64 (b1 * 19))] w fun e w' => e = .returned (.agg (u64s (pr (a0 * b0 + a1 * (b4 * 19) + a2 * (b3 * 19) + a3 * (b2 * 19) + a4 * (b1 * 19)))).toArray) ∧ Below w.heap.size w w')) := ⟨fproduct_any _ _ w_a0 w_b0, fplus_any _ _ _ w_a1 w_b4x19 (by omega) (by omega), fplus_any _ _ _ w_a2 w_b3x19 (by omega) (by omega), fplus_any _ _ _ w_a3 w_b2x19 (by omega) (by omega), fplus_any _ _ _ w_a4 w_b1x19 (by omega) (by omega)⟩
  have H1 : Hid ((∀ w, Calls Try.prog 70 #[(.int .u64 a0), (.int .u64 b1)] w fun e w' => e = .returned (.agg (u64s (pr (a0 * b1))).toArray) ∧ Below w.heap.size w w') ∧ (∀ w, Calls Try.prog 71 #[(.agg (u64s (pr (a0 * b1))).toArray), (.int .u64 a1), (.int .u64 b0)] w fun e w' => e = .returned (.agg (u64s (pr (a0 * b1 + a1 * b0))).toArray) ∧ Below w.heap.size w w') ∧ (∀ w, Calls Try.prog 71 #[(.agg (u64s (pr (a0 * b1 + a1 * b0))).toArray), (.int .u64 a2), (.int .u64 (b4 * 19))] w fun e w' => e = .returned (.agg (u64s (pr (a0 * b1 + a1 * b0 + a2 * (b4 * 19)))).toArray) ∧ Below w.heap.size w w') ∧ (∀ w, Calls Try.prog 71 #[(.agg (u64s (pr (a0 * b1 + a1 * b0 + a2 * (b4 * 19)))).toArray), (.int .u64 a3), (.int .u64 (b3 * 19))] w fun e w' => e = .returned (.agg (u64s (pr (a0 * b1 + a1 * b0 + a2 * (b4 * 19) + a3 * (b3 * 19)))).toArray) ∧ Below w.heap.size w w') ∧ (∀ w, Calls Try.prog 71 #[(.agg (u64s (pr (a0 * b1 + a1 * b0 + a2 * (b4 * 19) + a3 * (b3 * 19)))).toArray), (.int .u64 a4), (.int .u64 (b2 * 19))] w fun e w' => e = .returned (.agg (u64s (pr (a0 * b1 + a1 * b0 + a2 * (b4 * 19) + a3 * (b3 * 19) + a4 * (b2 * 19)))).toArray) ∧ Below w.heap.size w w')) := ⟨fproduct_any _ _ w_a0 w_b1, fplus_any _ _ _ w_a1 w_b0 (by omega) (by omega), fplus_any _ _ _ w_a2 w_b4x19 (by omega) (by omega), fplus_any _ _ _ w_a3 w_b3x19 (by omega) (by omega), fplus_any _ _ _ w_a4 w_b2x19 (by omega) (by omega)⟩
  have H2 : Hid ((∀ w, Calls Try.prog 70 #[(.int .u64 a0), (.int .u64 b2)] w fun e w' => e = .returned (.agg (u64s (pr (a0 * b2))).toArray) ∧ Below w.heap.size w w') ∧ (∀ w, Calls Try.prog 71 #[(.agg (u64s (pr (a0 * b2))).toArray), (.int .u64 a1), (.int .u64 b1)] w fun e w' => e = .returned (.agg (u64s (pr (a0 * b2 + a1 * b1))).toArray) ∧ Below w.heap.size w w') ∧ (∀ w, Calls Try.prog 71 #[(.agg (u64s (pr (a0 * b2 + a1 * b1))).toArray), (.int .u64 a2), (.int .u64 b0)] w fun e w' => e = .returned (.agg (u64s (pr (a0 * b2 + a1 * b1 + a2 * b0))).toArray) ∧ Below w.heap.size w w') ∧ (∀ w, Calls Try.prog 71 #[(.agg (u64s (pr (a0 * b2 + a1 * b1 + a2 * b0))).toArray), (.int .u64 a3), (.int .u64 (b4 * 19))] w fun e w' => e = .returned (.agg (u64s (pr (a0 * b2 + a1 * b1 + a2 * b0 + a3 * (b4 * 19)))).toArray) ∧ Below w.heap.size w w') ∧ (∀ w, Calls Try.prog 71 #[(.agg (u64s (pr (a0 * b2 + a1 * b1 + a2 * b0 + a3 * (b4 * 19)))).toArray), (.int .u64 a4), (.int .u64 (b3 * 19))] w fun e w' => e = .returned (.agg (u64s (pr (a0 * b2 + a1 * b1 + a2 * b0 + a3 * (b4 * 19) + a4 * (b3 * 19)))).toArray) ∧ Below w.heap.size w w')) := ⟨fproduct_any _ _ w_a0 w_b2, fplus_any _ _ _ w_a1 w_b1 (by omega) (by omega), fplus_any _ _ _ w_a2 w_b0 (by omega) (by omega), fplus_any _ _ _ w_a3 w_b4x19 (by omega) (by omega), fplus_any _ _ _ w_a4 w_b3x19 (by omega) (by omega)⟩
  have H3 : Hid ((∀ w, Calls Try.prog 70 #[(.int .u64 a0), (.int .u64 b3)] w fun e w' => e = .returned (.agg (u64s (pr (a0 * b3))).toArray) ∧ Below w.heap.size w w') ∧ (∀ w, Calls Try.prog 71 #[(.agg (u64s (pr (a0 * b3))).toArray), (.int .u64 a1), (.int .u64 b2)] w fun e w' => e = .returned (.agg (u64s (pr (a0 * b3 + a1 * b2))).toArray) ∧ Below w.heap.size w w') ∧ (∀ w, Calls Try.prog 71 #[(.agg (u64s (pr (a0 * b3 + a1 * b2))).toArray), (.int .u64 a2), (.int .u64 b1)] w fun e w' => e = .returned (.agg (u64s (pr (a0 * b3 + a1 * b2 + a2 * b1))).toArray) ∧ Below w.heap.size w w') ∧ (∀ w, Calls Try.prog 71 #[(.agg (u64s (pr (a0 * b3 + a1 * b2 + a2 * b1))).toArray), (.int .u64 a3), (.int .u64 b0)] w fun e w' => e = .returned (.agg (u64s (pr (a0 * b3 + a1 * b2 + a2 * b1 + a3 * b0))).toArray) ∧ Below w.heap.size w w') ∧ (∀ w, Calls Try.prog 71 #[(.agg (u64s (pr (a0 * b3 + a1 * b2 + a2 * b1 + a3 * b0))).toArray), (.int .u64 a4), (.int .u64 (b4 * 19))] w fun e w' => e = .returned (.agg (u64s (pr (a0 * b3 + a1 * b2 + a2 * b1 + a3 * b0 + a4 * (b4 * 19)))).toArray) ∧ Below w.heap.size w w')) := ⟨fproduct_any _ _ w_a0 w_b3, fplus_any _ _ _ w_a1 w_b2 (by omega) (by omega), fplus_any _ _ _ w_a2 w_b1 (by omega) (by omega), fplus_any _ _ _ w_a3 w_b0 (by omega) (by omega), fplus_any _ _ _ w_a4 w_b4x19 (by omega) (by omega)⟩
  have H4 : Hid ((∀ w, Calls Try.prog 70 #[(.int .u64 a0), (.int .u64 b4)] w fun e w' => e = .returned (.agg (u64s (pr (a0 * b4))).toArray) ∧ Below w.heap.size w w') ∧ (∀ w, Calls Try.prog 71 #[(.agg (u64s (pr (a0 * b4))).toArray), (.int .u64 a1), (.int .u64 b3)] w fun e w' => e = .returned (.agg (u64s (pr (a0 * b4 + a1 * b3))).toArray) ∧ Below w.heap.size w w') ∧ (∀ w, Calls Try.prog 71 #[(.agg (u64s (pr (a0 * b4 + a1 * b3))).toArray), (.int .u64 a2), (.int .u64 b2)] w fun e w' => e = .returned (.agg (u64s (pr (a0 * b4 + a1 * b3 + a2 * b2))).toArray) ∧ Below w.heap.size w w') ∧ (∀ w, Calls Try.prog 71 #[(.agg (u64s (pr (a0 * b4 + a1 * b3 + a2 * b2))).toArray), (.int .u64 a3), (.int .u64 b1)] w fun e w' => e = .returned (.agg (u64s (pr (a0 * b4 + a1 * b3 + a2 * b2 + a3 * b1))).toArray) ∧ Below w.heap.size w w') ∧ (∀ w, Calls Try.prog 71 #[(.agg (u64s (pr (a0 * b4 + a1 * b3 + a2 * b2 + a3 * b1))).toArray), (.int .u64 a4), (.int .u64 b0)] w fun e w' => e = .returned (.agg (u64s (pr (a0 * b4 + a1 * b3 + a2 * b2 + a3 * b1 + a4 * b0))).toArray) ∧ Below w.heap.size w w')) := ⟨fproduct_any _ _ w_a0 w_b4, fplus_any _ _ _ w_a1 w_b3 (by omega) (by omega), fplus_any _ _ _ w_a2 w_b2 (by omega) (by omega), fplus_any _ _ _ w_a3 w_b1 (by omega) (by omega), fplus_any _ _ _ w_a4 w_b0 (by omega) (by omega)⟩
  have u_w_b1x19 : IntKind.u64.wrap (b1 * 19) = (b1 * 19) := by rw [IntKind.wrap_u64]; have := w_b1x19; unfold Word at this; omega
  have u_w_b2x19 : IntKind.u64.wrap (b2 * 19) = (b2 * 19) := by rw [IntKind.wrap_u64]; have := w_b2x19; unfold Word at this; omega
  have u_w_b3x19 : IntKind.u64.wrap (b3 * 19) = (b3 * 19) := by rw [IntKind.wrap_u64]; have := w_b3x19; unfold Word at this; omega
  have u_w_b4x19 : IntKind.u64.wrap (b4 * 19) = (b4 * 19) := by rw [IntKind.wrap_u64]; have := w_b4x19; unfold Word at this; omega
  generalize a0 * b0 = s00 at H0 HF
  generalize s00 + a1 * (b4 * 19) = s01 at H0 HF
  generalize s01 + a2 * (b3 * 19) = s02 at H0 HF
  generalize s02 + a3 * (b2 * 19) = s03 at H0 HF
  generalize s03 + a4 * (b1 * 19) = s04 at H0 HF
  generalize a0 * b1 = s10 at H1 HF
  generalize s10 + a1 * b0 = s11 at H1 HF
  generalize s11 + a2 * (b4 * 19) = s12 at H1 HF
  generalize s12 + a3 * (b3 * 19) = s13 at H1 HF
  generalize s13 + a4 * (b2 * 19) = s14 at H1 HF
  generalize a0 * b2 = s20 at H2 HF
  generalize s20 + a1 * b1 = s21 at H2 HF
  generalize s21 + a2 * b0 = s22 at H2 HF
  generalize s22 + a3 * (b4 * 19) = s23 at H2 HF
  generalize s23 + a4 * (b3 * 19) = s24 at H2 HF
  generalize a0 * b3 = s30 at H3 HF
  generalize s30 + a1 * b2 = s31 at H3 HF
  generalize s31 + a2 * b1 = s32 at H3 HF
  generalize s32 + a3 * b0 = s33 at H3 HF
  generalize s33 + a4 * (b4 * 19) = s34 at H3 HF
  generalize a0 * b4 = s40 at H4 HF
  generalize s40 + a1 * b3 = s41 at H4 HF
  generalize s41 + a2 * b2 = s42 at H4 HF
  generalize s42 + a3 * b1 = s43 at H4 HF
  generalize s43 + a4 * b0 = s44 at H4 HF
  clear ha0 ha1 ha2 ha3 ha4 hb0 hb1 hb2 hb3 hb4 p00 p01 p02 p03 p04 p10 p11 p12 p13 p14 p20 p21 p22 p23 p24 p30 p31 p32 p33 p34 p40 p41 p42 p43 p44 w_a0 w_a1 w_a2 w_a3 w_a4 w_b0 w_b1 w_b1x19 w_b2 w_b2x19 w_b3 w_b3x19 w_b4 w_b4x19
  go_enter Try.func31, Try.ntmps31
  go_wp2_with (first | (refine wpList_box_new rfl 27 (.tmp 0) rfl (u64s [a0, a1, a2, a3, a4]) rfl ?_; intro x1 z1 s1 l1) | (refine wpList_box_new rfl 27 (.tmp 1) rfl (u64s [b0, b1, b2, b3, b4]) rfl ?_; intro x2 z2 s2 l2) | (refine wpList_alloc_new rfl 27 rfl 5 _ zeroElem ?_; intro x3 z3 s3 l3))
  have e2 : x1.heap.size = w.heap.size + 1 := s1
  have e3 : x2.heap.size = w.heap.size + 1 + 1 := by omega
  rw [e2] at z2
  rw [e3] at z3
  have B2 := z2.later l3 (by omega)
  have c1 : x3.cell? ⟨w.heap.size + 1, 1, none⟩ = some (.int .u64 b1) := B2.cell 1
  have c2 : x3.cell? ⟨w.heap.size + 1, 2, none⟩ = some (.int .u64 b2) := B2.cell 2
  have c3 : x3.cell? ⟨w.heap.size + 1, 3, none⟩ = some (.int .u64 b3) := B2.cell 3
  have c4 : x3.cell? ⟨w.heap.size + 1, 4, none⟩ = some (.int .u64 b4) := B2.cell 4
  have WW : Hid (Below w.heap.size w x3 ∧ Blk x3 w.heap.size 27 (u64s [a0, a1, a2, a3, a4]) ∧ Blk x3 (w.heap.size + 1) 27 (u64s [b0, b1, b2, b3, b4]) ∧ Blk x3 (w.heap.size + 1 + 1) 27 (u64s [0, 0, 0, 0, 0])) := ⟨below_chain (below_chain l1 l2 (by omega)) l3 (by omega), (z1.later l2 (by omega)).later l3 (by omega), B2, z3⟩
  clear z1 s1 l1 z2 s2 l2 z3 s3 l3 e2 e3 B2
  try go_wp2_with fail
  go_quiet (fail)
  go_wp2_with fail
  have W0 : Hid (Below w.heap.size w (x3.drewN nq) ∧ Blk (x3.drewN nq) w.heap.size 27 (u64s [a0, a1, a2, a3, a4]) ∧ Blk (x3.drewN nq) (w.heap.size + 1) 27 (u64s [b0, b1, b2, b3, b4]) ∧ Blk (x3.drewN nq) (w.heap.size + 1 + 1) 27 (u64s [0, 0, 0, 0, 0]) ∧ True) := ⟨below_dn WW.out.1 nq, WW.out.2.1.drewN nq, WW.out.2.2.1.drewN nq, WW.out.2.2.2.drewN nq, trivial⟩
  obtain ⟨y0, hy0⟩ : ∃ q, x3.drewN nq = q := ⟨_, rfl⟩
  rw [hy0] at W0 ⊢
  clear WW c1 c2 c3 c4 hy0
  refine region_invT ((.val (.pointer (some ⟨w.heap.size, 0, none⟩))) :: (.val (.pointer (some ⟨w.heap.size, 0, none⟩))) :: (.val (.pointer (some ⟨w.heap.size, 0, none⟩))) :: (.val (.int .u64 a0)) :: (.val (.pointer (some ⟨(w.heap.size + 1), 0, none⟩))) :: (.val (.pointer (some ⟨(w.heap.size + 1), 0, none⟩))) :: (.val (.pointer (some ⟨(w.heap.size + 1), 0, none⟩))) :: (.val (.int .u64 b0)) :: (.val (.agg (u64s (pr s00)).toArray)) :: (.val (.pointer (some ⟨w.heap.size, 0, none⟩))) :: (.val (.pointer (some ⟨w.heap.size, 0, none⟩))) :: (.val (.pointer (some ⟨w.heap.size, 1, none⟩))) :: (.val (.int .u64 a1)) :: (.val (.int .u64 (b4 * 19))) :: (.val (.agg (u64s (pr s01)).toArray)) :: (.val (.pointer (some ⟨w.heap.size, 0, none⟩))) :: (.val (.pointer (some ⟨w.heap.size, 0, none⟩))) :: (.val (.pointer (some ⟨w.heap.size, 2, none⟩))) :: (.val (.int .u64 a2)) :: (.val (.int .u64 (b3 * 19))) :: (.val (.agg (u64s (pr s02)).toArray)) :: (.val (.pointer (some ⟨w.heap.size, 0, none⟩))) :: (.val (.pointer (some ⟨w.heap.size, 0, none⟩))) :: (.val (.pointer (some ⟨w.heap.size, 3, none⟩))) :: (.val (.int .u64 a3)) :: (.val (.int .u64 (b2 * 19))) :: (.val (.agg (u64s (pr s03)).toArray)) :: (.val (.pointer (some ⟨w.heap.size, 0, none⟩))) :: (.val (.pointer (some ⟨w.heap.size, 0, none⟩))) :: (.val (.pointer (some ⟨w.heap.size, 4, none⟩))) :: (.val (.int .u64 a4)) :: (.val (.int .u64 (b1 * 19))) :: (.val (.agg (u64s (pr s04)).toArray)) :: (.blk 99 (u64s [0, 0])) :: []) (by kernel_rfl) (by kernel_rfl) (by kernel_rfl) ?_ ?_
  · refine Steps'.cons ?_ (Steps'.cons ?_ (Steps'.cons ?_ (Steps'.cons ?_ (Steps'.cons ?_ (Steps'.cons ?_ (Steps'.cons ?_ (Steps'.cons ?_ (Steps'.cons ?_ (Steps'.cons ?_ (Steps'.cons ?_ (Steps'.cons ?_ (Steps'.cons ?_ (Steps'.cons ?_ (Steps'.cons ?_ (Steps'.cons ?_ (Steps'.cons ?_ (Steps'.cons ?_ (Steps'.cons ?_ (Steps'.cons ?_ (Steps'.cons ?_ (Steps'.cons ?_ (Steps'.cons ?_ (Steps'.cons ?_ (Steps'.cons ?_ (Steps'.cons ?_ (Steps'.cons ?_ (Steps'.cons ?_ (Steps'.cons ?_ (Steps'.cons ?_ (Steps'.cons ?_ (Steps'.cons ?_ (Steps'.cons ?_ (Steps'.cons ?_ (Steps'.one _ _ _ _ _ _ _))))))))))))))))))))))))))))))))))
    · intro ax wx hb hs hd
      have h5 : ax.tmps.getD 5 undef = (.pointer (some ⟨w.heap.size, 0, none⟩)) := hs 5 (by kernel_rfl)
      refine Does.value (.pointer (some ⟨w.heap.size, 0, none⟩)) ?_ rfl
      clear hs hd
      go_simp
    · intro ax wx hb hs hd
      have h38 : ax.tmps.getD 38 undef = (.pointer (some ⟨w.heap.size, 0, none⟩)) := hd 0 38 rfl (by kernel_rfl) (by decide)
      refine Does.value (.pointer (some ⟨w.heap.size, 0, none⟩)) ?_ rfl
      clear hs hd
      go_simp
    · intro ax wx hb hs hd
      have h39 : ax.tmps.getD 39 undef = (.pointer (some ⟨w.heap.size, 0, none⟩)) := hd 1 39 rfl (by kernel_rfl) (by decide)
      refine Does.value (.pointer (some ⟨w.heap.size, 0, none⟩)) ?_ rfl
      clear hs hd
      go_simp
    · intro ax wx hb hs hd
      have h40 : ax.tmps.getD 40 undef = (.pointer (some ⟨w.heap.size, 0, none⟩)) := hd 2 40 rfl (by kernel_rfl) (by decide)
      have cx : wx.cell? ⟨w.heap.size, 0, none⟩ = some (.int .u64 a0) := (Blk.later W0.out.2.1 hb (Blk.lt W0.out.2.1)).cell 0
      refine Does.value (.int .u64 a0) ?_ rfl
      clear hs hd
      go_simp
    · intro ax wx hb hs hd
      have h6 : ax.tmps.getD 6 undef = (.pointer (some ⟨(w.heap.size + 1), 0, none⟩)) := hs 6 (by kernel_rfl)
      refine Does.value (.pointer (some ⟨(w.heap.size + 1), 0, none⟩)) ?_ rfl
      clear hs hd
      go_simp
    · intro ax wx hb hs hd
      have h42 : ax.tmps.getD 42 undef = (.pointer (some ⟨(w.heap.size + 1), 0, none⟩)) := hd 4 42 rfl (by kernel_rfl) (by decide)
      refine Does.value (.pointer (some ⟨(w.heap.size + 1), 0, none⟩)) ?_ rfl
      clear hs hd
      go_simp
    · intro ax wx hb hs hd
      have h43 : ax.tmps.getD 43 undef = (.pointer (some ⟨(w.heap.size + 1), 0, none⟩)) := hd 5 43 rfl (by kernel_rfl) (by decide)
      refine Does.value (.pointer (some ⟨(w.heap.size + 1), 0, none⟩)) ?_ rfl
      clear hs hd
      go_simp
    · intro ax wx hb hs hd
      have h44 : ax.tmps.getD 44 undef = (.pointer (some ⟨(w.heap.size + 1), 0, none⟩)) := hd 6 44 rfl (by kernel_rfl) (by decide)
      have cx : wx.cell? ⟨(w.heap.size + 1), 0, none⟩ = some (.int .u64 b0) := (Blk.later W0.out.2.2.1 hb (Blk.lt W0.out.2.2.1)).cell 0
      refine Does.value (.int .u64 b0) ?_ rfl
      clear hs hd
      go_simp
    · intro ax wx hb hs hd
      have h41 : ax.tmps.getD 41 undef = (.int .u64 a0) := hd 3 41 rfl (by kernel_rfl) (by decide)
      have h45 : ax.tmps.getD 45 undef = (.int .u64 b0) := hd 7 45 rfl (by kernel_rfl) (by decide)
      refine Does.call 70 #[(.int .u64 a0), (.int .u64 b0)] (by clear hs hd; go_simp) ?_
      refine (H0.out.1 _).mono ?_
      rintro z w' ⟨rfl, l⟩
      exact ⟨_, rfl, rfl, l⟩
    · intro ax wx hb hs hd
      have h5 : ax.tmps.getD 5 undef = (.pointer (some ⟨w.heap.size, 0, none⟩)) := hs 5 (by kernel_rfl)
      refine Does.value (.pointer (some ⟨w.heap.size, 0, none⟩)) ?_ rfl
      clear hs hd
      go_simp
    · intro ax wx hb hs hd
      have h47 : ax.tmps.getD 47 undef = (.pointer (some ⟨w.heap.size, 0, none⟩)) := hd 9 47 rfl (by kernel_rfl) (by decide)
      refine Does.value (.pointer (some ⟨w.heap.size, 0, none⟩)) ?_ rfl
      clear hs hd
      go_simp
    · intro ax wx hb hs hd
      have h48 : ax.tmps.getD 48 undef = (.pointer (some ⟨w.heap.size, 0, none⟩)) := hd 10 48 rfl (by kernel_rfl) (by decide)
      refine Does.value (.pointer (some ⟨w.heap.size, 1, none⟩)) ?_ rfl
      clear hs hd
      go_simp
    · intro ax wx hb hs hd
      have h49 : ax.tmps.getD 49 undef = (.pointer (some ⟨w.heap.size, 1, none⟩)) := hd 11 49 rfl (by kernel_rfl) (by decide)
      have cx : wx.cell? ⟨w.heap.size, 1, none⟩ = some (.int .u64 a1) := (Blk.later W0.out.2.1 hb (Blk.lt W0.out.2.1)).cell 1
      refine Does.value (.int .u64 a1) ?_ rfl
      clear hs hd
      go_simp
    · intro ax wx hb hs hd
      have h10 : ax.tmps.getD 10 undef = (.int .u64 (b4 * 19)) := hs 10 (by kernel_rfl)
      refine Does.value (.int .u64 (b4 * 19)) ?_ rfl
      clear hs hd
      go_simp
    · intro ax wx hb hs hd
      have h46 : ax.tmps.getD 46 undef = (.agg (u64s (pr s00)).toArray) := hd 8 46 rfl (by kernel_rfl) (by decide)
      have h50 : ax.tmps.getD 50 undef = (.int .u64 a1) := hd 12 50 rfl (by kernel_rfl) (by decide)
      have h51 : ax.tmps.getD 51 undef = (.int .u64 (b4 * 19)) := hd 13 51 rfl (by kernel_rfl) (by decide)
      refine Does.call 71 #[(.agg (u64s (pr s00)).toArray), (.int .u64 a1), (.int .u64 (b4 * 19))] (by clear hs hd; go_simp) ?_
      refine (H0.out.2.1 _).mono ?_
      rintro z w' ⟨rfl, l⟩
      exact ⟨_, rfl, rfl, l⟩
    · intro ax wx hb hs hd
      have h5 : ax.tmps.getD 5 undef = (.pointer (some ⟨w.heap.size, 0, none⟩)) := hs 5 (by kernel_rfl)
      refine Does.value (.pointer (some ⟨w.heap.size, 0, none⟩)) ?_ rfl
      clear hs hd
      go_simp
    · intro ax wx hb hs hd
      have h53 : ax.tmps.getD 53 undef = (.pointer (some ⟨w.heap.size, 0, none⟩)) := hd 15 53 rfl (by kernel_rfl) (by decide)
      refine Does.value (.pointer (some ⟨w.heap.size, 0, none⟩)) ?_ rfl
      clear hs hd
      go_simp
    · intro ax wx hb hs hd
      have h54 : ax.tmps.getD 54 undef = (.pointer (some ⟨w.heap.size, 0, none⟩)) := hd 16 54 rfl (by kernel_rfl) (by decide)
      refine Does.value (.pointer (some ⟨w.heap.size, 2, none⟩)) ?_ rfl
      clear hs hd
      go_simp
    · intro ax wx hb hs hd
      have h55 : ax.tmps.getD 55 undef = (.pointer (some ⟨w.heap.size, 2, none⟩)) := hd 17 55 rfl (by kernel_rfl) (by decide)
      have cx : wx.cell? ⟨w.heap.size, 2, none⟩ = some (.int .u64 a2) := (Blk.later W0.out.2.1 hb (Blk.lt W0.out.2.1)).cell 2
      refine Does.value (.int .u64 a2) ?_ rfl
      clear hs hd
      go_simp
    · intro ax wx hb hs hd
      have h9 : ax.tmps.getD 9 undef = (.int .u64 (b3 * 19)) := hs 9 (by kernel_rfl)
      refine Does.value (.int .u64 (b3 * 19)) ?_ rfl
      clear hs hd
      go_simp
    · intro ax wx hb hs hd
      have h52 : ax.tmps.getD 52 undef = (.agg (u64s (pr s01)).toArray) := hd 14 52 rfl (by kernel_rfl) (by decide)
      have h56 : ax.tmps.getD 56 undef = (.int .u64 a2) := hd 18 56 rfl (by kernel_rfl) (by decide)
      have h57 : ax.tmps.getD 57 undef = (.int .u64 (b3 * 19)) := hd 19 57 rfl (by kernel_rfl) (by decide)
      refine Does.call 71 #[(.agg (u64s (pr s01)).toArray), (.int .u64 a2), (.int .u64 (b3 * 19))] (by clear hs hd; go_simp) ?_
      refine (H0.out.2.2.1 _).mono ?_
      rintro z w' ⟨rfl, l⟩
      exact ⟨_, rfl, rfl, l⟩
    · intro ax wx hb hs hd
      have h5 : ax.tmps.getD 5 undef = (.pointer (some ⟨w.heap.size, 0, none⟩)) := hs 5 (by kernel_rfl)
      refine Does.value (.pointer (some ⟨w.heap.size, 0, none⟩)) ?_ rfl
      clear hs hd
      go_simp
    · intro ax wx hb hs hd
      have h59 : ax.tmps.getD 59 undef = (.pointer (some ⟨w.heap.size, 0, none⟩)) := hd 21 59 rfl (by kernel_rfl) (by decide)
      refine Does.value (.pointer (some ⟨w.heap.size, 0, none⟩)) ?_ rfl
      clear hs hd
      go_simp
    · intro ax wx hb hs hd
      have h60 : ax.tmps.getD 60 undef = (.pointer (some ⟨w.heap.size, 0, none⟩)) := hd 22 60 rfl (by kernel_rfl) (by decide)
      refine Does.value (.pointer (some ⟨w.heap.size, 3, none⟩)) ?_ rfl
      clear hs hd
      go_simp
    · intro ax wx hb hs hd
      have h61 : ax.tmps.getD 61 undef = (.pointer (some ⟨w.heap.size, 3, none⟩)) := hd 23 61 rfl (by kernel_rfl) (by decide)
      have cx : wx.cell? ⟨w.heap.size, 3, none⟩ = some (.int .u64 a3) := (Blk.later W0.out.2.1 hb (Blk.lt W0.out.2.1)).cell 3
      refine Does.value (.int .u64 a3) ?_ rfl
      clear hs hd
      go_simp
    · intro ax wx hb hs hd
      have h8 : ax.tmps.getD 8 undef = (.int .u64 (b2 * 19)) := hs 8 (by kernel_rfl)
      refine Does.value (.int .u64 (b2 * 19)) ?_ rfl
      clear hs hd
      go_simp
    · intro ax wx hb hs hd
      have h58 : ax.tmps.getD 58 undef = (.agg (u64s (pr s02)).toArray) := hd 20 58 rfl (by kernel_rfl) (by decide)
      have h62 : ax.tmps.getD 62 undef = (.int .u64 a3) := hd 24 62 rfl (by kernel_rfl) (by decide)
      have h63 : ax.tmps.getD 63 undef = (.int .u64 (b2 * 19)) := hd 25 63 rfl (by kernel_rfl) (by decide)
      refine Does.call 71 #[(.agg (u64s (pr s02)).toArray), (.int .u64 a3), (.int .u64 (b2 * 19))] (by clear hs hd; go_simp) ?_
      refine (H0.out.2.2.2.1 _).mono ?_
      rintro z w' ⟨rfl, l⟩
      exact ⟨_, rfl, rfl, l⟩
    · intro ax wx hb hs hd
      have h5 : ax.tmps.getD 5 undef = (.pointer (some ⟨w.heap.size, 0, none⟩)) := hs 5 (by kernel_rfl)
      refine Does.value (.pointer (some ⟨w.heap.size, 0, none⟩)) ?_ rfl
      clear hs hd
      go_simp
    · intro ax wx hb hs hd
      have h65 : ax.tmps.getD 65 undef = (.pointer (some ⟨w.heap.size, 0, none⟩)) := hd 27 65 rfl (by kernel_rfl) (by decide)
      refine Does.value (.pointer (some ⟨w.heap.size, 0, none⟩)) ?_ rfl
      clear hs hd
      go_simp
    · intro ax wx hb hs hd
      have h66 : ax.tmps.getD 66 undef = (.pointer (some ⟨w.heap.size, 0, none⟩)) := hd 28 66 rfl (by kernel_rfl) (by decide)
      refine Does.value (.pointer (some ⟨w.heap.size, 4, none⟩)) ?_ rfl
      clear hs hd
      go_simp
    · intro ax wx hb hs hd
      have h67 : ax.tmps.getD 67 undef = (.pointer (some ⟨w.heap.size, 4, none⟩)) := hd 29 67 rfl (by kernel_rfl) (by decide)
      have cx : wx.cell? ⟨w.heap.size, 4, none⟩ = some (.int .u64 a4) := (Blk.later W0.out.2.1 hb (Blk.lt W0.out.2.1)).cell 4
      refine Does.value (.int .u64 a4) ?_ rfl
      clear hs hd
      go_simp
    · intro ax wx hb hs hd
      have h7 : ax.tmps.getD 7 undef = (.int .u64 (b1 * 19)) := hs 7 (by kernel_rfl)
      refine Does.value (.int .u64 (b1 * 19)) ?_ rfl
      clear hs hd
      go_simp
    · intro ax wx hb hs hd
      have h64 : ax.tmps.getD 64 undef = (.agg (u64s (pr s03)).toArray) := hd 26 64 rfl (by kernel_rfl) (by decide)
      have h68 : ax.tmps.getD 68 undef = (.int .u64 a4) := hd 30 68 rfl (by kernel_rfl) (by decide)
      have h69 : ax.tmps.getD 69 undef = (.int .u64 (b1 * 19)) := hd 31 69 rfl (by kernel_rfl) (by decide)
      refine Does.call 71 #[(.agg (u64s (pr s03)).toArray), (.int .u64 a4), (.int .u64 (b1 * 19))] (by clear hs hd; go_simp) ?_
      refine (H0.out.2.2.2.2 _).mono ?_
      rintro z w' ⟨rfl, l⟩
      exact ⟨_, rfl, rfl, l⟩
    · intro ax wx hb hs hd
      exact Does.alloc 99 rfl 2 _ zeroWide hb.size
  · intro wx hb
    refine @Ends.val _ _ _ _ _ _ _ _ _ (.pointer (some ⟨w.heap.size, 0, none⟩)) rfl ?_
    refine @Ends.val _ _ _ _ _ _ _ _ _ (.pointer (some ⟨w.heap.size, 0, none⟩)) rfl ?_
    refine @Ends.val _ _ _ _ _ _ _ _ _ (.pointer (some ⟨w.heap.size, 0, none⟩)) rfl ?_
    refine @Ends.val _ _ _ _ _ _ _ _ _ (.int .u64 a0) rfl ?_
    refine @Ends.val _ _ _ _ _ _ _ _ _ (.pointer (some ⟨(w.heap.size + 1), 0, none⟩)) rfl ?_
    refine @Ends.val _ _ _ _ _ _ _ _ _ (.pointer (some ⟨(w.heap.size + 1), 0, none⟩)) rfl ?_
    refine @Ends.val _ _ _ _ _ _ _ _ _ (.pointer (some ⟨(w.heap.size + 1), 0, none⟩)) rfl ?_
    refine @Ends.val _ _ _ _ _ _ _ _ _ (.int .u64 b0) rfl ?_
    refine @Ends.val _ _ _ _ _ _ _ _ _ (.agg (u64s (pr s00)).toArray) rfl ?_
    refine @Ends.val _ _ _ _ _ _ _ _ _ (.pointer (some ⟨w.heap.size, 0, none⟩)) rfl ?_
    refine @Ends.val _ _ _ _ _ _ _ _ _ (.pointer (some ⟨w.heap.size, 0, none⟩)) rfl ?_
    refine @Ends.val _ _ _ _ _ _ _ _ _ (.pointer (some ⟨w.heap.size, 1, none⟩)) rfl ?_
    refine @Ends.val _ _ _ _ _ _ _ _ _ (.int .u64 a1) rfl ?_
    refine @Ends.val _ _ _ _ _ _ _ _ _ (.int .u64 (b4 * 19)) rfl ?_
    refine @Ends.val _ _ _ _ _ _ _ _ _ (.agg (u64s (pr s01)).toArray) rfl ?_
    refine @Ends.val _ _ _ _ _ _ _ _ _ (.pointer (some ⟨w.heap.size, 0, none⟩)) rfl ?_
    refine @Ends.val _ _ _ _ _ _ _ _ _ (.pointer (some ⟨w.heap.size, 0, none⟩)) rfl ?_
    refine @Ends.val _ _ _ _ _ _ _ _ _ (.pointer (some ⟨w.heap.size, 2, none⟩)) rfl ?_
    refine @Ends.val _ _ _ _ _ _ _ _ _ (.int .u64 a2) rfl ?_
    refine @Ends.val _ _ _ _ _ _ _ _ _ (.int .u64 (b3 * 19)) rfl ?_
    refine @Ends.val _ _ _ _ _ _ _ _ _ (.agg (u64s (pr s02)).toArray) rfl ?_
    refine @Ends.val _ _ _ _ _ _ _ _ _ (.pointer (some ⟨w.heap.size, 0, none⟩)) rfl ?_
    refine @Ends.val _ _ _ _ _ _ _ _ _ (.pointer (some ⟨w.heap.size, 0, none⟩)) rfl ?_
    refine @Ends.val _ _ _ _ _ _ _ _ _ (.pointer (some ⟨w.heap.size, 3, none⟩)) rfl ?_
    refine @Ends.val _ _ _ _ _ _ _ _ _ (.int .u64 a3) rfl ?_
    refine @Ends.val _ _ _ _ _ _ _ _ _ (.int .u64 (b2 * 19)) rfl ?_
    refine @Ends.val _ _ _ _ _ _ _ _ _ (.agg (u64s (pr s03)).toArray) rfl ?_
    refine @Ends.val _ _ _ _ _ _ _ _ _ (.pointer (some ⟨w.heap.size, 0, none⟩)) rfl ?_
    refine @Ends.val _ _ _ _ _ _ _ _ _ (.pointer (some ⟨w.heap.size, 0, none⟩)) rfl ?_
    refine @Ends.val _ _ _ _ _ _ _ _ _ (.pointer (some ⟨w.heap.size, 4, none⟩)) rfl ?_
    refine @Ends.val _ _ _ _ _ _ _ _ _ (.int .u64 a4) rfl ?_
    refine @Ends.val _ _ _ _ _ _ _ _ _ (.int .u64 (b1 * 19)) rfl ?_
    refine @Ends.val _ _ _ _ _ _ _ _ _ (.agg (u64s (pr s04)).toArray) rfl ?_
    refine @Ends.blk _ _ _ _ _ _ _ _ _ 99 (u64s [0, 0]) rfl ?_
    intro g33 hg33 bg33
    refine @Ends.one _ _ _ _ _ _ _ ?_
    simp only [Act.put, List.setIfInBounds_toArray, List.set_cons_zero, List.set_cons_succ]
    obtain ⟨G0, hG0⟩ : ∃ q, q = g33 := ⟨_, rfl⟩
    subst hG0
    refine last_store 99 (.tmp 11) (.tmp 70) rfl rfl G0 rfl 99 _ (u64s (pr s04)) rfl bg33 rfl sizeWide (u64s_one _) ?_
    intro y n1 n2 n3
    have q5 := hb.size
    have q10 := W0.out.2.1.lt
    have q11 := W0.out.2.2.1.lt
    have q12 := W0.out.2.2.2.1.lt
    have qz := W0.out.2.2.2.2
    have W1 : Hid (Below w.heap.size w y ∧ Blk y w.heap.size 27 (u64s [a0, a1, a2, a3, a4]) ∧ Blk y (w.heap.size + 1) 27 (u64s [b0, b1, b2, b3, b4]) ∧ Blk y (w.heap.size + 1 + 1) 27 (u64s [0, 0, 0, 0, 0]) ∧ Blk y G0 99 (u64s (pr s04)) ∧ True ∧ w.heap.size + 3 ≤ G0) := ⟨below_kept (below_chain W0.out.1 hb (by omega)) n3 (by omega) (fun j hj => by omega), (W0.out.2.1.later hb q10).kept n3 (by omega), (W0.out.2.2.1.later hb q11).kept n3 (by omega), (W0.out.2.2.2.1.later hb q12).kept n3 (by omega), n1, trivial, by omega⟩
    obtain ⟨y1, rfl⟩ : ∃ q, q = y := ⟨_, rfl⟩
    clear W0 H0 n1 n2 n3 hb q5 qz hg33 bg33 q10 q11 q12
    go_wp2_with fail
    refine region_invT ((.val (.pointer (some ⟨w.heap.size, 0, none⟩))) :: (.val (.pointer (some ⟨w.heap.size, 0, none⟩))) :: (.val (.pointer (some ⟨w.heap.size, 0, none⟩))) :: (.val (.int .u64 a0)) :: (.val (.pointer (some ⟨(w.heap.size + 1), 0, none⟩))) :: (.val (.pointer (some ⟨(w.heap.size + 1), 0, none⟩))) :: (.val (.pointer (some ⟨(w.heap.size + 1), 1, none⟩))) :: (.val (.int .u64 b1)) :: (.val (.agg (u64s (pr s10)).toArray)) :: (.val (.pointer (some ⟨w.heap.size, 0, none⟩))) :: (.val (.pointer (some ⟨w.heap.size, 0, none⟩))) :: (.val (.pointer (some ⟨w.heap.size, 1, none⟩))) :: (.val (.int .u64 a1)) :: (.val (.pointer (some ⟨(w.heap.size + 1), 0, none⟩))) :: (.val (.pointer (some ⟨(w.heap.size + 1), 0, none⟩))) :: (.val (.pointer (some ⟨(w.heap.size + 1), 0, none⟩))) :: (.val (.int .u64 b0)) :: (.val (.agg (u64s (pr s11)).toArray)) :: (.val (.pointer (some ⟨w.heap.size, 0, none⟩))) :: (.val (.pointer (some ⟨w.heap.size, 0, none⟩))) :: (.val (.pointer (some ⟨w.heap.size, 2, none⟩))) :: (.val (.int .u64 a2)) :: (.val (.int .u64 (b4 * 19))) :: (.val (.agg (u64s (pr s12)).toArray)) :: (.val (.pointer (some ⟨w.heap.size, 0, none⟩))) :: (.val (.pointer (some ⟨w.heap.size, 0, none⟩))) :: (.val (.pointer (some ⟨w.heap.size, 3, none⟩))) :: (.val (.int .u64 a3)) :: (.val (.int .u64 (b3 * 19))) :: (.val (.agg (u64s (pr s13)).toArray)) :: (.val (.pointer (some ⟨w.heap.size, 0, none⟩))) :: (.val (.pointer (some ⟨w.heap.size, 0, none⟩))) :: (.val (.pointer (some ⟨w.heap.size, 4, none⟩))) :: (.val (.int .u64 a4)) :: (.val (.int .u64 (b2 * 19))) :: (.val (.agg (u64s (pr s14)).toArray)) :: (.blk 99 (u64s [0, 0])) :: []) (by kernel_rfl) (by kernel_rfl) (by kernel_rfl) ?_ ?_
    · refine Steps'.cons ?_ (Steps'.cons ?_ (Steps'.cons ?_ (Steps'.cons ?_ (Steps'.cons ?_ (Steps'.cons ?_ (Steps'.cons ?_ (Steps'.cons ?_ (Steps'.cons ?_ (Steps'.cons ?_ (Steps'.cons ?_ (Steps'.cons ?_ (Steps'.cons ?_ (Steps'.cons ?_ (Steps'.cons ?_ (Steps'.cons ?_ (Steps'.cons ?_ (Steps'.cons ?_ (Steps'.cons ?_ (Steps'.cons ?_ (Steps'.cons ?_ (Steps'.cons ?_ (Steps'.cons ?_ (Steps'.cons ?_ (Steps'.cons ?_ (Steps'.cons ?_ (Steps'.cons ?_ (Steps'.cons ?_ (Steps'.cons ?_ (Steps'.cons ?_ (Steps'.cons ?_ (Steps'.cons ?_ (Steps'.cons ?_ (Steps'.cons ?_ (Steps'.cons ?_ (Steps'.cons ?_ (Steps'.cons ?_ (Steps'.one _ _ _ _ _ _ _)))))))))))))))))))))))))))))))))))))
      · intro ax wx hb hs hd
        have h5 : ax.tmps.getD 5 undef = (.pointer (some ⟨w.heap.size, 0, none⟩)) := hs 5 (by kernel_rfl)
        refine Does.value (.pointer (some ⟨w.heap.size, 0, none⟩)) ?_ rfl
        clear hs hd
        go_simp
      · intro ax wx hb hs hd
        have h71 : ax.tmps.getD 71 undef = (.pointer (some ⟨w.heap.size, 0, none⟩)) := hd 0 71 rfl (by kernel_rfl) (by decide)
        refine Does.value (.pointer (some ⟨w.heap.size, 0, none⟩)) ?_ rfl
        clear hs hd
        go_simp
      · intro ax wx hb hs hd
        have h72 : ax.tmps.getD 72 undef = (.pointer (some ⟨w.heap.size, 0, none⟩)) := hd 1 72 rfl (by kernel_rfl) (by decide)
        refine Does.value (.pointer (some ⟨w.heap.size, 0, none⟩)) ?_ rfl
        clear hs hd
        go_simp
      · intro ax wx hb hs hd
        have h73 : ax.tmps.getD 73 undef = (.pointer (some ⟨w.heap.size, 0, none⟩)) := hd 2 73 rfl (by kernel_rfl) (by decide)
        have cx : wx.cell? ⟨w.heap.size, 0, none⟩ = some (.int .u64 a0) := (Blk.later W1.out.2.1 hb (Blk.lt W1.out.2.1)).cell 0
        refine Does.value (.int .u64 a0) ?_ rfl
        clear hs hd
        go_simp
      · intro ax wx hb hs hd
        have h6 : ax.tmps.getD 6 undef = (.pointer (some ⟨(w.heap.size + 1), 0, none⟩)) := hs 6 (by kernel_rfl)
        refine Does.value (.pointer (some ⟨(w.heap.size + 1), 0, none⟩)) ?_ rfl
        clear hs hd
        go_simp
      · intro ax wx hb hs hd
        have h75 : ax.tmps.getD 75 undef = (.pointer (some ⟨(w.heap.size + 1), 0, none⟩)) := hd 4 75 rfl (by kernel_rfl) (by decide)
        refine Does.value (.pointer (some ⟨(w.heap.size + 1), 0, none⟩)) ?_ rfl
        clear hs hd
        go_simp
      · intro ax wx hb hs hd
        have h76 : ax.tmps.getD 76 undef = (.pointer (some ⟨(w.heap.size + 1), 0, none⟩)) := hd 5 76 rfl (by kernel_rfl) (by decide)
        refine Does.value (.pointer (some ⟨(w.heap.size + 1), 1, none⟩)) ?_ rfl
        clear hs hd
        go_simp
      · intro ax wx hb hs hd
        have h77 : ax.tmps.getD 77 undef = (.pointer (some ⟨(w.heap.size + 1), 1, none⟩)) := hd 6 77 rfl (by kernel_rfl) (by decide)
        have cx : wx.cell? ⟨(w.heap.size + 1), 1, none⟩ = some (.int .u64 b1) := (Blk.later W1.out.2.2.1 hb (Blk.lt W1.out.2.2.1)).cell 1
        refine Does.value (.int .u64 b1) ?_ rfl
        clear hs hd
        go_simp
      · intro ax wx hb hs hd
        have h74 : ax.tmps.getD 74 undef = (.int .u64 a0) := hd 3 74 rfl (by kernel_rfl) (by decide)
        have h78 : ax.tmps.getD 78 undef = (.int .u64 b1) := hd 7 78 rfl (by kernel_rfl) (by decide)
        refine Does.call 70 #[(.int .u64 a0), (.int .u64 b1)] (by clear hs hd; go_simp) ?_
        refine (H1.out.1 _).mono ?_
        rintro z w' ⟨rfl, l⟩
        exact ⟨_, rfl, rfl, l⟩
      · intro ax wx hb hs hd
        have h5 : ax.tmps.getD 5 undef = (.pointer (some ⟨w.heap.size, 0, none⟩)) := hs 5 (by kernel_rfl)
        refine Does.value (.pointer (some ⟨w.heap.size, 0, none⟩)) ?_ rfl
        clear hs hd
        go_simp
      · intro ax wx hb hs hd
        have h80 : ax.tmps.getD 80 undef = (.pointer (some ⟨w.heap.size, 0, none⟩)) := hd 9 80 rfl (by kernel_rfl) (by decide)
        refine Does.value (.pointer (some ⟨w.heap.size, 0, none⟩)) ?_ rfl
        clear hs hd
        go_simp
      · intro ax wx hb hs hd
        have h81 : ax.tmps.getD 81 undef = (.pointer (some ⟨w.heap.size, 0, none⟩)) := hd 10 81 rfl (by kernel_rfl) (by decide)
        refine Does.value (.pointer (some ⟨w.heap.size, 1, none⟩)) ?_ rfl
        clear hs hd
        go_simp
      · intro ax wx hb hs hd
        have h82 : ax.tmps.getD 82 undef = (.pointer (some ⟨w.heap.size, 1, none⟩)) := hd 11 82 rfl (by kernel_rfl) (by decide)
        have cx : wx.cell? ⟨w.heap.size, 1, none⟩ = some (.int .u64 a1) := (Blk.later W1.out.2.1 hb (Blk.lt W1.out.2.1)).cell 1
        refine Does.value (.int .u64 a1) ?_ rfl
        clear hs hd
        go_simp
      · intro ax wx hb hs hd
        have h6 : ax.tmps.getD 6 undef = (.pointer (some ⟨(w.heap.size + 1), 0, none⟩)) := hs 6 (by kernel_rfl)
        refine Does.value (.pointer (some ⟨(w.heap.size + 1), 0, none⟩)) ?_ rfl
        clear hs hd
        go_simp
      · intro ax wx hb hs hd
        have h84 : ax.tmps.getD 84 undef = (.pointer (some ⟨(w.heap.size + 1), 0, none⟩)) := hd 13 84 rfl (by kernel_rfl) (by decide)
        refine Does.value (.pointer (some ⟨(w.heap.size + 1), 0, none⟩)) ?_ rfl
        clear hs hd
        go_simp
      · intro ax wx hb hs hd
        have h85 : ax.tmps.getD 85 undef = (.pointer (some ⟨(w.heap.size + 1), 0, none⟩)) := hd 14 85 rfl (by kernel_rfl) (by decide)
        refine Does.value (.pointer (some ⟨(w.heap.size + 1), 0, none⟩)) ?_ rfl
        clear hs hd
        go_simp
      · intro ax wx hb hs hd
        have h86 : ax.tmps.getD 86 undef = (.pointer (some ⟨(w.heap.size + 1), 0, none⟩)) := hd 15 86 rfl (by kernel_rfl) (by decide)
        have cx : wx.cell? ⟨(w.heap.size + 1), 0, none⟩ = some (.int .u64 b0) := (Blk.later W1.out.2.2.1 hb (Blk.lt W1.out.2.2.1)).cell 0
        refine Does.value (.int .u64 b0) ?_ rfl
        clear hs hd
        go_simp
      · intro ax wx hb hs hd
        have h79 : ax.tmps.getD 79 undef = (.agg (u64s (pr s10)).toArray) := hd 8 79 rfl (by kernel_rfl) (by decide)
        have h83 : ax.tmps.getD 83 undef = (.int .u64 a1) := hd 12 83 rfl (by kernel_rfl) (by decide)
        have h87 : ax.tmps.getD 87 undef = (.int .u64 b0) := hd 16 87 rfl (by kernel_rfl) (by decide)
        refine Does.call 71 #[(.agg (u64s (pr s10)).toArray), (.int .u64 a1), (.int .u64 b0)] (by clear hs hd; go_simp) ?_
        refine (H1.out.2.1 _).mono ?_
        rintro z w' ⟨rfl, l⟩
        exact ⟨_, rfl, rfl, l⟩
      · intro ax wx hb hs hd
        have h5 : ax.tmps.getD 5 undef = (.pointer (some ⟨w.heap.size, 0, none⟩)) := hs 5 (by kernel_rfl)
        refine Does.value (.pointer (some ⟨w.heap.size, 0, none⟩)) ?_ rfl
        clear hs hd
        go_simp
      · intro ax wx hb hs hd
        have h89 : ax.tmps.getD 89 undef = (.pointer (some ⟨w.heap.size, 0, none⟩)) := hd 18 89 rfl (by kernel_rfl) (by decide)
        refine Does.value (.pointer (some ⟨w.heap.size, 0, none⟩)) ?_ rfl
        clear hs hd
        go_simp
      · intro ax wx hb hs hd
        have h90 : ax.tmps.getD 90 undef = (.pointer (some ⟨w.heap.size, 0, none⟩)) := hd 19 90 rfl (by kernel_rfl) (by decide)
        refine Does.value (.pointer (some ⟨w.heap.size, 2, none⟩)) ?_ rfl
        clear hs hd
        go_simp
      · intro ax wx hb hs hd
        have h91 : ax.tmps.getD 91 undef = (.pointer (some ⟨w.heap.size, 2, none⟩)) := hd 20 91 rfl (by kernel_rfl) (by decide)
        have cx : wx.cell? ⟨w.heap.size, 2, none⟩ = some (.int .u64 a2) := (Blk.later W1.out.2.1 hb (Blk.lt W1.out.2.1)).cell 2
        refine Does.value (.int .u64 a2) ?_ rfl
        clear hs hd
        go_simp
      · intro ax wx hb hs hd
        have h10 : ax.tmps.getD 10 undef = (.int .u64 (b4 * 19)) := hs 10 (by kernel_rfl)
        refine Does.value (.int .u64 (b4 * 19)) ?_ rfl
        clear hs hd
        go_simp
      · intro ax wx hb hs hd
        have h88 : ax.tmps.getD 88 undef = (.agg (u64s (pr s11)).toArray) := hd 17 88 rfl (by kernel_rfl) (by decide)
        have h92 : ax.tmps.getD 92 undef = (.int .u64 a2) := hd 21 92 rfl (by kernel_rfl) (by decide)
        have h93 : ax.tmps.getD 93 undef = (.int .u64 (b4 * 19)) := hd 22 93 rfl (by kernel_rfl) (by decide)
        refine Does.call 71 #[(.agg (u64s (pr s11)).toArray), (.int .u64 a2), (.int .u64 (b4 * 19))] (by clear hs hd; go_simp) ?_
        refine (H1.out.2.2.1 _).mono ?_
        rintro z w' ⟨rfl, l⟩
        exact ⟨_, rfl, rfl, l⟩
      · intro ax wx hb hs hd
        have h5 : ax.tmps.getD 5 undef = (.pointer (some ⟨w.heap.size, 0, none⟩)) := hs 5 (by kernel_rfl)
        refine Does.value (.pointer (some ⟨w.heap.size, 0, none⟩)) ?_ rfl
        clear hs hd
        go_simp
      · intro ax wx hb hs hd
        have h95 : ax.tmps.getD 95 undef = (.pointer (some ⟨w.heap.size, 0, none⟩)) := hd 24 95 rfl (by kernel_rfl) (by decide)
        refine Does.value (.pointer (some ⟨w.heap.size, 0, none⟩)) ?_ rfl
        clear hs hd
        go_simp
      · intro ax wx hb hs hd
        have h96 : ax.tmps.getD 96 undef = (.pointer (some ⟨w.heap.size, 0, none⟩)) := hd 25 96 rfl (by kernel_rfl) (by decide)
        refine Does.value (.pointer (some ⟨w.heap.size, 3, none⟩)) ?_ rfl
        clear hs hd
        go_simp
      · intro ax wx hb hs hd
        have h97 : ax.tmps.getD 97 undef = (.pointer (some ⟨w.heap.size, 3, none⟩)) := hd 26 97 rfl (by kernel_rfl) (by decide)
        have cx : wx.cell? ⟨w.heap.size, 3, none⟩ = some (.int .u64 a3) := (Blk.later W1.out.2.1 hb (Blk.lt W1.out.2.1)).cell 3
        refine Does.value (.int .u64 a3) ?_ rfl
        clear hs hd
        go_simp
      · intro ax wx hb hs hd
        have h9 : ax.tmps.getD 9 undef = (.int .u64 (b3 * 19)) := hs 9 (by kernel_rfl)
        refine Does.value (.int .u64 (b3 * 19)) ?_ rfl
        clear hs hd
        go_simp
      · intro ax wx hb hs hd
        have h94 : ax.tmps.getD 94 undef = (.agg (u64s (pr s12)).toArray) := hd 23 94 rfl (by kernel_rfl) (by decide)
        have h98 : ax.tmps.getD 98 undef = (.int .u64 a3) := hd 27 98 rfl (by kernel_rfl) (by decide)
        have h99 : ax.tmps.getD 99 undef = (.int .u64 (b3 * 19)) := hd 28 99 rfl (by kernel_rfl) (by decide)
        refine Does.call 71 #[(.agg (u64s (pr s12)).toArray), (.int .u64 a3), (.int .u64 (b3 * 19))] (by clear hs hd; go_simp) ?_
        refine (H1.out.2.2.2.1 _).mono ?_
        rintro z w' ⟨rfl, l⟩
        exact ⟨_, rfl, rfl, l⟩
      · intro ax wx hb hs hd
        have h5 : ax.tmps.getD 5 undef = (.pointer (some ⟨w.heap.size, 0, none⟩)) := hs 5 (by kernel_rfl)
        refine Does.value (.pointer (some ⟨w.heap.size, 0, none⟩)) ?_ rfl
        clear hs hd
        go_simp
      · intro ax wx hb hs hd
        have h101 : ax.tmps.getD 101 undef = (.pointer (some ⟨w.heap.size, 0, none⟩)) := hd 30 101 rfl (by kernel_rfl) (by decide)
        refine Does.value (.pointer (some ⟨w.heap.size, 0, none⟩)) ?_ rfl
        clear hs hd
        go_simp
      · intro ax wx hb hs hd
        have h102 : ax.tmps.getD 102 undef = (.pointer (some ⟨w.heap.size, 0, none⟩)) := hd 31 102 rfl (by kernel_rfl) (by decide)
        refine Does.value (.pointer (some ⟨w.heap.size, 4, none⟩)) ?_ rfl
        clear hs hd
        go_simp
      · intro ax wx hb hs hd
        have h103 : ax.tmps.getD 103 undef = (.pointer (some ⟨w.heap.size, 4, none⟩)) := hd 32 103 rfl (by kernel_rfl) (by decide)
        have cx : wx.cell? ⟨w.heap.size, 4, none⟩ = some (.int .u64 a4) := (Blk.later W1.out.2.1 hb (Blk.lt W1.out.2.1)).cell 4
        refine Does.value (.int .u64 a4) ?_ rfl
        clear hs hd
        go_simp
      · intro ax wx hb hs hd
        have h8 : ax.tmps.getD 8 undef = (.int .u64 (b2 * 19)) := hs 8 (by kernel_rfl)
        refine Does.value (.int .u64 (b2 * 19)) ?_ rfl
        clear hs hd
        go_simp
      · intro ax wx hb hs hd
        have h100 : ax.tmps.getD 100 undef = (.agg (u64s (pr s13)).toArray) := hd 29 100 rfl (by kernel_rfl) (by decide)
        have h104 : ax.tmps.getD 104 undef = (.int .u64 a4) := hd 33 104 rfl (by kernel_rfl) (by decide)
        have h105 : ax.tmps.getD 105 undef = (.int .u64 (b2 * 19)) := hd 34 105 rfl (by kernel_rfl) (by decide)
        refine Does.call 71 #[(.agg (u64s (pr s13)).toArray), (.int .u64 a4), (.int .u64 (b2 * 19))] (by clear hs hd; go_simp) ?_
        refine (H1.out.2.2.2.2 _).mono ?_
        rintro z w' ⟨rfl, l⟩
        exact ⟨_, rfl, rfl, l⟩
      · intro ax wx hb hs hd
        exact Does.alloc 99 rfl 2 _ zeroWide hb.size
    · intro wx hb
      refine @Ends.val _ _ _ _ _ _ _ _ _ (.pointer (some ⟨w.heap.size, 0, none⟩)) rfl ?_
      refine @Ends.val _ _ _ _ _ _ _ _ _ (.pointer (some ⟨w.heap.size, 0, none⟩)) rfl ?_
      refine @Ends.val _ _ _ _ _ _ _ _ _ (.pointer (some ⟨w.heap.size, 0, none⟩)) rfl ?_
      refine @Ends.val _ _ _ _ _ _ _ _ _ (.int .u64 a0) rfl ?_
      refine @Ends.val _ _ _ _ _ _ _ _ _ (.pointer (some ⟨(w.heap.size + 1), 0, none⟩)) rfl ?_
      refine @Ends.val _ _ _ _ _ _ _ _ _ (.pointer (some ⟨(w.heap.size + 1), 0, none⟩)) rfl ?_
      refine @Ends.val _ _ _ _ _ _ _ _ _ (.pointer (some ⟨(w.heap.size + 1), 1, none⟩)) rfl ?_
      refine @Ends.val _ _ _ _ _ _ _ _ _ (.int .u64 b1) rfl ?_
      refine @Ends.val _ _ _ _ _ _ _ _ _ (.agg (u64s (pr s10)).toArray) rfl ?_
      refine @Ends.val _ _ _ _ _ _ _ _ _ (.pointer (some ⟨w.heap.size, 0, none⟩)) rfl ?_
      refine @Ends.val _ _ _ _ _ _ _ _ _ (.pointer (some ⟨w.heap.size, 0, none⟩)) rfl ?_
      refine @Ends.val _ _ _ _ _ _ _ _ _ (.pointer (some ⟨w.heap.size, 1, none⟩)) rfl ?_
      refine @Ends.val _ _ _ _ _ _ _ _ _ (.int .u64 a1) rfl ?_
      refine @Ends.val _ _ _ _ _ _ _ _ _ (.pointer (some ⟨(w.heap.size + 1), 0, none⟩)) rfl ?_
      refine @Ends.val _ _ _ _ _ _ _ _ _ (.pointer (some ⟨(w.heap.size + 1), 0, none⟩)) rfl ?_
      refine @Ends.val _ _ _ _ _ _ _ _ _ (.pointer (some ⟨(w.heap.size + 1), 0, none⟩)) rfl ?_
      refine @Ends.val _ _ _ _ _ _ _ _ _ (.int .u64 b0) rfl ?_
      refine @Ends.val _ _ _ _ _ _ _ _ _ (.agg (u64s (pr s11)).toArray) rfl ?_
      refine @Ends.val _ _ _ _ _ _ _ _ _ (.pointer (some ⟨w.heap.size, 0, none⟩)) rfl ?_
      refine @Ends.val _ _ _ _ _ _ _ _ _ (.pointer (some ⟨w.heap.size, 0, none⟩)) rfl ?_
      refine @Ends.val _ _ _ _ _ _ _ _ _ (.pointer (some ⟨w.heap.size, 2, none⟩)) rfl ?_
      refine @Ends.val _ _ _ _ _ _ _ _ _ (.int .u64 a2) rfl ?_
      refine @Ends.val _ _ _ _ _ _ _ _ _ (.int .u64 (b4 * 19)) rfl ?_
      refine @Ends.val _ _ _ _ _ _ _ _ _ (.agg (u64s (pr s12)).toArray) rfl ?_
      refine @Ends.val _ _ _ _ _ _ _ _ _ (.pointer (some ⟨w.heap.size, 0, none⟩)) rfl ?_
      refine @Ends.val _ _ _ _ _ _ _ _ _ (.pointer (some ⟨w.heap.size, 0, none⟩)) rfl ?_
      refine @Ends.val _ _ _ _ _ _ _ _ _ (.pointer (some ⟨w.heap.size, 3, none⟩)) rfl ?_
      refine @Ends.val _ _ _ _ _ _ _ _ _ (.int .u64 a3) rfl ?_
      refine @Ends.val _ _ _ _ _ _ _ _ _ (.int .u64 (b3 * 19)) rfl ?_
      refine @Ends.val _ _ _ _ _ _ _ _ _ (.agg (u64s (pr s13)).toArray) rfl ?_
      refine @Ends.val _ _ _ _ _ _ _ _ _ (.pointer (some ⟨w.heap.size, 0, none⟩)) rfl ?_
      refine @Ends.val _ _ _ _ _ _ _ _ _ (.pointer (some ⟨w.heap.size, 0, none⟩)) rfl ?_
      refine @Ends.val _ _ _ _ _ _ _ _ _ (.pointer (some ⟨w.heap.size, 4, none⟩)) rfl ?_
      refine @Ends.val _ _ _ _ _ _ _ _ _ (.int .u64 a4) rfl ?_
      refine @Ends.val _ _ _ _ _ _ _ _ _ (.int .u64 (b2 * 19)) rfl ?_
      refine @Ends.val _ _ _ _ _ _ _ _ _ (.agg (u64s (pr s14)).toArray) rfl ?_
      refine @Ends.blk _ _ _ _ _ _ _ _ _ 99 (u64s [0, 0]) rfl ?_
      intro g36 hg36 bg36
      refine @Ends.one _ _ _ _ _ _ _ ?_
      simp only [Act.put, List.setIfInBounds_toArray, List.set_cons_zero, List.set_cons_succ]
      obtain ⟨G1, hG1⟩ : ∃ q, q = g36 := ⟨_, rfl⟩
      subst hG1
      refine last_store 99 (.tmp 12) (.tmp 106) rfl rfl G1 rfl 99 _ (u64s (pr s14)) rfl bg36 rfl sizeWide (u64s_one _) ?_
      intro y n1 n2 n3
      have q5 := hb.size
      have q10 := W1.out.2.1.lt
      have q11 := W1.out.2.2.1.lt
      have q12 := W1.out.2.2.2.1.lt
      have q13 := W1.out.2.2.2.2.1.lt
      have qz := W1.out.2.2.2.2.2
      have W2 : Hid (Below w.heap.size w y ∧ Blk y w.heap.size 27 (u64s [a0, a1, a2, a3, a4]) ∧ Blk y (w.heap.size + 1) 27 (u64s [b0, b1, b2, b3, b4]) ∧ Blk y (w.heap.size + 1 + 1) 27 (u64s [0, 0, 0, 0, 0]) ∧ Blk y G0 99 (u64s (pr s04)) ∧ Blk y G1 99 (u64s (pr s14)) ∧ True ∧ w.heap.size + 3 ≤ G0 ∧ w.heap.size + 3 ≤ G1 ∧ G0 < G1) := ⟨below_kept (below_chain W1.out.1 hb (by omega)) n3 (by omega) (fun j hj => by omega), (W1.out.2.1.later hb q10).kept n3 (by omega), (W1.out.2.2.1.later hb q11).kept n3 (by omega), (W1.out.2.2.2.1.later hb q12).kept n3 (by omega), (W1.out.2.2.2.2.1.later hb q13).kept n3 (by omega), n1, trivial, by omega, by omega, by omega⟩
      obtain ⟨y2, rfl⟩ : ∃ q, q = y := ⟨_, rfl⟩
      clear W1 H1 n1 n2 n3 hb q5 qz hg36 bg36 q10 q11 q12 q13
      go_wp2_with fail
      refine region_invT ((.val (.pointer (some ⟨w.heap.size, 0, none⟩))) :: (.val (.pointer (some ⟨w.heap.size, 0, none⟩))) :: (.val (.pointer (some ⟨w.heap.size, 0, none⟩))) :: (.val (.int .u64 a0)) :: (.val (.pointer (some ⟨(w.heap.size + 1), 0, none⟩))) :: (.val (.pointer (some ⟨(w.heap.size + 1), 0, none⟩))) :: (.val (.pointer (some ⟨(w.heap.size + 1), 2, none⟩))) :: (.val (.int .u64 b2)) :: (.val (.agg (u64s (pr s20)).toArray)) :: (.val (.pointer (some ⟨w.heap.size, 0, none⟩))) :: (.val (.pointer (some ⟨w.heap.size, 0, none⟩))) :: (.val (.pointer (some ⟨w.heap.size, 1, none⟩))) :: (.val (.int .u64 a1)) :: (.val (.pointer (some ⟨(w.heap.size + 1), 0, none⟩))) :: (.val (.pointer (some ⟨(w.heap.size + 1), 0, none⟩))) :: (.val (.pointer (some ⟨(w.heap.size + 1), 1, none⟩))) :: (.val (.int .u64 b1)) :: (.val (.agg (u64s (pr s21)).toArray)) :: (.val (.pointer (some ⟨w.heap.size, 0, none⟩))) :: (.val (.pointer (some ⟨w.heap.size, 0, none⟩))) :: (.val (.pointer (some ⟨w.heap.size, 2, none⟩))) :: (.val (.int .u64 a2)) :: (.val (.pointer (some ⟨(w.heap.size + 1), 0, none⟩))) :: (.val (.pointer (some ⟨(w.heap.size + 1), 0, none⟩))) :: (.val (.pointer (some ⟨(w.heap.size + 1), 0, none⟩))) :: (.val (.int .u64 b0)) :: (.val (.agg (u64s (pr s22)).toArray)) :: (.val (.pointer (some ⟨w.heap.size, 0, none⟩))) :: (.val (.pointer (some ⟨w.heap.size, 0, none⟩))) :: (.val (.pointer (some ⟨w.heap.size, 3, none⟩))) :: (.val (.int .u64 a3)) :: (.val (.int .u64 (b4 * 19))) :: (.val (.agg (u64s (pr s23)).toArray)) :: (.val (.pointer (some ⟨w.heap.size, 0, none⟩))) :: (.val (.pointer (some ⟨w.heap.size, 0, none⟩))) :: (.val (.pointer (some ⟨w.heap.size, 4, none⟩))) :: (.val (.int .u64 a4)) :: (.val (.int .u64 (b3 * 19))) :: (.val (.agg (u64s (pr s24)).toArray)) :: (.blk 99 (u64s [0, 0])) :: []) (by kernel_rfl) (by kernel_rfl) (by kernel_rfl) ?_ ?_
      · refine Steps'.cons ?_ (Steps'.cons ?_ (Steps'.cons ?_ (Steps'.cons ?_ (Steps'.cons ?_ (Steps'.cons ?_ (Steps'.cons ?_ (Steps'.cons ?_ (Steps'.cons ?_ (Steps'.cons ?_ (Steps'.cons ?_ (Steps'.cons ?_ (Steps'.cons ?_ (Steps'.cons ?_ (Steps'.cons ?_ (Steps'.cons ?_ (Steps'.cons ?_ (Steps'.cons ?_ (Steps'.cons ?_ (Steps'.cons ?_ (Steps'.cons ?_ (Steps'.cons ?_ (Steps'.cons ?_ (Steps'.cons ?_ (Steps'.cons ?_ (Steps'.cons ?_ (Steps'.cons ?_ (Steps'.cons ?_ (Steps'.cons ?_ (Steps'.cons ?_ (Steps'.cons ?_ (Steps'.cons ?_ (Steps'.cons ?_ (Steps'.cons ?_ (Steps'.cons ?_ (Steps'.cons ?_ (Steps'.cons ?_ (Steps'.cons ?_ (Steps'.cons ?_ (Steps'.cons ?_ (Steps'.one _ _ _ _ _ _ _))))))))))))))))))))))))))))))))))))))))
        · intro ax wx hb hs hd
          have h5 : ax.tmps.getD 5 undef = (.pointer (some ⟨w.heap.size, 0, none⟩)) := hs 5 (by kernel_rfl)
          refine Does.value (.pointer (some ⟨w.heap.size, 0, none⟩)) ?_ rfl
          clear hs hd
          go_simp
        · intro ax wx hb hs hd
          have h107 : ax.tmps.getD 107 undef = (.pointer (some ⟨w.heap.size, 0, none⟩)) := hd 0 107 rfl (by kernel_rfl) (by decide)
          refine Does.value (.pointer (some ⟨w.heap.size, 0, none⟩)) ?_ rfl
          clear hs hd
          go_simp
        · intro ax wx hb hs hd
          have h108 : ax.tmps.getD 108 undef = (.pointer (some ⟨w.heap.size, 0, none⟩)) := hd 1 108 rfl (by kernel_rfl) (by decide)
          refine Does.value (.pointer (some ⟨w.heap.size, 0, none⟩)) ?_ rfl
          clear hs hd
          go_simp
        · intro ax wx hb hs hd
          have h109 : ax.tmps.getD 109 undef = (.pointer (some ⟨w.heap.size, 0, none⟩)) := hd 2 109 rfl (by kernel_rfl) (by decide)
          have cx : wx.cell? ⟨w.heap.size, 0, none⟩ = some (.int .u64 a0) := (Blk.later W2.out.2.1 hb (Blk.lt W2.out.2.1)).cell 0
          refine Does.value (.int .u64 a0) ?_ rfl
          clear hs hd
          go_simp
        · intro ax wx hb hs hd
          have h6 : ax.tmps.getD 6 undef = (.pointer (some ⟨(w.heap.size + 1), 0, none⟩)) := hs 6 (by kernel_rfl)
          refine Does.value (.pointer (some ⟨(w.heap.size + 1), 0, none⟩)) ?_ rfl
          clear hs hd
          go_simp
        · intro ax wx hb hs hd
          have h111 : ax.tmps.getD 111 undef = (.pointer (some ⟨(w.heap.size + 1), 0, none⟩)) := hd 4 111 rfl (by kernel_rfl) (by decide)
          refine Does.value (.pointer (some ⟨(w.heap.size + 1), 0, none⟩)) ?_ rfl
          clear hs hd
          go_simp
        · intro ax wx hb hs hd
          have h112 : ax.tmps.getD 112 undef = (.pointer (some ⟨(w.heap.size + 1), 0, none⟩)) := hd 5 112 rfl (by kernel_rfl) (by decide)
          refine Does.value (.pointer (some ⟨(w.heap.size + 1), 2, none⟩)) ?_ rfl
          clear hs hd
          go_simp
        · intro ax wx hb hs hd
          have h113 : ax.tmps.getD 113 undef = (.pointer (some ⟨(w.heap.size + 1), 2, none⟩)) := hd 6 113 rfl (by kernel_rfl) (by decide)
          have cx : wx.cell? ⟨(w.heap.size + 1), 2, none⟩ = some (.int .u64 b2) := (Blk.later W2.out.2.2.1 hb (Blk.lt W2.out.2.2.1)).cell 2
          refine Does.value (.int .u64 b2) ?_ rfl
          clear hs hd
          go_simp
        · intro ax wx hb hs hd
          have h110 : ax.tmps.getD 110 undef = (.int .u64 a0) := hd 3 110 rfl (by kernel_rfl) (by decide)
          have h114 : ax.tmps.getD 114 undef = (.int .u64 b2) := hd 7 114 rfl (by kernel_rfl) (by decide)
          refine Does.call 70 #[(.int .u64 a0), (.int .u64 b2)] (by clear hs hd; go_simp) ?_
          refine (H2.out.1 _).mono ?_
          rintro z w' ⟨rfl, l⟩
          exact ⟨_, rfl, rfl, l⟩
        · intro ax wx hb hs hd
          have h5 : ax.tmps.getD 5 undef = (.pointer (some ⟨w.heap.size, 0, none⟩)) := hs 5 (by kernel_rfl)
          refine Does.value (.pointer (some ⟨w.heap.size, 0, none⟩)) ?_ rfl
          clear hs hd
          go_simp
        · intro ax wx hb hs hd
          have h116 : ax.tmps.getD 116 undef = (.pointer (some ⟨w.heap.size, 0, none⟩)) := hd 9 116 rfl (by kernel_rfl) (by decide)
          refine Does.value (.pointer (some ⟨w.heap.size, 0, none⟩)) ?_ rfl
          clear hs hd
          go_simp
        · intro ax wx hb hs hd
          have h117 : ax.tmps.getD 117 undef = (.pointer (some ⟨w.heap.size, 0, none⟩)) := hd 10 117 rfl (by kernel_rfl) (by decide)
          refine Does.value (.pointer (some ⟨w.heap.size, 1, none⟩)) ?_ rfl
          clear hs hd
          go_simp
        · intro ax wx hb hs hd
          have h118 : ax.tmps.getD 118 undef = (.pointer (some ⟨w.heap.size, 1, none⟩)) := hd 11 118 rfl (by kernel_rfl) (by decide)
          have cx : wx.cell? ⟨w.heap.size, 1, none⟩ = some (.int .u64 a1) := (Blk.later W2.out.2.1 hb (Blk.lt W2.out.2.1)).cell 1
          refine Does.value (.int .u64 a1) ?_ rfl
          clear hs hd
          go_simp
        · intro ax wx hb hs hd
          have h6 : ax.tmps.getD 6 undef = (.pointer (some ⟨(w.heap.size + 1), 0, none⟩)) := hs 6 (by kernel_rfl)
          refine Does.value (.pointer (some ⟨(w.heap.size + 1), 0, none⟩)) ?_ rfl
          clear hs hd
          go_simp
        · intro ax wx hb hs hd
          have h120 : ax.tmps.getD 120 undef = (.pointer (some ⟨(w.heap.size + 1), 0, none⟩)) := hd 13 120 rfl (by kernel_rfl) (by decide)
          refine Does.value (.pointer (some ⟨(w.heap.size + 1), 0, none⟩)) ?_ rfl
          clear hs hd
          go_simp
        · intro ax wx hb hs hd
          have h121 : ax.tmps.getD 121 undef = (.pointer (some ⟨(w.heap.size + 1), 0, none⟩)) := hd 14 121 rfl (by kernel_rfl) (by decide)
          refine Does.value (.pointer (some ⟨(w.heap.size + 1), 1, none⟩)) ?_ rfl
          clear hs hd
          go_simp
        · intro ax wx hb hs hd
          have h122 : ax.tmps.getD 122 undef = (.pointer (some ⟨(w.heap.size + 1), 1, none⟩)) := hd 15 122 rfl (by kernel_rfl) (by decide)
          have cx : wx.cell? ⟨(w.heap.size + 1), 1, none⟩ = some (.int .u64 b1) := (Blk.later W2.out.2.2.1 hb (Blk.lt W2.out.2.2.1)).cell 1
          refine Does.value (.int .u64 b1) ?_ rfl
          clear hs hd
          go_simp
        · intro ax wx hb hs hd
          have h115 : ax.tmps.getD 115 undef = (.agg (u64s (pr s20)).toArray) := hd 8 115 rfl (by kernel_rfl) (by decide)
          have h119 : ax.tmps.getD 119 undef = (.int .u64 a1) := hd 12 119 rfl (by kernel_rfl) (by decide)
          have h123 : ax.tmps.getD 123 undef = (.int .u64 b1) := hd 16 123 rfl (by kernel_rfl) (by decide)
          refine Does.call 71 #[(.agg (u64s (pr s20)).toArray), (.int .u64 a1), (.int .u64 b1)] (by clear hs hd; go_simp) ?_
          refine (H2.out.2.1 _).mono ?_
          rintro z w' ⟨rfl, l⟩
          exact ⟨_, rfl, rfl, l⟩
        · intro ax wx hb hs hd
          have h5 : ax.tmps.getD 5 undef = (.pointer (some ⟨w.heap.size, 0, none⟩)) := hs 5 (by kernel_rfl)
          refine Does.value (.pointer (some ⟨w.heap.size, 0, none⟩)) ?_ rfl
          clear hs hd
          go_simp
        · intro ax wx hb hs hd
          have h125 : ax.tmps.getD 125 undef = (.pointer (some ⟨w.heap.size, 0, none⟩)) := hd 18 125 rfl (by kernel_rfl) (by decide)
          refine Does.value (.pointer (some ⟨w.heap.size, 0, none⟩)) ?_ rfl
          clear hs hd
          go_simp
        · intro ax wx hb hs hd
          have h126 : ax.tmps.getD 126 undef = (.pointer (some ⟨w.heap.size, 0, none⟩)) := hd 19 126 rfl (by kernel_rfl) (by decide)
          refine Does.value (.pointer (some ⟨w.heap.size, 2, none⟩)) ?_ rfl
          clear hs hd
          go_simp
        · intro ax wx hb hs hd
          have h127 : ax.tmps.getD 127 undef = (.pointer (some ⟨w.heap.size, 2, none⟩)) := hd 20 127 rfl (by kernel_rfl) (by decide)
          have cx : wx.cell? ⟨w.heap.size, 2, none⟩ = some (.int .u64 a2) := (Blk.later W2.out.2.1 hb (Blk.lt W2.out.2.1)).cell 2
          refine Does.value (.int .u64 a2) ?_ rfl
          clear hs hd
          go_simp
        · intro ax wx hb hs hd
          have h6 : ax.tmps.getD 6 undef = (.pointer (some ⟨(w.heap.size + 1), 0, none⟩)) := hs 6 (by kernel_rfl)
          refine Does.value (.pointer (some ⟨(w.heap.size + 1), 0, none⟩)) ?_ rfl
          clear hs hd
          go_simp
        · intro ax wx hb hs hd
          have h129 : ax.tmps.getD 129 undef = (.pointer (some ⟨(w.heap.size + 1), 0, none⟩)) := hd 22 129 rfl (by kernel_rfl) (by decide)
          refine Does.value (.pointer (some ⟨(w.heap.size + 1), 0, none⟩)) ?_ rfl
          clear hs hd
          go_simp
        · intro ax wx hb hs hd
          have h130 : ax.tmps.getD 130 undef = (.pointer (some ⟨(w.heap.size + 1), 0, none⟩)) := hd 23 130 rfl (by kernel_rfl) (by decide)
          refine Does.value (.pointer (some ⟨(w.heap.size + 1), 0, none⟩)) ?_ rfl
          clear hs hd
          go_simp
        · intro ax wx hb hs hd
          have h131 : ax.tmps.getD 131 undef = (.pointer (some ⟨(w.heap.size + 1), 0, none⟩)) := hd 24 131 rfl (by kernel_rfl) (by decide)
          have cx : wx.cell? ⟨(w.heap.size + 1), 0, none⟩ = some (.int .u64 b0) := (Blk.later W2.out.2.2.1 hb (Blk.lt W2.out.2.2.1)).cell 0
          refine Does.value (.int .u64 b0) ?_ rfl
          clear hs hd
          go_simp
        · intro ax wx hb hs hd
          have h124 : ax.tmps.getD 124 undef = (.agg (u64s (pr s21)).toArray) := hd 17 124 rfl (by kernel_rfl) (by decide)
          have h128 : ax.tmps.getD 128 undef = (.int .u64 a2) := hd 21 128 rfl (by kernel_rfl) (by decide)
          have h132 : ax.tmps.getD 132 undef = (.int .u64 b0) := hd 25 132 rfl (by kernel_rfl) (by decide)
          refine Does.call 71 #[(.agg (u64s (pr s21)).toArray), (.int .u64 a2), (.int .u64 b0)] (by clear hs hd; go_simp) ?_
          refine (H2.out.2.2.1 _).mono ?_
          rintro z w' ⟨rfl, l⟩
          exact ⟨_, rfl, rfl, l⟩
        · intro ax wx hb hs hd
          have h5 : ax.tmps.getD 5 undef = (.pointer (some ⟨w.heap.size, 0, none⟩)) := hs 5 (by kernel_rfl)
          refine Does.value (.pointer (some ⟨w.heap.size, 0, none⟩)) ?_ rfl
          clear hs hd
          go_simp
        · intro ax wx hb hs hd
          have h134 : ax.tmps.getD 134 undef = (.pointer (some ⟨w.heap.size, 0, none⟩)) := hd 27 134 rfl (by kernel_rfl) (by decide)
          refine Does.value (.pointer (some ⟨w.heap.size, 0, none⟩)) ?_ rfl
          clear hs hd
          go_simp
        · intro ax wx hb hs hd
          have h135 : ax.tmps.getD 135 undef = (.pointer (some ⟨w.heap.size, 0, none⟩)) := hd 28 135 rfl (by kernel_rfl) (by decide)
          refine Does.value (.pointer (some ⟨w.heap.size, 3, none⟩)) ?_ rfl
          clear hs hd
          go_simp
        · intro ax wx hb hs hd
          have h136 : ax.tmps.getD 136 undef = (.pointer (some ⟨w.heap.size, 3, none⟩)) := hd 29 136 rfl (by kernel_rfl) (by decide)
          have cx : wx.cell? ⟨w.heap.size, 3, none⟩ = some (.int .u64 a3) := (Blk.later W2.out.2.1 hb (Blk.lt W2.out.2.1)).cell 3
          refine Does.value (.int .u64 a3) ?_ rfl
          clear hs hd
          go_simp
        · intro ax wx hb hs hd
          have h10 : ax.tmps.getD 10 undef = (.int .u64 (b4 * 19)) := hs 10 (by kernel_rfl)
          refine Does.value (.int .u64 (b4 * 19)) ?_ rfl
          clear hs hd
          go_simp
        · intro ax wx hb hs hd
          have h133 : ax.tmps.getD 133 undef = (.agg (u64s (pr s22)).toArray) := hd 26 133 rfl (by kernel_rfl) (by decide)
          have h137 : ax.tmps.getD 137 undef = (.int .u64 a3) := hd 30 137 rfl (by kernel_rfl) (by decide)
          have h138 : ax.tmps.getD 138 undef = (.int .u64 (b4 * 19)) := hd 31 138 rfl (by kernel_rfl) (by decide)
          refine Does.call 71 #[(.agg (u64s (pr s22)).toArray), (.int .u64 a3), (.int .u64 (b4 * 19))] (by clear hs hd; go_simp) ?_
          refine (H2.out.2.2.2.1 _).mono ?_
          rintro z w' ⟨rfl, l⟩
          exact ⟨_, rfl, rfl, l⟩
        · intro ax wx hb hs hd
          have h5 : ax.tmps.getD 5 undef = (.pointer (some ⟨w.heap.size, 0, none⟩)) := hs 5 (by kernel_rfl)
          refine Does.value (.pointer (some ⟨w.heap.size, 0, none⟩)) ?_ rfl
          clear hs hd
          go_simp
        · intro ax wx hb hs hd
          have h140 : ax.tmps.getD 140 undef = (.pointer (some ⟨w.heap.size, 0, none⟩)) := hd 33 140 rfl (by kernel_rfl) (by decide)
          refine Does.value (.pointer (some ⟨w.heap.size, 0, none⟩)) ?_ rfl
          clear hs hd
          go_simp
        · intro ax wx hb hs hd
          have h141 : ax.tmps.getD 141 undef = (.pointer (some ⟨w.heap.size, 0, none⟩)) := hd 34 141 rfl (by kernel_rfl) (by decide)
          refine Does.value (.pointer (some ⟨w.heap.size, 4, none⟩)) ?_ rfl
          clear hs hd
          go_simp
        · intro ax wx hb hs hd
          have h142 : ax.tmps.getD 142 undef = (.pointer (some ⟨w.heap.size, 4, none⟩)) := hd 35 142 rfl (by kernel_rfl) (by decide)
          have cx : wx.cell? ⟨w.heap.size, 4, none⟩ = some (.int .u64 a4) := (Blk.later W2.out.2.1 hb (Blk.lt W2.out.2.1)).cell 4
          refine Does.value (.int .u64 a4) ?_ rfl
          clear hs hd
          go_simp
        · intro ax wx hb hs hd
          have h9 : ax.tmps.getD 9 undef = (.int .u64 (b3 * 19)) := hs 9 (by kernel_rfl)
          refine Does.value (.int .u64 (b3 * 19)) ?_ rfl
          clear hs hd
          go_simp
        · intro ax wx hb hs hd
          have h139 : ax.tmps.getD 139 undef = (.agg (u64s (pr s23)).toArray) := hd 32 139 rfl (by kernel_rfl) (by decide)
          have h143 : ax.tmps.getD 143 undef = (.int .u64 a4) := hd 36 143 rfl (by kernel_rfl) (by decide)
          have h144 : ax.tmps.getD 144 undef = (.int .u64 (b3 * 19)) := hd 37 144 rfl (by kernel_rfl) (by decide)
          refine Does.call 71 #[(.agg (u64s (pr s23)).toArray), (.int .u64 a4), (.int .u64 (b3 * 19))] (by clear hs hd; go_simp) ?_
          refine (H2.out.2.2.2.2 _).mono ?_
          rintro z w' ⟨rfl, l⟩
          exact ⟨_, rfl, rfl, l⟩
        · intro ax wx hb hs hd
          exact Does.alloc 99 rfl 2 _ zeroWide hb.size
      · intro wx hb
        refine @Ends.val _ _ _ _ _ _ _ _ _ (.pointer (some ⟨w.heap.size, 0, none⟩)) rfl ?_
        refine @Ends.val _ _ _ _ _ _ _ _ _ (.pointer (some ⟨w.heap.size, 0, none⟩)) rfl ?_
        refine @Ends.val _ _ _ _ _ _ _ _ _ (.pointer (some ⟨w.heap.size, 0, none⟩)) rfl ?_
        refine @Ends.val _ _ _ _ _ _ _ _ _ (.int .u64 a0) rfl ?_
        refine @Ends.val _ _ _ _ _ _ _ _ _ (.pointer (some ⟨(w.heap.size + 1), 0, none⟩)) rfl ?_
        refine @Ends.val _ _ _ _ _ _ _ _ _ (.pointer (some ⟨(w.heap.size + 1), 0, none⟩)) rfl ?_
        refine @Ends.val _ _ _ _ _ _ _ _ _ (.pointer (some ⟨(w.heap.size + 1), 2, none⟩)) rfl ?_
        refine @Ends.val _ _ _ _ _ _ _ _ _ (.int .u64 b2) rfl ?_
        refine @Ends.val _ _ _ _ _ _ _ _ _ (.agg (u64s (pr s20)).toArray) rfl ?_
        refine @Ends.val _ _ _ _ _ _ _ _ _ (.pointer (some ⟨w.heap.size, 0, none⟩)) rfl ?_
        refine @Ends.val _ _ _ _ _ _ _ _ _ (.pointer (some ⟨w.heap.size, 0, none⟩)) rfl ?_
        refine @Ends.val _ _ _ _ _ _ _ _ _ (.pointer (some ⟨w.heap.size, 1, none⟩)) rfl ?_
        refine @Ends.val _ _ _ _ _ _ _ _ _ (.int .u64 a1) rfl ?_
        refine @Ends.val _ _ _ _ _ _ _ _ _ (.pointer (some ⟨(w.heap.size + 1), 0, none⟩)) rfl ?_
        refine @Ends.val _ _ _ _ _ _ _ _ _ (.pointer (some ⟨(w.heap.size + 1), 0, none⟩)) rfl ?_
        refine @Ends.val _ _ _ _ _ _ _ _ _ (.pointer (some ⟨(w.heap.size + 1), 1, none⟩)) rfl ?_
        refine @Ends.val _ _ _ _ _ _ _ _ _ (.int .u64 b1) rfl ?_
        refine @Ends.val _ _ _ _ _ _ _ _ _ (.agg (u64s (pr s21)).toArray) rfl ?_
        refine @Ends.val _ _ _ _ _ _ _ _ _ (.pointer (some ⟨w.heap.size, 0, none⟩)) rfl ?_
        refine @Ends.val _ _ _ _ _ _ _ _ _ (.pointer (some ⟨w.heap.size, 0, none⟩)) rfl ?_
        refine @Ends.val _ _ _ _ _ _ _ _ _ (.pointer (some ⟨w.heap.size, 2, none⟩)) rfl ?_
        refine @Ends.val _ _ _ _ _ _ _ _ _ (.int .u64 a2) rfl ?_
        refine @Ends.val _ _ _ _ _ _ _ _ _ (.pointer (some ⟨(w.heap.size + 1), 0, none⟩)) rfl ?_
        refine @Ends.val _ _ _ _ _ _ _ _ _ (.pointer (some ⟨(w.heap.size + 1), 0, none⟩)) rfl ?_
        refine @Ends.val _ _ _ _ _ _ _ _ _ (.pointer (some ⟨(w.heap.size + 1), 0, none⟩)) rfl ?_
        refine @Ends.val _ _ _ _ _ _ _ _ _ (.int .u64 b0) rfl ?_
        refine @Ends.val _ _ _ _ _ _ _ _ _ (.agg (u64s (pr s22)).toArray) rfl ?_
        refine @Ends.val _ _ _ _ _ _ _ _ _ (.pointer (some ⟨w.heap.size, 0, none⟩)) rfl ?_
        refine @Ends.val _ _ _ _ _ _ _ _ _ (.pointer (some ⟨w.heap.size, 0, none⟩)) rfl ?_
        refine @Ends.val _ _ _ _ _ _ _ _ _ (.pointer (some ⟨w.heap.size, 3, none⟩)) rfl ?_
        refine @Ends.val _ _ _ _ _ _ _ _ _ (.int .u64 a3) rfl ?_
        refine @Ends.val _ _ _ _ _ _ _ _ _ (.int .u64 (b4 * 19)) rfl ?_
        refine @Ends.val _ _ _ _ _ _ _ _ _ (.agg (u64s (pr s23)).toArray) rfl ?_
        refine @Ends.val _ _ _ _ _ _ _ _ _ (.pointer (some ⟨w.heap.size, 0, none⟩)) rfl ?_
        refine @Ends.val _ _ _ _ _ _ _ _ _ (.pointer (some ⟨w.heap.size, 0, none⟩)) rfl ?_
        refine @Ends.val _ _ _ _ _ _ _ _ _ (.pointer (some ⟨w.heap.size, 4, none⟩)) rfl ?_
        refine @Ends.val _ _ _ _ _ _ _ _ _ (.int .u64 a4) rfl ?_
        refine @Ends.val _ _ _ _ _ _ _ _ _ (.int .u64 (b3 * 19)) rfl ?_
        refine @Ends.val _ _ _ _ _ _ _ _ _ (.agg (u64s (pr s24)).toArray) rfl ?_
        refine @Ends.blk _ _ _ _ _ _ _ _ _ 99 (u64s [0, 0]) rfl ?_
        intro g39 hg39 bg39
        refine @Ends.one _ _ _ _ _ _ _ ?_
        simp only [Act.put, List.setIfInBounds_toArray, List.set_cons_zero, List.set_cons_succ]
        obtain ⟨G2, hG2⟩ : ∃ q, q = g39 := ⟨_, rfl⟩
        subst hG2
        refine last_store 99 (.tmp 13) (.tmp 145) rfl rfl G2 rfl 99 _ (u64s (pr s24)) rfl bg39 rfl sizeWide (u64s_one _) ?_
        intro y n1 n2 n3
        have q5 := hb.size
        have q10 := W2.out.2.1.lt
        have q11 := W2.out.2.2.1.lt
        have q12 := W2.out.2.2.2.1.lt
        have q13 := W2.out.2.2.2.2.1.lt
        have q14 := W2.out.2.2.2.2.2.1.lt
        have qz := W2.out.2.2.2.2.2.2
        have W3 : Hid (Below w.heap.size w y ∧ Blk y w.heap.size 27 (u64s [a0, a1, a2, a3, a4]) ∧ Blk y (w.heap.size + 1) 27 (u64s [b0, b1, b2, b3, b4]) ∧ Blk y (w.heap.size + 1 + 1) 27 (u64s [0, 0, 0, 0, 0]) ∧ Blk y G0 99 (u64s (pr s04)) ∧ Blk y G1 99 (u64s (pr s14)) ∧ Blk y G2 99 (u64s (pr s24)) ∧ True ∧ w.heap.size + 3 ≤ G0 ∧ w.heap.size + 3 ≤ G1 ∧ w.heap.size + 3 ≤ G2 ∧ G0 < G1 ∧ G1 < G2) := ⟨below_kept (below_chain W2.out.1 hb (by omega)) n3 (by omega) (fun j hj => by omega), (W2.out.2.1.later hb q10).kept n3 (by omega), (W2.out.2.2.1.later hb q11).kept n3 (by omega), (W2.out.2.2.2.1.later hb q12).kept n3 (by omega), (W2.out.2.2.2.2.1.later hb q13).kept n3 (by omega), (W2.out.2.2.2.2.2.1.later hb q14).kept n3 (by omega), n1, trivial, by omega, by omega, by omega, by omega, by omega⟩
        obtain ⟨y3, rfl⟩ : ∃ q, q = y := ⟨_, rfl⟩
        clear W2 H2 n1 n2 n3 hb q5 qz hg39 bg39 q10 q11 q12 q13 q14
        go_wp2_with fail
        refine region_invT ((.val (.pointer (some ⟨w.heap.size, 0, none⟩))) :: (.val (.pointer (some ⟨w.heap.size, 0, none⟩))) :: (.val (.pointer (some ⟨w.heap.size, 0, none⟩))) :: (.val (.int .u64 a0)) :: (.val (.pointer (some ⟨(w.heap.size + 1), 0, none⟩))) :: (.val (.pointer (some ⟨(w.heap.size + 1), 0, none⟩))) :: (.val (.pointer (some ⟨(w.heap.size + 1), 3, none⟩))) :: (.val (.int .u64 b3)) :: (.val (.agg (u64s (pr s30)).toArray)) :: (.val (.pointer (some ⟨w.heap.size, 0, none⟩))) :: (.val (.pointer (some ⟨w.heap.size, 0, none⟩))) :: (.val (.pointer (some ⟨w.heap.size, 1, none⟩))) :: (.val (.int .u64 a1)) :: (.val (.pointer (some ⟨(w.heap.size + 1), 0, none⟩))) :: (.val (.pointer (some ⟨(w.heap.size + 1), 0, none⟩))) :: (.val (.pointer (some ⟨(w.heap.size + 1), 2, none⟩))) :: (.val (.int .u64 b2)) :: (.val (.agg (u64s (pr s31)).toArray)) :: (.val (.pointer (some ⟨w.heap.size, 0, none⟩))) :: (.val (.pointer (some ⟨w.heap.size, 0, none⟩))) :: (.val (.pointer (some ⟨w.heap.size, 2, none⟩))) :: (.val (.int .u64 a2)) :: (.val (.pointer (some ⟨(w.heap.size + 1), 0, none⟩))) :: (.val (.pointer (some ⟨(w.heap.size + 1), 0, none⟩))) :: (.val (.pointer (some ⟨(w.heap.size + 1), 1, none⟩))) :: (.val (.int .u64 b1)) :: (.val (.agg (u64s (pr s32)).toArray)) :: (.val (.pointer (some ⟨w.heap.size, 0, none⟩))) :: (.val (.pointer (some ⟨w.heap.size, 0, none⟩))) :: (.val (.pointer (some ⟨w.heap.size, 3, none⟩))) :: (.val (.int .u64 a3)) :: (.val (.pointer (some ⟨(w.heap.size + 1), 0, none⟩))) :: (.val (.pointer (some ⟨(w.heap.size + 1), 0, none⟩))) :: (.val (.pointer (some ⟨(w.heap.size + 1), 0, none⟩))) :: (.val (.int .u64 b0)) :: (.val (.agg (u64s (pr s33)).toArray)) :: (.val (.pointer (some ⟨w.heap.size, 0, none⟩))) :: (.val (.pointer (some ⟨w.heap.size, 0, none⟩))) :: (.val (.pointer (some ⟨w.heap.size, 4, none⟩))) :: (.val (.int .u64 a4)) :: (.val (.int .u64 (b4 * 19))) :: (.val (.agg (u64s (pr s34)).toArray)) :: (.blk 99 (u64s [0, 0])) :: []) (by kernel_rfl) (by kernel_rfl) (by kernel_rfl) ?_ ?_
        · refine Steps'.cons ?_ (Steps'.cons ?_ (Steps'.cons ?_ (Steps'.cons ?_ (Steps'.cons ?_ (Steps'.cons ?_ (Steps'.cons ?_ (Steps'.cons ?_ (Steps'.cons ?_ (Steps'.cons ?_ (Steps'.cons ?_ (Steps'.cons ?_ (Steps'.cons ?_ (Steps'.cons ?_ (Steps'.cons ?_ (Steps'.cons ?_ (Steps'.cons ?_ (Steps'.cons ?_ (Steps'.cons ?_ (Steps'.cons ?_ (Steps'.cons ?_ (Steps'.cons ?_ (Steps'.cons ?_ (Steps'.cons ?_ (Steps'.cons ?_ (Steps'.cons ?_ (Steps'.cons ?_ (Steps'.cons ?_ (Steps'.cons ?_ (Steps'.cons ?_ (Steps'.cons ?_ (Steps'.cons ?_ (Steps'.cons ?_ (Steps'.cons ?_ (Steps'.cons ?_ (Steps'.cons ?_ (Steps'.cons ?_ (Steps'.cons ?_ (Steps'.cons ?_ (Steps'.cons ?_ (Steps'.cons ?_ (Steps'.cons ?_ (Steps'.cons ?_ (Steps'.one _ _ _ _ _ _ _)))))))))))))))))))))))))))))))))))))))))))
          · intro ax wx hb hs hd
            have h5 : ax.tmps.getD 5 undef = (.pointer (some ⟨w.heap.size, 0, none⟩)) := hs 5 (by kernel_rfl)
            refine Does.value (.pointer (some ⟨w.heap.size, 0, none⟩)) ?_ rfl
            clear hs hd
            go_simp
          · intro ax wx hb hs hd
            have h146 : ax.tmps.getD 146 undef = (.pointer (some ⟨w.heap.size, 0, none⟩)) := hd 0 146 rfl (by kernel_rfl) (by decide)
            refine Does.value (.pointer (some ⟨w.heap.size, 0, none⟩)) ?_ rfl
            clear hs hd
            go_simp
          · intro ax wx hb hs hd
            have h147 : ax.tmps.getD 147 undef = (.pointer (some ⟨w.heap.size, 0, none⟩)) := hd 1 147 rfl (by kernel_rfl) (by decide)
            refine Does.value (.pointer (some ⟨w.heap.size, 0, none⟩)) ?_ rfl
            clear hs hd
            go_simp
          · intro ax wx hb hs hd
            have h148 : ax.tmps.getD 148 undef = (.pointer (some ⟨w.heap.size, 0, none⟩)) := hd 2 148 rfl (by kernel_rfl) (by decide)
            have cx : wx.cell? ⟨w.heap.size, 0, none⟩ = some (.int .u64 a0) := (Blk.later W3.out.2.1 hb (Blk.lt W3.out.2.1)).cell 0
            refine Does.value (.int .u64 a0) ?_ rfl
            clear hs hd
            go_simp
          · intro ax wx hb hs hd
            have h6 : ax.tmps.getD 6 undef = (.pointer (some ⟨(w.heap.size + 1), 0, none⟩)) := hs 6 (by kernel_rfl)
            refine Does.value (.pointer (some ⟨(w.heap.size + 1), 0, none⟩)) ?_ rfl
            clear hs hd
            go_simp
          · intro ax wx hb hs hd
            have h150 : ax.tmps.getD 150 undef = (.pointer (some ⟨(w.heap.size + 1), 0, none⟩)) := hd 4 150 rfl (by kernel_rfl) (by decide)
            refine Does.value (.pointer (some ⟨(w.heap.size + 1), 0, none⟩)) ?_ rfl
            clear hs hd
            go_simp
          · intro ax wx hb hs hd
            have h151 : ax.tmps.getD 151 undef = (.pointer (some ⟨(w.heap.size + 1), 0, none⟩)) := hd 5 151 rfl (by kernel_rfl) (by decide)
            refine Does.value (.pointer (some ⟨(w.heap.size + 1), 3, none⟩)) ?_ rfl
            clear hs hd
            go_simp
          · intro ax wx hb hs hd
            have h152 : ax.tmps.getD 152 undef = (.pointer (some ⟨(w.heap.size + 1), 3, none⟩)) := hd 6 152 rfl (by kernel_rfl) (by decide)
            have cx : wx.cell? ⟨(w.heap.size + 1), 3, none⟩ = some (.int .u64 b3) := (Blk.later W3.out.2.2.1 hb (Blk.lt W3.out.2.2.1)).cell 3
            refine Does.value (.int .u64 b3) ?_ rfl
            clear hs hd
            go_simp
          · intro ax wx hb hs hd
            have h149 : ax.tmps.getD 149 undef = (.int .u64 a0) := hd 3 149 rfl (by kernel_rfl) (by decide)
            have h153 : ax.tmps.getD 153 undef = (.int .u64 b3) := hd 7 153 rfl (by kernel_rfl) (by decide)
            refine Does.call 70 #[(.int .u64 a0), (.int .u64 b3)] (by clear hs hd; go_simp) ?_
            refine (H3.out.1 _).mono ?_
            rintro z w' ⟨rfl, l⟩
            exact ⟨_, rfl, rfl, l⟩
          · intro ax wx hb hs hd
            have h5 : ax.tmps.getD 5 undef = (.pointer (some ⟨w.heap.size, 0, none⟩)) := hs 5 (by kernel_rfl)
            refine Does.value (.pointer (some ⟨w.heap.size, 0, none⟩)) ?_ rfl
            clear hs hd
            go_simp
          · intro ax wx hb hs hd
            have h155 : ax.tmps.getD 155 undef = (.pointer (some ⟨w.heap.size, 0, none⟩)) := hd 9 155 rfl (by kernel_rfl) (by decide)
            refine Does.value (.pointer (some ⟨w.heap.size, 0, none⟩)) ?_ rfl
            clear hs hd
            go_simp
          · intro ax wx hb hs hd
            have h156 : ax.tmps.getD 156 undef = (.pointer (some ⟨w.heap.size, 0, none⟩)) := hd 10 156 rfl (by kernel_rfl) (by decide)
            refine Does.value (.pointer (some ⟨w.heap.size, 1, none⟩)) ?_ rfl
            clear hs hd
            go_simp
          · intro ax wx hb hs hd
            have h157 : ax.tmps.getD 157 undef = (.pointer (some ⟨w.heap.size, 1, none⟩)) := hd 11 157 rfl (by kernel_rfl) (by decide)
            have cx : wx.cell? ⟨w.heap.size, 1, none⟩ = some (.int .u64 a1) := (Blk.later W3.out.2.1 hb (Blk.lt W3.out.2.1)).cell 1
            refine Does.value (.int .u64 a1) ?_ rfl
            clear hs hd
            go_simp
          · intro ax wx hb hs hd
            have h6 : ax.tmps.getD 6 undef = (.pointer (some ⟨(w.heap.size + 1), 0, none⟩)) := hs 6 (by kernel_rfl)
            refine Does.value (.pointer (some ⟨(w.heap.size + 1), 0, none⟩)) ?_ rfl
            clear hs hd
            go_simp
          · intro ax wx hb hs hd
            have h159 : ax.tmps.getD 159 undef = (.pointer (some ⟨(w.heap.size + 1), 0, none⟩)) := hd 13 159 rfl (by kernel_rfl) (by decide)
            refine Does.value (.pointer (some ⟨(w.heap.size + 1), 0, none⟩)) ?_ rfl
            clear hs hd
            go_simp
          · intro ax wx hb hs hd
            have h160 : ax.tmps.getD 160 undef = (.pointer (some ⟨(w.heap.size + 1), 0, none⟩)) := hd 14 160 rfl (by kernel_rfl) (by decide)
            refine Does.value (.pointer (some ⟨(w.heap.size + 1), 2, none⟩)) ?_ rfl
            clear hs hd
            go_simp
          · intro ax wx hb hs hd
            have h161 : ax.tmps.getD 161 undef = (.pointer (some ⟨(w.heap.size + 1), 2, none⟩)) := hd 15 161 rfl (by kernel_rfl) (by decide)
            have cx : wx.cell? ⟨(w.heap.size + 1), 2, none⟩ = some (.int .u64 b2) := (Blk.later W3.out.2.2.1 hb (Blk.lt W3.out.2.2.1)).cell 2
            refine Does.value (.int .u64 b2) ?_ rfl
            clear hs hd
            go_simp
          · intro ax wx hb hs hd
            have h154 : ax.tmps.getD 154 undef = (.agg (u64s (pr s30)).toArray) := hd 8 154 rfl (by kernel_rfl) (by decide)
            have h158 : ax.tmps.getD 158 undef = (.int .u64 a1) := hd 12 158 rfl (by kernel_rfl) (by decide)
            have h162 : ax.tmps.getD 162 undef = (.int .u64 b2) := hd 16 162 rfl (by kernel_rfl) (by decide)
            refine Does.call 71 #[(.agg (u64s (pr s30)).toArray), (.int .u64 a1), (.int .u64 b2)] (by clear hs hd; go_simp) ?_
            refine (H3.out.2.1 _).mono ?_
            rintro z w' ⟨rfl, l⟩
            exact ⟨_, rfl, rfl, l⟩
          · intro ax wx hb hs hd
            have h5 : ax.tmps.getD 5 undef = (.pointer (some ⟨w.heap.size, 0, none⟩)) := hs 5 (by kernel_rfl)
            refine Does.value (.pointer (some ⟨w.heap.size, 0, none⟩)) ?_ rfl
            clear hs hd
            go_simp
          · intro ax wx hb hs hd
            have h164 : ax.tmps.getD 164 undef = (.pointer (some ⟨w.heap.size, 0, none⟩)) := hd 18 164 rfl (by kernel_rfl) (by decide)
            refine Does.value (.pointer (some ⟨w.heap.size, 0, none⟩)) ?_ rfl
            clear hs hd
            go_simp
          · intro ax wx hb hs hd
            have h165 : ax.tmps.getD 165 undef = (.pointer (some ⟨w.heap.size, 0, none⟩)) := hd 19 165 rfl (by kernel_rfl) (by decide)
            refine Does.value (.pointer (some ⟨w.heap.size, 2, none⟩)) ?_ rfl
            clear hs hd
            go_simp
          · intro ax wx hb hs hd
            have h166 : ax.tmps.getD 166 undef = (.pointer (some ⟨w.heap.size, 2, none⟩)) := hd 20 166 rfl (by kernel_rfl) (by decide)
            have cx : wx.cell? ⟨w.heap.size, 2, none⟩ = some (.int .u64 a2) := (Blk.later W3.out.2.1 hb (Blk.lt W3.out.2.1)).cell 2
            refine Does.value (.int .u64 a2) ?_ rfl
            clear hs hd
            go_simp
          · intro ax wx hb hs hd
            have h6 : ax.tmps.getD 6 undef = (.pointer (some ⟨(w.heap.size + 1), 0, none⟩)) := hs 6 (by kernel_rfl)
            refine Does.value (.pointer (some ⟨(w.heap.size + 1), 0, none⟩)) ?_ rfl
            clear hs hd
            go_simp
          · intro ax wx hb hs hd
            have h168 : ax.tmps.getD 168 undef = (.pointer (some ⟨(w.heap.size + 1), 0, none⟩)) := hd 22 168 rfl (by kernel_rfl) (by decide)
            refine Does.value (.pointer (some ⟨(w.heap.size + 1), 0, none⟩)) ?_ rfl
            clear hs hd
            go_simp
          · intro ax wx hb hs hd
            have h169 : ax.tmps.getD 169 undef = (.pointer (some ⟨(w.heap.size + 1), 0, none⟩)) := hd 23 169 rfl (by kernel_rfl) (by decide)
            refine Does.value (.pointer (some ⟨(w.heap.size + 1), 1, none⟩)) ?_ rfl
            clear hs hd
            go_simp
          · intro ax wx hb hs hd
            have h170 : ax.tmps.getD 170 undef = (.pointer (some ⟨(w.heap.size + 1), 1, none⟩)) := hd 24 170 rfl (by kernel_rfl) (by decide)
            have cx : wx.cell? ⟨(w.heap.size + 1), 1, none⟩ = some (.int .u64 b1) := (Blk.later W3.out.2.2.1 hb (Blk.lt W3.out.2.2.1)).cell 1
            refine Does.value (.int .u64 b1) ?_ rfl
            clear hs hd
            go_simp
          · intro ax wx hb hs hd
            have h163 : ax.tmps.getD 163 undef = (.agg (u64s (pr s31)).toArray) := hd 17 163 rfl (by kernel_rfl) (by decide)
            have h167 : ax.tmps.getD 167 undef = (.int .u64 a2) := hd 21 167 rfl (by kernel_rfl) (by decide)
            have h171 : ax.tmps.getD 171 undef = (.int .u64 b1) := hd 25 171 rfl (by kernel_rfl) (by decide)
            refine Does.call 71 #[(.agg (u64s (pr s31)).toArray), (.int .u64 a2), (.int .u64 b1)] (by clear hs hd; go_simp) ?_
            refine (H3.out.2.2.1 _).mono ?_
            rintro z w' ⟨rfl, l⟩
            exact ⟨_, rfl, rfl, l⟩
          · intro ax wx hb hs hd
            have h5 : ax.tmps.getD 5 undef = (.pointer (some ⟨w.heap.size, 0, none⟩)) := hs 5 (by kernel_rfl)
            refine Does.value (.pointer (some ⟨w.heap.size, 0, none⟩)) ?_ rfl
            clear hs hd
            go_simp
          · intro ax wx hb hs hd
            have h173 : ax.tmps.getD 173 undef = (.pointer (some ⟨w.heap.size, 0, none⟩)) := hd 27 173 rfl (by kernel_rfl) (by decide)
            refine Does.value (.pointer (some ⟨w.heap.size, 0, none⟩)) ?_ rfl
            clear hs hd
            go_simp
          · intro ax wx hb hs hd
            have h174 : ax.tmps.getD 174 undef = (.pointer (some ⟨w.heap.size, 0, none⟩)) := hd 28 174 rfl (by kernel_rfl) (by decide)
            refine Does.value (.pointer (some ⟨w.heap.size, 3, none⟩)) ?_ rfl
            clear hs hd
            go_simp
          · intro ax wx hb hs hd
            have h175 : ax.tmps.getD 175 undef = (.pointer (some ⟨w.heap.size, 3, none⟩)) := hd 29 175 rfl (by kernel_rfl) (by decide)
            have cx : wx.cell? ⟨w.heap.size, 3, none⟩ = some (.int .u64 a3) := (Blk.later W3.out.2.1 hb (Blk.lt W3.out.2.1)).cell 3
            refine Does.value (.int .u64 a3) ?_ rfl
            clear hs hd
            go_simp
          · intro ax wx hb hs hd
            have h6 : ax.tmps.getD 6 undef = (.pointer (some ⟨(w.heap.size + 1), 0, none⟩)) := hs 6 (by kernel_rfl)
            refine Does.value (.pointer (some ⟨(w.heap.size + 1), 0, none⟩)) ?_ rfl
            clear hs hd
            go_simp
          · intro ax wx hb hs hd
            have h177 : ax.tmps.getD 177 undef = (.pointer (some ⟨(w.heap.size + 1), 0, none⟩)) := hd 31 177 rfl (by kernel_rfl) (by decide)
            refine Does.value (.pointer (some ⟨(w.heap.size + 1), 0, none⟩)) ?_ rfl
            clear hs hd
            go_simp
          · intro ax wx hb hs hd
            have h178 : ax.tmps.getD 178 undef = (.pointer (some ⟨(w.heap.size + 1), 0, none⟩)) := hd 32 178 rfl (by kernel_rfl) (by decide)
            refine Does.value (.pointer (some ⟨(w.heap.size + 1), 0, none⟩)) ?_ rfl
            clear hs hd
            go_simp
          · intro ax wx hb hs hd
            have h179 : ax.tmps.getD 179 undef = (.pointer (some ⟨(w.heap.size + 1), 0, none⟩)) := hd 33 179 rfl (by kernel_rfl) (by decide)
            have cx : wx.cell? ⟨(w.heap.size + 1), 0, none⟩ = some (.int .u64 b0) := (Blk.later W3.out.2.2.1 hb (Blk.lt W3.out.2.2.1)).cell 0
            refine Does.value (.int .u64 b0) ?_ rfl
            clear hs hd
            go_simp
          · intro ax wx hb hs hd
            have h172 : ax.tmps.getD 172 undef = (.agg (u64s (pr s32)).toArray) := hd 26 172 rfl (by kernel_rfl) (by decide)
            have h176 : ax.tmps.getD 176 undef = (.int .u64 a3) := hd 30 176 rfl (by kernel_rfl) (by decide)
            have h180 : ax.tmps.getD 180 undef = (.int .u64 b0) := hd 34 180 rfl (by kernel_rfl) (by decide)
            refine Does.call 71 #[(.agg (u64s (pr s32)).toArray), (.int .u64 a3), (.int .u64 b0)] (by clear hs hd; go_simp) ?_
            refine (H3.out.2.2.2.1 _).mono ?_
            rintro z w' ⟨rfl, l⟩
            exact ⟨_, rfl, rfl, l⟩
          · intro ax wx hb hs hd
            have h5 : ax.tmps.getD 5 undef = (.pointer (some ⟨w.heap.size, 0, none⟩)) := hs 5 (by kernel_rfl)
            refine Does.value (.pointer (some ⟨w.heap.size, 0, none⟩)) ?_ rfl
            clear hs hd
            go_simp
          · intro ax wx hb hs hd
            have h182 : ax.tmps.getD 182 undef = (.pointer (some ⟨w.heap.size, 0, none⟩)) := hd 36 182 rfl (by kernel_rfl) (by decide)
            refine Does.value (.pointer (some ⟨w.heap.size, 0, none⟩)) ?_ rfl
            clear hs hd
            go_simp
          · intro ax wx hb hs hd
            have h183 : ax.tmps.getD 183 undef = (.pointer (some ⟨w.heap.size, 0, none⟩)) := hd 37 183 rfl (by kernel_rfl) (by decide)
            refine Does.value (.pointer (some ⟨w.heap.size, 4, none⟩)) ?_ rfl
            clear hs hd
            go_simp
          · intro ax wx hb hs hd
            have h184 : ax.tmps.getD 184 undef = (.pointer (some ⟨w.heap.size, 4, none⟩)) := hd 38 184 rfl (by kernel_rfl) (by decide)
            have cx : wx.cell? ⟨w.heap.size, 4, none⟩ = some (.int .u64 a4) := (Blk.later W3.out.2.1 hb (Blk.lt W3.out.2.1)).cell 4
            refine Does.value (.int .u64 a4) ?_ rfl
            clear hs hd
            go_simp
          · intro ax wx hb hs hd
            have h10 : ax.tmps.getD 10 undef = (.int .u64 (b4 * 19)) := hs 10 (by kernel_rfl)
            refine Does.value (.int .u64 (b4 * 19)) ?_ rfl
            clear hs hd
            go_simp
          · intro ax wx hb hs hd
            have h181 : ax.tmps.getD 181 undef = (.agg (u64s (pr s33)).toArray) := hd 35 181 rfl (by kernel_rfl) (by decide)
            have h185 : ax.tmps.getD 185 undef = (.int .u64 a4) := hd 39 185 rfl (by kernel_rfl) (by decide)
            have h186 : ax.tmps.getD 186 undef = (.int .u64 (b4 * 19)) := hd 40 186 rfl (by kernel_rfl) (by decide)
            refine Does.call 71 #[(.agg (u64s (pr s33)).toArray), (.int .u64 a4), (.int .u64 (b4 * 19))] (by clear hs hd; go_simp) ?_
            refine (H3.out.2.2.2.2 _).mono ?_
            rintro z w' ⟨rfl, l⟩
            exact ⟨_, rfl, rfl, l⟩
          · intro ax wx hb hs hd
            exact Does.alloc 99 rfl 2 _ zeroWide hb.size
        · intro wx hb
          refine @Ends.val _ _ _ _ _ _ _ _ _ (.pointer (some ⟨w.heap.size, 0, none⟩)) rfl ?_
          refine @Ends.val _ _ _ _ _ _ _ _ _ (.pointer (some ⟨w.heap.size, 0, none⟩)) rfl ?_
          refine @Ends.val _ _ _ _ _ _ _ _ _ (.pointer (some ⟨w.heap.size, 0, none⟩)) rfl ?_
          refine @Ends.val _ _ _ _ _ _ _ _ _ (.int .u64 a0) rfl ?_
          refine @Ends.val _ _ _ _ _ _ _ _ _ (.pointer (some ⟨(w.heap.size + 1), 0, none⟩)) rfl ?_
          refine @Ends.val _ _ _ _ _ _ _ _ _ (.pointer (some ⟨(w.heap.size + 1), 0, none⟩)) rfl ?_
          refine @Ends.val _ _ _ _ _ _ _ _ _ (.pointer (some ⟨(w.heap.size + 1), 3, none⟩)) rfl ?_
          refine @Ends.val _ _ _ _ _ _ _ _ _ (.int .u64 b3) rfl ?_
          refine @Ends.val _ _ _ _ _ _ _ _ _ (.agg (u64s (pr s30)).toArray) rfl ?_
          refine @Ends.val _ _ _ _ _ _ _ _ _ (.pointer (some ⟨w.heap.size, 0, none⟩)) rfl ?_
          refine @Ends.val _ _ _ _ _ _ _ _ _ (.pointer (some ⟨w.heap.size, 0, none⟩)) rfl ?_
          refine @Ends.val _ _ _ _ _ _ _ _ _ (.pointer (some ⟨w.heap.size, 1, none⟩)) rfl ?_
          refine @Ends.val _ _ _ _ _ _ _ _ _ (.int .u64 a1) rfl ?_
          refine @Ends.val _ _ _ _ _ _ _ _ _ (.pointer (some ⟨(w.heap.size + 1), 0, none⟩)) rfl ?_
          refine @Ends.val _ _ _ _ _ _ _ _ _ (.pointer (some ⟨(w.heap.size + 1), 0, none⟩)) rfl ?_
          refine @Ends.val _ _ _ _ _ _ _ _ _ (.pointer (some ⟨(w.heap.size + 1), 2, none⟩)) rfl ?_
          refine @Ends.val _ _ _ _ _ _ _ _ _ (.int .u64 b2) rfl ?_
          refine @Ends.val _ _ _ _ _ _ _ _ _ (.agg (u64s (pr s31)).toArray) rfl ?_
          refine @Ends.val _ _ _ _ _ _ _ _ _ (.pointer (some ⟨w.heap.size, 0, none⟩)) rfl ?_
          refine @Ends.val _ _ _ _ _ _ _ _ _ (.pointer (some ⟨w.heap.size, 0, none⟩)) rfl ?_
          refine @Ends.val _ _ _ _ _ _ _ _ _ (.pointer (some ⟨w.heap.size, 2, none⟩)) rfl ?_
          refine @Ends.val _ _ _ _ _ _ _ _ _ (.int .u64 a2) rfl ?_
          refine @Ends.val _ _ _ _ _ _ _ _ _ (.pointer (some ⟨(w.heap.size + 1), 0, none⟩)) rfl ?_
          refine @Ends.val _ _ _ _ _ _ _ _ _ (.pointer (some ⟨(w.heap.size + 1), 0, none⟩)) rfl ?_
          refine @Ends.val _ _ _ _ _ _ _ _ _ (.pointer (some ⟨(w.heap.size + 1), 1, none⟩)) rfl ?_
          refine @Ends.val _ _ _ _ _ _ _ _ _ (.int .u64 b1) rfl ?_
          refine @Ends.val _ _ _ _ _ _ _ _ _ (.agg (u64s (pr s32)).toArray) rfl ?_
          refine @Ends.val _ _ _ _ _ _ _ _ _ (.pointer (some ⟨w.heap.size, 0, none⟩)) rfl ?_
          refine @Ends.val _ _ _ _ _ _ _ _ _ (.pointer (some ⟨w.heap.size, 0, none⟩)) rfl ?_
          refine @Ends.val _ _ _ _ _ _ _ _ _ (.pointer (some ⟨w.heap.size, 3, none⟩)) rfl ?_
          refine @Ends.val _ _ _ _ _ _ _ _ _ (.int .u64 a3) rfl ?_
          refine @Ends.val _ _ _ _ _ _ _ _ _ (.pointer (some ⟨(w.heap.size + 1), 0, none⟩)) rfl ?_
          refine @Ends.val _ _ _ _ _ _ _ _ _ (.pointer (some ⟨(w.heap.size + 1), 0, none⟩)) rfl ?_
          refine @Ends.val _ _ _ _ _ _ _ _ _ (.pointer (some ⟨(w.heap.size + 1), 0, none⟩)) rfl ?_
          refine @Ends.val _ _ _ _ _ _ _ _ _ (.int .u64 b0) rfl ?_
          refine @Ends.val _ _ _ _ _ _ _ _ _ (.agg (u64s (pr s33)).toArray) rfl ?_
          refine @Ends.val _ _ _ _ _ _ _ _ _ (.pointer (some ⟨w.heap.size, 0, none⟩)) rfl ?_
          refine @Ends.val _ _ _ _ _ _ _ _ _ (.pointer (some ⟨w.heap.size, 0, none⟩)) rfl ?_
          refine @Ends.val _ _ _ _ _ _ _ _ _ (.pointer (some ⟨w.heap.size, 4, none⟩)) rfl ?_
          refine @Ends.val _ _ _ _ _ _ _ _ _ (.int .u64 a4) rfl ?_
          refine @Ends.val _ _ _ _ _ _ _ _ _ (.int .u64 (b4 * 19)) rfl ?_
          refine @Ends.val _ _ _ _ _ _ _ _ _ (.agg (u64s (pr s34)).toArray) rfl ?_
          refine @Ends.blk _ _ _ _ _ _ _ _ _ 99 (u64s [0, 0]) rfl ?_
          intro g42 hg42 bg42
          refine @Ends.one _ _ _ _ _ _ _ ?_
          simp only [Act.put, List.setIfInBounds_toArray, List.set_cons_zero, List.set_cons_succ]
          obtain ⟨G3, hG3⟩ : ∃ q, q = g42 := ⟨_, rfl⟩
          subst hG3
          refine last_store 99 (.tmp 14) (.tmp 187) rfl rfl G3 rfl 99 _ (u64s (pr s34)) rfl bg42 rfl sizeWide (u64s_one _) ?_
          intro y n1 n2 n3
          have q5 := hb.size
          have q10 := W3.out.2.1.lt
          have q11 := W3.out.2.2.1.lt
          have q12 := W3.out.2.2.2.1.lt
          have q13 := W3.out.2.2.2.2.1.lt
          have q14 := W3.out.2.2.2.2.2.1.lt
          have q15 := W3.out.2.2.2.2.2.2.1.lt
          have qz := W3.out.2.2.2.2.2.2.2
          have W4 : Hid (Below w.heap.size w y ∧ Blk y w.heap.size 27 (u64s [a0, a1, a2, a3, a4]) ∧ Blk y (w.heap.size + 1) 27 (u64s [b0, b1, b2, b3, b4]) ∧ Blk y (w.heap.size + 1 + 1) 27 (u64s [0, 0, 0, 0, 0]) ∧ Blk y G0 99 (u64s (pr s04)) ∧ Blk y G1 99 (u64s (pr s14)) ∧ Blk y G2 99 (u64s (pr s24)) ∧ Blk y G3 99 (u64s (pr s34)) ∧ True ∧ w.heap.size + 3 ≤ G0 ∧ w.heap.size + 3 ≤ G1 ∧ w.heap.size + 3 ≤ G2 ∧ w.heap.size + 3 ≤ G3 ∧ G0 < G1 ∧ G1 < G2 ∧ G2 < G3) := ⟨below_kept (below_chain W3.out.1 hb (by omega)) n3 (by omega) (fun j hj => by omega), (W3.out.2.1.later hb q10).kept n3 (by omega), (W3.out.2.2.1.later hb q11).kept n3 (by omega), (W3.out.2.2.2.1.later hb q12).kept n3 (by omega), (W3.out.2.2.2.2.1.later hb q13).kept n3 (by omega), (W3.out.2.2.2.2.2.1.later hb q14).kept n3 (by omega), (W3.out.2.2.2.2.2.2.1.later hb q15).kept n3 (by omega), n1, trivial, by omega, by omega, by omega, by omega, by omega, by omega, by omega⟩
          obtain ⟨y4, rfl⟩ : ∃ q, q = y := ⟨_, rfl⟩
          clear W3 H3 n1 n2 n3 hb q5 qz hg42 bg42 q10 q11 q12 q13 q14 q15
          go_wp2_with fail
          refine region_invT ((.val (.pointer (some ⟨w.heap.size, 0, none⟩))) :: (.val (.pointer (some ⟨w.heap.size, 0, none⟩))) :: (.val (.pointer (some ⟨w.heap.size, 0, none⟩))) :: (.val (.int .u64 a0)) :: (.val (.pointer (some ⟨(w.heap.size + 1), 0, none⟩))) :: (.val (.pointer (some ⟨(w.heap.size + 1), 0, none⟩))) :: (.val (.pointer (some ⟨(w.heap.size + 1), 4, none⟩))) :: (.val (.int .u64 b4)) :: (.val (.agg (u64s (pr s40)).toArray)) :: (.val (.pointer (some ⟨w.heap.size, 0, none⟩))) :: (.val (.pointer (some ⟨w.heap.size, 0, none⟩))) :: (.val (.pointer (some ⟨w.heap.size, 1, none⟩))) :: (.val (.int .u64 a1)) :: (.val (.pointer (some ⟨(w.heap.size + 1), 0, none⟩))) :: (.val (.pointer (some ⟨(w.heap.size + 1), 0, none⟩))) :: (.val (.pointer (some ⟨(w.heap.size + 1), 3, none⟩))) :: (.val (.int .u64 b3)) :: (.val (.agg (u64s (pr s41)).toArray)) :: (.val (.pointer (some ⟨w.heap.size, 0, none⟩))) :: (.val (.pointer (some ⟨w.heap.size, 0, none⟩))) :: (.val (.pointer (some ⟨w.heap.size, 2, none⟩))) :: (.val (.int .u64 a2)) :: (.val (.pointer (some ⟨(w.heap.size + 1), 0, none⟩))) :: (.val (.pointer (some ⟨(w.heap.size + 1), 0, none⟩))) :: (.val (.pointer (some ⟨(w.heap.size + 1), 2, none⟩))) :: (.val (.int .u64 b2)) :: (.val (.agg (u64s (pr s42)).toArray)) :: (.val (.pointer (some ⟨w.heap.size, 0, none⟩))) :: (.val (.pointer (some ⟨w.heap.size, 0, none⟩))) :: (.val (.pointer (some ⟨w.heap.size, 3, none⟩))) :: (.val (.int .u64 a3)) :: (.val (.pointer (some ⟨(w.heap.size + 1), 0, none⟩))) :: (.val (.pointer (some ⟨(w.heap.size + 1), 0, none⟩))) :: (.val (.pointer (some ⟨(w.heap.size + 1), 1, none⟩))) :: (.val (.int .u64 b1)) :: (.val (.agg (u64s (pr s43)).toArray)) :: (.val (.pointer (some ⟨w.heap.size, 0, none⟩))) :: (.val (.pointer (some ⟨w.heap.size, 0, none⟩))) :: (.val (.pointer (some ⟨w.heap.size, 4, none⟩))) :: (.val (.int .u64 a4)) :: (.val (.pointer (some ⟨(w.heap.size + 1), 0, none⟩))) :: (.val (.pointer (some ⟨(w.heap.size + 1), 0, none⟩))) :: (.val (.pointer (some ⟨(w.heap.size + 1), 0, none⟩))) :: (.val (.int .u64 b0)) :: (.val (.agg (u64s (pr s44)).toArray)) :: (.blk 99 (u64s [0, 0])) :: []) (by kernel_rfl) (by kernel_rfl) (by kernel_rfl) ?_ ?_
          · refine Steps'.cons ?_ (Steps'.cons ?_ (Steps'.cons ?_ (Steps'.cons ?_ (Steps'.cons ?_ (Steps'.cons ?_ (Steps'.cons ?_ (Steps'.cons ?_ (Steps'.cons ?_ (Steps'.cons ?_ (Steps'.cons ?_ (Steps'.cons ?_ (Steps'.cons ?_ (Steps'.cons ?_ (Steps'.cons ?_ (Steps'.cons ?_ (Steps'.cons ?_ (Steps'.cons ?_ (Steps'.cons ?_ (Steps'.cons ?_ (Steps'.cons ?_ (Steps'.cons ?_ (Steps'.cons ?_ (Steps'.cons ?_ (Steps'.cons ?_ (Steps'.cons ?_ (Steps'.cons ?_ (Steps'.cons ?_ (Steps'.cons ?_ (Steps'.cons ?_ (Steps'.cons ?_ (Steps'.cons ?_ (Steps'.cons ?_ (Steps'.cons ?_ (Steps'.cons ?_ (Steps'.cons ?_ (Steps'.cons ?_ (Steps'.cons ?_ (Steps'.cons ?_ (Steps'.cons ?_ (Steps'.cons ?_ (Steps'.cons ?_ (Steps'.cons ?_ (Steps'.cons ?_ (Steps'.cons ?_ (Steps'.cons ?_ (Steps'.one _ _ _ _ _ _ _))))))))))))))))))))))))))))))))))))))))))))))
            · intro ax wx hb hs hd
              have h5 : ax.tmps.getD 5 undef = (.pointer (some ⟨w.heap.size, 0, none⟩)) := hs 5 (by kernel_rfl)
              refine Does.value (.pointer (some ⟨w.heap.size, 0, none⟩)) ?_ rfl
              clear hs hd
              go_simp
            · intro ax wx hb hs hd
              have h188 : ax.tmps.getD 188 undef = (.pointer (some ⟨w.heap.size, 0, none⟩)) := hd 0 188 rfl (by kernel_rfl) (by decide)
              refine Does.value (.pointer (some ⟨w.heap.size, 0, none⟩)) ?_ rfl
              clear hs hd
              go_simp
            · intro ax wx hb hs hd
              have h189 : ax.tmps.getD 189 undef = (.pointer (some ⟨w.heap.size, 0, none⟩)) := hd 1 189 rfl (by kernel_rfl) (by decide)
              refine Does.value (.pointer (some ⟨w.heap.size, 0, none⟩)) ?_ rfl
              clear hs hd
              go_simp
            · intro ax wx hb hs hd
              have h190 : ax.tmps.getD 190 undef = (.pointer (some ⟨w.heap.size, 0, none⟩)) := hd 2 190 rfl (by kernel_rfl) (by decide)
              have cx : wx.cell? ⟨w.heap.size, 0, none⟩ = some (.int .u64 a0) := (Blk.later W4.out.2.1 hb (Blk.lt W4.out.2.1)).cell 0
              refine Does.value (.int .u64 a0) ?_ rfl
              clear hs hd
              go_simp
            · intro ax wx hb hs hd
              have h6 : ax.tmps.getD 6 undef = (.pointer (some ⟨(w.heap.size + 1), 0, none⟩)) := hs 6 (by kernel_rfl)
              refine Does.value (.pointer (some ⟨(w.heap.size + 1), 0, none⟩)) ?_ rfl
              clear hs hd
              go_simp
            · intro ax wx hb hs hd
              have h192 : ax.tmps.getD 192 undef = (.pointer (some ⟨(w.heap.size + 1), 0, none⟩)) := hd 4 192 rfl (by kernel_rfl) (by decide)
              refine Does.value (.pointer (some ⟨(w.heap.size + 1), 0, none⟩)) ?_ rfl
              clear hs hd
              go_simp
            · intro ax wx hb hs hd
              have h193 : ax.tmps.getD 193 undef = (.pointer (some ⟨(w.heap.size + 1), 0, none⟩)) := hd 5 193 rfl (by kernel_rfl) (by decide)
              refine Does.value (.pointer (some ⟨(w.heap.size + 1), 4, none⟩)) ?_ rfl
              clear hs hd
              go_simp
            · intro ax wx hb hs hd
              have h194 : ax.tmps.getD 194 undef = (.pointer (some ⟨(w.heap.size + 1), 4, none⟩)) := hd 6 194 rfl (by kernel_rfl) (by decide)
              have cx : wx.cell? ⟨(w.heap.size + 1), 4, none⟩ = some (.int .u64 b4) := (Blk.later W4.out.2.2.1 hb (Blk.lt W4.out.2.2.1)).cell 4
              refine Does.value (.int .u64 b4) ?_ rfl
              clear hs hd
              go_simp
            · intro ax wx hb hs hd
              have h191 : ax.tmps.getD 191 undef = (.int .u64 a0) := hd 3 191 rfl (by kernel_rfl) (by decide)
              have h195 : ax.tmps.getD 195 undef = (.int .u64 b4) := hd 7 195 rfl (by kernel_rfl) (by decide)
              refine Does.call 70 #[(.int .u64 a0), (.int .u64 b4)] (by clear hs hd; go_simp) ?_
              refine (H4.out.1 _).mono ?_
              rintro z w' ⟨rfl, l⟩
              exact ⟨_, rfl, rfl, l⟩
            · intro ax wx hb hs hd
              have h5 : ax.tmps.getD 5 undef = (.pointer (some ⟨w.heap.size, 0, none⟩)) := hs 5 (by kernel_rfl)
              refine Does.value (.pointer (some ⟨w.heap.size, 0, none⟩)) ?_ rfl
              clear hs hd
              go_simp
            · intro ax wx hb hs hd
              have h197 : ax.tmps.getD 197 undef = (.pointer (some ⟨w.heap.size, 0, none⟩)) := hd 9 197 rfl (by kernel_rfl) (by decide)
              refine Does.value (.pointer (some ⟨w.heap.size, 0, none⟩)) ?_ rfl
              clear hs hd
              go_simp
            · intro ax wx hb hs hd
              have h198 : ax.tmps.getD 198 undef = (.pointer (some ⟨w.heap.size, 0, none⟩)) := hd 10 198 rfl (by kernel_rfl) (by decide)
              refine Does.value (.pointer (some ⟨w.heap.size, 1, none⟩)) ?_ rfl
              clear hs hd
              go_simp
            · intro ax wx hb hs hd
              have h199 : ax.tmps.getD 199 undef = (.pointer (some ⟨w.heap.size, 1, none⟩)) := hd 11 199 rfl (by kernel_rfl) (by decide)
              have cx : wx.cell? ⟨w.heap.size, 1, none⟩ = some (.int .u64 a1) := (Blk.later W4.out.2.1 hb (Blk.lt W4.out.2.1)).cell 1
              refine Does.value (.int .u64 a1) ?_ rfl
              clear hs hd
              go_simp
            · intro ax wx hb hs hd
              have h6 : ax.tmps.getD 6 undef = (.pointer (some ⟨(w.heap.size + 1), 0, none⟩)) := hs 6 (by kernel_rfl)
              refine Does.value (.pointer (some ⟨(w.heap.size + 1), 0, none⟩)) ?_ rfl
              clear hs hd
              go_simp
            · intro ax wx hb hs hd
              have h201 : ax.tmps.getD 201 undef = (.pointer (some ⟨(w.heap.size + 1), 0, none⟩)) := hd 13 201 rfl (by kernel_rfl) (by decide)
              refine Does.value (.pointer (some ⟨(w.heap.size + 1), 0, none⟩)) ?_ rfl
              clear hs hd
              go_simp
            · intro ax wx hb hs hd
              have h202 : ax.tmps.getD 202 undef = (.pointer (some ⟨(w.heap.size + 1), 0, none⟩)) := hd 14 202 rfl (by kernel_rfl) (by decide)
              refine Does.value (.pointer (some ⟨(w.heap.size + 1), 3, none⟩)) ?_ rfl
              clear hs hd
              go_simp
            · intro ax wx hb hs hd
              have h203 : ax.tmps.getD 203 undef = (.pointer (some ⟨(w.heap.size + 1), 3, none⟩)) := hd 15 203 rfl (by kernel_rfl) (by decide)
              have cx : wx.cell? ⟨(w.heap.size + 1), 3, none⟩ = some (.int .u64 b3) := (Blk.later W4.out.2.2.1 hb (Blk.lt W4.out.2.2.1)).cell 3
              refine Does.value (.int .u64 b3) ?_ rfl
              clear hs hd
              go_simp
            · intro ax wx hb hs hd
              have h196 : ax.tmps.getD 196 undef = (.agg (u64s (pr s40)).toArray) := hd 8 196 rfl (by kernel_rfl) (by decide)
              have h200 : ax.tmps.getD 200 undef = (.int .u64 a1) := hd 12 200 rfl (by kernel_rfl) (by decide)
              have h204 : ax.tmps.getD 204 undef = (.int .u64 b3) := hd 16 204 rfl (by kernel_rfl) (by decide)
              refine Does.call 71 #[(.agg (u64s (pr s40)).toArray), (.int .u64 a1), (.int .u64 b3)] (by clear hs hd; go_simp) ?_
              refine (H4.out.2.1 _).mono ?_
              rintro z w' ⟨rfl, l⟩
              exact ⟨_, rfl, rfl, l⟩
            · intro ax wx hb hs hd
              have h5 : ax.tmps.getD 5 undef = (.pointer (some ⟨w.heap.size, 0, none⟩)) := hs 5 (by kernel_rfl)
              refine Does.value (.pointer (some ⟨w.heap.size, 0, none⟩)) ?_ rfl
              clear hs hd
              go_simp
            · intro ax wx hb hs hd
              have h206 : ax.tmps.getD 206 undef = (.pointer (some ⟨w.heap.size, 0, none⟩)) := hd 18 206 rfl (by kernel_rfl) (by decide)
              refine Does.value (.pointer (some ⟨w.heap.size, 0, none⟩)) ?_ rfl
              clear hs hd
              go_simp
            · intro ax wx hb hs hd
              have h207 : ax.tmps.getD 207 undef = (.pointer (some ⟨w.heap.size, 0, none⟩)) := hd 19 207 rfl (by kernel_rfl) (by decide)
              refine Does.value (.pointer (some ⟨w.heap.size, 2, none⟩)) ?_ rfl
              clear hs hd
              go_simp
            · intro ax wx hb hs hd
              have h208 : ax.tmps.getD 208 undef = (.pointer (some ⟨w.heap.size, 2, none⟩)) := hd 20 208 rfl (by kernel_rfl) (by decide)
              have cx : wx.cell? ⟨w.heap.size, 2, none⟩ = some (.int .u64 a2) := (Blk.later W4.out.2.1 hb (Blk.lt W4.out.2.1)).cell 2
              refine Does.value (.int .u64 a2) ?_ rfl
              clear hs hd
              go_simp
            · intro ax wx hb hs hd
              have h6 : ax.tmps.getD 6 undef = (.pointer (some ⟨(w.heap.size + 1), 0, none⟩)) := hs 6 (by kernel_rfl)
              refine Does.value (.pointer (some ⟨(w.heap.size + 1), 0, none⟩)) ?_ rfl
              clear hs hd
              go_simp
            · intro ax wx hb hs hd
              have h210 : ax.tmps.getD 210 undef = (.pointer (some ⟨(w.heap.size + 1), 0, none⟩)) := hd 22 210 rfl (by kernel_rfl) (by decide)
              refine Does.value (.pointer (some ⟨(w.heap.size + 1), 0, none⟩)) ?_ rfl
              clear hs hd
              go_simp
            · intro ax wx hb hs hd
              have h211 : ax.tmps.getD 211 undef = (.pointer (some ⟨(w.heap.size + 1), 0, none⟩)) := hd 23 211 rfl (by kernel_rfl) (by decide)
              refine Does.value (.pointer (some ⟨(w.heap.size + 1), 2, none⟩)) ?_ rfl
              clear hs hd
              go_simp
            · intro ax wx hb hs hd
              have h212 : ax.tmps.getD 212 undef = (.pointer (some ⟨(w.heap.size + 1), 2, none⟩)) := hd 24 212 rfl (by kernel_rfl) (by decide)
              have cx : wx.cell? ⟨(w.heap.size + 1), 2, none⟩ = some (.int .u64 b2) := (Blk.later W4.out.2.2.1 hb (Blk.lt W4.out.2.2.1)).cell 2
              refine Does.value (.int .u64 b2) ?_ rfl
              clear hs hd
              go_simp
            · intro ax wx hb hs hd
              have h205 : ax.tmps.getD 205 undef = (.agg (u64s (pr s41)).toArray) := hd 17 205 rfl (by kernel_rfl) (by decide)
              have h209 : ax.tmps.getD 209 undef = (.int .u64 a2) := hd 21 209 rfl (by kernel_rfl) (by decide)
              have h213 : ax.tmps.getD 213 undef = (.int .u64 b2) := hd 25 213 rfl (by kernel_rfl) (by decide)
              refine Does.call 71 #[(.agg (u64s (pr s41)).toArray), (.int .u64 a2), (.int .u64 b2)] (by clear hs hd; go_simp) ?_
              refine (H4.out.2.2.1 _).mono ?_
              rintro z w' ⟨rfl, l⟩
              exact ⟨_, rfl, rfl, l⟩
            · intro ax wx hb hs hd
              have h5 : ax.tmps.getD 5 undef = (.pointer (some ⟨w.heap.size, 0, none⟩)) := hs 5 (by kernel_rfl)
              refine Does.value (.pointer (some ⟨w.heap.size, 0, none⟩)) ?_ rfl
              clear hs hd
              go_simp
            · intro ax wx hb hs hd
              have h215 : ax.tmps.getD 215 undef = (.pointer (some ⟨w.heap.size, 0, none⟩)) := hd 27 215 rfl (by kernel_rfl) (by decide)
              refine Does.value (.pointer (some ⟨w.heap.size, 0, none⟩)) ?_ rfl
              clear hs hd
              go_simp
            · intro ax wx hb hs hd
              have h216 : ax.tmps.getD 216 undef = (.pointer (some ⟨w.heap.size, 0, none⟩)) := hd 28 216 rfl (by kernel_rfl) (by decide)
              refine Does.value (.pointer (some ⟨w.heap.size, 3, none⟩)) ?_ rfl
              clear hs hd
              go_simp
            · intro ax wx hb hs hd
              have h217 : ax.tmps.getD 217 undef = (.pointer (some ⟨w.heap.size, 3, none⟩)) := hd 29 217 rfl (by kernel_rfl) (by decide)
              have cx : wx.cell? ⟨w.heap.size, 3, none⟩ = some (.int .u64 a3) := (Blk.later W4.out.2.1 hb (Blk.lt W4.out.2.1)).cell 3
              refine Does.value (.int .u64 a3) ?_ rfl
              clear hs hd
              go_simp
            · intro ax wx hb hs hd
              have h6 : ax.tmps.getD 6 undef = (.pointer (some ⟨(w.heap.size + 1), 0, none⟩)) := hs 6 (by kernel_rfl)
              refine Does.value (.pointer (some ⟨(w.heap.size + 1), 0, none⟩)) ?_ rfl
              clear hs hd
              go_simp
            · intro ax wx hb hs hd
              have h219 : ax.tmps.getD 219 undef = (.pointer (some ⟨(w.heap.size + 1), 0, none⟩)) := hd 31 219 rfl (by kernel_rfl) (by decide)
              refine Does.value (.pointer (some ⟨(w.heap.size + 1), 0, none⟩)) ?_ rfl
              clear hs hd
              go_simp
            · intro ax wx hb hs hd
              have h220 : ax.tmps.getD 220 undef = (.pointer (some ⟨(w.heap.size + 1), 0, none⟩)) := hd 32 220 rfl (by kernel_rfl) (by decide)
              refine Does.value (.pointer (some ⟨(w.heap.size + 1), 1, none⟩)) ?_ rfl
              clear hs hd
              go_simp
            · intro ax wx hb hs hd
              have h221 : ax.tmps.getD 221 undef = (.pointer (some ⟨(w.heap.size + 1), 1, none⟩)) := hd 33 221 rfl (by kernel_rfl) (by decide)
              have cx : wx.cell? ⟨(w.heap.size + 1), 1, none⟩ = some (.int .u64 b1) := (Blk.later W4.out.2.2.1 hb (Blk.lt W4.out.2.2.1)).cell 1
              refine Does.value (.int .u64 b1) ?_ rfl
              clear hs hd
              go_simp
            · intro ax wx hb hs hd
              have h214 : ax.tmps.getD 214 undef = (.agg (u64s (pr s42)).toArray) := hd 26 214 rfl (by kernel_rfl) (by decide)
              have h218 : ax.tmps.getD 218 undef = (.int .u64 a3) := hd 30 218 rfl (by kernel_rfl) (by decide)
              have h222 : ax.tmps.getD 222 undef = (.int .u64 b1) := hd 34 222 rfl (by kernel_rfl) (by decide)
              refine Does.call 71 #[(.agg (u64s (pr s42)).toArray), (.int .u64 a3), (.int .u64 b1)] (by clear hs hd; go_simp) ?_
              refine (H4.out.2.2.2.1 _).mono ?_
              rintro z w' ⟨rfl, l⟩
              exact ⟨_, rfl, rfl, l⟩
            · intro ax wx hb hs hd
              have h5 : ax.tmps.getD 5 undef = (.pointer (some ⟨w.heap.size, 0, none⟩)) := hs 5 (by kernel_rfl)
              refine Does.value (.pointer (some ⟨w.heap.size, 0, none⟩)) ?_ rfl
              clear hs hd
              go_simp
            · intro ax wx hb hs hd
              have h224 : ax.tmps.getD 224 undef = (.pointer (some ⟨w.heap.size, 0, none⟩)) := hd 36 224 rfl (by kernel_rfl) (by decide)
              refine Does.value (.pointer (some ⟨w.heap.size, 0, none⟩)) ?_ rfl
              clear hs hd
              go_simp
            · intro ax wx hb hs hd
              have h225 : ax.tmps.getD 225 undef = (.pointer (some ⟨w.heap.size, 0, none⟩)) := hd 37 225 rfl (by kernel_rfl) (by decide)
              refine Does.value (.pointer (some ⟨w.heap.size, 4, none⟩)) ?_ rfl
              clear hs hd
              go_simp
            · intro ax wx hb hs hd
              have h226 : ax.tmps.getD 226 undef = (.pointer (some ⟨w.heap.size, 4, none⟩)) := hd 38 226 rfl (by kernel_rfl) (by decide)
              have cx : wx.cell? ⟨w.heap.size, 4, none⟩ = some (.int .u64 a4) := (Blk.later W4.out.2.1 hb (Blk.lt W4.out.2.1)).cell 4
              refine Does.value (.int .u64 a4) ?_ rfl
              clear hs hd
              go_simp
            · intro ax wx hb hs hd
              have h6 : ax.tmps.getD 6 undef = (.pointer (some ⟨(w.heap.size + 1), 0, none⟩)) := hs 6 (by kernel_rfl)
              refine Does.value (.pointer (some ⟨(w.heap.size + 1), 0, none⟩)) ?_ rfl
              clear hs hd
              go_simp
            · intro ax wx hb hs hd
              have h228 : ax.tmps.getD 228 undef = (.pointer (some ⟨(w.heap.size + 1), 0, none⟩)) := hd 40 228 rfl (by kernel_rfl) (by decide)
              refine Does.value (.pointer (some ⟨(w.heap.size + 1), 0, none⟩)) ?_ rfl
              clear hs hd
              go_simp
            · intro ax wx hb hs hd
              have h229 : ax.tmps.getD 229 undef = (.pointer (some ⟨(w.heap.size + 1), 0, none⟩)) := hd 41 229 rfl (by kernel_rfl) (by decide)
              refine Does.value (.pointer (some ⟨(w.heap.size + 1), 0, none⟩)) ?_ rfl
              clear hs hd
              go_simp
            · intro ax wx hb hs hd
              have h230 : ax.tmps.getD 230 undef = (.pointer (some ⟨(w.heap.size + 1), 0, none⟩)) := hd 42 230 rfl (by kernel_rfl) (by decide)
              have cx : wx.cell? ⟨(w.heap.size + 1), 0, none⟩ = some (.int .u64 b0) := (Blk.later W4.out.2.2.1 hb (Blk.lt W4.out.2.2.1)).cell 0
              refine Does.value (.int .u64 b0) ?_ rfl
              clear hs hd
              go_simp
            · intro ax wx hb hs hd
              have h223 : ax.tmps.getD 223 undef = (.agg (u64s (pr s43)).toArray) := hd 35 223 rfl (by kernel_rfl) (by decide)
              have h227 : ax.tmps.getD 227 undef = (.int .u64 a4) := hd 39 227 rfl (by kernel_rfl) (by decide)
              have h231 : ax.tmps.getD 231 undef = (.int .u64 b0) := hd 43 231 rfl (by kernel_rfl) (by decide)
              refine Does.call 71 #[(.agg (u64s (pr s43)).toArray), (.int .u64 a4), (.int .u64 b0)] (by clear hs hd; go_simp) ?_
              refine (H4.out.2.2.2.2 _).mono ?_
              rintro z w' ⟨rfl, l⟩
              exact ⟨_, rfl, rfl, l⟩
            · intro ax wx hb hs hd
              exact Does.alloc 99 rfl 2 _ zeroWide hb.size
          · intro wx hb
            refine @Ends.val _ _ _ _ _ _ _ _ _ (.pointer (some ⟨w.heap.size, 0, none⟩)) rfl ?_
            refine @Ends.val _ _ _ _ _ _ _ _ _ (.pointer (some ⟨w.heap.size, 0, none⟩)) rfl ?_
            refine @Ends.val _ _ _ _ _ _ _ _ _ (.pointer (some ⟨w.heap.size, 0, none⟩)) rfl ?_
            refine @Ends.val _ _ _ _ _ _ _ _ _ (.int .u64 a0) rfl ?_
            refine @Ends.val _ _ _ _ _ _ _ _ _ (.pointer (some ⟨(w.heap.size + 1), 0, none⟩)) rfl ?_
            refine @Ends.val _ _ _ _ _ _ _ _ _ (.pointer (some ⟨(w.heap.size + 1), 0, none⟩)) rfl ?_
            refine @Ends.val _ _ _ _ _ _ _ _ _ (.pointer (some ⟨(w.heap.size + 1), 4, none⟩)) rfl ?_
            refine @Ends.val _ _ _ _ _ _ _ _ _ (.int .u64 b4) rfl ?_
            refine @Ends.val _ _ _ _ _ _ _ _ _ (.agg (u64s (pr s40)).toArray) rfl ?_
            refine @Ends.val _ _ _ _ _ _ _ _ _ (.pointer (some ⟨w.heap.size, 0, none⟩)) rfl ?_
            refine @Ends.val _ _ _ _ _ _ _ _ _ (.pointer (some ⟨w.heap.size, 0, none⟩)) rfl ?_
            refine @Ends.val _ _ _ _ _ _ _ _ _ (.pointer (some ⟨w.heap.size, 1, none⟩)) rfl ?_
            refine @Ends.val _ _ _ _ _ _ _ _ _ (.int .u64 a1) rfl ?_
            refine @Ends.val _ _ _ _ _ _ _ _ _ (.pointer (some ⟨(w.heap.size + 1), 0, none⟩)) rfl ?_
            refine @Ends.val _ _ _ _ _ _ _ _ _ (.pointer (some ⟨(w.heap.size + 1), 0, none⟩)) rfl ?_
            refine @Ends.val _ _ _ _ _ _ _ _ _ (.pointer (some ⟨(w.heap.size + 1), 3, none⟩)) rfl ?_
            refine @Ends.val _ _ _ _ _ _ _ _ _ (.int .u64 b3) rfl ?_
            refine @Ends.val _ _ _ _ _ _ _ _ _ (.agg (u64s (pr s41)).toArray) rfl ?_
            refine @Ends.val _ _ _ _ _ _ _ _ _ (.pointer (some ⟨w.heap.size, 0, none⟩)) rfl ?_
            refine @Ends.val _ _ _ _ _ _ _ _ _ (.pointer (some ⟨w.heap.size, 0, none⟩)) rfl ?_
            refine @Ends.val _ _ _ _ _ _ _ _ _ (.pointer (some ⟨w.heap.size, 2, none⟩)) rfl ?_
            refine @Ends.val _ _ _ _ _ _ _ _ _ (.int .u64 a2) rfl ?_
            refine @Ends.val _ _ _ _ _ _ _ _ _ (.pointer (some ⟨(w.heap.size + 1), 0, none⟩)) rfl ?_
            refine @Ends.val _ _ _ _ _ _ _ _ _ (.pointer (some ⟨(w.heap.size + 1), 0, none⟩)) rfl ?_
            refine @Ends.val _ _ _ _ _ _ _ _ _ (.pointer (some ⟨(w.heap.size + 1), 2, none⟩)) rfl ?_
            refine @Ends.val _ _ _ _ _ _ _ _ _ (.int .u64 b2) rfl ?_
            refine @Ends.val _ _ _ _ _ _ _ _ _ (.agg (u64s (pr s42)).toArray) rfl ?_
            refine @Ends.val _ _ _ _ _ _ _ _ _ (.pointer (some ⟨w.heap.size, 0, none⟩)) rfl ?_
            refine @Ends.val _ _ _ _ _ _ _ _ _ (.pointer (some ⟨w.heap.size, 0, none⟩)) rfl ?_
            refine @Ends.val _ _ _ _ _ _ _ _ _ (.pointer (some ⟨w.heap.size, 3, none⟩)) rfl ?_
            refine @Ends.val _ _ _ _ _ _ _ _ _ (.int .u64 a3) rfl ?_
            refine @Ends.val _ _ _ _ _ _ _ _ _ (.pointer (some ⟨(w.heap.size + 1), 0, none⟩)) rfl ?_
            refine @Ends.val _ _ _ _ _ _ _ _ _ (.pointer (some ⟨(w.heap.size + 1), 0, none⟩)) rfl ?_
            refine @Ends.val _ _ _ _ _ _ _ _ _ (.pointer (some ⟨(w.heap.size + 1), 1, none⟩)) rfl ?_
            refine @Ends.val _ _ _ _ _ _ _ _ _ (.int .u64 b1) rfl ?_
            refine @Ends.val _ _ _ _ _ _ _ _ _ (.agg (u64s (pr s43)).toArray) rfl ?_
            refine @Ends.val _ _ _ _ _ _ _ _ _ (.pointer (some ⟨w.heap.size, 0, none⟩)) rfl ?_
            refine @Ends.val _ _ _ _ _ _ _ _ _ (.pointer (some ⟨w.heap.size, 0, none⟩)) rfl ?_
            refine @Ends.val _ _ _ _ _ _ _ _ _ (.pointer (some ⟨w.heap.size, 4, none⟩)) rfl ?_
            refine @Ends.val _ _ _ _ _ _ _ _ _ (.int .u64 a4) rfl ?_
            refine @Ends.val _ _ _ _ _ _ _ _ _ (.pointer (some ⟨(w.heap.size + 1), 0, none⟩)) rfl ?_
            refine @Ends.val _ _ _ _ _ _ _ _ _ (.pointer (some ⟨(w.heap.size + 1), 0, none⟩)) rfl ?_
            refine @Ends.val _ _ _ _ _ _ _ _ _ (.pointer (some ⟨(w.heap.size + 1), 0, none⟩)) rfl ?_
            refine @Ends.val _ _ _ _ _ _ _ _ _ (.int .u64 b0) rfl ?_
            refine @Ends.val _ _ _ _ _ _ _ _ _ (.agg (u64s (pr s44)).toArray) rfl ?_
            refine @Ends.blk _ _ _ _ _ _ _ _ _ 99 (u64s [0, 0]) rfl ?_
            intro g45 hg45 bg45
            refine @Ends.one _ _ _ _ _ _ _ ?_
            simp only [Act.put, List.setIfInBounds_toArray, List.set_cons_zero, List.set_cons_succ]
            obtain ⟨G4, hG4⟩ : ∃ q, q = g45 := ⟨_, rfl⟩
            subst hG4
            refine last_store 99 (.tmp 15) (.tmp 232) rfl rfl G4 rfl 99 _ (u64s (pr s44)) rfl bg45 rfl sizeWide (u64s_one _) ?_
            intro y n1 n2 n3
            have q5 := hb.size
            have q10 := W4.out.2.1.lt
            have q11 := W4.out.2.2.1.lt
            have q12 := W4.out.2.2.2.1.lt
            have q13 := W4.out.2.2.2.2.1.lt
            have q14 := W4.out.2.2.2.2.2.1.lt
            have q15 := W4.out.2.2.2.2.2.2.1.lt
            have q16 := W4.out.2.2.2.2.2.2.2.1.lt
            have qz := W4.out.2.2.2.2.2.2.2.2
            have W5 : Hid (Below w.heap.size w y ∧ Blk y w.heap.size 27 (u64s [a0, a1, a2, a3, a4]) ∧ Blk y (w.heap.size + 1) 27 (u64s [b0, b1, b2, b3, b4]) ∧ Blk y (w.heap.size + 1 + 1) 27 (u64s [0, 0, 0, 0, 0]) ∧ Blk y G0 99 (u64s (pr s04)) ∧ Blk y G1 99 (u64s (pr s14)) ∧ Blk y G2 99 (u64s (pr s24)) ∧ Blk y G3 99 (u64s (pr s34)) ∧ Blk y G4 99 (u64s (pr s44)) ∧ True ∧ w.heap.size + 3 ≤ G0 ∧ w.heap.size + 3 ≤ G1 ∧ w.heap.size + 3 ≤ G2 ∧ w.heap.size + 3 ≤ G3 ∧ w.heap.size + 3 ≤ G4 ∧ G0 < G1 ∧ G1 < G2 ∧ G2 < G3 ∧ G3 < G4) := ⟨below_kept (below_chain W4.out.1 hb (by omega)) n3 (by omega) (fun j hj => by omega), (W4.out.2.1.later hb q10).kept n3 (by omega), (W4.out.2.2.1.later hb q11).kept n3 (by omega), (W4.out.2.2.2.1.later hb q12).kept n3 (by omega), (W4.out.2.2.2.2.1.later hb q13).kept n3 (by omega), (W4.out.2.2.2.2.2.1.later hb q14).kept n3 (by omega), (W4.out.2.2.2.2.2.2.1.later hb q15).kept n3 (by omega), (W4.out.2.2.2.2.2.2.2.1.later hb q16).kept n3 (by omega), n1, trivial, by omega, by omega, by omega, by omega, by omega, by omega, by omega, by omega, by omega⟩
            obtain ⟨y5, rfl⟩ : ∃ q, q = y := ⟨_, rfl⟩
            clear W4 H4 n1 n2 n3 hb q5 qz hg45 bg45 q10 q11 q12 q13 q14 q15 q16
            go_wp2_with (first | ((with_reducible show wpList _ _ _ (({ dst := some 233, op := _, type := _, pos := _, after := _, guard := _ } : Oper) :: _) _ _); refine wpList_load_blk rfl 99 (.tmp 11) rfl G0 rfl (u64s (pr s04)) _ W5.out.2.2.2.2.1 Try.underlying99 rfl sizeWide ?_) | ((with_reducible show wpList _ _ _ (({ dst := some 234, op := _, type := _, pos := _, after := _, guard := _ } : Oper) :: _) _ _); refine wpList_load_blk rfl 99 (.tmp 12) rfl G1 rfl (u64s (pr s14)) _ W5.out.2.2.2.2.2.1 Try.underlying99 rfl sizeWide ?_) | ((with_reducible show wpList _ _ _ (({ dst := some 235, op := _, type := _, pos := _, after := _, guard := _ } : Oper) :: _) _ _); refine wpList_load_blk rfl 99 (.tmp 13) rfl G2 rfl (u64s (pr s24)) _ W5.out.2.2.2.2.2.2.1 Try.underlying99 rfl sizeWide ?_) | ((with_reducible show wpList _ _ _ (({ dst := some 236, op := _, type := _, pos := _, after := _, guard := _ } : Oper) :: _) _ _); refine wpList_load_blk rfl 99 (.tmp 14) rfl G3 rfl (u64s (pr s34)) _ W5.out.2.2.2.2.2.2.2.1 Try.underlying99 rfl sizeWide ?_) | ((with_reducible show wpList _ _ _ (({ dst := some 237, op := _, type := _, pos := _, after := _, guard := _ } : Oper) :: _) _ _); refine wpList_load_blk rfl 99 (.tmp 15) rfl G4 rfl (u64s (pr s44)) _ W5.out.2.2.2.2.2.2.2.2.1 Try.underlying99 rfl sizeWide ?_) | (go_at_call 69; refine (HF.out.2 _ W5.out.2.1).mono ?_; rintro z y6 ⟨rfl, ⟨lr, q1, q2⟩, q3⟩; have HR : Hid (Blk y6 w.heap.size 27 (u64s lr) ∧ Blk y6 (w.heap.size + 1 + 1) 27 (u64s [0, 0, 0, 0, 0]) ∧ Below w.heap.size w y6 ∧ lr.length = 5 ∧ Fe lr (v5 s04 s14 s24 s34 s44 % PR)) := ⟨q1, W5.out.2.2.2.1.kept q3 (by omega), below_kept W5.out.1 q3 W5.out.1.size (fun j hj => by omega), q2.len, q2⟩; clear q1 q2 q3) | ((with_reducible show wpList _ _ _ (({ dst := some 239, op := _, type := _, pos := _, after := _, guard := _ } : Oper) :: _) _ _); refine wpList_load_blk rfl 27 (.tmp 2) rfl w.heap.size rfl (u64s lr) _ HR.out.1 Try.underlying27 rfl (by rw [u64s_length, HR.out.2.2.2.1]; exact sizeElem) ?_) | ((with_reducible show wpList _ _ _ (({ dst := none, op := _, type := _, pos := _, after := _, guard := _ } : Oper) :: _) _ _); refine wpList_store_blk rfl 27 27 _ _ rfl _ rfl _ (u64s lr) rfl HR.out.2.1 (by rw [u64s_length, HR.out.2.2.2.1]; rfl) (by rw [u64s_length, HR.out.2.2.2.1]; exact sizeElem) (u64s_one _) ?_; intro y7 b7 s7 k7))
            exact ret_blk rfl (w.heap.size + 1 + 1) (u64s lr) _ rfl b7 Try.underlying27 rfl (by rw [u64s_length, HR.out.2.2.2.1]; exact sizeElem) rfl ⟨lr, rfl, by have h := HR.out.2.2.2.2; rw [HF.out.1] at h; exact h, below_kept HR.out.2.2.1 k7 HR.out.2.2.1.size (fun j hj => by omega)⟩
end Go.Proofs.Ytnifolefhelmcaa
