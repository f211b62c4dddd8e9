/- Layer field: Square. -/
import Derived.Test.YtnifolefhelmcaaFRows
import Derived.Test.YtnifolefhelmcaaFFold
namespace Go.Proofs.Ytnifolefhelmcaa
open Go.RowKit
set_option linter.unusedVariables false
set_option linter.unusedSimpArgs false

set_option maxRecDepth 20000 in
set_option maxHeartbeats 4000000 in
theorem square_any (l : List Int) (x : Int) (hl : Fe l x) (w : World) :
    Calls Try.prog 53 #[.agg (u64s l).toArray] w fun e w' => ∃ r, e = .returned (.agg (u64s r).toArray) ∧ Fe r (x * x % PR) ∧ Below w.heap.size w w' := by
  obtain ⟨a0, a1, a2, a3, a4, rfl, ha0, ha1, ha2, ha3, ha4, hx⟩ := hl.parts
  have MR := mul_rows a0 a1 a2 a3 a4 a0 a1 a2 a3 a4 ha0 ha1 ha2 ha3 ha4 ha0 ha1 ha2 ha3 ha4
  obtain ⟨t0, t1, t2, t3, t4⟩ := sq_rows a0 a1 a2 a3 a4
  rw [Int.mul_emod, hx, ← t0, ← t1, ← t2, ← t3, ← t4] at MR
  have HF : Hid (v5 (a0 * a0 + (a1 * 2) * (a4 * 19) + (a2 * 2) * (a3 * 19)) ((a0 * 2) * a1 + (a2 * 2) * (a4 * 19) + a3 * (a3 * 19)) ((a0 * 2) * a2 + a1 * a1 + (a3 * 2) * (a4 * 19)) ((a0 * 2) * a3 + (a1 * 2) * a2 + a4 * (a4 * 19)) ((a0 * 2) * a4 + (a1 * 2) * a3 + a2 * a2) % PR = x * x % PR ∧ (∀ y, Blk y w.heap.size 27 (u64s [a0, a1, a2, a3, a4]) → Calls Try.prog 69 #[.pointer (some ⟨w.heap.size, 0, none⟩), (.agg (u64s (pr (a0 * a0 + (a1 * 2) * (a4 * 19) + (a2 * 2) * (a3 * 19)))).toArray), (.agg (u64s (pr ((a0 * 2) * a1 + (a2 * 2) * (a4 * 19) + a3 * (a3 * 19)))).toArray), (.agg (u64s (pr ((a0 * 2) * a2 + a1 * a1 + (a3 * 2) * (a4 * 19)))).toArray), (.agg (u64s (pr ((a0 * 2) * a3 + (a1 * 2) * a2 + a4 * (a4 * 19)))).toArray), (.agg (u64s (pr ((a0 * 2) * a4 + (a1 * 2) * a3 + a2 * a2))).toArray)] y fun x w' => x = .returned (.tuple #[]) ∧ (∃ l, Blk w' w.heap.size 27 (u64s l) ∧ Fe l (v5 (a0 * a0 + (a1 * 2) * (a4 * 19) + (a2 * 2) * (a3 * 19)) ((a0 * 2) * a1 + (a2 * 2) * (a4 * 19) + a3 * (a3 * 19)) ((a0 * 2) * a2 + a1 * a1 + (a3 * 2) * (a4 * 19)) ((a0 * 2) * a3 + (a1 * 2) * a2 + a4 * (a4 * 19)) ((a0 * 2) * a4 + (a1 * 2) * a3 + a2 * a2) % PR)) ∧ Kept (fun k => k = w.heap.size) y w')) := ⟨MR.2.2.2.2.2, fun y hB => fold_any _ _ _ _ _ _ _ _ _ _ _ y hB MR.1 MR.2.1 MR.2.2.1 MR.2.2.2.1 MR.2.2.2.2.1⟩
  clear MR hx hl t0 t1 t2 t3 t4
  have w_a0x2 : Word (a0 * 2) := ⟨by have := ha0; unfold Lim at *; omega, by have := ha0; unfold Lim at *; omega⟩
  have w_a1x2 : Word (a1 * 2) := ⟨by have := ha1; unfold Lim at *; omega, by have := ha1; unfold Lim at *; omega⟩
  have w_a2x2 : Word (a2 * 2) := ⟨by have := ha2; unfold Lim at *; omega, by have := ha2; unfold Lim at *; omega⟩
  have w_a3x19 : Word (a3 * 19) := ⟨by have := ha3; unfold Lim at *; omega, by have := ha3; unfold Lim at *; omega⟩
  have w_a3x2 : Word (a3 * 2) := ⟨by have := ha3; unfold Lim at *; omega, by have := ha3; unfold Lim at *; omega⟩
  have w_a4x19 : Word (a4 * 19) := ⟨by have := ha4; unfold Lim at *; omega, by have := ha4; unfold Lim at *; omega⟩
  have w_a0 : Word a0 := ⟨by have := ha0; unfold Lim at *; omega, by have := ha0; unfold Lim at *; omega⟩
  have w_a1 : Word a1 := ⟨by have := ha1; unfold Lim at *; omega, by have := ha1; unfold Lim at *; omega⟩
  have w_a2 : Word a2 := ⟨by have := ha2; unfold Lim at *; omega, by have := ha2; unfold Lim at *; omega⟩
  have w_a3 : Word a3 := ⟨by have := ha3; unfold Lim at *; omega, by have := ha3; unfold Lim at *; omega⟩
  have w_a4 : Word a4 := ⟨by have := ha4; unfold Lim at *; omega, by have := ha4; unfold Lim at *; omega⟩
  have p00 : 0 ≤ a0 * a0 ∧ a0 * a0 < 20769187434139310514121985316880384 := by
    have := mb2 (x := a0) (y := a0) (X := 144115188075855872) (Y := 144115188075855872) ⟨by unfold Lim at *; omega, by unfold Lim at *; omega⟩ ⟨by unfold Lim at *; omega, by unfold Lim at *; omega⟩
    rw [show (144115188075855872 : Int) * 144115188075855872 = 20769187434139310514121985316880384 by decide] at this
    exact this
  have p01 : 0 ≤ (a1 * 2) * (a4 * 19) ∧ (a1 * 2) * (a4 * 19) < 20769187434139310514121985316880384 := by
    have := mb2 (x := (a1 * 2)) (y := (a4 * 19)) (X := 144115188075855872) (Y := 144115188075855872) ⟨by unfold Lim at *; omega, by unfold Lim at *; omega⟩ ⟨by unfold Lim at *; omega, by unfold Lim at *; omega⟩
    rw [show (144115188075855872 : Int) * 144115188075855872 = 20769187434139310514121985316880384 by decide] at this
    exact this
  have p02 : 0 ≤ (a2 * 2) * (a3 * 19) ∧ (a2 * 2) * (a3 * 19) < 20769187434139310514121985316880384 := by
    have := mb2 (x := (a2 * 2)) (y := (a3 * 19)) (X := 144115188075855872) (Y := 144115188075855872) ⟨by unfold Lim at *; omega, by unfold Lim at *; omega⟩ ⟨by unfold Lim at *; omega, by unfold Lim at *; omega⟩
    rw [show (144115188075855872 : Int) * 144115188075855872 = 20769187434139310514121985316880384 by decide] at this
    exact this
  have p10 : 0 ≤ (a0 * 2) * a1 ∧ (a0 * 2) * a1 < 20769187434139310514121985316880384 := by
    have := mb2 (x := (a0 * 2)) (y := a1) (X := 144115188075855872) (Y := 144115188075855872) ⟨by unfold Lim at *; omega, by unfold Lim at *; omega⟩ ⟨by unfold Lim at *; omega, by unfold Lim at *; omega⟩
    rw [show (144115188075855872 : Int) * 144115188075855872 = 20769187434139310514121985316880384 by decide] at this
    exact this
  have p11 : 0 ≤ (a2 * 2) * (a4 * 19) ∧ (a2 * 2) * (a4 * 19) < 20769187434139310514121985316880384 := by
    have := mb2 (x := (a2 * 2)) (y := (a4 * 19)) (X := 144115188075855872) (Y := 144115188075855872) ⟨by unfold Lim at *; omega, by unfold Lim at *; omega⟩ ⟨by unfold Lim at *; omega, by unfold Lim at *; omega⟩
    rw [show (144115188075855872 : Int) * 144115188075855872 = 20769187434139310514121985316880384 by decide] at this
    exact this
  have p12 : 0 ≤ a3 * (a3 * 19) ∧ a3 * (a3 * 19) < 20769187434139310514121985316880384 := by
    have := mb2 (x := a3) (y := (a3 * 19)) (X := 144115188075855872) (Y := 144115188075855872) ⟨by unfold Lim at *; omega, by unfold Lim at *; omega⟩ ⟨by unfold Lim at *; omega, by unfold Lim at *; omega⟩
    rw [show (144115188075855872 : Int) * 144115188075855872 = 20769187434139310514121985316880384 by decide] at this
    exact this
  have p20 : 0 ≤ (a0 * 2) * a2 ∧ (a0 * 2) * a2 < 20769187434139310514121985316880384 := by
    have := mb2 (x := (a0 * 2)) (y := a2) (X := 144115188075855872) (Y := 144115188075855872) ⟨by unfold Lim at *; omega, by unfold Lim at *; omega⟩ ⟨by unfold Lim at *; omega, by unfold Lim at *; omega⟩
    rw [show (144115188075855872 : Int) * 144115188075855872 = 20769187434139310514121985316880384 by decide] at this
    exact this
  have p21 : 0 ≤ a1 * a1 ∧ a1 * a1 < 20769187434139310514121985316880384 := by
    have := mb2 (x := a1) (y := a1) (X := 144115188075855872) (Y := 144115188075855872) ⟨by unfold Lim at *; omega, by unfold Lim at *; omega⟩ ⟨by unfold Lim at *; omega, by unfold Lim at *; omega⟩
    rw [show (144115188075855872 : Int) * 144115188075855872 = 20769187434139310514121985316880384 by decide] at this
    exact this
  have p22 : 0 ≤ (a3 * 2) * (a4 * 19) ∧ (a3 * 2) * (a4 * 19) < 20769187434139310514121985316880384 := by
    have := mb2 (x := (a3 * 2)) (y := (a4 * 19)) (X := 144115188075855872) (Y := 144115188075855872) ⟨by unfold Lim at *; omega, by unfold Lim at *; omega⟩ ⟨by unfold Lim at *; omega, by unfold Lim at *; omega⟩
    rw [show (144115188075855872 : Int) * 144115188075855872 = 20769187434139310514121985316880384 by decide] at this
    exact this
  have p30 : 0 ≤ (a0 * 2) * a3 ∧ (a0 * 2) * a3 < 20769187434139310514121985316880384 := by
    have := mb2 (x := (a0 * 2)) (y := a3) (X := 144115188075855872) (Y := 144115188075855872) ⟨by unfold Lim at *; omega, by unfold Lim at *; omega⟩ ⟨by unfold Lim at *; omega, by unfold Lim at *; omega⟩
    rw [show (144115188075855872 : Int) * 144115188075855872 = 20769187434139310514121985316880384 by decide] at this
    exact this
  have p31 : 0 ≤ (a1 * 2) * a2 ∧ (a1 * 2) * a2 < 20769187434139310514121985316880384 := by
    have := mb2 (x := (a1 * 2)) (y := a2) (X := 144115188075855872) (Y := 144115188075855872) ⟨by unfold Lim at *; omega, by unfold Lim at *; omega⟩ ⟨by unfold Lim at *; omega, by unfold Lim at *; omega⟩
    rw [show (144115188075855872 : Int) * 144115188075855872 = 20769187434139310514121985316880384 by decide] at this
    exact this
  have p32 : 0 ≤ a4 * (a4 * 19) ∧ a4 * (a4 * 19) < 20769187434139310514121985316880384 := by
    have := mb2 (x := a4) (y := (a4 * 19)) (X := 144115188075855872) (Y := 144115188075855872) ⟨by unfold Lim at *; omega, by unfold Lim at *; omega⟩ ⟨by unfold Lim at *; omega, by unfold Lim at *; omega⟩
    rw [show (144115188075855872 : Int) * 144115188075855872 = 20769187434139310514121985316880384 by decide] at this
    exact this
  have p40 : 0 ≤ (a0 * 2) * a4 ∧ (a0 * 2) * a4 < 20769187434139310514121985316880384 := by
    have := mb2 (x := (a0 * 2)) (y := a4) (X := 144115188075855872) (Y := 144115188075855872) ⟨by unfold Lim at *; omega, by unfold Lim at *; omega⟩ ⟨by unfold Lim at *; omega, by unfold Lim at *; omega⟩
    rw [show (144115188075855872 : Int) * 144115188075855872 = 20769187434139310514121985316880384 by decide] at this
    exact this
  have p41 : 0 ≤ (a1 * 2) * a3 ∧ (a1 * 2) * a3 < 20769187434139310514121985316880384 := by
    have := mb2 (x := (a1 * 2)) (y := a3) (X := 144115188075855872) (Y := 144115188075855872) ⟨by unfold Lim at *; omega, by unfold Lim at *; omega⟩ ⟨by unfold Lim at *; omega, by unfold Lim at *; omega⟩
    rw [show (144115188075855872 : Int) * 144115188075855872 = 20769187434139310514121985316880384 by decide] at this
    exact this
  have p42 : 0 ≤ a2 * a2 ∧ a2 * a2 < 20769187434139310514121985316880384 := by
    have := mb2 (x := a2) (y := a2) (X := 144115188075855872) (Y := 144115188075855872) ⟨by unfold Lim at *; omega, by unfold Lim at *; omega⟩ ⟨by unfold Lim at *; omega, by unfold Lim at *; omega⟩
    rw [show (144115188075855872 : Int) * 144115188075855872 = 20769187434139310514121985316880384 by decide] at this
    exact this
  have H0 : Hid ((∀ w, Calls Try.prog 70 #[(.int .u64 a0), (.int .u64 a0)] w fun e w' => e = .returned (.agg (u64s (pr (a0 * a0))).toArray) ∧ Below w.heap.size w w') ∧ (∀ w, Calls Try.prog 71 #[(.agg (u64s (pr (a0 * a0))).toArray), (.int .u64 (a1 * 2)), (.int .u64 (a4 * 19))] w fun e w' => e = .returned (.agg (u64s (pr (a0 * a0 + (a1 * 2) * (a4 * 19)))).toArray) ∧ Below w.heap.size w w') ∧ (∀ w, Calls Try.prog 71 #[(.agg (u64s (pr (a0 * a0 + (a1 * 2) * (a4 * 19)))).toArray), (.int .u64 (a2 * 2)), (.int .u64 (a3 * 19))] w fun e w' => e = .returned (.agg (u64s (pr (a0 * a0 + (a1 * 2) * (a4 * 19) + (a2 * 2) * (a3 * 19)))).toArray) ∧ Below w.heap.size w w')) := ⟨fproduct_any _ _ w_a0 w_a0, fplus_any _ _ _ w_a1x2 w_a4x19 (by omega) (by omega), fplus_any _ _ _ w_a2x2 w_a3x19 (by omega) (by omega)⟩
  have H1 : Hid ((∀ w, Calls Try.prog 70 #[(.int .u64 (a0 * 2)), (.int .u64 a1)] w fun e w' => e = .returned (.agg (u64s (pr ((a0 * 2) * a1))).toArray) ∧ Below w.heap.size w w') ∧ (∀ w, Calls Try.prog 71 #[(.agg (u64s (pr ((a0 * 2) * a1))).toArray), (.int .u64 (a2 * 2)), (.int .u64 (a4 * 19))] w fun e w' => e = .returned (.agg (u64s (pr ((a0 * 2) * a1 + (a2 * 2) * (a4 * 19)))).toArray) ∧ Below w.heap.size w w') ∧ (∀ w, Calls Try.prog 71 #[(.agg (u64s (pr ((a0 * 2) * a1 + (a2 * 2) * (a4 * 19)))).toArray), (.int .u64 a3), (.int .u64 (a3 * 19))] w fun e w' => e = .returned (.agg (u64s (pr ((a0 * 2) * a1 + (a2 * 2) * (a4 * 19) + a3 * (a3 * 19)))).toArray) ∧ Below w.heap.size w w')) := ⟨fproduct_any _ _ w_a0x2 w_a1, fplus_any _ _ _ w_a2x2 w_a4x19 (by omega) (by omega), fplus_any _ _ _ w_a3 w_a3x19 (by omega) (by omega)⟩
  have H2 : Hid ((∀ w, Calls Try.prog 70 #[(.int .u64 (a0 * 2)), (.int .u64 a2)] w fun e w' => e = .returned (.agg (u64s (pr ((a0 * 2) * a2))).toArray) ∧ Below w.heap.size w w') ∧ (∀ w, Calls Try.prog 71 #[(.agg (u64s (pr ((a0 * 2) * a2))).toArray), (.int .u64 a1), (.int .u64 a1)] w fun e w' => e = .returned (.agg (u64s (pr ((a0 * 2) * a2 + a1 * a1))).toArray) ∧ Below w.heap.size w w') ∧ (∀ w, Calls Try.prog 71 #[(.agg (u64s (pr ((a0 * 2) * a2 + a1 * a1))).toArray), (.int .u64 (a3 * 2)), (.int .u64 (a4 * 19))] w fun e w' => e = .returned (.agg (u64s (pr ((a0 * 2) * a2 + a1 * a1 + (a3 * 2) * (a4 * 19)))).toArray) ∧ Below w.heap.size w w')) := ⟨fproduct_any _ _ w_a0x2 w_a2, fplus_any _ _ _ w_a1 w_a1 (by omega) (by omega), fplus_any _ _ _ w_a3x2 w_a4x19 (by omega) (by omega)⟩
  have H3 : Hid ((∀ w, Calls Try.prog 70 #[(.int .u64 (a0 * 2)), (.int .u64 a3)] w fun e w' => e = .returned (.agg (u64s (pr ((a0 * 2) * a3))).toArray) ∧ Below w.heap.size w w') ∧ (∀ w, Calls Try.prog 71 #[(.agg (u64s (pr ((a0 * 2) * a3))).toArray), (.int .u64 (a1 * 2)), (.int .u64 a2)] w fun e w' => e = .returned (.agg (u64s (pr ((a0 * 2) * a3 + (a1 * 2) * a2))).toArray) ∧ Below w.heap.size w w') ∧ (∀ w, Calls Try.prog 71 #[(.agg (u64s (pr ((a0 * 2) * a3 + (a1 * 2) * a2))).toArray), (.int .u64 a4), (.int .u64 (a4 * 19))] w fun e w' => e = .returned (.agg (u64s (pr ((a0 * 2) * a3 + (a1 * 2) * a2 + a4 * (a4 * 19)))).toArray) ∧ Below w.heap.size w w')) := ⟨fproduct_any _ _ w_a0x2 w_a3, fplus_any _ _ _ w_a1x2 w_a2 (by omega) (by omega), fplus_any _ _ _ w_a4 w_a4x19 (by omega) (by omega)⟩
  have H4 : Hid ((∀ w, Calls Try.prog 70 #[(.int .u64 (a0 * 2)), (.int .u64 a4)] w fun e w' => e = .returned (.agg (u64s (pr ((a0 * 2) * a4))).toArray) ∧ Below w.heap.size w w') ∧ (∀ w, Calls Try.prog 71 #[(.agg (u64s (pr ((a0 * 2) * a4))).toArray), (.int .u64 (a1 * 2)), (.int .u64 a3)] w fun e w' => e = .returned (.agg (u64s (pr ((a0 * 2) * a4 + (a1 * 2) * a3))).toArray) ∧ Below w.heap.size w w') ∧ (∀ w, Calls Try.prog 71 #[(.agg (u64s (pr ((a0 * 2) * a4 + (a1 * 2) * a3))).toArray), (.int .u64 a2), (.int .u64 a2)] w fun e w' => e = .returned (.agg (u64s (pr ((a0 * 2) * a4 + (a1 * 2) * a3 + a2 * a2))).toArray) ∧ Below w.heap.size w w')) := ⟨fproduct_any _ _ w_a0x2 w_a4, fplus_any _ _ _ w_a1x2 w_a3 (by omega) (by omega), fplus_any _ _ _ w_a2 w_a2 (by omega) (by omega)⟩
  have u_w_a0x2 : IntKind.u64.wrap (a0 * 2) = (a0 * 2) := by rw [IntKind.wrap_u64]; have := w_a0x2; unfold Word at this; omega
  have u_w_a1x2 : IntKind.u64.wrap (a1 * 2) = (a1 * 2) := by rw [IntKind.wrap_u64]; have := w_a1x2; unfold Word at this; omega
  have u_w_a2x2 : IntKind.u64.wrap (a2 * 2) = (a2 * 2) := by rw [IntKind.wrap_u64]; have := w_a2x2; unfold Word at this; omega
  have u_w_a3x19 : IntKind.u64.wrap (a3 * 19) = (a3 * 19) := by rw [IntKind.wrap_u64]; have := w_a3x19; unfold Word at this; omega
  have u_w_a3x2 : IntKind.u64.wrap (a3 * 2) = (a3 * 2) := by rw [IntKind.wrap_u64]; have := w_a3x2; unfold Word at this; omega
  have u_w_a4x19 : IntKind.u64.wrap (a4 * 19) = (a4 * 19) := by rw [IntKind.wrap_u64]; have := w_a4x19; unfold Word at this; omega
  generalize a0 * a0 = s00 at H0 HF
  generalize s00 + (a1 * 2) * (a4 * 19) = s01 at H0 HF
  generalize s01 + (a2 * 2) * (a3 * 19) = s02 at H0 HF
  generalize (a0 * 2) * a1 = s10 at H1 HF
  generalize s10 + (a2 * 2) * (a4 * 19) = s11 at H1 HF
  generalize s11 + a3 * (a3 * 19) = s12 at H1 HF
  generalize (a0 * 2) * a2 = s20 at H2 HF
  generalize s20 + a1 * a1 = s21 at H2 HF
  generalize s21 + (a3 * 2) * (a4 * 19) = s22 at H2 HF
  generalize (a0 * 2) * a3 = s30 at H3 HF
  generalize s30 + (a1 * 2) * a2 = s31 at H3 HF
  generalize s31 + a4 * (a4 * 19) = s32 at H3 HF
  generalize (a0 * 2) * a4 = s40 at H4 HF
  generalize s40 + (a1 * 2) * a3 = s41 at H4 HF
  generalize s41 + a2 * a2 = s42 at H4 HF
  clear ha0 ha1 ha2 ha3 ha4 p00 p01 p02 p10 p11 p12 p20 p21 p22 p30 p31 p32 p40 p41 p42 w_a0 w_a0x2 w_a1 w_a1x2 w_a2 w_a2x2 w_a3 w_a3x19 w_a3x2 w_a4 w_a4x19
  go_enter Try.func53, Try.ntmps53
  go_wp2_with (first | (refine wpList_box_new rfl 27 (.tmp 0) rfl (u64s [a0, a1, a2, a3, a4]) rfl ?_; intro x1 z1 s1 l1) | (refine wpList_alloc_new rfl 27 rfl 5 _ zeroElem ?_; intro x3 z3 s3 l3))
  rw [s1] at z3
  have B2 := z1.later l3 (by omega)
  have c0 : x3.cell? ⟨w.heap.size, 0, none⟩ = some (.int .u64 a0) := B2.cell 0
  have c1 : x3.cell? ⟨w.heap.size, 1, none⟩ = some (.int .u64 a1) := B2.cell 1
  have c2 : x3.cell? ⟨w.heap.size, 2, none⟩ = some (.int .u64 a2) := B2.cell 2
  have c3 : x3.cell? ⟨w.heap.size, 3, none⟩ = some (.int .u64 a3) := B2.cell 3
  have c4 : x3.cell? ⟨w.heap.size, 4, none⟩ = some (.int .u64 a4) := B2.cell 4
  have WW : Hid (Below w.heap.size w x3 ∧ Blk x3 w.heap.size 27 (u64s [a0, a1, a2, a3, a4]) ∧ Blk x3 (w.heap.size + 1) 27 (u64s [0, 0, 0, 0, 0])) := ⟨below_chain l1 l3 (by omega), B2, z3⟩
  clear z1 s1 l1 z3 s3 l3 B2
  try go_wp2_with fail
  go_quiet (fail)
  go_wp2_with fail
  obtain ⟨na, hna⟩ : ∃ q, nq = q := ⟨_, rfl⟩
  rw [hna]
  go_quiet (fail)
  go_wp2_with fail
  obtain ⟨y0, hy0⟩ : ∃ q, (x3.drewN na).drewN nq = q := ⟨_, rfl⟩
  have W0 : Hid (Below w.heap.size w y0 ∧ Blk y0 w.heap.size 27 (u64s [a0, a1, a2, a3, a4]) ∧ Blk y0 (w.heap.size + 1) 27 (u64s [0, 0, 0, 0, 0]) ∧ True) := by
    rw [← hy0]
    exact ⟨below_dn (below_dn WW.out.1 na) nq, WW.out.2.1, WW.out.2.2, trivial⟩
  rw [hy0]
  clear WW c0 c1 c2 c3 c4 hy0 hna
  refine region_invT [.val (.pointer (some ⟨w.heap.size, 0, none⟩)), .val (.pointer (some ⟨w.heap.size, 0, none⟩)), .val (.pointer (some ⟨w.heap.size, 0, none⟩)), .val (.int .u64 a0), .val (.pointer (some ⟨w.heap.size, 0, none⟩)), .val (.pointer (some ⟨w.heap.size, 0, none⟩)), .val (.pointer (some ⟨w.heap.size, 0, none⟩)), .val (.int .u64 a0), .val (.agg (u64s (pr s00)).toArray), .val (.int .u64 (a1 * 2)), .val (.int .u64 (a4 * 19)), .val (.agg (u64s (pr s01)).toArray), .val (.int .u64 (a2 * 2)), .val (.int .u64 (a3 * 19)), .val (.agg (u64s (pr s02)).toArray), .blk 99 (u64s [0, 0])] (by kernel_rfl) (by kernel_rfl) (by kernel_rfl) ?_ ?_
  · refine Steps'.cons ?_ (Steps'.cons ?_ (Steps'.cons ?_ (Steps'.cons ?_ (Steps'.cons ?_ (Steps'.cons ?_ (Steps'.cons ?_ (Steps'.cons ?_ (Steps'.cons ?_ (Steps'.cons ?_ (Steps'.cons ?_ (Steps'.cons ?_ (Steps'.cons ?_ (Steps'.cons ?_ (Steps'.cons ?_ (Steps'.cons ?_ (Steps'.one _ _ _ _ _ _ _))))))))))))))))
    · intro ax wx hb hs hd
      have h3 : ax.tmps.getD 3 undef = (.pointer (some ⟨w.heap.size, 0, none⟩)) := hs 3 (by kernel_rfl)
      refine Does.value (.pointer (some ⟨w.heap.size, 0, none⟩)) ?_ rfl
      clear hs hd
      go_simp
    · intro ax wx hb hs hd
      have h46 : ax.tmps.getD 46 undef = (.pointer (some ⟨w.heap.size, 0, none⟩)) := hd 0 46 rfl (by kernel_rfl) (by decide)
      refine Does.value (.pointer (some ⟨w.heap.size, 0, none⟩)) ?_ rfl
      clear hs hd
      go_simp
    · intro ax wx hb hs hd
      have h47 : ax.tmps.getD 47 undef = (.pointer (some ⟨w.heap.size, 0, none⟩)) := hd 1 47 rfl (by kernel_rfl) (by decide)
      refine Does.value (.pointer (some ⟨w.heap.size, 0, none⟩)) ?_ rfl
      clear hs hd
      go_simp
    · intro ax wx hb hs hd
      have h48 : ax.tmps.getD 48 undef = (.pointer (some ⟨w.heap.size, 0, none⟩)) := hd 2 48 rfl (by kernel_rfl) (by decide)
      have cx : wx.cell? ⟨w.heap.size, 0, none⟩ = some (.int .u64 a0) := (Blk.later W0.out.2.1 hb (Blk.lt W0.out.2.1)).cell 0
      refine Does.value (.int .u64 a0) ?_ rfl
      clear hs hd
      go_simp
    · intro ax wx hb hs hd
      have h3 : ax.tmps.getD 3 undef = (.pointer (some ⟨w.heap.size, 0, none⟩)) := hs 3 (by kernel_rfl)
      refine Does.value (.pointer (some ⟨w.heap.size, 0, none⟩)) ?_ rfl
      clear hs hd
      go_simp
    · intro ax wx hb hs hd
      have h50 : ax.tmps.getD 50 undef = (.pointer (some ⟨w.heap.size, 0, none⟩)) := hd 4 50 rfl (by kernel_rfl) (by decide)
      refine Does.value (.pointer (some ⟨w.heap.size, 0, none⟩)) ?_ rfl
      clear hs hd
      go_simp
    · intro ax wx hb hs hd
      have h51 : ax.tmps.getD 51 undef = (.pointer (some ⟨w.heap.size, 0, none⟩)) := hd 5 51 rfl (by kernel_rfl) (by decide)
      refine Does.value (.pointer (some ⟨w.heap.size, 0, none⟩)) ?_ rfl
      clear hs hd
      go_simp
    · intro ax wx hb hs hd
      have h52 : ax.tmps.getD 52 undef = (.pointer (some ⟨w.heap.size, 0, none⟩)) := hd 6 52 rfl (by kernel_rfl) (by decide)
      have cx : wx.cell? ⟨w.heap.size, 0, none⟩ = some (.int .u64 a0) := (Blk.later W0.out.2.1 hb (Blk.lt W0.out.2.1)).cell 0
      refine Does.value (.int .u64 a0) ?_ rfl
      clear hs hd
      go_simp
    · intro ax wx hb hs hd
      have h49 : ax.tmps.getD 49 undef = (.int .u64 a0) := hd 3 49 rfl (by kernel_rfl) (by decide)
      have h53 : ax.tmps.getD 53 undef = (.int .u64 a0) := hd 7 53 rfl (by kernel_rfl) (by decide)
      refine Does.call 70 #[(.int .u64 a0), (.int .u64 a0)] (by clear hs hd; go_simp) ?_
      refine (H0.out.1 _).mono ?_
      rintro z w' ⟨rfl, l⟩
      exact ⟨_, rfl, rfl, l⟩
    · intro ax wx hb hs hd
      have h5 : ax.tmps.getD 5 undef = (.int .u64 (a1 * 2)) := hs 5 (by kernel_rfl)
      refine Does.value (.int .u64 (a1 * 2)) ?_ rfl
      clear hs hd
      go_simp
    · intro ax wx hb hs hd
      have h9 : ax.tmps.getD 9 undef = (.int .u64 (a4 * 19)) := hs 9 (by kernel_rfl)
      refine Does.value (.int .u64 (a4 * 19)) ?_ rfl
      clear hs hd
      go_simp
    · intro ax wx hb hs hd
      have h54 : ax.tmps.getD 54 undef = (.agg (u64s (pr s00)).toArray) := hd 8 54 rfl (by kernel_rfl) (by decide)
      have h55 : ax.tmps.getD 55 undef = (.int .u64 (a1 * 2)) := hd 9 55 rfl (by kernel_rfl) (by decide)
      have h56 : ax.tmps.getD 56 undef = (.int .u64 (a4 * 19)) := hd 10 56 rfl (by kernel_rfl) (by decide)
      refine Does.call 71 #[(.agg (u64s (pr s00)).toArray), (.int .u64 (a1 * 2)), (.int .u64 (a4 * 19))] (by clear hs hd; go_simp) ?_
      refine (H0.out.2.1 _).mono ?_
      rintro z w' ⟨rfl, l⟩
      exact ⟨_, rfl, rfl, l⟩
    · intro ax wx hb hs hd
      have h6 : ax.tmps.getD 6 undef = (.int .u64 (a2 * 2)) := hs 6 (by kernel_rfl)
      refine Does.value (.int .u64 (a2 * 2)) ?_ rfl
      clear hs hd
      go_simp
    · intro ax wx hb hs hd
      have h8 : ax.tmps.getD 8 undef = (.int .u64 (a3 * 19)) := hs 8 (by kernel_rfl)
      refine Does.value (.int .u64 (a3 * 19)) ?_ rfl
      clear hs hd
      go_simp
    · intro ax wx hb hs hd
      have h57 : ax.tmps.getD 57 undef = (.agg (u64s (pr s01)).toArray) := hd 11 57 rfl (by kernel_rfl) (by decide)
      have h58 : ax.tmps.getD 58 undef = (.int .u64 (a2 * 2)) := hd 12 58 rfl (by kernel_rfl) (by decide)
      have h59 : ax.tmps.getD 59 undef = (.int .u64 (a3 * 19)) := hd 13 59 rfl (by kernel_rfl) (by decide)
      refine Does.call 71 #[(.agg (u64s (pr s01)).toArray), (.int .u64 (a2 * 2)), (.int .u64 (a3 * 19))] (by clear hs hd; go_simp) ?_
      refine (H0.out.2.2 _).mono ?_
      rintro z w' ⟨rfl, l⟩
      exact ⟨_, rfl, rfl, l⟩
    · intro ax wx hb hs hd
      exact Does.alloc 99 rfl 2 _ zeroWide hb.size
  · intro wx hb
    refine @Ends.val _ _ _ _ _ _ _ _ _ (.pointer (some ⟨w.heap.size, 0, none⟩)) rfl ?_
    refine @Ends.val _ _ _ _ _ _ _ _ _ (.pointer (some ⟨w.heap.size, 0, none⟩)) rfl ?_
    refine @Ends.val _ _ _ _ _ _ _ _ _ (.pointer (some ⟨w.heap.size, 0, none⟩)) rfl ?_
    refine @Ends.val _ _ _ _ _ _ _ _ _ (.int .u64 a0) rfl ?_
    refine @Ends.val _ _ _ _ _ _ _ _ _ (.pointer (some ⟨w.heap.size, 0, none⟩)) rfl ?_
    refine @Ends.val _ _ _ _ _ _ _ _ _ (.pointer (some ⟨w.heap.size, 0, none⟩)) rfl ?_
    refine @Ends.val _ _ _ _ _ _ _ _ _ (.pointer (some ⟨w.heap.size, 0, none⟩)) rfl ?_
    refine @Ends.val _ _ _ _ _ _ _ _ _ (.int .u64 a0) rfl ?_
    refine @Ends.val _ _ _ _ _ _ _ _ _ (.agg (u64s (pr s00)).toArray) rfl ?_
    refine @Ends.val _ _ _ _ _ _ _ _ _ (.int .u64 (a1 * 2)) rfl ?_
    refine @Ends.val _ _ _ _ _ _ _ _ _ (.int .u64 (a4 * 19)) rfl ?_
    refine @Ends.val _ _ _ _ _ _ _ _ _ (.agg (u64s (pr s01)).toArray) rfl ?_
    refine @Ends.val _ _ _ _ _ _ _ _ _ (.int .u64 (a2 * 2)) rfl ?_
    refine @Ends.val _ _ _ _ _ _ _ _ _ (.int .u64 (a3 * 19)) rfl ?_
    refine @Ends.val _ _ _ _ _ _ _ _ _ (.agg (u64s (pr s02)).toArray) rfl ?_
    refine @Ends.blk _ _ _ _ _ _ _ _ _ 99 (u64s [0, 0]) rfl ?_
    intro g15 hg15 bg15
    refine @Ends.one _ _ _ _ _ _ _ ?_
    simp only [Act.put, List.setIfInBounds_toArray, List.set_cons_zero, List.set_cons_succ]
    obtain ⟨G0, hG0⟩ : ∃ q, q = g15 := ⟨_, rfl⟩
    subst hG0
    refine last_store 99 (.tmp 10) (.tmp 60) rfl rfl G0 rfl 99 _ (u64s (pr s02)) rfl bg15 rfl sizeWide (u64s_one _) ?_
    intro y n1 n2 n3
    have q5 := hb.size
    have q10 := W0.out.2.1.lt
    have q11 := W0.out.2.2.1.lt
    have qz := W0.out.2.2.2
    have W1 : Hid (Below w.heap.size w y ∧ Blk y w.heap.size 27 (u64s [a0, a1, a2, a3, a4]) ∧ Blk y (w.heap.size + 1) 27 (u64s [0, 0, 0, 0, 0]) ∧ Blk y G0 99 (u64s (pr s02)) ∧ True ∧ w.heap.size + 2 ≤ G0) := ⟨below_kept (below_chain W0.out.1 hb (by omega)) n3 (by omega) (fun j hj => by omega), (W0.out.2.1.later hb q10).kept n3 (by omega), (W0.out.2.2.1.later hb q11).kept n3 (by omega), n1, trivial, by omega⟩
    obtain ⟨y1, rfl⟩ : ∃ q, q = y := ⟨_, rfl⟩
    clear W0 H0 n1 n2 n3 hb q5 qz hg15 bg15 q10 q11
    go_wp2_with fail
    refine region_invT [.val (.int .u64 (a0 * 2)), .val (.pointer (some ⟨w.heap.size, 0, none⟩)), .val (.pointer (some ⟨w.heap.size, 0, none⟩)), .val (.pointer (some ⟨w.heap.size, 1, none⟩)), .val (.int .u64 a1), .val (.agg (u64s (pr s10)).toArray), .val (.int .u64 (a2 * 2)), .val (.int .u64 (a4 * 19)), .val (.agg (u64s (pr s11)).toArray), .val (.pointer (some ⟨w.heap.size, 0, none⟩)), .val (.pointer (some ⟨w.heap.size, 0, none⟩)), .val (.pointer (some ⟨w.heap.size, 3, none⟩)), .val (.int .u64 a3), .val (.int .u64 (a3 * 19)), .val (.agg (u64s (pr s12)).toArray), .blk 99 (u64s [0, 0])] (by kernel_rfl) (by kernel_rfl) (by kernel_rfl) ?_ ?_
    · refine Steps'.cons ?_ (Steps'.cons ?_ (Steps'.cons ?_ (Steps'.cons ?_ (Steps'.cons ?_ (Steps'.cons ?_ (Steps'.cons ?_ (Steps'.cons ?_ (Steps'.cons ?_ (Steps'.cons ?_ (Steps'.cons ?_ (Steps'.cons ?_ (Steps'.cons ?_ (Steps'.cons ?_ (Steps'.cons ?_ (Steps'.cons ?_ (Steps'.one _ _ _ _ _ _ _))))))))))))))))
      · intro ax wx hb hs hd
        have h4 : ax.tmps.getD 4 undef = (.int .u64 (a0 * 2)) := hs 4 (by kernel_rfl)
        refine Does.value (.int .u64 (a0 * 2)) ?_ rfl
        clear hs hd
        go_simp
      · intro ax wx hb hs hd
        have h3 : ax.tmps.getD 3 undef = (.pointer (some ⟨w.heap.size, 0, none⟩)) := hs 3 (by kernel_rfl)
        refine Does.value (.pointer (some ⟨w.heap.size, 0, none⟩)) ?_ rfl
        clear hs hd
        go_simp
      · intro ax wx hb hs hd
        have h62 : ax.tmps.getD 62 undef = (.pointer (some ⟨w.heap.size, 0, none⟩)) := hd 1 62 rfl (by kernel_rfl) (by decide)
        refine Does.value (.pointer (some ⟨w.heap.size, 0, none⟩)) ?_ rfl
        clear hs hd
        go_simp
      · intro ax wx hb hs hd
        have h63 : ax.tmps.getD 63 undef = (.pointer (some ⟨w.heap.size, 0, none⟩)) := hd 2 63 rfl (by kernel_rfl) (by decide)
        refine Does.value (.pointer (some ⟨w.heap.size, 1, none⟩)) ?_ rfl
        clear hs hd
        go_simp
      · intro ax wx hb hs hd
        have h64 : ax.tmps.getD 64 undef = (.pointer (some ⟨w.heap.size, 1, none⟩)) := hd 3 64 rfl (by kernel_rfl) (by decide)
        have cx : wx.cell? ⟨w.heap.size, 1, none⟩ = some (.int .u64 a1) := (Blk.later W1.out.2.1 hb (Blk.lt W1.out.2.1)).cell 1
        refine Does.value (.int .u64 a1) ?_ rfl
        clear hs hd
        go_simp
      · intro ax wx hb hs hd
        have h61 : ax.tmps.getD 61 undef = (.int .u64 (a0 * 2)) := hd 0 61 rfl (by kernel_rfl) (by decide)
        have h65 : ax.tmps.getD 65 undef = (.int .u64 a1) := hd 4 65 rfl (by kernel_rfl) (by decide)
        refine Does.call 70 #[(.int .u64 (a0 * 2)), (.int .u64 a1)] (by clear hs hd; go_simp) ?_
        refine (H1.out.1 _).mono ?_
        rintro z w' ⟨rfl, l⟩
        exact ⟨_, rfl, rfl, l⟩
      · intro ax wx hb hs hd
        have h6 : ax.tmps.getD 6 undef = (.int .u64 (a2 * 2)) := hs 6 (by kernel_rfl)
        refine Does.value (.int .u64 (a2 * 2)) ?_ rfl
        clear hs hd
        go_simp
      · intro ax wx hb hs hd
        have h9 : ax.tmps.getD 9 undef = (.int .u64 (a4 * 19)) := hs 9 (by kernel_rfl)
        refine Does.value (.int .u64 (a4 * 19)) ?_ rfl
        clear hs hd
        go_simp
      · intro ax wx hb hs hd
        have h66 : ax.tmps.getD 66 undef = (.agg (u64s (pr s10)).toArray) := hd 5 66 rfl (by kernel_rfl) (by decide)
        have h67 : ax.tmps.getD 67 undef = (.int .u64 (a2 * 2)) := hd 6 67 rfl (by kernel_rfl) (by decide)
        have h68 : ax.tmps.getD 68 undef = (.int .u64 (a4 * 19)) := hd 7 68 rfl (by kernel_rfl) (by decide)
        refine Does.call 71 #[(.agg (u64s (pr s10)).toArray), (.int .u64 (a2 * 2)), (.int .u64 (a4 * 19))] (by clear hs hd; go_simp) ?_
        refine (H1.out.2.1 _).mono ?_
        rintro z w' ⟨rfl, l⟩
        exact ⟨_, rfl, rfl, l⟩
      · intro ax wx hb hs hd
        have h3 : ax.tmps.getD 3 undef = (.pointer (some ⟨w.heap.size, 0, none⟩)) := hs 3 (by kernel_rfl)
        refine Does.value (.pointer (some ⟨w.heap.size, 0, none⟩)) ?_ rfl
        clear hs hd
        go_simp
      · intro ax wx hb hs hd
        have h70 : ax.tmps.getD 70 undef = (.pointer (some ⟨w.heap.size, 0, none⟩)) := hd 9 70 rfl (by kernel_rfl) (by decide)
        refine Does.value (.pointer (some ⟨w.heap.size, 0, none⟩)) ?_ rfl
        clear hs hd
        go_simp
      · intro ax wx hb hs hd
        have h71 : ax.tmps.getD 71 undef = (.pointer (some ⟨w.heap.size, 0, none⟩)) := hd 10 71 rfl (by kernel_rfl) (by decide)
        refine Does.value (.pointer (some ⟨w.heap.size, 3, none⟩)) ?_ rfl
        clear hs hd
        go_simp
      · intro ax wx hb hs hd
        have h72 : ax.tmps.getD 72 undef = (.pointer (some ⟨w.heap.size, 3, none⟩)) := hd 11 72 rfl (by kernel_rfl) (by decide)
        have cx : wx.cell? ⟨w.heap.size, 3, none⟩ = some (.int .u64 a3) := (Blk.later W1.out.2.1 hb (Blk.lt W1.out.2.1)).cell 3
        refine Does.value (.int .u64 a3) ?_ rfl
        clear hs hd
        go_simp
      · intro ax wx hb hs hd
        have h8 : ax.tmps.getD 8 undef = (.int .u64 (a3 * 19)) := hs 8 (by kernel_rfl)
        refine Does.value (.int .u64 (a3 * 19)) ?_ rfl
        clear hs hd
        go_simp
      · intro ax wx hb hs hd
        have h69 : ax.tmps.getD 69 undef = (.agg (u64s (pr s11)).toArray) := hd 8 69 rfl (by kernel_rfl) (by decide)
        have h73 : ax.tmps.getD 73 undef = (.int .u64 a3) := hd 12 73 rfl (by kernel_rfl) (by decide)
        have h74 : ax.tmps.getD 74 undef = (.int .u64 (a3 * 19)) := hd 13 74 rfl (by kernel_rfl) (by decide)
        refine Does.call 71 #[(.agg (u64s (pr s11)).toArray), (.int .u64 a3), (.int .u64 (a3 * 19))] (by clear hs hd; go_simp) ?_
        refine (H1.out.2.2 _).mono ?_
        rintro z w' ⟨rfl, l⟩
        exact ⟨_, rfl, rfl, l⟩
      · intro ax wx hb hs hd
        exact Does.alloc 99 rfl 2 _ zeroWide hb.size
    · intro wx hb
      refine @Ends.val _ _ _ _ _ _ _ _ _ (.int .u64 (a0 * 2)) rfl ?_
      refine @Ends.val _ _ _ _ _ _ _ _ _ (.pointer (some ⟨w.heap.size, 0, none⟩)) rfl ?_
      refine @Ends.val _ _ _ _ _ _ _ _ _ (.pointer (some ⟨w.heap.size, 0, none⟩)) rfl ?_
      refine @Ends.val _ _ _ _ _ _ _ _ _ (.pointer (some ⟨w.heap.size, 1, none⟩)) rfl ?_
      refine @Ends.val _ _ _ _ _ _ _ _ _ (.int .u64 a1) rfl ?_
      refine @Ends.val _ _ _ _ _ _ _ _ _ (.agg (u64s (pr s10)).toArray) rfl ?_
      refine @Ends.val _ _ _ _ _ _ _ _ _ (.int .u64 (a2 * 2)) rfl ?_
      refine @Ends.val _ _ _ _ _ _ _ _ _ (.int .u64 (a4 * 19)) rfl ?_
      refine @Ends.val _ _ _ _ _ _ _ _ _ (.agg (u64s (pr s11)).toArray) rfl ?_
      refine @Ends.val _ _ _ _ _ _ _ _ _ (.pointer (some ⟨w.heap.size, 0, none⟩)) rfl ?_
      refine @Ends.val _ _ _ _ _ _ _ _ _ (.pointer (some ⟨w.heap.size, 0, none⟩)) rfl ?_
      refine @Ends.val _ _ _ _ _ _ _ _ _ (.pointer (some ⟨w.heap.size, 3, none⟩)) rfl ?_
      refine @Ends.val _ _ _ _ _ _ _ _ _ (.int .u64 a3) rfl ?_
      refine @Ends.val _ _ _ _ _ _ _ _ _ (.int .u64 (a3 * 19)) rfl ?_
      refine @Ends.val _ _ _ _ _ _ _ _ _ (.agg (u64s (pr s12)).toArray) rfl ?_
      refine @Ends.blk _ _ _ _ _ _ _ _ _ 99 (u64s [0, 0]) rfl ?_
      intro g15 hg15 bg15
      refine @Ends.one _ _ _ _ _ _ _ ?_
      simp only [Act.put, List.setIfInBounds_toArray, List.set_cons_zero, List.set_cons_succ]
      obtain ⟨G1, hG1⟩ : ∃ q, q = g15 := ⟨_, rfl⟩
      subst hG1
      refine last_store 99 (.tmp 11) (.tmp 75) rfl rfl G1 rfl 99 _ (u64s (pr s12)) rfl bg15 rfl sizeWide (u64s_one _) ?_
      intro y n1 n2 n3
      have q5 := hb.size
      have q10 := W1.out.2.1.lt
      have q11 := W1.out.2.2.1.lt
      have q12 := W1.out.2.2.2.1.lt
      have qz := W1.out.2.2.2.2
      have W2 : Hid (Below w.heap.size w y ∧ Blk y w.heap.size 27 (u64s [a0, a1, a2, a3, a4]) ∧ Blk y (w.heap.size + 1) 27 (u64s [0, 0, 0, 0, 0]) ∧ Blk y G0 99 (u64s (pr s02)) ∧ Blk y G1 99 (u64s (pr s12)) ∧ True ∧ w.heap.size + 2 ≤ G0 ∧ w.heap.size + 2 ≤ G1 ∧ G0 < G1) := ⟨below_kept (below_chain W1.out.1 hb (by omega)) n3 (by omega) (fun j hj => by omega), (W1.out.2.1.later hb q10).kept n3 (by omega), (W1.out.2.2.1.later hb q11).kept n3 (by omega), (W1.out.2.2.2.1.later hb q12).kept n3 (by omega), n1, trivial, by omega, by omega, by omega⟩
      obtain ⟨y2, rfl⟩ : ∃ q, q = y := ⟨_, rfl⟩
      clear W1 H1 n1 n2 n3 hb q5 qz hg15 bg15 q10 q11 q12
      go_wp2_with fail
      refine region_invT [.val (.int .u64 (a0 * 2)), .val (.pointer (some ⟨w.heap.size, 0, none⟩)), .val (.pointer (some ⟨w.heap.size, 0, none⟩)), .val (.pointer (some ⟨w.heap.size, 2, none⟩)), .val (.int .u64 a2), .val (.agg (u64s (pr s20)).toArray), .val (.pointer (some ⟨w.heap.size, 0, none⟩)), .val (.pointer (some ⟨w.heap.size, 0, none⟩)), .val (.pointer (some ⟨w.heap.size, 1, none⟩)), .val (.int .u64 a1), .val (.pointer (some ⟨w.heap.size, 0, none⟩)), .val (.pointer (some ⟨w.heap.size, 0, none⟩)), .val (.pointer (some ⟨w.heap.size, 1, none⟩)), .val (.int .u64 a1), .val (.agg (u64s (pr s21)).toArray), .val (.int .u64 (a3 * 2)), .val (.int .u64 (a4 * 19)), .val (.agg (u64s (pr s22)).toArray), .blk 99 (u64s [0, 0])] (by kernel_rfl) (by kernel_rfl) (by kernel_rfl) ?_ ?_
      · refine Steps'.cons ?_ (Steps'.cons ?_ (Steps'.cons ?_ (Steps'.cons ?_ (Steps'.cons ?_ (Steps'.cons ?_ (Steps'.cons ?_ (Steps'.cons ?_ (Steps'.cons ?_ (Steps'.cons ?_ (Steps'.cons ?_ (Steps'.cons ?_ (Steps'.cons ?_ (Steps'.cons ?_ (Steps'.cons ?_ (Steps'.cons ?_ (Steps'.cons ?_ (Steps'.cons ?_ (Steps'.cons ?_ (Steps'.one _ _ _ _ _ _ _)))))))))))))))))))
        · intro ax wx hb hs hd
          have h4 : ax.tmps.getD 4 undef = (.int .u64 (a0 * 2)) := hs 4 (by kernel_rfl)
          refine Does.value (.int .u64 (a0 * 2)) ?_ rfl
          clear hs hd
          go_simp
        · intro ax wx hb hs hd
          have h3 : ax.tmps.getD 3 undef = (.pointer (some ⟨w.heap.size, 0, none⟩)) := hs 3 (by kernel_rfl)
          refine Does.value (.pointer (some ⟨w.heap.size, 0, none⟩)) ?_ rfl
          clear hs hd
          go_simp
        · intro ax wx hb hs hd
          have h77 : ax.tmps.getD 77 undef = (.pointer (some ⟨w.heap.size, 0, none⟩)) := hd 1 77 rfl (by kernel_rfl) (by decide)
          refine Does.value (.pointer (some ⟨w.heap.size, 0, none⟩)) ?_ rfl
          clear hs hd
          go_simp
        · intro ax wx hb hs hd
          have h78 : ax.tmps.getD 78 undef = (.pointer (some ⟨w.heap.size, 0, none⟩)) := hd 2 78 rfl (by kernel_rfl) (by decide)
          refine Does.value (.pointer (some ⟨w.heap.size, 2, none⟩)) ?_ rfl
          clear hs hd
          go_simp
        · intro ax wx hb hs hd
          have h79 : ax.tmps.getD 79 undef = (.pointer (some ⟨w.heap.size, 2, none⟩)) := hd 3 79 rfl (by kernel_rfl) (by decide)
          have cx : wx.cell? ⟨w.heap.size, 2, none⟩ = some (.int .u64 a2) := (Blk.later W2.out.2.1 hb (Blk.lt W2.out.2.1)).cell 2
          refine Does.value (.int .u64 a2) ?_ rfl
          clear hs hd
          go_simp
        · intro ax wx hb hs hd
          have h76 : ax.tmps.getD 76 undef = (.int .u64 (a0 * 2)) := hd 0 76 rfl (by kernel_rfl) (by decide)
          have h80 : ax.tmps.getD 80 undef = (.int .u64 a2) := hd 4 80 rfl (by kernel_rfl) (by decide)
          refine Does.call 70 #[(.int .u64 (a0 * 2)), (.int .u64 a2)] (by clear hs hd; go_simp) ?_
          refine (H2.out.1 _).mono ?_
          rintro z w' ⟨rfl, l⟩
          exact ⟨_, rfl, rfl, l⟩
        · intro ax wx hb hs hd
          have h3 : ax.tmps.getD 3 undef = (.pointer (some ⟨w.heap.size, 0, none⟩)) := hs 3 (by kernel_rfl)
          refine Does.value (.pointer (some ⟨w.heap.size, 0, none⟩)) ?_ rfl
          clear hs hd
          go_simp
        · intro ax wx hb hs hd
          have h82 : ax.tmps.getD 82 undef = (.pointer (some ⟨w.heap.size, 0, none⟩)) := hd 6 82 rfl (by kernel_rfl) (by decide)
          refine Does.value (.pointer (some ⟨w.heap.size, 0, none⟩)) ?_ rfl
          clear hs hd
          go_simp
        · intro ax wx hb hs hd
          have h83 : ax.tmps.getD 83 undef = (.pointer (some ⟨w.heap.size, 0, none⟩)) := hd 7 83 rfl (by kernel_rfl) (by decide)
          refine Does.value (.pointer (some ⟨w.heap.size, 1, none⟩)) ?_ rfl
          clear hs hd
          go_simp
        · intro ax wx hb hs hd
          have h84 : ax.tmps.getD 84 undef = (.pointer (some ⟨w.heap.size, 1, none⟩)) := hd 8 84 rfl (by kernel_rfl) (by decide)
          have cx : wx.cell? ⟨w.heap.size, 1, none⟩ = some (.int .u64 a1) := (Blk.later W2.out.2.1 hb (Blk.lt W2.out.2.1)).cell 1
          refine Does.value (.int .u64 a1) ?_ rfl
          clear hs hd
          go_simp
        · intro ax wx hb hs hd
          have h3 : ax.tmps.getD 3 undef = (.pointer (some ⟨w.heap.size, 0, none⟩)) := hs 3 (by kernel_rfl)
          refine Does.value (.pointer (some ⟨w.heap.size, 0, none⟩)) ?_ rfl
          clear hs hd
          go_simp
        · intro ax wx hb hs hd
          have h86 : ax.tmps.getD 86 undef = (.pointer (some ⟨w.heap.size, 0, none⟩)) := hd 10 86 rfl (by kernel_rfl) (by decide)
          refine Does.value (.pointer (some ⟨w.heap.size, 0, none⟩)) ?_ rfl
          clear hs hd
          go_simp
        · intro ax wx hb hs hd
          have h87 : ax.tmps.getD 87 undef = (.pointer (some ⟨w.heap.size, 0, none⟩)) := hd 11 87 rfl (by kernel_rfl) (by decide)
          refine Does.value (.pointer (some ⟨w.heap.size, 1, none⟩)) ?_ rfl
          clear hs hd
          go_simp
        · intro ax wx hb hs hd
          have h88 : ax.tmps.getD 88 undef = (.pointer (some ⟨w.heap.size, 1, none⟩)) := hd 12 88 rfl (by kernel_rfl) (by decide)
          have cx : wx.cell? ⟨w.heap.size, 1, none⟩ = some (.int .u64 a1) := (Blk.later W2.out.2.1 hb (Blk.lt W2.out.2.1)).cell 1
          refine Does.value (.int .u64 a1) ?_ rfl
          clear hs hd
          go_simp
        · intro ax wx hb hs hd
          have h81 : ax.tmps.getD 81 undef = (.agg (u64s (pr s20)).toArray) := hd 5 81 rfl (by kernel_rfl) (by decide)
          have h85 : ax.tmps.getD 85 undef = (.int .u64 a1) := hd 9 85 rfl (by kernel_rfl) (by decide)
          have h89 : ax.tmps.getD 89 undef = (.int .u64 a1) := hd 13 89 rfl (by kernel_rfl) (by decide)
          refine Does.call 71 #[(.agg (u64s (pr s20)).toArray), (.int .u64 a1), (.int .u64 a1)] (by clear hs hd; go_simp) ?_
          refine (H2.out.2.1 _).mono ?_
          rintro z w' ⟨rfl, l⟩
          exact ⟨_, rfl, rfl, l⟩
        · intro ax wx hb hs hd
          have h7 : ax.tmps.getD 7 undef = (.int .u64 (a3 * 2)) := hs 7 (by kernel_rfl)
          refine Does.value (.int .u64 (a3 * 2)) ?_ rfl
          clear hs hd
          go_simp
        · intro ax wx hb hs hd
          have h9 : ax.tmps.getD 9 undef = (.int .u64 (a4 * 19)) := hs 9 (by kernel_rfl)
          refine Does.value (.int .u64 (a4 * 19)) ?_ rfl
          clear hs hd
          go_simp
        · intro ax wx hb hs hd
          have h90 : ax.tmps.getD 90 undef = (.agg (u64s (pr s21)).toArray) := hd 14 90 rfl (by kernel_rfl) (by decide)
          have h91 : ax.tmps.getD 91 undef = (.int .u64 (a3 * 2)) := hd 15 91 rfl (by kernel_rfl) (by decide)
          have h92 : ax.tmps.getD 92 undef = (.int .u64 (a4 * 19)) := hd 16 92 rfl (by kernel_rfl) (by decide)
          refine Does.call 71 #[(.agg (u64s (pr s21)).toArray), (.int .u64 (a3 * 2)), (.int .u64 (a4 * 19))] (by clear hs hd; go_simp) ?_
          refine (H2.out.2.2 _).mono ?_
          rintro z w' ⟨rfl, l⟩
          exact ⟨_, rfl, rfl, l⟩
        · intro ax wx hb hs hd
          exact Does.alloc 99 rfl 2 _ zeroWide hb.size
      · intro wx hb
        refine @Ends.val _ _ _ _ _ _ _ _ _ (.int .u64 (a0 * 2)) rfl ?_
        refine @Ends.val _ _ _ _ _ _ _ _ _ (.pointer (some ⟨w.heap.size, 0, none⟩)) rfl ?_
        refine @Ends.val _ _ _ _ _ _ _ _ _ (.pointer (some ⟨w.heap.size, 0, none⟩)) rfl ?_
        refine @Ends.val _ _ _ _ _ _ _ _ _ (.pointer (some ⟨w.heap.size, 2, none⟩)) rfl ?_
        refine @Ends.val _ _ _ _ _ _ _ _ _ (.int .u64 a2) rfl ?_
        refine @Ends.val _ _ _ _ _ _ _ _ _ (.agg (u64s (pr s20)).toArray) rfl ?_
        refine @Ends.val _ _ _ _ _ _ _ _ _ (.pointer (some ⟨w.heap.size, 0, none⟩)) rfl ?_
        refine @Ends.val _ _ _ _ _ _ _ _ _ (.pointer (some ⟨w.heap.size, 0, none⟩)) rfl ?_
        refine @Ends.val _ _ _ _ _ _ _ _ _ (.pointer (some ⟨w.heap.size, 1, none⟩)) rfl ?_
        refine @Ends.val _ _ _ _ _ _ _ _ _ (.int .u64 a1) rfl ?_
        refine @Ends.val _ _ _ _ _ _ _ _ _ (.pointer (some ⟨w.heap.size, 0, none⟩)) rfl ?_
        refine @Ends.val _ _ _ _ _ _ _ _ _ (.pointer (some ⟨w.heap.size, 0, none⟩)) rfl ?_
        refine @Ends.val _ _ _ _ _ _ _ _ _ (.pointer (some ⟨w.heap.size, 1, none⟩)) rfl ?_
        refine @Ends.val _ _ _ _ _ _ _ _ _ (.int .u64 a1) rfl ?_
        refine @Ends.val _ _ _ _ _ _ _ _ _ (.agg (u64s (pr s21)).toArray) rfl ?_
        refine @Ends.val _ _ _ _ _ _ _ _ _ (.int .u64 (a3 * 2)) rfl ?_
        refine @Ends.val _ _ _ _ _ _ _ _ _ (.int .u64 (a4 * 19)) rfl ?_
        refine @Ends.val _ _ _ _ _ _ _ _ _ (.agg (u64s (pr s22)).toArray) rfl ?_
        refine @Ends.blk _ _ _ _ _ _ _ _ _ 99 (u64s [0, 0]) rfl ?_
        intro g18 hg18 bg18
        refine @Ends.one _ _ _ _ _ _ _ ?_
        simp only [Act.put, List.setIfInBounds_toArray, List.set_cons_zero, List.set_cons_succ]
        obtain ⟨G2, hG2⟩ : ∃ q, q = g18 := ⟨_, rfl⟩
        subst hG2
        refine last_store 99 (.tmp 12) (.tmp 93) rfl rfl G2 rfl 99 _ (u64s (pr s22)) rfl bg18 rfl sizeWide (u64s_one _) ?_
        intro y n1 n2 n3
        have q5 := hb.size
        have q10 := W2.out.2.1.lt
        have q11 := W2.out.2.2.1.lt
        have q12 := W2.out.2.2.2.1.lt
        have q13 := W2.out.2.2.2.2.1.lt
        have qz := W2.out.2.2.2.2.2
        have W3 : Hid (Below w.heap.size w y ∧ Blk y w.heap.size 27 (u64s [a0, a1, a2, a3, a4]) ∧ Blk y (w.heap.size + 1) 27 (u64s [0, 0, 0, 0, 0]) ∧ Blk y G0 99 (u64s (pr s02)) ∧ Blk y G1 99 (u64s (pr s12)) ∧ Blk y G2 99 (u64s (pr s22)) ∧ True ∧ w.heap.size + 2 ≤ G0 ∧ w.heap.size + 2 ≤ G1 ∧ w.heap.size + 2 ≤ G2 ∧ G0 < G1 ∧ G1 < G2) := ⟨below_kept (below_chain W2.out.1 hb (by omega)) n3 (by omega) (fun j hj => by omega), (W2.out.2.1.later hb q10).kept n3 (by omega), (W2.out.2.2.1.later hb q11).kept n3 (by omega), (W2.out.2.2.2.1.later hb q12).kept n3 (by omega), (W2.out.2.2.2.2.1.later hb q13).kept n3 (by omega), n1, trivial, by omega, by omega, by omega, by omega, by omega⟩
        obtain ⟨y3, rfl⟩ : ∃ q, q = y := ⟨_, rfl⟩
        clear W2 H2 n1 n2 n3 hb q5 qz hg18 bg18 q10 q11 q12 q13
        go_wp2_with fail
        refine region_invT [.val (.int .u64 (a0 * 2)), .val (.pointer (some ⟨w.heap.size, 0, none⟩)), .val (.pointer (some ⟨w.heap.size, 0, none⟩)), .val (.pointer (some ⟨w.heap.size, 3, none⟩)), .val (.int .u64 a3), .val (.agg (u64s (pr s30)).toArray), .val (.int .u64 (a1 * 2)), .val (.pointer (some ⟨w.heap.size, 0, none⟩)), .val (.pointer (some ⟨w.heap.size, 0, none⟩)), .val (.pointer (some ⟨w.heap.size, 2, none⟩)), .val (.int .u64 a2), .val (.agg (u64s (pr s31)).toArray), .val (.pointer (some ⟨w.heap.size, 0, none⟩)), .val (.pointer (some ⟨w.heap.size, 0, none⟩)), .val (.pointer (some ⟨w.heap.size, 4, none⟩)), .val (.int .u64 a4), .val (.int .u64 (a4 * 19)), .val (.agg (u64s (pr s32)).toArray), .blk 99 (u64s [0, 0])] (by kernel_rfl) (by kernel_rfl) (by kernel_rfl) ?_ ?_
        · refine Steps'.cons ?_ (Steps'.cons ?_ (Steps'.cons ?_ (Steps'.cons ?_ (Steps'.cons ?_ (Steps'.cons ?_ (Steps'.cons ?_ (Steps'.cons ?_ (Steps'.cons ?_ (Steps'.cons ?_ (Steps'.cons ?_ (Steps'.cons ?_ (Steps'.cons ?_ (Steps'.cons ?_ (Steps'.cons ?_ (Steps'.cons ?_ (Steps'.cons ?_ (Steps'.cons ?_ (Steps'.cons ?_ (Steps'.one _ _ _ _ _ _ _)))))))))))))))))))
          · intro ax wx hb hs hd
            have h4 : ax.tmps.getD 4 undef = (.int .u64 (a0 * 2)) := hs 4 (by kernel_rfl)
            refine Does.value (.int .u64 (a0 * 2)) ?_ rfl
            clear hs hd
            go_simp
          · intro ax wx hb hs hd
            have h3 : ax.tmps.getD 3 undef = (.pointer (some ⟨w.heap.size, 0, none⟩)) := hs 3 (by kernel_rfl)
            refine Does.value (.pointer (some ⟨w.heap.size, 0, none⟩)) ?_ rfl
            clear hs hd
            go_simp
          · intro ax wx hb hs hd
            have h95 : ax.tmps.getD 95 undef = (.pointer (some ⟨w.heap.size, 0, none⟩)) := hd 1 95 rfl (by kernel_rfl) (by decide)
            refine Does.value (.pointer (some ⟨w.heap.size, 0, none⟩)) ?_ rfl
            clear hs hd
            go_simp
          · intro ax wx hb hs hd
            have h96 : ax.tmps.getD 96 undef = (.pointer (some ⟨w.heap.size, 0, none⟩)) := hd 2 96 rfl (by kernel_rfl) (by decide)
            refine Does.value (.pointer (some ⟨w.heap.size, 3, none⟩)) ?_ rfl
            clear hs hd
            go_simp
          · intro ax wx hb hs hd
            have h97 : ax.tmps.getD 97 undef = (.pointer (some ⟨w.heap.size, 3, none⟩)) := hd 3 97 rfl (by kernel_rfl) (by decide)
            have cx : wx.cell? ⟨w.heap.size, 3, none⟩ = some (.int .u64 a3) := (Blk.later W3.out.2.1 hb (Blk.lt W3.out.2.1)).cell 3
            refine Does.value (.int .u64 a3) ?_ rfl
            clear hs hd
            go_simp
          · intro ax wx hb hs hd
            have h94 : ax.tmps.getD 94 undef = (.int .u64 (a0 * 2)) := hd 0 94 rfl (by kernel_rfl) (by decide)
            have h98 : ax.tmps.getD 98 undef = (.int .u64 a3) := hd 4 98 rfl (by kernel_rfl) (by decide)
            refine Does.call 70 #[(.int .u64 (a0 * 2)), (.int .u64 a3)] (by clear hs hd; go_simp) ?_
            refine (H3.out.1 _).mono ?_
            rintro z w' ⟨rfl, l⟩
            exact ⟨_, rfl, rfl, l⟩
          · intro ax wx hb hs hd
            have h5 : ax.tmps.getD 5 undef = (.int .u64 (a1 * 2)) := hs 5 (by kernel_rfl)
            refine Does.value (.int .u64 (a1 * 2)) ?_ rfl
            clear hs hd
            go_simp
          · intro ax wx hb hs hd
            have h3 : ax.tmps.getD 3 undef = (.pointer (some ⟨w.heap.size, 0, none⟩)) := hs 3 (by kernel_rfl)
            refine Does.value (.pointer (some ⟨w.heap.size, 0, none⟩)) ?_ rfl
            clear hs hd
            go_simp
          · intro ax wx hb hs hd
            have h101 : ax.tmps.getD 101 undef = (.pointer (some ⟨w.heap.size, 0, none⟩)) := hd 7 101 rfl (by kernel_rfl) (by decide)
            refine Does.value (.pointer (some ⟨w.heap.size, 0, none⟩)) ?_ rfl
            clear hs hd
            go_simp
          · intro ax wx hb hs hd
            have h102 : ax.tmps.getD 102 undef = (.pointer (some ⟨w.heap.size, 0, none⟩)) := hd 8 102 rfl (by kernel_rfl) (by decide)
            refine Does.value (.pointer (some ⟨w.heap.size, 2, none⟩)) ?_ rfl
            clear hs hd
            go_simp
          · intro ax wx hb hs hd
            have h103 : ax.tmps.getD 103 undef = (.pointer (some ⟨w.heap.size, 2, none⟩)) := hd 9 103 rfl (by kernel_rfl) (by decide)
            have cx : wx.cell? ⟨w.heap.size, 2, none⟩ = some (.int .u64 a2) := (Blk.later W3.out.2.1 hb (Blk.lt W3.out.2.1)).cell 2
            refine Does.value (.int .u64 a2) ?_ rfl
            clear hs hd
            go_simp
          · intro ax wx hb hs hd
            have h99 : ax.tmps.getD 99 undef = (.agg (u64s (pr s30)).toArray) := hd 5 99 rfl (by kernel_rfl) (by decide)
            have h100 : ax.tmps.getD 100 undef = (.int .u64 (a1 * 2)) := hd 6 100 rfl (by kernel_rfl) (by decide)
            have h104 : ax.tmps.getD 104 undef = (.int .u64 a2) := hd 10 104 rfl (by kernel_rfl) (by decide)
            refine Does.call 71 #[(.agg (u64s (pr s30)).toArray), (.int .u64 (a1 * 2)), (.int .u64 a2)] (by clear hs hd; go_simp) ?_
            refine (H3.out.2.1 _).mono ?_
            rintro z w' ⟨rfl, l⟩
            exact ⟨_, rfl, rfl, l⟩
          · intro ax wx hb hs hd
            have h3 : ax.tmps.getD 3 undef = (.pointer (some ⟨w.heap.size, 0, none⟩)) := hs 3 (by kernel_rfl)
            refine Does.value (.pointer (some ⟨w.heap.size, 0, none⟩)) ?_ rfl
            clear hs hd
            go_simp
          · intro ax wx hb hs hd
            have h106 : ax.tmps.getD 106 undef = (.pointer (some ⟨w.heap.size, 0, none⟩)) := hd 12 106 rfl (by kernel_rfl) (by decide)
            refine Does.value (.pointer (some ⟨w.heap.size, 0, none⟩)) ?_ rfl
            clear hs hd
            go_simp
          · intro ax wx hb hs hd
            have h107 : ax.tmps.getD 107 undef = (.pointer (some ⟨w.heap.size, 0, none⟩)) := hd 13 107 rfl (by kernel_rfl) (by decide)
            refine Does.value (.pointer (some ⟨w.heap.size, 4, none⟩)) ?_ rfl
            clear hs hd
            go_simp
          · intro ax wx hb hs hd
            have h108 : ax.tmps.getD 108 undef = (.pointer (some ⟨w.heap.size, 4, none⟩)) := hd 14 108 rfl (by kernel_rfl) (by decide)
            have cx : wx.cell? ⟨w.heap.size, 4, none⟩ = some (.int .u64 a4) := (Blk.later W3.out.2.1 hb (Blk.lt W3.out.2.1)).cell 4
            refine Does.value (.int .u64 a4) ?_ rfl
            clear hs hd
            go_simp
          · intro ax wx hb hs hd
            have h9 : ax.tmps.getD 9 undef = (.int .u64 (a4 * 19)) := hs 9 (by kernel_rfl)
            refine Does.value (.int .u64 (a4 * 19)) ?_ rfl
            clear hs hd
            go_simp
          · intro ax wx hb hs hd
            have h105 : ax.tmps.getD 105 undef = (.agg (u64s (pr s31)).toArray) := hd 11 105 rfl (by kernel_rfl) (by decide)
            have h109 : ax.tmps.getD 109 undef = (.int .u64 a4) := hd 15 109 rfl (by kernel_rfl) (by decide)
            have h110 : ax.tmps.getD 110 undef = (.int .u64 (a4 * 19)) := hd 16 110 rfl (by kernel_rfl) (by decide)
            refine Does.call 71 #[(.agg (u64s (pr s31)).toArray), (.int .u64 a4), (.int .u64 (a4 * 19))] (by clear hs hd; go_simp) ?_
            refine (H3.out.2.2 _).mono ?_
            rintro z w' ⟨rfl, l⟩
            exact ⟨_, rfl, rfl, l⟩
          · intro ax wx hb hs hd
            exact Does.alloc 99 rfl 2 _ zeroWide hb.size
        · intro wx hb
          refine @Ends.val _ _ _ _ _ _ _ _ _ (.int .u64 (a0 * 2)) rfl ?_
          refine @Ends.val _ _ _ _ _ _ _ _ _ (.pointer (some ⟨w.heap.size, 0, none⟩)) rfl ?_
          refine @Ends.val _ _ _ _ _ _ _ _ _ (.pointer (some ⟨w.heap.size, 0, none⟩)) rfl ?_
          refine @Ends.val _ _ _ _ _ _ _ _ _ (.pointer (some ⟨w.heap.size, 3, none⟩)) rfl ?_
          refine @Ends.val _ _ _ _ _ _ _ _ _ (.int .u64 a3) rfl ?_
          refine @Ends.val _ _ _ _ _ _ _ _ _ (.agg (u64s (pr s30)).toArray) rfl ?_
          refine @Ends.val _ _ _ _ _ _ _ _ _ (.int .u64 (a1 * 2)) rfl ?_
          refine @Ends.val _ _ _ _ _ _ _ _ _ (.pointer (some ⟨w.heap.size, 0, none⟩)) rfl ?_
          refine @Ends.val _ _ _ _ _ _ _ _ _ (.pointer (some ⟨w.heap.size, 0, none⟩)) rfl ?_
          refine @Ends.val _ _ _ _ _ _ _ _ _ (.pointer (some ⟨w.heap.size, 2, none⟩)) rfl ?_
          refine @Ends.val _ _ _ _ _ _ _ _ _ (.int .u64 a2) rfl ?_
          refine @Ends.val _ _ _ _ _ _ _ _ _ (.agg (u64s (pr s31)).toArray) rfl ?_
          refine @Ends.val _ _ _ _ _ _ _ _ _ (.pointer (some ⟨w.heap.size, 0, none⟩)) rfl ?_
          refine @Ends.val _ _ _ _ _ _ _ _ _ (.pointer (some ⟨w.heap.size, 0, none⟩)) rfl ?_
          refine @Ends.val _ _ _ _ _ _ _ _ _ (.pointer (some ⟨w.heap.size, 4, none⟩)) rfl ?_
          refine @Ends.val _ _ _ _ _ _ _ _ _ (.int .u64 a4) rfl ?_
          refine @Ends.val _ _ _ _ _ _ _ _ _ (.int .u64 (a4 * 19)) rfl ?_
          refine @Ends.val _ _ _ _ _ _ _ _ _ (.agg (u64s (pr s32)).toArray) rfl ?_
          refine @Ends.blk _ _ _ _ _ _ _ _ _ 99 (u64s [0, 0]) rfl ?_
          intro g18 hg18 bg18
          refine @Ends.one _ _ _ _ _ _ _ ?_
          simp only [Act.put, List.setIfInBounds_toArray, List.set_cons_zero, List.set_cons_succ]
          obtain ⟨G3, hG3⟩ : ∃ q, q = g18 := ⟨_, rfl⟩
          subst hG3
          refine last_store 99 (.tmp 13) (.tmp 111) rfl rfl G3 rfl 99 _ (u64s (pr s32)) rfl bg18 rfl sizeWide (u64s_one _) ?_
          intro y n1 n2 n3
          have q5 := hb.size
          have q10 := W3.out.2.1.lt
          have q11 := W3.out.2.2.1.lt
          have q12 := W3.out.2.2.2.1.lt
          have q13 := W3.out.2.2.2.2.1.lt
          have q14 := W3.out.2.2.2.2.2.1.lt
          have qz := W3.out.2.2.2.2.2.2
          have W4 : Hid (Below w.heap.size w y ∧ Blk y w.heap.size 27 (u64s [a0, a1, a2, a3, a4]) ∧ Blk y (w.heap.size + 1) 27 (u64s [0, 0, 0, 0, 0]) ∧ Blk y G0 99 (u64s (pr s02)) ∧ Blk y G1 99 (u64s (pr s12)) ∧ Blk y G2 99 (u64s (pr s22)) ∧ Blk y G3 99 (u64s (pr s32)) ∧ True ∧ w.heap.size + 2 ≤ G0 ∧ w.heap.size + 2 ≤ G1 ∧ w.heap.size + 2 ≤ G2 ∧ w.heap.size + 2 ≤ G3 ∧ G0 < G1 ∧ G1 < G2 ∧ G2 < G3) := ⟨below_kept (below_chain W3.out.1 hb (by omega)) n3 (by omega) (fun j hj => by omega), (W3.out.2.1.later hb q10).kept n3 (by omega), (W3.out.2.2.1.later hb q11).kept n3 (by omega), (W3.out.2.2.2.1.later hb q12).kept n3 (by omega), (W3.out.2.2.2.2.1.later hb q13).kept n3 (by omega), (W3.out.2.2.2.2.2.1.later hb q14).kept n3 (by omega), n1, trivial, by omega, by omega, by omega, by omega, by omega, by omega, by omega⟩
          obtain ⟨y4, rfl⟩ : ∃ q, q = y := ⟨_, rfl⟩
          clear W3 H3 n1 n2 n3 hb q5 qz hg18 bg18 q10 q11 q12 q13 q14
          go_wp2_with fail
          refine region_invT ((.val (.int .u64 (a0 * 2))) :: (.val (.pointer (some ⟨w.heap.size, 0, none⟩))) :: (.val (.pointer (some ⟨w.heap.size, 0, none⟩))) :: (.val (.pointer (some ⟨w.heap.size, 4, none⟩))) :: (.val (.int .u64 a4)) :: (.val (.agg (u64s (pr s40)).toArray)) :: (.val (.int .u64 (a1 * 2))) :: (.val (.pointer (some ⟨w.heap.size, 0, none⟩))) :: (.val (.pointer (some ⟨w.heap.size, 0, none⟩))) :: (.val (.pointer (some ⟨w.heap.size, 3, none⟩))) :: (.val (.int .u64 a3)) :: (.val (.agg (u64s (pr s41)).toArray)) :: (.val (.pointer (some ⟨w.heap.size, 0, none⟩))) :: (.val (.pointer (some ⟨w.heap.size, 0, none⟩))) :: (.val (.pointer (some ⟨w.heap.size, 2, none⟩))) :: (.val (.int .u64 a2)) :: (.val (.pointer (some ⟨w.heap.size, 0, none⟩))) :: (.val (.pointer (some ⟨w.heap.size, 0, none⟩))) :: (.val (.pointer (some ⟨w.heap.size, 2, none⟩))) :: (.val (.int .u64 a2)) :: (.val (.agg (u64s (pr s42)).toArray)) :: (.blk 99 (u64s [0, 0])) :: []) (by kernel_rfl) (by kernel_rfl) (by kernel_rfl) ?_ ?_
          · refine Steps'.cons ?_ (Steps'.cons ?_ (Steps'.cons ?_ (Steps'.cons ?_ (Steps'.cons ?_ (Steps'.cons ?_ (Steps'.cons ?_ (Steps'.cons ?_ (Steps'.cons ?_ (Steps'.cons ?_ (Steps'.cons ?_ (Steps'.cons ?_ (Steps'.cons ?_ (Steps'.cons ?_ (Steps'.cons ?_ (Steps'.cons ?_ (Steps'.cons ?_ (Steps'.cons ?_ (Steps'.cons ?_ (Steps'.cons ?_ (Steps'.cons ?_ (Steps'.cons ?_ (Steps'.one _ _ _ _ _ _ _))))))))))))))))))))))
            · intro ax wx hb hs hd
              have h4 : ax.tmps.getD 4 undef = (.int .u64 (a0 * 2)) := hs 4 (by kernel_rfl)
              refine Does.value (.int .u64 (a0 * 2)) ?_ rfl
              clear hs hd
              go_simp
            · intro ax wx hb hs hd
              have h3 : ax.tmps.getD 3 undef = (.pointer (some ⟨w.heap.size, 0, none⟩)) := hs 3 (by kernel_rfl)
              refine Does.value (.pointer (some ⟨w.heap.size, 0, none⟩)) ?_ rfl
              clear hs hd
              go_simp
            · intro ax wx hb hs hd
              have h113 : ax.tmps.getD 113 undef = (.pointer (some ⟨w.heap.size, 0, none⟩)) := hd 1 113 rfl (by kernel_rfl) (by decide)
              refine Does.value (.pointer (some ⟨w.heap.size, 0, none⟩)) ?_ rfl
              clear hs hd
              go_simp
            · intro ax wx hb hs hd
              have h114 : ax.tmps.getD 114 undef = (.pointer (some ⟨w.heap.size, 0, none⟩)) := hd 2 114 rfl (by kernel_rfl) (by decide)
              refine Does.value (.pointer (some ⟨w.heap.size, 4, none⟩)) ?_ rfl
              clear hs hd
              go_simp
            · intro ax wx hb hs hd
              have h115 : ax.tmps.getD 115 undef = (.pointer (some ⟨w.heap.size, 4, none⟩)) := hd 3 115 rfl (by kernel_rfl) (by decide)
              have cx : wx.cell? ⟨w.heap.size, 4, none⟩ = some (.int .u64 a4) := (Blk.later W4.out.2.1 hb (Blk.lt W4.out.2.1)).cell 4
              refine Does.value (.int .u64 a4) ?_ rfl
              clear hs hd
              go_simp
            · intro ax wx hb hs hd
              have h112 : ax.tmps.getD 112 undef = (.int .u64 (a0 * 2)) := hd 0 112 rfl (by kernel_rfl) (by decide)
              have h116 : ax.tmps.getD 116 undef = (.int .u64 a4) := hd 4 116 rfl (by kernel_rfl) (by decide)
              refine Does.call 70 #[(.int .u64 (a0 * 2)), (.int .u64 a4)] (by clear hs hd; go_simp) ?_
              refine (H4.out.1 _).mono ?_
              rintro z w' ⟨rfl, l⟩
              exact ⟨_, rfl, rfl, l⟩
            · intro ax wx hb hs hd
              have h5 : ax.tmps.getD 5 undef = (.int .u64 (a1 * 2)) := hs 5 (by kernel_rfl)
              refine Does.value (.int .u64 (a1 * 2)) ?_ rfl
              clear hs hd
              go_simp
            · intro ax wx hb hs hd
              have h3 : ax.tmps.getD 3 undef = (.pointer (some ⟨w.heap.size, 0, none⟩)) := hs 3 (by kernel_rfl)
              refine Does.value (.pointer (some ⟨w.heap.size, 0, none⟩)) ?_ rfl
              clear hs hd
              go_simp
            · intro ax wx hb hs hd
              have h119 : ax.tmps.getD 119 undef = (.pointer (some ⟨w.heap.size, 0, none⟩)) := hd 7 119 rfl (by kernel_rfl) (by decide)
              refine Does.value (.pointer (some ⟨w.heap.size, 0, none⟩)) ?_ rfl
              clear hs hd
              go_simp
            · intro ax wx hb hs hd
              have h120 : ax.tmps.getD 120 undef = (.pointer (some ⟨w.heap.size, 0, none⟩)) := hd 8 120 rfl (by kernel_rfl) (by decide)
              refine Does.value (.pointer (some ⟨w.heap.size, 3, none⟩)) ?_ rfl
              clear hs hd
              go_simp
            · intro ax wx hb hs hd
              have h121 : ax.tmps.getD 121 undef = (.pointer (some ⟨w.heap.size, 3, none⟩)) := hd 9 121 rfl (by kernel_rfl) (by decide)
              have cx : wx.cell? ⟨w.heap.size, 3, none⟩ = some (.int .u64 a3) := (Blk.later W4.out.2.1 hb (Blk.lt W4.out.2.1)).cell 3
              refine Does.value (.int .u64 a3) ?_ rfl
              clear hs hd
              go_simp
            · intro ax wx hb hs hd
              have h117 : ax.tmps.getD 117 undef = (.agg (u64s (pr s40)).toArray) := hd 5 117 rfl (by kernel_rfl) (by decide)
              have h118 : ax.tmps.getD 118 undef = (.int .u64 (a1 * 2)) := hd 6 118 rfl (by kernel_rfl) (by decide)
              have h122 : ax.tmps.getD 122 undef = (.int .u64 a3) := hd 10 122 rfl (by kernel_rfl) (by decide)
              refine Does.call 71 #[(.agg (u64s (pr s40)).toArray), (.int .u64 (a1 * 2)), (.int .u64 a3)] (by clear hs hd; go_simp) ?_
              refine (H4.out.2.1 _).mono ?_
              rintro z w' ⟨rfl, l⟩
              exact ⟨_, rfl, rfl, l⟩
            · intro ax wx hb hs hd
              have h3 : ax.tmps.getD 3 undef = (.pointer (some ⟨w.heap.size, 0, none⟩)) := hs 3 (by kernel_rfl)
              refine Does.value (.pointer (some ⟨w.heap.size, 0, none⟩)) ?_ rfl
              clear hs hd
              go_simp
            · intro ax wx hb hs hd
              have h124 : ax.tmps.getD 124 undef = (.pointer (some ⟨w.heap.size, 0, none⟩)) := hd 12 124 rfl (by kernel_rfl) (by decide)
              refine Does.value (.pointer (some ⟨w.heap.size, 0, none⟩)) ?_ rfl
              clear hs hd
              go_simp
            · intro ax wx hb hs hd
              have h125 : ax.tmps.getD 125 undef = (.pointer (some ⟨w.heap.size, 0, none⟩)) := hd 13 125 rfl (by kernel_rfl) (by decide)
              refine Does.value (.pointer (some ⟨w.heap.size, 2, none⟩)) ?_ rfl
              clear hs hd
              go_simp
            · intro ax wx hb hs hd
              have h126 : ax.tmps.getD 126 undef = (.pointer (some ⟨w.heap.size, 2, none⟩)) := hd 14 126 rfl (by kernel_rfl) (by decide)
              have cx : wx.cell? ⟨w.heap.size, 2, none⟩ = some (.int .u64 a2) := (Blk.later W4.out.2.1 hb (Blk.lt W4.out.2.1)).cell 2
              refine Does.value (.int .u64 a2) ?_ rfl
              clear hs hd
              go_simp
            · intro ax wx hb hs hd
              have h3 : ax.tmps.getD 3 undef = (.pointer (some ⟨w.heap.size, 0, none⟩)) := hs 3 (by kernel_rfl)
              refine Does.value (.pointer (some ⟨w.heap.size, 0, none⟩)) ?_ rfl
              clear hs hd
              go_simp
            · intro ax wx hb hs hd
              have h128 : ax.tmps.getD 128 undef = (.pointer (some ⟨w.heap.size, 0, none⟩)) := hd 16 128 rfl (by kernel_rfl) (by decide)
              refine Does.value (.pointer (some ⟨w.heap.size, 0, none⟩)) ?_ rfl
              clear hs hd
              go_simp
            · intro ax wx hb hs hd
              have h129 : ax.tmps.getD 129 undef = (.pointer (some ⟨w.heap.size, 0, none⟩)) := hd 17 129 rfl (by kernel_rfl) (by decide)
              refine Does.value (.pointer (some ⟨w.heap.size, 2, none⟩)) ?_ rfl
              clear hs hd
              go_simp
            · intro ax wx hb hs hd
              have h130 : ax.tmps.getD 130 undef = (.pointer (some ⟨w.heap.size, 2, none⟩)) := hd 18 130 rfl (by kernel_rfl) (by decide)
              have cx : wx.cell? ⟨w.heap.size, 2, none⟩ = some (.int .u64 a2) := (Blk.later W4.out.2.1 hb (Blk.lt W4.out.2.1)).cell 2
              refine Does.value (.int .u64 a2) ?_ rfl
              clear hs hd
              go_simp
            · intro ax wx hb hs hd
              have h123 : ax.tmps.getD 123 undef = (.agg (u64s (pr s41)).toArray) := hd 11 123 rfl (by kernel_rfl) (by decide)
              have h127 : ax.tmps.getD 127 undef = (.int .u64 a2) := hd 15 127 rfl (by kernel_rfl) (by decide)
              have h131 : ax.tmps.getD 131 undef = (.int .u64 a2) := hd 19 131 rfl (by kernel_rfl) (by decide)
              refine Does.call 71 #[(.agg (u64s (pr s41)).toArray), (.int .u64 a2), (.int .u64 a2)] (by clear hs hd; go_simp) ?_
              refine (H4.out.2.2 _).mono ?_
              rintro z w' ⟨rfl, l⟩
              exact ⟨_, rfl, rfl, l⟩
            · intro ax wx hb hs hd
              exact Does.alloc 99 rfl 2 _ zeroWide hb.size
          · intro wx hb
            refine @Ends.val _ _ _ _ _ _ _ _ _ (.int .u64 (a0 * 2)) rfl ?_
            refine @Ends.val _ _ _ _ _ _ _ _ _ (.pointer (some ⟨w.heap.size, 0, none⟩)) rfl ?_
            refine @Ends.val _ _ _ _ _ _ _ _ _ (.pointer (some ⟨w.heap.size, 0, none⟩)) rfl ?_
            refine @Ends.val _ _ _ _ _ _ _ _ _ (.pointer (some ⟨w.heap.size, 4, none⟩)) rfl ?_
            refine @Ends.val _ _ _ _ _ _ _ _ _ (.int .u64 a4) rfl ?_
            refine @Ends.val _ _ _ _ _ _ _ _ _ (.agg (u64s (pr s40)).toArray) rfl ?_
            refine @Ends.val _ _ _ _ _ _ _ _ _ (.int .u64 (a1 * 2)) rfl ?_
            refine @Ends.val _ _ _ _ _ _ _ _ _ (.pointer (some ⟨w.heap.size, 0, none⟩)) rfl ?_
            refine @Ends.val _ _ _ _ _ _ _ _ _ (.pointer (some ⟨w.heap.size, 0, none⟩)) rfl ?_
            refine @Ends.val _ _ _ _ _ _ _ _ _ (.pointer (some ⟨w.heap.size, 3, none⟩)) rfl ?_
            refine @Ends.val _ _ _ _ _ _ _ _ _ (.int .u64 a3) rfl ?_
            refine @Ends.val _ _ _ _ _ _ _ _ _ (.agg (u64s (pr s41)).toArray) rfl ?_
            refine @Ends.val _ _ _ _ _ _ _ _ _ (.pointer (some ⟨w.heap.size, 0, none⟩)) rfl ?_
            refine @Ends.val _ _ _ _ _ _ _ _ _ (.pointer (some ⟨w.heap.size, 0, none⟩)) rfl ?_
            refine @Ends.val _ _ _ _ _ _ _ _ _ (.pointer (some ⟨w.heap.size, 2, none⟩)) rfl ?_
            refine @Ends.val _ _ _ _ _ _ _ _ _ (.int .u64 a2) rfl ?_
            refine @Ends.val _ _ _ _ _ _ _ _ _ (.pointer (some ⟨w.heap.size, 0, none⟩)) rfl ?_
            refine @Ends.val _ _ _ _ _ _ _ _ _ (.pointer (some ⟨w.heap.size, 0, none⟩)) rfl ?_
            refine @Ends.val _ _ _ _ _ _ _ _ _ (.pointer (some ⟨w.heap.size, 2, none⟩)) rfl ?_
            refine @Ends.val _ _ _ _ _ _ _ _ _ (.int .u64 a2) rfl ?_
            refine @Ends.val _ _ _ _ _ _ _ _ _ (.agg (u64s (pr s42)).toArray) rfl ?_
            refine @Ends.blk _ _ _ _ _ _ _ _ _ 99 (u64s [0, 0]) rfl ?_
            intro g21 hg21 bg21
            refine @Ends.one _ _ _ _ _ _ _ ?_
            simp only [Act.put, List.setIfInBounds_toArray, List.set_cons_zero, List.set_cons_succ]
            obtain ⟨G4, hG4⟩ : ∃ q, q = g21 := ⟨_, rfl⟩
            subst hG4
            refine last_store 99 (.tmp 14) (.tmp 132) rfl rfl G4 rfl 99 _ (u64s (pr s42)) rfl bg21 rfl sizeWide (u64s_one _) ?_
            intro y n1 n2 n3
            have q5 := hb.size
            have q10 := W4.out.2.1.lt
            have q11 := W4.out.2.2.1.lt
            have q12 := W4.out.2.2.2.1.lt
            have q13 := W4.out.2.2.2.2.1.lt
            have q14 := W4.out.2.2.2.2.2.1.lt
            have q15 := W4.out.2.2.2.2.2.2.1.lt
            have qz := W4.out.2.2.2.2.2.2.2
            have W5 : Hid (Below w.heap.size w y ∧ Blk y w.heap.size 27 (u64s [a0, a1, a2, a3, a4]) ∧ Blk y (w.heap.size + 1) 27 (u64s [0, 0, 0, 0, 0]) ∧ Blk y G0 99 (u64s (pr s02)) ∧ Blk y G1 99 (u64s (pr s12)) ∧ Blk y G2 99 (u64s (pr s22)) ∧ Blk y G3 99 (u64s (pr s32)) ∧ Blk y G4 99 (u64s (pr s42)) ∧ True ∧ w.heap.size + 2 ≤ G0 ∧ w.heap.size + 2 ≤ G1 ∧ w.heap.size + 2 ≤ G2 ∧ w.heap.size + 2 ≤ G3 ∧ w.heap.size + 2 ≤ G4 ∧ G0 < G1 ∧ G1 < G2 ∧ G2 < G3 ∧ G3 < G4) := ⟨below_kept (below_chain W4.out.1 hb (by omega)) n3 (by omega) (fun j hj => by omega), (W4.out.2.1.later hb q10).kept n3 (by omega), (W4.out.2.2.1.later hb q11).kept n3 (by omega), (W4.out.2.2.2.1.later hb q12).kept n3 (by omega), (W4.out.2.2.2.2.1.later hb q13).kept n3 (by omega), (W4.out.2.2.2.2.2.1.later hb q14).kept n3 (by omega), (W4.out.2.2.2.2.2.2.1.later hb q15).kept n3 (by omega), n1, trivial, by omega, by omega, by omega, by omega, by omega, by omega, by omega, by omega, by omega⟩
            obtain ⟨y5, rfl⟩ : ∃ q, q = y := ⟨_, rfl⟩
            clear W4 H4 n1 n2 n3 hb q5 qz hg21 bg21 q10 q11 q12 q13 q14 q15
            go_wp2_with (first | ((with_reducible show wpList _ _ _ (({ dst := some 133, op := _, type := _, pos := _, after := _, guard := _ } : Oper) :: _) _ _); refine wpList_load_blk rfl 99 (.tmp 10) rfl G0 rfl (u64s (pr s02)) _ W5.out.2.2.2.1 Try.underlying99 rfl sizeWide ?_) | ((with_reducible show wpList _ _ _ (({ dst := some 134, op := _, type := _, pos := _, after := _, guard := _ } : Oper) :: _) _ _); refine wpList_load_blk rfl 99 (.tmp 11) rfl G1 rfl (u64s (pr s12)) _ W5.out.2.2.2.2.1 Try.underlying99 rfl sizeWide ?_) | ((with_reducible show wpList _ _ _ (({ dst := some 135, op := _, type := _, pos := _, after := _, guard := _ } : Oper) :: _) _ _); refine wpList_load_blk rfl 99 (.tmp 12) rfl G2 rfl (u64s (pr s22)) _ W5.out.2.2.2.2.2.1 Try.underlying99 rfl sizeWide ?_) | ((with_reducible show wpList _ _ _ (({ dst := some 136, op := _, type := _, pos := _, after := _, guard := _ } : Oper) :: _) _ _); refine wpList_load_blk rfl 99 (.tmp 13) rfl G3 rfl (u64s (pr s32)) _ W5.out.2.2.2.2.2.2.1 Try.underlying99 rfl sizeWide ?_) | ((with_reducible show wpList _ _ _ (({ dst := some 137, op := _, type := _, pos := _, after := _, guard := _ } : Oper) :: _) _ _); refine wpList_load_blk rfl 99 (.tmp 14) rfl G4 rfl (u64s (pr s42)) _ W5.out.2.2.2.2.2.2.2.1 Try.underlying99 rfl sizeWide ?_) | (go_at_call 69; refine (HF.out.2 _ W5.out.2.1).mono ?_; rintro z y6 ⟨rfl, ⟨lr, q1, q2⟩, q3⟩; have HR : Hid (Blk y6 w.heap.size 27 (u64s lr) ∧ Blk y6 (w.heap.size + 1) 27 (u64s [0, 0, 0, 0, 0]) ∧ Below w.heap.size w y6 ∧ lr.length = 5 ∧ Fe lr (v5 s02 s12 s22 s32 s42 % PR)) := ⟨q1, W5.out.2.2.1.kept q3 (by omega), below_kept W5.out.1 q3 W5.out.1.size (fun j hj => by omega), q2.len, q2⟩; clear q1 q2 q3) | ((with_reducible show wpList _ _ _ (({ dst := some 139, op := _, type := _, pos := _, after := _, guard := _ } : Oper) :: _) _ _); refine wpList_load_blk rfl 27 (.tmp 1) rfl w.heap.size rfl (u64s lr) _ HR.out.1 Try.underlying27 rfl (by rw [u64s_length, HR.out.2.2.2.1]; exact sizeElem) ?_) | ((with_reducible show wpList _ _ _ (({ dst := none, op := _, type := _, pos := _, after := _, guard := _ } : Oper) :: _) _ _); refine wpList_store_blk rfl 27 27 _ _ rfl _ rfl _ (u64s lr) rfl HR.out.2.1 (by rw [u64s_length, HR.out.2.2.2.1]; rfl) (by rw [u64s_length, HR.out.2.2.2.1]; exact sizeElem) (u64s_one _) ?_; intro y7 b7 s7 k7))
            exact ret_blk rfl (w.heap.size + 1) (u64s lr) _ rfl b7 Try.underlying27 rfl (by rw [u64s_length, HR.out.2.2.2.1]; exact sizeElem) rfl ⟨lr, rfl, by have h := HR.out.2.2.2.2; rw [HF.out.1] at h; exact h, below_kept HR.out.2.2.1 k7 HR.out.2.2.1.size (fun j hj => by omega)⟩
end Go.Proofs.Ytnifolefhelmcaa
