/- Joined by program: what the theorem reaches. -/
import Derived.Laws.StructEq
import Derived.Lib.SmallJoins
import Derived.Test.YthlbjkfjkggdoaaGreatDoorJA
import Derived.Test.YthlbjkfjkggdoaaGreatDoorJC
import Derived.Test.YthlbjkfjkggdoaaGreatDoorJD
import Derived.Test.YthlbjkfjkggdoaaGreatDoorJE
namespace Go.Proofs.YthlbjkfjkggdoaaGreatDoor
open Go.RowKit Go.Joins
set_option linter.unusedVariables false
set_option linter.unusedSimpArgs false
set_option maxRecDepth 20000
set_option maxHeartbeats 4000000
theorem mul_any (l k : List Int) (x y : Int) (hl : Fe l x) (hk : Fe k y) (w : World) :
  Calls Tryz.prog 127 #[.agg (u64s l).toArray, .agg (u64s k).toArray] w fun e w' => ∃ r, e = .returned (.agg (u64s r).toArray) ∧ Fe r (x * y % PR) ∧ Below w.heap.size w w' := by
 obtain ⟨a0, a1, a2, a3, a4, rfl, ha0, ha1, ha2, ha3, ha4, hx⟩ := hl.parts
 obtain ⟨b0, b1, b2, b3, b4, rfl, hb0, hb1, hb2, hb3, hb4, hy⟩ := hk.parts
 have MR := mul_rows a0 a1 a2 a3 a4 b0 b1 b2 b3 b4 ha0 ha1 ha2 ha3 ha4 hb0 hb1 hb2 hb3 hb4
 rw [Int.mul_emod, hx, hy] at MR
 have HF : Hid (v5 (a0 * b0 + a1 * (b4 * 19) + a2 * (b3 * 19) + a3 * (b2 * 19) + a4 * (b1 * 19)) (a0 * b1 + a1 * b0 + a2 * (b4 * 19) + a3 * (b3 * 19) + a4 * (b2 * 19)) (a0 * b2 + a1 * b1 + a2 * b0 + a3 * (b4 * 19) + a4 * (b3 * 19)) (a0 * b3 + a1 * b2 + a2 * b1 + a3 * b0 + a4 * (b4 * 19)) (a0 * b4 + a1 * b3 + a2 * b2 + a3 * b1 + a4 * b0) % PR = x * y % PR ∧ (∀ y, Blk y w.heap.size 116 (u64s [a0, a1, a2, a3, a4]) → Calls Tryz.prog 170 #[.pointer (some ⟨w.heap.size, 0, none⟩), (.agg (u64s (pr (a0 * b0 + a1 * (b4 * 19) + a2 * (b3 * 19) + a3 * (b2 * 19) + a4 * (b1 * 19)))).toArray), (.agg (u64s (pr (a0 * b1 + a1 * b0 + a2 * (b4 * 19) + a3 * (b3 * 19) + a4 * (b2 * 19)))).toArray), (.agg (u64s (pr (a0 * b2 + a1 * b1 + a2 * b0 + a3 * (b4 * 19) + a4 * (b3 * 19)))).toArray), (.agg (u64s (pr (a0 * b3 + a1 * b2 + a2 * b1 + a3 * b0 + a4 * (b4 * 19)))).toArray), (.agg (u64s (pr (a0 * b4 + a1 * b3 + a2 * b2 + a3 * b1 + a4 * b0))).toArray)] y fun x w' => x = .returned (.tuple #[]) ∧ (∃ l, Blk w' w.heap.size 116 (u64s l) ∧ Fe l (v5 (a0 * b0 + a1 * (b4 * 19) + a2 * (b3 * 19) + a3 * (b2 * 19) + a4 * (b1 * 19)) (a0 * b1 + a1 * b0 + a2 * (b4 * 19) + a3 * (b3 * 19) + a4 * (b2 * 19)) (a0 * b2 + a1 * b1 + a2 * b0 + a3 * (b4 * 19) + a4 * (b3 * 19)) (a0 * b3 + a1 * b2 + a2 * b1 + a3 * b0 + a4 * (b4 * 19)) (a0 * b4 + a1 * b3 + a2 * b2 + a3 * b1 + a4 * b0) % PR)) ∧ Kept (fun k => k = w.heap.size) y w')) := ⟨MR.2.2.2.2.2, fun y hB => fold_any _ _ _ _ _ _ _ _ _ _ _ y hB MR.1 MR.2.1 MR.2.2.1 MR.2.2.2.1 MR.2.2.2.2.1⟩
 clear MR hx hy hl hk
 have w_b1x19 : Word (b1 * 19) := ⟨by have := hb1; unfold Lim at *; omega, by have := hb1; unfold Lim at *; omega⟩
 have w_b2x19 : Word (b2 * 19) := ⟨by have := hb2; unfold Lim at *; omega, by have := hb2; unfold Lim at *; omega⟩
 have w_b3x19 : Word (b3 * 19) := ⟨by have := hb3; unfold Lim at *; omega, by have := hb3; unfold Lim at *; omega⟩
 have w_b4x19 : Word (b4 * 19) := ⟨by have := hb4; unfold Lim at *; omega, by have := hb4; unfold Lim at *; omega⟩
 have w_a0 : Word a0 := ⟨by have := ha0; unfold Lim at *; omega, by have := ha0; unfold Lim at *; omega⟩
 have w_a1 : Word a1 := ⟨by have := ha1; unfold Lim at *; omega, by have := ha1; unfold Lim at *; omega⟩
 have w_a2 : Word a2 := ⟨by have := ha2; unfold Lim at *; omega, by have := ha2; unfold Lim at *; omega⟩
 have w_a3 : Word a3 := ⟨by have := ha3; unfold Lim at *; omega, by have := ha3; unfold Lim at *; omega⟩
 have w_a4 : Word a4 := ⟨by have := ha4; unfold Lim at *; omega, by have := ha4; unfold Lim at *; omega⟩
 have w_b0 : Word b0 := ⟨by have := hb0; unfold Lim at *; omega, by have := hb0; unfold Lim at *; omega⟩
 have w_b1 : Word b1 := ⟨by have := hb1; unfold Lim at *; omega, by have := hb1; unfold Lim at *; omega⟩
 have w_b2 : Word b2 := ⟨by have := hb2; unfold Lim at *; omega, by have := hb2; unfold Lim at *; omega⟩
 have w_b3 : Word b3 := ⟨by have := hb3; unfold Lim at *; omega, by have := hb3; unfold Lim at *; omega⟩
 have w_b4 : Word b4 := ⟨by have := hb4; unfold Lim at *; omega, by have := hb4; unfold Lim at *; omega⟩
 have p00 := mbN (x := a0) (y := b0) (X := 144115188075855872) (Y := 144115188075855872) (Z := 20769187434139310514121985316880384) (by decide) (by unfold Lim at *; omega) (by unfold Lim at *; omega)
 have p01 := mbN (x := a1) (y := (b4 * 19)) (X := 144115188075855872) (Y := 144115188075855872) (Z := 20769187434139310514121985316880384) (by decide) (by unfold Lim at *; omega) (by unfold Lim at *; omega)
 have p02 := mbN (x := a2) (y := (b3 * 19)) (X := 144115188075855872) (Y := 144115188075855872) (Z := 20769187434139310514121985316880384) (by decide) (by unfold Lim at *; omega) (by unfold Lim at *; omega)
 have p03 := mbN (x := a3) (y := (b2 * 19)) (X := 144115188075855872) (Y := 144115188075855872) (Z := 20769187434139310514121985316880384) (by decide) (by unfold Lim at *; omega) (by unfold Lim at *; omega)
 have p04 := mbN (x := a4) (y := (b1 * 19)) (X := 144115188075855872) (Y := 144115188075855872) (Z := 20769187434139310514121985316880384) (by decide) (by unfold Lim at *; omega) (by unfold Lim at *; omega)
 have p10 := mbN (x := a0) (y := b1) (X := 144115188075855872) (Y := 144115188075855872) (Z := 20769187434139310514121985316880384) (by decide) (by unfold Lim at *; omega) (by unfold Lim at *; omega)
 have p11 := mbN (x := a1) (y := b0) (X := 144115188075855872) (Y := 144115188075855872) (Z := 20769187434139310514121985316880384) (by decide) (by unfold Lim at *; omega) (by unfold Lim at *; omega)
 have p12 := mbN (x := a2) (y := (b4 * 19)) (X := 144115188075855872) (Y := 144115188075855872) (Z := 20769187434139310514121985316880384) (by decide) (by unfold Lim at *; omega) (by unfold Lim at *; omega)
 have p13 := mbN (x := a3) (y := (b3 * 19)) (X := 144115188075855872) (Y := 144115188075855872) (Z := 20769187434139310514121985316880384) (by decide) (by unfold Lim at *; omega) (by unfold Lim at *; omega)
 have p14 := mbN (x := a4) (y := (b2 * 19)) (X := 144115188075855872) (Y := 144115188075855872) (Z := 20769187434139310514121985316880384) (by decide) (by unfold Lim at *; omega) (by unfold Lim at *; omega)
 have p20 := mbN (x := a0) (y := b2) (X := 144115188075855872) (Y := 144115188075855872) (Z := 20769187434139310514121985316880384) (by decide) (by unfold Lim at *; omega) (by unfold Lim at *; omega)
 have p21 := mbN (x := a1) (y := b1) (X := 144115188075855872) (Y := 144115188075855872) (Z := 20769187434139310514121985316880384) (by decide) (by unfold Lim at *; omega) (by unfold Lim at *; omega)
 have p22 := mbN (x := a2) (y := b0) (X := 144115188075855872) (Y := 144115188075855872) (Z := 20769187434139310514121985316880384) (by decide) (by unfold Lim at *; omega) (by unfold Lim at *; omega)
 have p23 := mbN (x := a3) (y := (b4 * 19)) (X := 144115188075855872) (Y := 144115188075855872) (Z := 20769187434139310514121985316880384) (by decide) (by unfold Lim at *; omega) (by unfold Lim at *; omega)
 have p24 := mbN (x := a4) (y := (b3 * 19)) (X := 144115188075855872) (Y := 144115188075855872) (Z := 20769187434139310514121985316880384) (by decide) (by unfold Lim at *; omega) (by unfold Lim at *; omega)
 have p30 := mbN (x := a0) (y := b3) (X := 144115188075855872) (Y := 144115188075855872) (Z := 20769187434139310514121985316880384) (by decide) (by unfold Lim at *; omega) (by unfold Lim at *; omega)
 have p31 := mbN (x := a1) (y := b2) (X := 144115188075855872) (Y := 144115188075855872) (Z := 20769187434139310514121985316880384) (by decide) (by unfold Lim at *; omega) (by unfold Lim at *; omega)
 have p32 := mbN (x := a2) (y := b1) (X := 144115188075855872) (Y := 144115188075855872) (Z := 20769187434139310514121985316880384) (by decide) (by unfold Lim at *; omega) (by unfold Lim at *; omega)
 have p33 := mbN (x := a3) (y := b0) (X := 144115188075855872) (Y := 144115188075855872) (Z := 20769187434139310514121985316880384) (by decide) (by unfold Lim at *; omega) (by unfold Lim at *; omega)
 have p34 := mbN (x := a4) (y := (b4 * 19)) (X := 144115188075855872) (Y := 144115188075855872) (Z := 20769187434139310514121985316880384) (by decide) (by unfold Lim at *; omega) (by unfold Lim at *; omega)
 have p40 := mbN (x := a0) (y := b4) (X := 144115188075855872) (Y := 144115188075855872) (Z := 20769187434139310514121985316880384) (by decide) (by unfold Lim at *; omega) (by unfold Lim at *; omega)
 have p41 := mbN (x := a1) (y := b3) (X := 144115188075855872) (Y := 144115188075855872) (Z := 20769187434139310514121985316880384) (by decide) (by unfold Lim at *; omega) (by unfold Lim at *; omega)
 have p42 := mbN (x := a2) (y := b2) (X := 144115188075855872) (Y := 144115188075855872) (Z := 20769187434139310514121985316880384) (by decide) (by unfold Lim at *; omega) (by unfold Lim at *; omega)
 have p43 := mbN (x := a3) (y := b1) (X := 144115188075855872) (Y := 144115188075855872) (Z := 20769187434139310514121985316880384) (by decide) (by unfold Lim at *; omega) (by unfold Lim at *; omega)
 have p44 := mbN (x := a4) (y := b0) (X := 144115188075855872) (Y := 144115188075855872) (Z := 20769187434139310514121985316880384) (by decide) (by unfold Lim at *; omega) (by unfold Lim at *; omega)
 have H0 : Hid ((∀ w, Calls Tryz.prog 168 #[(.int .u64 a0), (.int .u64 b0)] w fun e w' => e = .returned (.agg (u64s (pr (a0 * b0))).toArray) ∧ Below w.heap.size w w') ∧ (∀ w, Calls Tryz.prog 169 #[(.agg (u64s (pr (a0 * b0))).toArray), (.int .u64 a1), (.int .u64 (b4 * 19))] w fun e w' => e = .returned (.agg (u64s (pr (a0 * b0 + a1 * (b4 * 19)))).toArray) ∧ Below w.heap.size w w') ∧ (∀ w, Calls Tryz.prog 169 #[(.agg (u64s (pr (a0 * b0 + a1 * (b4 * 19)))).toArray), (.int .u64 a2), (.int .u64 (b3 * 19))] w fun e w' => e = .returned (.agg (u64s (pr (a0 * b0 + a1 * (b4 * 19) + a2 * (b3 * 19)))).toArray) ∧ Below w.heap.size w w') ∧ (∀ w, Calls Tryz.prog 169 #[(.agg (u64s (pr (a0 * b0 + a1 * (b4 * 19) + a2 * (b3 * 19)))).toArray), (.int .u64 a3), (.int .u64 (b2 * 19))] w fun e w' => e = .returned (.agg (u64s (pr (a0 * b0 + a1 * (b4 * 19) + a2 * (b3 * 19) + a3 * (b2 * 19)))).toArray) ∧ Below w.heap.size w w') ∧ (∀ w, Calls Tryz.prog 169 #[(.agg (u64s (pr (a0 * b0 + a1 * (b4 * 19) + a2 * (b3 * 19) + a3 * (b2 * 19)))).toArray), (.int .u64 a4), (.int .u64 (b1 * 19))] w fun e w' => e = .returned (.agg (u64s (pr (a0 * b0 + a1 * (b4 * 19) + a2 * (b3 * 19) + a3 * (b2 * 19) + a4 * (b1 * 19)))).toArray) ∧ Below w.heap.size w w')) := ⟨fproduct_any _ _ w_a0 w_b0, fplus_any _ _ _ w_a1 w_b4x19 (by omega) (by omega), fplus_any _ _ _ w_a2 w_b3x19 (by omega) (by omega), fplus_any _ _ _ w_a3 w_b2x19 (by omega) (by omega), fplus_any _ _ _ w_a4 w_b1x19 (by omega) (by omega)⟩
 have H1 : Hid ((∀ w, Calls Tryz.prog 168 #[(.int .u64 a0), (.int .u64 b1)] w fun e w' => e = .returned (.agg (u64s (pr (a0 * b1))).toArray) ∧ Below w.heap.size w w') ∧ (∀ w, Calls Tryz.prog 169 #[(.agg (u64s (pr (a0 * b1))).toArray), (.int .u64 a1), (.int .u64 b0)] w fun e w' => e = .returned (.agg (u64s (pr (a0 * b1 + a1 * b0))).toArray) ∧ Below w.heap.size w w') ∧ (∀ w, Calls Tryz.prog 169 #[(.agg (u64s (pr (a0 * b1 + a1 * b0))).toArray), (.int .u64 a2), (.int .u64 (b4 * 19))] w fun e w' => e = .returned (.agg (u64s (pr (a0 * b1 + a1 * b0 + a2 * (b4 * 19)))).toArray) ∧ Below w.heap.size w w') ∧ (∀ w, Calls Tryz.prog 169 #[(.agg (u64s (pr (a0 * b1 + a1 * b0 + a2 * (b4 * 19)))).toArray), (.int .u64 a3), (.int .u64 (b3 * 19))] w fun e w' => e = .returned (.agg (u64s (pr (a0 * b1 + a1 * b0 + a2 * (b4 * 19) + a3 * (b3 * 19)))).toArray) ∧ Below w.heap.size w w') ∧ (∀ w, Calls Tryz.prog 169 #[(.agg (u64s (pr (a0 * b1 + a1 * b0 + a2 * (b4 * 19) + a3 * (b3 * 19)))).toArray), (.int .u64 a4), (.int .u64 (b2 * 19))] w fun e w' => e = .returned (.agg (u64s (pr (a0 * b1 + a1 * b0 + a2 * (b4 * 19) + a3 * (b3 * 19) + a4 * (b2 * 19)))).toArray) ∧ Below w.heap.size w w')) := ⟨fproduct_any _ _ w_a0 w_b1, fplus_any _ _ _ w_a1 w_b0 (by omega) (by omega), fplus_any _ _ _ w_a2 w_b4x19 (by omega) (by omega), fplus_any _ _ _ w_a3 w_b3x19 (by omega) (by omega), fplus_any _ _ _ w_a4 w_b2x19 (by omega) (by omega)⟩
 have H2 : Hid ((∀ w, Calls Tryz.prog 168 #[(.int .u64 a0), (.int .u64 b2)] w fun e w' => e = .returned (.agg (u64s (pr (a0 * b2))).toArray) ∧ Below w.heap.size w w') ∧ (∀ w, Calls Tryz.prog 169 #[(.agg (u64s (pr (a0 * b2))).toArray), (.int .u64 a1), (.int .u64 b1)] w fun e w' => e = .returned (.agg (u64s (pr (a0 * b2 + a1 * b1))).toArray) ∧ Below w.heap.size w w') ∧ (∀ w, Calls Tryz.prog 169 #[(.agg (u64s (pr (a0 * b2 + a1 * b1))).toArray), (.int .u64 a2), (.int .u64 b0)] w fun e w' => e = .returned (.agg (u64s (pr (a0 * b2 + a1 * b1 + a2 * b0))).toArray) ∧ Below w.heap.size w w') ∧ (∀ w, Calls Tryz.prog 169 #[(.agg (u64s (pr (a0 * b2 + a1 * b1 + a2 * b0))).toArray), (.int .u64 a3), (.int .u64 (b4 * 19))] w fun e w' => e = .returned (.agg (u64s (pr (a0 * b2 + a1 * b1 + a2 * b0 + a3 * (b4 * 19)))).toArray) ∧ Below w.heap.size w w') ∧ (∀ w, Calls Tryz.prog 169 #[(.agg (u64s (pr (a0 * b2 + a1 * b1 + a2 * b0 + a3 * (b4 * 19)))).toArray), (.int .u64 a4), (.int .u64 (b3 * 19))] w fun e w' => e = .returned (.agg (u64s (pr (a0 * b2 + a1 * b1 + a2 * b0 + a3 * (b4 * 19) + a4 * (b3 * 19)))).toArray) ∧ Below w.heap.size w w')) := ⟨fproduct_any _ _ w_a0 w_b2, fplus_any _ _ _ w_a1 w_b1 (by omega) (by omega), fplus_any _ _ _ w_a2 w_b0 (by omega) (by omega), fplus_any _ _ _ w_a3 w_b4x19 (by omega) (by omega), fplus_any _ _ _ w_a4 w_b3x19 (by omega) (by omega)⟩
 have H3 : Hid ((∀ w, Calls Tryz.prog 168 #[(.int .u64 a0), (.int .u64 b3)] w fun e w' => e = .returned (.agg (u64s (pr (a0 * b3))).toArray) ∧ Below w.heap.size w w') ∧ (∀ w, Calls Tryz.prog 169 #[(.agg (u64s (pr (a0 * b3))).toArray), (.int .u64 a1), (.int .u64 b2)] w fun e w' => e = .returned (.agg (u64s (pr (a0 * b3 + a1 * b2))).toArray) ∧ Below w.heap.size w w') ∧ (∀ w, Calls Tryz.prog 169 #[(.agg (u64s (pr (a0 * b3 + a1 * b2))).toArray), (.int .u64 a2), (.int .u64 b1)] w fun e w' => e = .returned (.agg (u64s (pr (a0 * b3 + a1 * b2 + a2 * b1))).toArray) ∧ Below w.heap.size w w') ∧ (∀ w, Calls Tryz.prog 169 #[(.agg (u64s (pr (a0 * b3 + a1 * b2 + a2 * b1))).toArray), (.int .u64 a3), (.int .u64 b0)] w fun e w' => e = .returned (.agg (u64s (pr (a0 * b3 + a1 * b2 + a2 * b1 + a3 * b0))).toArray) ∧ Below w.heap.size w w') ∧ (∀ w, Calls Tryz.prog 169 #[(.agg (u64s (pr (a0 * b3 + a1 * b2 + a2 * b1 + a3 * b0))).toArray), (.int .u64 a4), (.int .u64 (b4 * 19))] w fun e w' => e = .returned (.agg (u64s (pr (a0 * b3 + a1 * b2 + a2 * b1 + a3 * b0 + a4 * (b4 * 19)))).toArray) ∧ Below w.heap.size w w')) := ⟨fproduct_any _ _ w_a0 w_b3, fplus_any _ _ _ w_a1 w_b2 (by omega) (by omega), fplus_any _ _ _ w_a2 w_b1 (by omega) (by omega), fplus_any _ _ _ w_a3 w_b0 (by omega) (by omega), fplus_any _ _ _ w_a4 w_b4x19 (by omega) (by omega)⟩
 have H4 : Hid ((∀ w, Calls Tryz.prog 168 #[(.int .u64 a0), (.int .u64 b4)] w fun e w' => e = .returned (.agg (u64s (pr (a0 * b4))).toArray) ∧ Below w.heap.size w w') ∧ (∀ w, Calls Tryz.prog 169 #[(.agg (u64s (pr (a0 * b4))).toArray), (.int .u64 a1), (.int .u64 b3)] w fun e w' => e = .returned (.agg (u64s (pr (a0 * b4 + a1 * b3))).toArray) ∧ Below w.heap.size w w') ∧ (∀ w, Calls Tryz.prog 169 #[(.agg (u64s (pr (a0 * b4 + a1 * b3))).toArray), (.int .u64 a2), (.int .u64 b2)] w fun e w' => e = .returned (.agg (u64s (pr (a0 * b4 + a1 * b3 + a2 * b2))).toArray) ∧ Below w.heap.size w w') ∧ (∀ w, Calls Tryz.prog 169 #[(.agg (u64s (pr (a0 * b4 + a1 * b3 + a2 * b2))).toArray), (.int .u64 a3), (.int .u64 b1)] w fun e w' => e = .returned (.agg (u64s (pr (a0 * b4 + a1 * b3 + a2 * b2 + a3 * b1))).toArray) ∧ Below w.heap.size w w') ∧ (∀ w, Calls Tryz.prog 169 #[(.agg (u64s (pr (a0 * b4 + a1 * b3 + a2 * b2 + a3 * b1))).toArray), (.int .u64 a4), (.int .u64 b0)] w fun e w' => e = .returned (.agg (u64s (pr (a0 * b4 + a1 * b3 + a2 * b2 + a3 * b1 + a4 * b0))).toArray) ∧ Below w.heap.size w w')) := ⟨fproduct_any _ _ w_a0 w_b4, fplus_any _ _ _ w_a1 w_b3 (by omega) (by omega), fplus_any _ _ _ w_a2 w_b2 (by omega) (by omega), fplus_any _ _ _ w_a3 w_b1 (by omega) (by omega), fplus_any _ _ _ w_a4 w_b0 (by omega) (by omega)⟩
 have u_w_b1x19 : IntKind.u64.wrap (b1 * 19) = (b1 * 19) := by rw [IntKind.wrap_u64]; have := w_b1x19; unfold Word at this; omega
 have u_w_b2x19 : IntKind.u64.wrap (b2 * 19) = (b2 * 19) := by rw [IntKind.wrap_u64]; have := w_b2x19; unfold Word at this; omega
 have u_w_b3x19 : IntKind.u64.wrap (b3 * 19) = (b3 * 19) := by rw [IntKind.wrap_u64]; have := w_b3x19; unfold Word at this; omega
 have u_w_b4x19 : IntKind.u64.wrap (b4 * 19) = (b4 * 19) := by rw [IntKind.wrap_u64]; have := w_b4x19; unfold Word at this; omega
 generalize a0 * b0 = s00 at H0 HF
 generalize s00 + a1 * (b4 * 19) = s01 at H0 HF
 generalize s01 + a2 * (b3 * 19) = s02 at H0 HF
 generalize s02 + a3 * (b2 * 19) = s03 at H0 HF
 generalize s03 + a4 * (b1 * 19) = s04 at H0 HF
 generalize a0 * b1 = s10 at H1 HF
 generalize s10 + a1 * b0 = s11 at H1 HF
 generalize s11 + a2 * (b4 * 19) = s12 at H1 HF
 generalize s12 + a3 * (b3 * 19) = s13 at H1 HF
 generalize s13 + a4 * (b2 * 19) = s14 at H1 HF
 generalize a0 * b2 = s20 at H2 HF
 generalize s20 + a1 * b1 = s21 at H2 HF
 generalize s21 + a2 * b0 = s22 at H2 HF
 generalize s22 + a3 * (b4 * 19) = s23 at H2 HF
 generalize s23 + a4 * (b3 * 19) = s24 at H2 HF
 generalize a0 * b3 = s30 at H3 HF
 generalize s30 + a1 * b2 = s31 at H3 HF
 generalize s31 + a2 * b1 = s32 at H3 HF
 generalize s32 + a3 * b0 = s33 at H3 HF
 generalize s33 + a4 * (b4 * 19) = s34 at H3 HF
 generalize a0 * b4 = s40 at H4 HF
 generalize s40 + a1 * b3 = s41 at H4 HF
 generalize s41 + a2 * b2 = s42 at H4 HF
 generalize s42 + a3 * b1 = s43 at H4 HF
 generalize s43 + a4 * b0 = s44 at H4 HF
 clear ha0 ha1 ha2 ha3 ha4 hb0 hb1 hb2 hb3 hb4 p00 p01 p02 p03 p04 p10 p11 p12 p13 p14 p20 p21 p22 p23 p24 p30 p31 p32 p33 p34 p40 p41 p42 p43 p44 w_a0 w_a1 w_a2 w_a3 w_a4 w_b0 w_b1 w_b1x19 w_b2 w_b2x19 w_b3 w_b3x19 w_b4 w_b4x19
 go_enter Tryz.func127, Tryz.ntmps127
 go_wp2_with (first | (refine wpList_box_new rfl 116 (.tmp 0) rfl (u64s [a0, a1, a2, a3, a4]) rfl ?_; intro x1 z1 s1 l1) | (refine wpList_box_new rfl 116 (.tmp 1) rfl (u64s [b0, b1, b2, b3, b4]) rfl ?_; intro x2 z2 s2 l2) | (refine wpList_alloc_new rfl 116 rfl 5 _ zeroElem ?_; intro x3 z3 s3 l3))
 have e2 : x1.heap.size = w.heap.size + 1 := s1
 have e3 : x2.heap.size = w.heap.size + 1 + 1 := by omega
 rw [e2] at z2
 rw [e3] at z3
 have B2 := z2.later l3 (by omega)
 have c1 : x3.cell? ⟨w.heap.size + 1, 1, none⟩ = some (.int .u64 b1) := B2.cell 1
 have c2 : x3.cell? ⟨w.heap.size + 1, 2, none⟩ = some (.int .u64 b2) := B2.cell 2
 have c3 : x3.cell? ⟨w.heap.size + 1, 3, none⟩ = some (.int .u64 b3) := B2.cell 3
 have c4 : x3.cell? ⟨w.heap.size + 1, 4, none⟩ = some (.int .u64 b4) := B2.cell 4
 have WW : Hid (Below w.heap.size w x3 ∧ Blk x3 w.heap.size 116 (u64s [a0, a1, a2, a3, a4]) ∧ Blk x3 (w.heap.size + 1) 116 (u64s [b0, b1, b2, b3, b4]) ∧ Blk x3 (w.heap.size + 1 + 1) 116 (u64s [0, 0, 0, 0, 0])) := ⟨below_chain (below_chain l1 l2 (by omega)) l3 (by omega), (z1.later l2 (by omega)).later l3 (by omega), B2, z3⟩
 clear z1 s1 l1 z2 s2 l2 z3 s3 l3 e2 e3 B2
 try go_wp2_with fail
 go_quiet (fail)
 go_wp2_with fail
 have W0 : Hid (Below w.heap.size w (x3.drewN nq) ∧ Blk (x3.drewN nq) w.heap.size 116 (u64s [a0, a1, a2, a3, a4]) ∧ Blk (x3.drewN nq) (w.heap.size + 1) 116 (u64s [b0, b1, b2, b3, b4]) ∧ Blk (x3.drewN nq) (w.heap.size + 1 + 1) 116 (u64s [0, 0, 0, 0, 0]) ∧ True) := ⟨below_dn WW.out.1 nq, WW.out.2.1.drewN nq, WW.out.2.2.1.drewN nq, WW.out.2.2.2.drewN nq, trivial⟩
 obtain ⟨y0, hy0⟩ : ∃ q, x3.drewN nq = q := ⟨_, rfl⟩
 rw [hy0] at W0 ⊢
 clear WW c1 c2 c3 c4 hy0
 refine region_invT ((.val (.pointer (some ⟨w.heap.size, 0, none⟩))) :: (.val (.pointer (some ⟨w.heap.size, 0, none⟩))) :: (.val (.pointer (some ⟨w.heap.size, 0, none⟩))) :: (.val (.int .u64 a0)) :: (.val (.pointer (some ⟨(w.heap.size + 1), 0, none⟩))) :: (.val (.pointer (some ⟨(w.heap.size + 1), 0, none⟩))) :: (.val (.pointer (some ⟨(w.heap.size + 1), 0, none⟩))) :: (.val (.int .u64 b0)) :: (.val (.agg (u64s (pr s00)).toArray)) :: (.val (.pointer (some ⟨w.heap.size, 0, none⟩))) :: (.val (.pointer (some ⟨w.heap.size, 0, none⟩))) :: (.val (.pointer (some ⟨w.heap.size, 1, none⟩))) :: (.val (.int .u64 a1)) :: (.val (.int .u64 (b4 * 19))) :: (.val (.agg (u64s (pr s01)).toArray)) :: (.val (.pointer (some ⟨w.heap.size, 0, none⟩))) :: (.val (.pointer (some ⟨w.heap.size, 0, none⟩))) :: (.val (.pointer (some ⟨w.heap.size, 2, none⟩))) :: (.val (.int .u64 a2)) :: (.val (.int .u64 (b3 * 19))) :: (.val (.agg (u64s (pr s02)).toArray)) :: (.val (.pointer (some ⟨w.heap.size, 0, none⟩))) :: (.val (.pointer (some ⟨w.heap.size, 0, none⟩))) :: (.val (.pointer (some ⟨w.heap.size, 3, none⟩))) :: (.val (.int .u64 a3)) :: (.val (.int .u64 (b2 * 19))) :: (.val (.agg (u64s (pr s03)).toArray)) :: (.val (.pointer (some ⟨w.heap.size, 0, none⟩))) :: (.val (.pointer (some ⟨w.heap.size, 0, none⟩))) :: (.val (.pointer (some ⟨w.heap.size, 4, none⟩))) :: (.val (.int .u64 a4)) :: (.val (.int .u64 (b1 * 19))) :: (.val (.agg (u64s (pr s04)).toArray)) :: (.blk 206 (u64s [0, 0])) :: []) (by kernel_rfl) (by kernel_rfl) (by kernel_rfl) ?_ ?_
 ·refine Steps'.cons ?_ (Steps'.cons ?_ (Steps'.cons ?_ (Steps'.cons ?_ (Steps'.cons ?_ (Steps'.cons ?_ (Steps'.cons ?_ (Steps'.cons ?_ (Steps'.cons ?_ (Steps'.cons ?_ (Steps'.cons ?_ (Steps'.cons ?_ (Steps'.cons ?_ (Steps'.cons ?_ (Steps'.cons ?_ (Steps'.cons ?_ (Steps'.cons ?_ (Steps'.cons ?_ (Steps'.cons ?_ (Steps'.cons ?_ (Steps'.cons ?_ (Steps'.cons ?_ (Steps'.cons ?_ (Steps'.cons ?_ (Steps'.cons ?_ (Steps'.cons ?_ (Steps'.cons ?_ (Steps'.cons ?_ (Steps'.cons ?_ (Steps'.cons ?_ (Steps'.cons ?_ (Steps'.cons ?_ (Steps'.cons ?_ (Steps'.cons ?_ (Steps'.one _ _ _ _ _ _ _))))))))))))))))))))))))))))))))))
  ·intro ax wx hb hs hd
   have h5 : ax.tmps.getD 5 undef = (.pointer (some ⟨w.heap.size, 0, none⟩)) := hs 5 (by kernel_rfl)
   exact Does.value _ (by clear hs hd; go_simp) rfl
  ·intro ax wx hb hs hd
   have h38 := vOf (hd 0 38 rfl (by kernel_rfl) (by decide))
   exact Does.value _ (by clear hs hd; go_simp) rfl
  ·intro ax wx hb hs hd
   have h39 := vOf (hd 1 39 rfl (by kernel_rfl) (by decide))
   exact Does.value _ (by clear hs hd; go_simp) rfl
  ·intro ax wx hb hs hd
   have h40 := vOf (hd 2 40 rfl (by kernel_rfl) (by decide))
   have cx : wx.cell? ⟨w.heap.size, 0, none⟩ = some (.int .u64 a0) := (Blk.later W0.out.2.1 hb (Blk.lt W0.out.2.1)).cell 0
   exact Does.value _ (by clear hs hd; go_simp) rfl
  ·intro ax wx hb hs hd
   have h6 : ax.tmps.getD 6 undef = (.pointer (some ⟨(w.heap.size + 1), 0, none⟩)) := hs 6 (by kernel_rfl)
   exact Does.value _ (by clear hs hd; go_simp) rfl
  ·intro ax wx hb hs hd
   have h42 := vOf (hd 4 42 rfl (by kernel_rfl) (by decide))
   exact Does.value _ (by clear hs hd; go_simp) rfl
  ·intro ax wx hb hs hd
   have h43 := vOf (hd 5 43 rfl (by kernel_rfl) (by decide))
   exact Does.value _ (by clear hs hd; go_simp) rfl
  ·intro ax wx hb hs hd
   have h44 := vOf (hd 6 44 rfl (by kernel_rfl) (by decide))
   have cx : wx.cell? ⟨(w.heap.size + 1), 0, none⟩ = some (.int .u64 b0) := (Blk.later W0.out.2.2.1 hb (Blk.lt W0.out.2.2.1)).cell 0
   exact Does.value _ (by clear hs hd; go_simp) rfl
  ·intro ax wx hb hs hd
   have h41 := vOf (hd 3 41 rfl (by kernel_rfl) (by decide))
   have h45 := vOf (hd 7 45 rfl (by kernel_rfl) (by decide))
   refine Does.call 168 #[(.int .u64 a0), (.int .u64 b0)] (by clear hs hd; go_simp) ?_
   refine (H0.out.1 _).mono ?_
   rintro z w' ⟨rfl, l⟩
   exact ⟨_, rfl, rfl, l⟩
  ·intro ax wx hb hs hd
   have h5 : ax.tmps.getD 5 undef = (.pointer (some ⟨w.heap.size, 0, none⟩)) := hs 5 (by kernel_rfl)
   exact Does.value _ (by clear hs hd; go_simp) rfl
  ·intro ax wx hb hs hd
   have h47 := vOf (hd 9 47 rfl (by kernel_rfl) (by decide))
   exact Does.value _ (by clear hs hd; go_simp) rfl
  ·intro ax wx hb hs hd
   have h48 := vOf (hd 10 48 rfl (by kernel_rfl) (by decide))
   exact Does.value _ (by clear hs hd; go_simp) rfl
  ·intro ax wx hb hs hd
   have h49 := vOf (hd 11 49 rfl (by kernel_rfl) (by decide))
   have cx : wx.cell? ⟨w.heap.size, 1, none⟩ = some (.int .u64 a1) := (Blk.later W0.out.2.1 hb (Blk.lt W0.out.2.1)).cell 1
   exact Does.value _ (by clear hs hd; go_simp) rfl
  ·intro ax wx hb hs hd
   have h10 : ax.tmps.getD 10 undef = (.int .u64 (b4 * 19)) := hs 10 (by kernel_rfl)
   exact Does.value _ (by clear hs hd; go_simp) rfl
  ·intro ax wx hb hs hd
   have h46 := vOf (hd 8 46 rfl (by kernel_rfl) (by decide))
   have h50 := vOf (hd 12 50 rfl (by kernel_rfl) (by decide))
   have h51 := vOf (hd 13 51 rfl (by kernel_rfl) (by decide))
   refine Does.call 169 #[(.agg (u64s (pr s00)).toArray), (.int .u64 a1), (.int .u64 (b4 * 19))] (by clear hs hd; go_simp) ?_
   refine (H0.out.2.1 _).mono ?_
   rintro z w' ⟨rfl, l⟩
   exact ⟨_, rfl, rfl, l⟩
  ·intro ax wx hb hs hd
   have h5 : ax.tmps.getD 5 undef = (.pointer (some ⟨w.heap.size, 0, none⟩)) := hs 5 (by kernel_rfl)
   exact Does.value _ (by clear hs hd; go_simp) rfl
  ·intro ax wx hb hs hd
   have h53 := vOf (hd 15 53 rfl (by kernel_rfl) (by decide))
   exact Does.value _ (by clear hs hd; go_simp) rfl
  ·intro ax wx hb hs hd
   have h54 := vOf (hd 16 54 rfl (by kernel_rfl) (by decide))
   exact Does.value _ (by clear hs hd; go_simp) rfl
  ·intro ax wx hb hs hd
   have h55 := vOf (hd 17 55 rfl (by kernel_rfl) (by decide))
   have cx : wx.cell? ⟨w.heap.size, 2, none⟩ = some (.int .u64 a2) := (Blk.later W0.out.2.1 hb (Blk.lt W0.out.2.1)).cell 2
   exact Does.value _ (by clear hs hd; go_simp) rfl
  ·intro ax wx hb hs hd
   have h9 : ax.tmps.getD 9 undef = (.int .u64 (b3 * 19)) := hs 9 (by kernel_rfl)
   exact Does.value _ (by clear hs hd; go_simp) rfl
  ·intro ax wx hb hs hd
   have h52 := vOf (hd 14 52 rfl (by kernel_rfl) (by decide))
   have h56 := vOf (hd 18 56 rfl (by kernel_rfl) (by decide))
   have h57 := vOf (hd 19 57 rfl (by kernel_rfl) (by decide))
   refine Does.call 169 #[(.agg (u64s (pr s01)).toArray), (.int .u64 a2), (.int .u64 (b3 * 19))] (by clear hs hd; go_simp) ?_
   refine (H0.out.2.2.1 _).mono ?_
   rintro z w' ⟨rfl, l⟩
   exact ⟨_, rfl, rfl, l⟩
  ·intro ax wx hb hs hd
   have h5 : ax.tmps.getD 5 undef = (.pointer (some ⟨w.heap.size, 0, none⟩)) := hs 5 (by kernel_rfl)
   exact Does.value _ (by clear hs hd; go_simp) rfl
  ·intro ax wx hb hs hd
   have h59 := vOf (hd 21 59 rfl (by kernel_rfl) (by decide))
   exact Does.value _ (by clear hs hd; go_simp) rfl
  ·intro ax wx hb hs hd
   have h60 := vOf (hd 22 60 rfl (by kernel_rfl) (by decide))
   exact Does.value _ (by clear hs hd; go_simp) rfl
  ·intro ax wx hb hs hd
   have h61 := vOf (hd 23 61 rfl (by kernel_rfl) (by decide))
   have cx : wx.cell? ⟨w.heap.size, 3, none⟩ = some (.int .u64 a3) := (Blk.later W0.out.2.1 hb (Blk.lt W0.out.2.1)).cell 3
   exact Does.value _ (by clear hs hd; go_simp) rfl
  ·intro ax wx hb hs hd
   have h8 : ax.tmps.getD 8 undef = (.int .u64 (b2 * 19)) := hs 8 (by kernel_rfl)
   exact Does.value _ (by clear hs hd; go_simp) rfl
  ·intro ax wx hb hs hd
   have h58 := vOf (hd 20 58 rfl (by kernel_rfl) (by decide))
   have h62 := vOf (hd 24 62 rfl (by kernel_rfl) (by decide))
   have h63 := vOf (hd 25 63 rfl (by kernel_rfl) (by decide))
   refine Does.call 169 #[(.agg (u64s (pr s02)).toArray), (.int .u64 a3), (.int .u64 (b2 * 19))] (by clear hs hd; go_simp) ?_
   refine (H0.out.2.2.2.1 _).mono ?_
   rintro z w' ⟨rfl, l⟩
   exact ⟨_, rfl, rfl, l⟩
  ·intro ax wx hb hs hd
   have h5 : ax.tmps.getD 5 undef = (.pointer (some ⟨w.heap.size, 0, none⟩)) := hs 5 (by kernel_rfl)
   exact Does.value _ (by clear hs hd; go_simp) rfl
  ·intro ax wx hb hs hd
   have h65 := vOf (hd 27 65 rfl (by kernel_rfl) (by decide))
   exact Does.value _ (by clear hs hd; go_simp) rfl
  ·intro ax wx hb hs hd
   have h66 := vOf (hd 28 66 rfl (by kernel_rfl) (by decide))
   exact Does.value _ (by clear hs hd; go_simp) rfl
  ·intro ax wx hb hs hd
   have h67 := vOf (hd 29 67 rfl (by kernel_rfl) (by decide))
   have cx : wx.cell? ⟨w.heap.size, 4, none⟩ = some (.int .u64 a4) := (Blk.later W0.out.2.1 hb (Blk.lt W0.out.2.1)).cell 4
   exact Does.value _ (by clear hs hd; go_simp) rfl
  ·intro ax wx hb hs hd
   have h7 : ax.tmps.getD 7 undef = (.int .u64 (b1 * 19)) := hs 7 (by kernel_rfl)
   exact Does.value _ (by clear hs hd; go_simp) rfl
  ·intro ax wx hb hs hd
   have h64 := vOf (hd 26 64 rfl (by kernel_rfl) (by decide))
   have h68 := vOf (hd 30 68 rfl (by kernel_rfl) (by decide))
   have h69 := vOf (hd 31 69 rfl (by kernel_rfl) (by decide))
   refine Does.call 169 #[(.agg (u64s (pr s03)).toArray), (.int .u64 a4), (.int .u64 (b1 * 19))] (by clear hs hd; go_simp) ?_
   refine (H0.out.2.2.2.2 _).mono ?_
   rintro z w' ⟨rfl, l⟩
   exact ⟨_, rfl, rfl, l⟩
  ·intro ax wx hb hs hd
   exact Does.alloc 206 rfl 2 _ zeroWide hb.size
 ·intro wx hb
  iterate 33 refine @Ends.val _ _ _ _ _ _ _ _ _ _ rfl ?_
  refine @Ends.blk _ _ _ _ _ _ _ _ _ 206 (u64s [0, 0]) rfl ?_
  intro g33 hg33 bg33
  refine @Ends.one _ _ _ _ _ _ _ ?_
  simp only [Act.put, sA, sB, sC]
  obtain ⟨G0, hG0⟩ : ∃ q, q = g33 := ⟨_, rfl⟩
  subst hG0
  refine last_store 206 (.tmp 11) (.tmp 70) rfl rfl G0 rfl 206 _ (u64s (pr s04)) rfl bg33 rfl sizeWide (u64s_one _) ?_
  intro y n1 n2 n3
  have q5 := hb.size
  have q10 := W0.out.2.1.lt
  have q11 := W0.out.2.2.1.lt
  have q12 := W0.out.2.2.2.1.lt
  have qz := W0.out.2.2.2.2
  have W1 : Hid (Below w.heap.size w y ∧ Blk y w.heap.size 116 (u64s [a0, a1, a2, a3, a4]) ∧ Blk y (w.heap.size + 1) 116 (u64s [b0, b1, b2, b3, b4]) ∧ Blk y (w.heap.size + 1 + 1) 116 (u64s [0, 0, 0, 0, 0]) ∧ Blk y G0 206 (u64s (pr s04)) ∧ True ∧ w.heap.size + 3 ≤ G0) := ⟨below_kept (below_chain W0.out.1 hb (by omega)) n3 (by omega) (fun j hj => by omega), (W0.out.2.1.later hb q10).kept n3 (by omega), (W0.out.2.2.1.later hb q11).kept n3 (by omega), (W0.out.2.2.2.1.later hb q12).kept n3 (by omega), n1, trivial, by omega⟩
  obtain ⟨y1, rfl⟩ : ∃ q, q = y := ⟨_, rfl⟩
  clear W0 H0 n1 n2 n3 hb q5 qz hg33 bg33 q10 q11 q12
  go_wp2_with fail
  refine region_invT ((.val (.pointer (some ⟨w.heap.size, 0, none⟩))) :: (.val (.pointer (some ⟨w.heap.size, 0, none⟩))) :: (.val (.pointer (some ⟨w.heap.size, 0, none⟩))) :: (.val (.int .u64 a0)) :: (.val (.pointer (some ⟨(w.heap.size + 1), 0, none⟩))) :: (.val (.pointer (some ⟨(w.heap.size + 1), 0, none⟩))) :: (.val (.pointer (some ⟨(w.heap.size + 1), 1, none⟩))) :: (.val (.int .u64 b1)) :: (.val (.agg (u64s (pr s10)).toArray)) :: (.val (.pointer (some ⟨w.heap.size, 0, none⟩))) :: (.val (.pointer (some ⟨w.heap.size, 0, none⟩))) :: (.val (.pointer (some ⟨w.heap.size, 1, none⟩))) :: (.val (.int .u64 a1)) :: (.val (.pointer (some ⟨(w.heap.size + 1), 0, none⟩))) :: (.val (.pointer (some ⟨(w.heap.size + 1), 0, none⟩))) :: (.val (.pointer (some ⟨(w.heap.size + 1), 0, none⟩))) :: (.val (.int .u64 b0)) :: (.val (.agg (u64s (pr s11)).toArray)) :: (.val (.pointer (some ⟨w.heap.size, 0, none⟩))) :: (.val (.pointer (some ⟨w.heap.size, 0, none⟩))) :: (.val (.pointer (some ⟨w.heap.size, 2, none⟩))) :: (.val (.int .u64 a2)) :: (.val (.int .u64 (b4 * 19))) :: (.val (.agg (u64s (pr s12)).toArray)) :: (.val (.pointer (some ⟨w.heap.size, 0, none⟩))) :: (.val (.pointer (some ⟨w.heap.size, 0, none⟩))) :: (.val (.pointer (some ⟨w.heap.size, 3, none⟩))) :: (.val (.int .u64 a3)) :: (.val (.int .u64 (b3 * 19))) :: (.val (.agg (u64s (pr s13)).toArray)) :: (.val (.pointer (some ⟨w.heap.size, 0, none⟩))) :: (.val (.pointer (some ⟨w.heap.size, 0, none⟩))) :: (.val (.pointer (some ⟨w.heap.size, 4, none⟩))) :: (.val (.int .u64 a4)) :: (.val (.int .u64 (b2 * 19))) :: (.val (.agg (u64s (pr s14)).toArray)) :: (.blk 206 (u64s [0, 0])) :: []) (by kernel_rfl) (by kernel_rfl) (by kernel_rfl) ?_ ?_
  ·refine Steps'.cons ?_ (Steps'.cons ?_ (Steps'.cons ?_ (Steps'.cons ?_ (Steps'.cons ?_ (Steps'.cons ?_ (Steps'.cons ?_ (Steps'.cons ?_ (Steps'.cons ?_ (Steps'.cons ?_ (Steps'.cons ?_ (Steps'.cons ?_ (Steps'.cons ?_ (Steps'.cons ?_ (Steps'.cons ?_ (Steps'.cons ?_ (Steps'.cons ?_ (Steps'.cons ?_ (Steps'.cons ?_ (Steps'.cons ?_ (Steps'.cons ?_ (Steps'.cons ?_ (Steps'.cons ?_ (Steps'.cons ?_ (Steps'.cons ?_ (Steps'.cons ?_ (Steps'.cons ?_ (Steps'.cons ?_ (Steps'.cons ?_ (Steps'.cons ?_ (Steps'.cons ?_ (Steps'.cons ?_ (Steps'.cons ?_ (Steps'.cons ?_ (Steps'.cons ?_ (Steps'.cons ?_ (Steps'.cons ?_ (Steps'.one _ _ _ _ _ _ _)))))))))))))))))))))))))))))))))))))
   ·intro ax wx hb hs hd
    have h5 : ax.tmps.getD 5 undef = (.pointer (some ⟨w.heap.size, 0, none⟩)) := hs 5 (by kernel_rfl)
    exact Does.value _ (by clear hs hd; go_simp) rfl
   ·intro ax wx hb hs hd
    have h71 := vOf (hd 0 71 rfl (by kernel_rfl) (by decide))
    exact Does.value _ (by clear hs hd; go_simp) rfl
   ·intro ax wx hb hs hd
    have h72 := vOf (hd 1 72 rfl (by kernel_rfl) (by decide))
    exact Does.value _ (by clear hs hd; go_simp) rfl
   ·intro ax wx hb hs hd
    have h73 := vOf (hd 2 73 rfl (by kernel_rfl) (by decide))
    have cx : wx.cell? ⟨w.heap.size, 0, none⟩ = some (.int .u64 a0) := (Blk.later W1.out.2.1 hb (Blk.lt W1.out.2.1)).cell 0
    exact Does.value _ (by clear hs hd; go_simp) rfl
   ·intro ax wx hb hs hd
    have h6 : ax.tmps.getD 6 undef = (.pointer (some ⟨(w.heap.size + 1), 0, none⟩)) := hs 6 (by kernel_rfl)
    exact Does.value _ (by clear hs hd; go_simp) rfl
   ·intro ax wx hb hs hd
    have h75 := vOf (hd 4 75 rfl (by kernel_rfl) (by decide))
    exact Does.value _ (by clear hs hd; go_simp) rfl
   ·intro ax wx hb hs hd
    have h76 := vOf (hd 5 76 rfl (by kernel_rfl) (by decide))
    exact Does.value _ (by clear hs hd; go_simp) rfl
   ·intro ax wx hb hs hd
    have h77 := vOf (hd 6 77 rfl (by kernel_rfl) (by decide))
    have cx : wx.cell? ⟨(w.heap.size + 1), 1, none⟩ = some (.int .u64 b1) := (Blk.later W1.out.2.2.1 hb (Blk.lt W1.out.2.2.1)).cell 1
    exact Does.value _ (by clear hs hd; go_simp) rfl
   ·intro ax wx hb hs hd
    have h74 := vOf (hd 3 74 rfl (by kernel_rfl) (by decide))
    have h78 := vOf (hd 7 78 rfl (by kernel_rfl) (by decide))
    refine Does.call 168 #[(.int .u64 a0), (.int .u64 b1)] (by clear hs hd; go_simp) ?_
    refine (H1.out.1 _).mono ?_
    rintro z w' ⟨rfl, l⟩
    exact ⟨_, rfl, rfl, l⟩
   ·intro ax wx hb hs hd
    have h5 : ax.tmps.getD 5 undef = (.pointer (some ⟨w.heap.size, 0, none⟩)) := hs 5 (by kernel_rfl)
    exact Does.value _ (by clear hs hd; go_simp) rfl
   ·intro ax wx hb hs hd
    have h80 := vOf (hd 9 80 rfl (by kernel_rfl) (by decide))
    exact Does.value _ (by clear hs hd; go_simp) rfl
   ·intro ax wx hb hs hd
    have h81 := vOf (hd 10 81 rfl (by kernel_rfl) (by decide))
    exact Does.value _ (by clear hs hd; go_simp) rfl
   ·intro ax wx hb hs hd
    have h82 := vOf (hd 11 82 rfl (by kernel_rfl) (by decide))
    have cx : wx.cell? ⟨w.heap.size, 1, none⟩ = some (.int .u64 a1) := (Blk.later W1.out.2.1 hb (Blk.lt W1.out.2.1)).cell 1
    exact Does.value _ (by clear hs hd; go_simp) rfl
   ·intro ax wx hb hs hd
    have h6 : ax.tmps.getD 6 undef = (.pointer (some ⟨(w.heap.size + 1), 0, none⟩)) := hs 6 (by kernel_rfl)
    exact Does.value _ (by clear hs hd; go_simp) rfl
   ·intro ax wx hb hs hd
    have h84 := vOf (hd 13 84 rfl (by kernel_rfl) (by decide))
    exact Does.value _ (by clear hs hd; go_simp) rfl
   ·intro ax wx hb hs hd
    have h85 := vOf (hd 14 85 rfl (by kernel_rfl) (by decide))
    exact Does.value _ (by clear hs hd; go_simp) rfl
   ·intro ax wx hb hs hd
    have h86 := vOf (hd 15 86 rfl (by kernel_rfl) (by decide))
    have cx : wx.cell? ⟨(w.heap.size + 1), 0, none⟩ = some (.int .u64 b0) := (Blk.later W1.out.2.2.1 hb (Blk.lt W1.out.2.2.1)).cell 0
    exact Does.value _ (by clear hs hd; go_simp) rfl
   ·intro ax wx hb hs hd
    have h79 := vOf (hd 8 79 rfl (by kernel_rfl) (by decide))
    have h83 := vOf (hd 12 83 rfl (by kernel_rfl) (by decide))
    have h87 := vOf (hd 16 87 rfl (by kernel_rfl) (by decide))
    refine Does.call 169 #[(.agg (u64s (pr s10)).toArray), (.int .u64 a1), (.int .u64 b0)] (by clear hs hd; go_simp) ?_
    refine (H1.out.2.1 _).mono ?_
    rintro z w' ⟨rfl, l⟩
    exact ⟨_, rfl, rfl, l⟩
   ·intro ax wx hb hs hd
    have h5 : ax.tmps.getD 5 undef = (.pointer (some ⟨w.heap.size, 0, none⟩)) := hs 5 (by kernel_rfl)
    exact Does.value _ (by clear hs hd; go_simp) rfl
   ·intro ax wx hb hs hd
    have h89 := vOf (hd 18 89 rfl (by kernel_rfl) (by decide))
    exact Does.value _ (by clear hs hd; go_simp) rfl
   ·intro ax wx hb hs hd
    have h90 := vOf (hd 19 90 rfl (by kernel_rfl) (by decide))
    exact Does.value _ (by clear hs hd; go_simp) rfl
   ·intro ax wx hb hs hd
    have h91 := vOf (hd 20 91 rfl (by kernel_rfl) (by decide))
    have cx : wx.cell? ⟨w.heap.size, 2, none⟩ = some (.int .u64 a2) := (Blk.later W1.out.2.1 hb (Blk.lt W1.out.2.1)).cell 2
    exact Does.value _ (by clear hs hd; go_simp) rfl
   ·intro ax wx hb hs hd
    have h10 : ax.tmps.getD 10 undef = (.int .u64 (b4 * 19)) := hs 10 (by kernel_rfl)
    exact Does.value _ (by clear hs hd; go_simp) rfl
   ·intro ax wx hb hs hd
    have h88 := vOf (hd 17 88 rfl (by kernel_rfl) (by decide))
    have h92 := vOf (hd 21 92 rfl (by kernel_rfl) (by decide))
    have h93 := vOf (hd 22 93 rfl (by kernel_rfl) (by decide))
    refine Does.call 169 #[(.agg (u64s (pr s11)).toArray), (.int .u64 a2), (.int .u64 (b4 * 19))] (by clear hs hd; go_simp) ?_
    refine (H1.out.2.2.1 _).mono ?_
    rintro z w' ⟨rfl, l⟩
    exact ⟨_, rfl, rfl, l⟩
   ·intro ax wx hb hs hd
    have h5 : ax.tmps.getD 5 undef = (.pointer (some ⟨w.heap.size, 0, none⟩)) := hs 5 (by kernel_rfl)
    exact Does.value _ (by clear hs hd; go_simp) rfl
   ·intro ax wx hb hs hd
    have h95 := vOf (hd 24 95 rfl (by kernel_rfl) (by decide))
    exact Does.value _ (by clear hs hd; go_simp) rfl
   ·intro ax wx hb hs hd
    have h96 := vOf (hd 25 96 rfl (by kernel_rfl) (by decide))
    exact Does.value _ (by clear hs hd; go_simp) rfl
   ·intro ax wx hb hs hd
    have h97 := vOf (hd 26 97 rfl (by kernel_rfl) (by decide))
    have cx : wx.cell? ⟨w.heap.size, 3, none⟩ = some (.int .u64 a3) := (Blk.later W1.out.2.1 hb (Blk.lt W1.out.2.1)).cell 3
    exact Does.value _ (by clear hs hd; go_simp) rfl
   ·intro ax wx hb hs hd
    have h9 : ax.tmps.getD 9 undef = (.int .u64 (b3 * 19)) := hs 9 (by kernel_rfl)
    exact Does.value _ (by clear hs hd; go_simp) rfl
   ·intro ax wx hb hs hd
    have h94 := vOf (hd 23 94 rfl (by kernel_rfl) (by decide))
    have h98 := vOf (hd 27 98 rfl (by kernel_rfl) (by decide))
    have h99 := vOf (hd 28 99 rfl (by kernel_rfl) (by decide))
    refine Does.call 169 #[(.agg (u64s (pr s12)).toArray), (.int .u64 a3), (.int .u64 (b3 * 19))] (by clear hs hd; go_simp) ?_
    refine (H1.out.2.2.2.1 _).mono ?_
    rintro z w' ⟨rfl, l⟩
    exact ⟨_, rfl, rfl, l⟩
   ·intro ax wx hb hs hd
    have h5 : ax.tmps.getD 5 undef = (.pointer (some ⟨w.heap.size, 0, none⟩)) := hs 5 (by kernel_rfl)
    exact Does.value _ (by clear hs hd; go_simp) rfl
   ·intro ax wx hb hs hd
    have h101 := vOf (hd 30 101 rfl (by kernel_rfl) (by decide))
    exact Does.value _ (by clear hs hd; go_simp) rfl
   ·intro ax wx hb hs hd
    have h102 := vOf (hd 31 102 rfl (by kernel_rfl) (by decide))
    exact Does.value _ (by clear hs hd; go_simp) rfl
   ·intro ax wx hb hs hd
    have h103 := vOf (hd 32 103 rfl (by kernel_rfl) (by decide))
    have cx : wx.cell? ⟨w.heap.size, 4, none⟩ = some (.int .u64 a4) := (Blk.later W1.out.2.1 hb (Blk.lt W1.out.2.1)).cell 4
    exact Does.value _ (by clear hs hd; go_simp) rfl
   ·intro ax wx hb hs hd
    have h8 : ax.tmps.getD 8 undef = (.int .u64 (b2 * 19)) := hs 8 (by kernel_rfl)
    exact Does.value _ (by clear hs hd; go_simp) rfl
   ·intro ax wx hb hs hd
    have h100 := vOf (hd 29 100 rfl (by kernel_rfl) (by decide))
    have h104 := vOf (hd 33 104 rfl (by kernel_rfl) (by decide))
    have h105 := vOf (hd 34 105 rfl (by kernel_rfl) (by decide))
    refine Does.call 169 #[(.agg (u64s (pr s13)).toArray), (.int .u64 a4), (.int .u64 (b2 * 19))] (by clear hs hd; go_simp) ?_
    refine (H1.out.2.2.2.2 _).mono ?_
    rintro z w' ⟨rfl, l⟩
    exact ⟨_, rfl, rfl, l⟩
   ·intro ax wx hb hs hd
    exact Does.alloc 206 rfl 2 _ zeroWide hb.size
  ·intro wx hb
   iterate 36 refine @Ends.val _ _ _ _ _ _ _ _ _ _ rfl ?_
   refine @Ends.blk _ _ _ _ _ _ _ _ _ 206 (u64s [0, 0]) rfl ?_
   intro g36 hg36 bg36
   refine @Ends.one _ _ _ _ _ _ _ ?_
   simp only [Act.put, sA, sB, sC]
   obtain ⟨G1, hG1⟩ : ∃ q, q = g36 := ⟨_, rfl⟩
   subst hG1
   refine last_store 206 (.tmp 12) (.tmp 106) rfl rfl G1 rfl 206 _ (u64s (pr s14)) rfl bg36 rfl sizeWide (u64s_one _) ?_
   intro y n1 n2 n3
   have q5 := hb.size
   have q10 := W1.out.2.1.lt
   have q11 := W1.out.2.2.1.lt
   have q12 := W1.out.2.2.2.1.lt
   have q13 := W1.out.2.2.2.2.1.lt
   have qz := W1.out.2.2.2.2.2
   have W2 : Hid (Below w.heap.size w y ∧ Blk y w.heap.size 116 (u64s [a0, a1, a2, a3, a4]) ∧ Blk y (w.heap.size + 1) 116 (u64s [b0, b1, b2, b3, b4]) ∧ Blk y (w.heap.size + 1 + 1) 116 (u64s [0, 0, 0, 0, 0]) ∧ Blk y G0 206 (u64s (pr s04)) ∧ Blk y G1 206 (u64s (pr s14)) ∧ True ∧ w.heap.size + 3 ≤ G0 ∧ w.heap.size + 3 ≤ G1 ∧ G0 < G1) := ⟨below_kept (below_chain W1.out.1 hb (by omega)) n3 (by omega) (fun j hj => by omega), (W1.out.2.1.later hb q10).kept n3 (by omega), (W1.out.2.2.1.later hb q11).kept n3 (by omega), (W1.out.2.2.2.1.later hb q12).kept n3 (by omega), (W1.out.2.2.2.2.1.later hb q13).kept n3 (by omega), n1, trivial, by omega, by omega, by omega⟩
   obtain ⟨y2, rfl⟩ : ∃ q, q = y := ⟨_, rfl⟩
   clear W1 H1 n1 n2 n3 hb q5 qz hg36 bg36 q10 q11 q12 q13
   go_wp2_with fail
   refine region_invT ((.val (.pointer (some ⟨w.heap.size, 0, none⟩))) :: (.val (.pointer (some ⟨w.heap.size, 0, none⟩))) :: (.val (.pointer (some ⟨w.heap.size, 0, none⟩))) :: (.val (.int .u64 a0)) :: (.val (.pointer (some ⟨(w.heap.size + 1), 0, none⟩))) :: (.val (.pointer (some ⟨(w.heap.size + 1), 0, none⟩))) :: (.val (.pointer (some ⟨(w.heap.size + 1), 2, none⟩))) :: (.val (.int .u64 b2)) :: (.val (.agg (u64s (pr s20)).toArray)) :: (.val (.pointer (some ⟨w.heap.size, 0, none⟩))) :: (.val (.pointer (some ⟨w.heap.size, 0, none⟩))) :: (.val (.pointer (some ⟨w.heap.size, 1, none⟩))) :: (.val (.int .u64 a1)) :: (.val (.pointer (some ⟨(w.heap.size + 1), 0, none⟩))) :: (.val (.pointer (some ⟨(w.heap.size + 1), 0, none⟩))) :: (.val (.pointer (some ⟨(w.heap.size + 1), 1, none⟩))) :: (.val (.int .u64 b1)) :: (.val (.agg (u64s (pr s21)).toArray)) :: (.val (.pointer (some ⟨w.heap.size, 0, none⟩))) :: (.val (.pointer (some ⟨w.heap.size, 0, none⟩))) :: (.val (.pointer (some ⟨w.heap.size, 2, none⟩))) :: (.val (.int .u64 a2)) :: (.val (.pointer (some ⟨(w.heap.size + 1), 0, none⟩))) :: (.val (.pointer (some ⟨(w.heap.size + 1), 0, none⟩))) :: (.val (.pointer (some ⟨(w.heap.size + 1), 0, none⟩))) :: (.val (.int .u64 b0)) :: (.val (.agg (u64s (pr s22)).toArray)) :: (.val (.pointer (some ⟨w.heap.size, 0, none⟩))) :: (.val (.pointer (some ⟨w.heap.size, 0, none⟩))) :: (.val (.pointer (some ⟨w.heap.size, 3, none⟩))) :: (.val (.int .u64 a3)) :: (.val (.int .u64 (b4 * 19))) :: (.val (.agg (u64s (pr s23)).toArray)) :: (.val (.pointer (some ⟨w.heap.size, 0, none⟩))) :: (.val (.pointer (some ⟨w.heap.size, 0, none⟩))) :: (.val (.pointer (some ⟨w.heap.size, 4, none⟩))) :: (.val (.int .u64 a4)) :: (.val (.int .u64 (b3 * 19))) :: (.val (.agg (u64s (pr s24)).toArray)) :: (.blk 206 (u64s [0, 0])) :: []) (by kernel_rfl) (by kernel_rfl) (by kernel_rfl) ?_ ?_
   ·refine Steps'.cons ?_ (Steps'.cons ?_ (Steps'.cons ?_ (Steps'.cons ?_ (Steps'.cons ?_ (Steps'.cons ?_ (Steps'.cons ?_ (Steps'.cons ?_ (Steps'.cons ?_ (Steps'.cons ?_ (Steps'.cons ?_ (Steps'.cons ?_ (Steps'.cons ?_ (Steps'.cons ?_ (Steps'.cons ?_ (Steps'.cons ?_ (Steps'.cons ?_ (Steps'.cons ?_ (Steps'.cons ?_ (Steps'.cons ?_ (Steps'.cons ?_ (Steps'.cons ?_ (Steps'.cons ?_ (Steps'.cons ?_ (Steps'.cons ?_ (Steps'.cons ?_ (Steps'.cons ?_ (Steps'.cons ?_ (Steps'.cons ?_ (Steps'.cons ?_ (Steps'.cons ?_ (Steps'.cons ?_ (Steps'.cons ?_ (Steps'.cons ?_ (Steps'.cons ?_ (Steps'.cons ?_ (Steps'.cons ?_ (Steps'.cons ?_ (Steps'.cons ?_ (Steps'.cons ?_ (Steps'.one _ _ _ _ _ _ _))))))))))))))))))))))))))))))))))))))))
    ·intro ax wx hb hs hd
     have h5 : ax.tmps.getD 5 undef = (.pointer (some ⟨w.heap.size, 0, none⟩)) := hs 5 (by kernel_rfl)
     exact Does.value _ (by clear hs hd; go_simp) rfl
    ·intro ax wx hb hs hd
     have h107 := vOf (hd 0 107 rfl (by kernel_rfl) (by decide))
     exact Does.value _ (by clear hs hd; go_simp) rfl
    ·intro ax wx hb hs hd
     have h108 := vOf (hd 1 108 rfl (by kernel_rfl) (by decide))
     exact Does.value _ (by clear hs hd; go_simp) rfl
    ·intro ax wx hb hs hd
     have h109 := vOf (hd 2 109 rfl (by kernel_rfl) (by decide))
     have cx : wx.cell? ⟨w.heap.size, 0, none⟩ = some (.int .u64 a0) := (Blk.later W2.out.2.1 hb (Blk.lt W2.out.2.1)).cell 0
     exact Does.value _ (by clear hs hd; go_simp) rfl
    ·intro ax wx hb hs hd
     have h6 : ax.tmps.getD 6 undef = (.pointer (some ⟨(w.heap.size + 1), 0, none⟩)) := hs 6 (by kernel_rfl)
     exact Does.value _ (by clear hs hd; go_simp) rfl
    ·intro ax wx hb hs hd
     have h111 := vOf (hd 4 111 rfl (by kernel_rfl) (by decide))
     exact Does.value _ (by clear hs hd; go_simp) rfl
    ·intro ax wx hb hs hd
     have h112 := vOf (hd 5 112 rfl (by kernel_rfl) (by decide))
     exact Does.value _ (by clear hs hd; go_simp) rfl
    ·intro ax wx hb hs hd
     have h113 := vOf (hd 6 113 rfl (by kernel_rfl) (by decide))
     have cx : wx.cell? ⟨(w.heap.size + 1), 2, none⟩ = some (.int .u64 b2) := (Blk.later W2.out.2.2.1 hb (Blk.lt W2.out.2.2.1)).cell 2
     exact Does.value _ (by clear hs hd; go_simp) rfl
    ·intro ax wx hb hs hd
     have h110 := vOf (hd 3 110 rfl (by kernel_rfl) (by decide))
     have h114 := vOf (hd 7 114 rfl (by kernel_rfl) (by decide))
     refine Does.call 168 #[(.int .u64 a0), (.int .u64 b2)] (by clear hs hd; go_simp) ?_
     refine (H2.out.1 _).mono ?_
     rintro z w' ⟨rfl, l⟩
     exact ⟨_, rfl, rfl, l⟩
    ·intro ax wx hb hs hd
     have h5 : ax.tmps.getD 5 undef = (.pointer (some ⟨w.heap.size, 0, none⟩)) := hs 5 (by kernel_rfl)
     exact Does.value _ (by clear hs hd; go_simp) rfl
    ·intro ax wx hb hs hd
     have h116 := vOf (hd 9 116 rfl (by kernel_rfl) (by decide))
     exact Does.value _ (by clear hs hd; go_simp) rfl
    ·intro ax wx hb hs hd
     have h117 := vOf (hd 10 117 rfl (by kernel_rfl) (by decide))
     exact Does.value _ (by clear hs hd; go_simp) rfl
    ·intro ax wx hb hs hd
     have h118 := vOf (hd 11 118 rfl (by kernel_rfl) (by decide))
     have cx : wx.cell? ⟨w.heap.size, 1, none⟩ = some (.int .u64 a1) := (Blk.later W2.out.2.1 hb (Blk.lt W2.out.2.1)).cell 1
     exact Does.value _ (by clear hs hd; go_simp) rfl
    ·intro ax wx hb hs hd
     have h6 : ax.tmps.getD 6 undef = (.pointer (some ⟨(w.heap.size + 1), 0, none⟩)) := hs 6 (by kernel_rfl)
     exact Does.value _ (by clear hs hd; go_simp) rfl
    ·intro ax wx hb hs hd
     have h120 := vOf (hd 13 120 rfl (by kernel_rfl) (by decide))
     exact Does.value _ (by clear hs hd; go_simp) rfl
    ·intro ax wx hb hs hd
     have h121 := vOf (hd 14 121 rfl (by kernel_rfl) (by decide))
     exact Does.value _ (by clear hs hd; go_simp) rfl
    ·intro ax wx hb hs hd
     have h122 := vOf (hd 15 122 rfl (by kernel_rfl) (by decide))
     have cx : wx.cell? ⟨(w.heap.size + 1), 1, none⟩ = some (.int .u64 b1) := (Blk.later W2.out.2.2.1 hb (Blk.lt W2.out.2.2.1)).cell 1
     exact Does.value _ (by clear hs hd; go_simp) rfl
    ·intro ax wx hb hs hd
     have h115 := vOf (hd 8 115 rfl (by kernel_rfl) (by decide))
     have h119 := vOf (hd 12 119 rfl (by kernel_rfl) (by decide))
     have h123 := vOf (hd 16 123 rfl (by kernel_rfl) (by decide))
     refine Does.call 169 #[(.agg (u64s (pr s20)).toArray), (.int .u64 a1), (.int .u64 b1)] (by clear hs hd; go_simp) ?_
     refine (H2.out.2.1 _).mono ?_
     rintro z w' ⟨rfl, l⟩
     exact ⟨_, rfl, rfl, l⟩
    ·intro ax wx hb hs hd
     have h5 : ax.tmps.getD 5 undef = (.pointer (some ⟨w.heap.size, 0, none⟩)) := hs 5 (by kernel_rfl)
     exact Does.value _ (by clear hs hd; go_simp) rfl
    ·intro ax wx hb hs hd
     have h125 := vOf (hd 18 125 rfl (by kernel_rfl) (by decide))
     exact Does.value _ (by clear hs hd; go_simp) rfl
    ·intro ax wx hb hs hd
     have h126 := vOf (hd 19 126 rfl (by kernel_rfl) (by decide))
     exact Does.value _ (by clear hs hd; go_simp) rfl
    ·intro ax wx hb hs hd
     have h127 := vOf (hd 20 127 rfl (by kernel_rfl) (by decide))
     have cx : wx.cell? ⟨w.heap.size, 2, none⟩ = some (.int .u64 a2) := (Blk.later W2.out.2.1 hb (Blk.lt W2.out.2.1)).cell 2
     exact Does.value _ (by clear hs hd; go_simp) rfl
    ·intro ax wx hb hs hd
     have h6 : ax.tmps.getD 6 undef = (.pointer (some ⟨(w.heap.size + 1), 0, none⟩)) := hs 6 (by kernel_rfl)
     exact Does.value _ (by clear hs hd; go_simp) rfl
    ·intro ax wx hb hs hd
     have h129 := vOf (hd 22 129 rfl (by kernel_rfl) (by decide))
     exact Does.value _ (by clear hs hd; go_simp) rfl
    ·intro ax wx hb hs hd
     have h130 := vOf (hd 23 130 rfl (by kernel_rfl) (by decide))
     exact Does.value _ (by clear hs hd; go_simp) rfl
    ·intro ax wx hb hs hd
     have h131 := vOf (hd 24 131 rfl (by kernel_rfl) (by decide))
     have cx : wx.cell? ⟨(w.heap.size + 1), 0, none⟩ = some (.int .u64 b0) := (Blk.later W2.out.2.2.1 hb (Blk.lt W2.out.2.2.1)).cell 0
     exact Does.value _ (by clear hs hd; go_simp) rfl
    ·intro ax wx hb hs hd
     have h124 := vOf (hd 17 124 rfl (by kernel_rfl) (by decide))
     have h128 := vOf (hd 21 128 rfl (by kernel_rfl) (by decide))
     have h132 := vOf (hd 25 132 rfl (by kernel_rfl) (by decide))
     refine Does.call 169 #[(.agg (u64s (pr s21)).toArray), (.int .u64 a2), (.int .u64 b0)] (by clear hs hd; go_simp) ?_
     refine (H2.out.2.2.1 _).mono ?_
     rintro z w' ⟨rfl, l⟩
     exact ⟨_, rfl, rfl, l⟩
    ·intro ax wx hb hs hd
     have h5 : ax.tmps.getD 5 undef = (.pointer (some ⟨w.heap.size, 0, none⟩)) := hs 5 (by kernel_rfl)
     exact Does.value _ (by clear hs hd; go_simp) rfl
    ·intro ax wx hb hs hd
     have h134 := vOf (hd 27 134 rfl (by kernel_rfl) (by decide))
     exact Does.value _ (by clear hs hd; go_simp) rfl
    ·intro ax wx hb hs hd
     have h135 := vOf (hd 28 135 rfl (by kernel_rfl) (by decide))
     exact Does.value _ (by clear hs hd; go_simp) rfl
    ·intro ax wx hb hs hd
     have h136 := vOf (hd 29 136 rfl (by kernel_rfl) (by decide))
     have cx : wx.cell? ⟨w.heap.size, 3, none⟩ = some (.int .u64 a3) := (Blk.later W2.out.2.1 hb (Blk.lt W2.out.2.1)).cell 3
     exact Does.value _ (by clear hs hd; go_simp) rfl
    ·intro ax wx hb hs hd
     have h10 : ax.tmps.getD 10 undef = (.int .u64 (b4 * 19)) := hs 10 (by kernel_rfl)
     exact Does.value _ (by clear hs hd; go_simp) rfl
    ·intro ax wx hb hs hd
     have h133 := vOf (hd 26 133 rfl (by kernel_rfl) (by decide))
     have h137 := vOf (hd 30 137 rfl (by kernel_rfl) (by decide))
     have h138 := vOf (hd 31 138 rfl (by kernel_rfl) (by decide))
     refine Does.call 169 #[(.agg (u64s (pr s22)).toArray), (.int .u64 a3), (.int .u64 (b4 * 19))] (by clear hs hd; go_simp) ?_
     refine (H2.out.2.2.2.1 _).mono ?_
     rintro z w' ⟨rfl, l⟩
     exact ⟨_, rfl, rfl, l⟩
    ·intro ax wx hb hs hd
     have h5 : ax.tmps.getD 5 undef = (.pointer (some ⟨w.heap.size, 0, none⟩)) := hs 5 (by kernel_rfl)
     exact Does.value _ (by clear hs hd; go_simp) rfl
    ·intro ax wx hb hs hd
     have h140 := vOf (hd 33 140 rfl (by kernel_rfl) (by decide))
     exact Does.value _ (by clear hs hd; go_simp) rfl
    ·intro ax wx hb hs hd
     have h141 := vOf (hd 34 141 rfl (by kernel_rfl) (by decide))
     exact Does.value _ (by clear hs hd; go_simp) rfl
    ·intro ax wx hb hs hd
     have h142 := vOf (hd 35 142 rfl (by kernel_rfl) (by decide))
     have cx : wx.cell? ⟨w.heap.size, 4, none⟩ = some (.int .u64 a4) := (Blk.later W2.out.2.1 hb (Blk.lt W2.out.2.1)).cell 4
     exact Does.value _ (by clear hs hd; go_simp) rfl
    ·intro ax wx hb hs hd
     have h9 : ax.tmps.getD 9 undef = (.int .u64 (b3 * 19)) := hs 9 (by kernel_rfl)
     exact Does.value _ (by clear hs hd; go_simp) rfl
    ·intro ax wx hb hs hd
     have h139 := vOf (hd 32 139 rfl (by kernel_rfl) (by decide))
     have h143 := vOf (hd 36 143 rfl (by kernel_rfl) (by decide))
     have h144 := vOf (hd 37 144 rfl (by kernel_rfl) (by decide))
     refine Does.call 169 #[(.agg (u64s (pr s23)).toArray), (.int .u64 a4), (.int .u64 (b3 * 19))] (by clear hs hd; go_simp) ?_
     refine (H2.out.2.2.2.2 _).mono ?_
     rintro z w' ⟨rfl, l⟩
     exact ⟨_, rfl, rfl, l⟩
    ·intro ax wx hb hs hd
     exact Does.alloc 206 rfl 2 _ zeroWide hb.size
   ·intro wx hb
    iterate 39 refine @Ends.val _ _ _ _ _ _ _ _ _ _ rfl ?_
    refine @Ends.blk _ _ _ _ _ _ _ _ _ 206 (u64s [0, 0]) rfl ?_
    intro g39 hg39 bg39
    refine @Ends.one _ _ _ _ _ _ _ ?_
    simp only [Act.put, sA, sB, sC]
    obtain ⟨G2, hG2⟩ : ∃ q, q = g39 := ⟨_, rfl⟩
    subst hG2
    refine last_store 206 (.tmp 13) (.tmp 145) rfl rfl G2 rfl 206 _ (u64s (pr s24)) rfl bg39 rfl sizeWide (u64s_one _) ?_
    intro y n1 n2 n3
    have q5 := hb.size
    have q10 := W2.out.2.1.lt
    have q11 := W2.out.2.2.1.lt
    have q12 := W2.out.2.2.2.1.lt
    have q13 := W2.out.2.2.2.2.1.lt
    have q14 := W2.out.2.2.2.2.2.1.lt
    have qz := W2.out.2.2.2.2.2.2
    have W3 : Hid (Below w.heap.size w y ∧ Blk y w.heap.size 116 (u64s [a0, a1, a2, a3, a4]) ∧ Blk y (w.heap.size + 1) 116 (u64s [b0, b1, b2, b3, b4]) ∧ Blk y (w.heap.size + 1 + 1) 116 (u64s [0, 0, 0, 0, 0]) ∧ Blk y G0 206 (u64s (pr s04)) ∧ Blk y G1 206 (u64s (pr s14)) ∧ Blk y G2 206 (u64s (pr s24)) ∧ True ∧ w.heap.size + 3 ≤ G0 ∧ w.heap.size + 3 ≤ G1 ∧ w.heap.size + 3 ≤ G2 ∧ G0 < G1 ∧ G1 < G2) := ⟨below_kept (below_chain W2.out.1 hb (by omega)) n3 (by omega) (fun j hj => by omega), (W2.out.2.1.later hb q10).kept n3 (by omega), (W2.out.2.2.1.later hb q11).kept n3 (by omega), (W2.out.2.2.2.1.later hb q12).kept n3 (by omega), (W2.out.2.2.2.2.1.later hb q13).kept n3 (by omega), (W2.out.2.2.2.2.2.1.later hb q14).kept n3 (by omega), n1, trivial, by omega, by omega, by omega, by omega, by omega⟩
    obtain ⟨y3, rfl⟩ : ∃ q, q = y := ⟨_, rfl⟩
    clear W2 H2 n1 n2 n3 hb q5 qz hg39 bg39 q10 q11 q12 q13 q14
    go_wp2_with fail
    refine region_invT ((.val (.pointer (some ⟨w.heap.size, 0, none⟩))) :: (.val (.pointer (some ⟨w.heap.size, 0, none⟩))) :: (.val (.pointer (some ⟨w.heap.size, 0, none⟩))) :: (.val (.int .u64 a0)) :: (.val (.pointer (some ⟨(w.heap.size + 1), 0, none⟩))) :: (.val (.pointer (some ⟨(w.heap.size + 1), 0, none⟩))) :: (.val (.pointer (some ⟨(w.heap.size + 1), 3, none⟩))) :: (.val (.int .u64 b3)) :: (.val (.agg (u64s (pr s30)).toArray)) :: (.val (.pointer (some ⟨w.heap.size, 0, none⟩))) :: (.val (.pointer (some ⟨w.heap.size, 0, none⟩))) :: (.val (.pointer (some ⟨w.heap.size, 1, none⟩))) :: (.val (.int .u64 a1)) :: (.val (.pointer (some ⟨(w.heap.size + 1), 0, none⟩))) :: (.val (.pointer (some ⟨(w.heap.size + 1), 0, none⟩))) :: (.val (.pointer (some ⟨(w.heap.size + 1), 2, none⟩))) :: (.val (.int .u64 b2)) :: (.val (.agg (u64s (pr s31)).toArray)) :: (.val (.pointer (some ⟨w.heap.size, 0, none⟩))) :: (.val (.pointer (some ⟨w.heap.size, 0, none⟩))) :: (.val (.pointer (some ⟨w.heap.size, 2, none⟩))) :: (.val (.int .u64 a2)) :: (.val (.pointer (some ⟨(w.heap.size + 1), 0, none⟩))) :: (.val (.pointer (some ⟨(w.heap.size + 1), 0, none⟩))) :: (.val (.pointer (some ⟨(w.heap.size + 1), 1, none⟩))) :: (.val (.int .u64 b1)) :: (.val (.agg (u64s (pr s32)).toArray)) :: (.val (.pointer (some ⟨w.heap.size, 0, none⟩))) :: (.val (.pointer (some ⟨w.heap.size, 0, none⟩))) :: (.val (.pointer (some ⟨w.heap.size, 3, none⟩))) :: (.val (.int .u64 a3)) :: (.val (.pointer (some ⟨(w.heap.size + 1), 0, none⟩))) :: (.val (.pointer (some ⟨(w.heap.size + 1), 0, none⟩))) :: (.val (.pointer (some ⟨(w.heap.size + 1), 0, none⟩))) :: (.val (.int .u64 b0)) :: (.val (.agg (u64s (pr s33)).toArray)) :: (.val (.pointer (some ⟨w.heap.size, 0, none⟩))) :: (.val (.pointer (some ⟨w.heap.size, 0, none⟩))) :: (.val (.pointer (some ⟨w.heap.size, 4, none⟩))) :: (.val (.int .u64 a4)) :: (.val (.int .u64 (b4 * 19))) :: (.val (.agg (u64s (pr s34)).toArray)) :: (.blk 206 (u64s [0, 0])) :: []) (by kernel_rfl) (by kernel_rfl) (by kernel_rfl) ?_ ?_
    ·refine Steps'.cons ?_ (Steps'.cons ?_ (Steps'.cons ?_ (Steps'.cons ?_ (Steps'.cons ?_ (Steps'.cons ?_ (Steps'.cons ?_ (Steps'.cons ?_ (Steps'.cons ?_ (Steps'.cons ?_ (Steps'.cons ?_ (Steps'.cons ?_ (Steps'.cons ?_ (Steps'.cons ?_ (Steps'.cons ?_ (Steps'.cons ?_ (Steps'.cons ?_ (Steps'.cons ?_ (Steps'.cons ?_ (Steps'.cons ?_ (Steps'.cons ?_ (Steps'.cons ?_ (Steps'.cons ?_ (Steps'.cons ?_ (Steps'.cons ?_ (Steps'.cons ?_ (Steps'.cons ?_ (Steps'.cons ?_ (Steps'.cons ?_ (Steps'.cons ?_ (Steps'.cons ?_ (Steps'.cons ?_ (Steps'.cons ?_ (Steps'.cons ?_ (Steps'.cons ?_ (Steps'.cons ?_ (Steps'.cons ?_ (Steps'.cons ?_ (Steps'.cons ?_ (Steps'.cons ?_ (Steps'.cons ?_ (Steps'.cons ?_ (Steps'.cons ?_ (Steps'.one _ _ _ _ _ _ _)))))))))))))))))))))))))))))))))))))))))))
     ·intro ax wx hb hs hd
      have h5 : ax.tmps.getD 5 undef = (.pointer (some ⟨w.heap.size, 0, none⟩)) := hs 5 (by kernel_rfl)
      exact Does.value _ (by clear hs hd; go_simp) rfl
     ·intro ax wx hb hs hd
      have h146 := vOf (hd 0 146 rfl (by kernel_rfl) (by decide))
      exact Does.value _ (by clear hs hd; go_simp) rfl
     ·intro ax wx hb hs hd
      have h147 := vOf (hd 1 147 rfl (by kernel_rfl) (by decide))
      exact Does.value _ (by clear hs hd; go_simp) rfl
     ·intro ax wx hb hs hd
      have h148 := vOf (hd 2 148 rfl (by kernel_rfl) (by decide))
      have cx : wx.cell? ⟨w.heap.size, 0, none⟩ = some (.int .u64 a0) := (Blk.later W3.out.2.1 hb (Blk.lt W3.out.2.1)).cell 0
      exact Does.value _ (by clear hs hd; go_simp) rfl
     ·intro ax wx hb hs hd
      have h6 : ax.tmps.getD 6 undef = (.pointer (some ⟨(w.heap.size + 1), 0, none⟩)) := hs 6 (by kernel_rfl)
      exact Does.value _ (by clear hs hd; go_simp) rfl
     ·intro ax wx hb hs hd
      have h150 := vOf (hd 4 150 rfl (by kernel_rfl) (by decide))
      exact Does.value _ (by clear hs hd; go_simp) rfl
     ·intro ax wx hb hs hd
      have h151 := vOf (hd 5 151 rfl (by kernel_rfl) (by decide))
      exact Does.value _ (by clear hs hd; go_simp) rfl
     ·intro ax wx hb hs hd
      have h152 := vOf (hd 6 152 rfl (by kernel_rfl) (by decide))
      have cx : wx.cell? ⟨(w.heap.size + 1), 3, none⟩ = some (.int .u64 b3) := (Blk.later W3.out.2.2.1 hb (Blk.lt W3.out.2.2.1)).cell 3
      exact Does.value _ (by clear hs hd; go_simp) rfl
     ·intro ax wx hb hs hd
      have h149 := vOf (hd 3 149 rfl (by kernel_rfl) (by decide))
      have h153 := vOf (hd 7 153 rfl (by kernel_rfl) (by decide))
      refine Does.call 168 #[(.int .u64 a0), (.int .u64 b3)] (by clear hs hd; go_simp) ?_
      refine (H3.out.1 _).mono ?_
      rintro z w' ⟨rfl, l⟩
      exact ⟨_, rfl, rfl, l⟩
     ·intro ax wx hb hs hd
      have h5 : ax.tmps.getD 5 undef = (.pointer (some ⟨w.heap.size, 0, none⟩)) := hs 5 (by kernel_rfl)
      exact Does.value _ (by clear hs hd; go_simp) rfl
     ·intro ax wx hb hs hd
      have h155 := vOf (hd 9 155 rfl (by kernel_rfl) (by decide))
      exact Does.value _ (by clear hs hd; go_simp) rfl
     ·intro ax wx hb hs hd
      have h156 := vOf (hd 10 156 rfl (by kernel_rfl) (by decide))
      exact Does.value _ (by clear hs hd; go_simp) rfl
     ·intro ax wx hb hs hd
      have h157 := vOf (hd 11 157 rfl (by kernel_rfl) (by decide))
      have cx : wx.cell? ⟨w.heap.size, 1, none⟩ = some (.int .u64 a1) := (Blk.later W3.out.2.1 hb (Blk.lt W3.out.2.1)).cell 1
      exact Does.value _ (by clear hs hd; go_simp) rfl
     ·intro ax wx hb hs hd
      have h6 : ax.tmps.getD 6 undef = (.pointer (some ⟨(w.heap.size + 1), 0, none⟩)) := hs 6 (by kernel_rfl)
      exact Does.value _ (by clear hs hd; go_simp) rfl
     ·intro ax wx hb hs hd
      have h159 := vOf (hd 13 159 rfl (by kernel_rfl) (by decide))
      exact Does.value _ (by clear hs hd; go_simp) rfl
     ·intro ax wx hb hs hd
      have h160 := vOf (hd 14 160 rfl (by kernel_rfl) (by decide))
      exact Does.value _ (by clear hs hd; go_simp) rfl
     ·intro ax wx hb hs hd
      have h161 := vOf (hd 15 161 rfl (by kernel_rfl) (by decide))
      have cx : wx.cell? ⟨(w.heap.size + 1), 2, none⟩ = some (.int .u64 b2) := (Blk.later W3.out.2.2.1 hb (Blk.lt W3.out.2.2.1)).cell 2
      exact Does.value _ (by clear hs hd; go_simp) rfl
     ·intro ax wx hb hs hd
      have h154 := vOf (hd 8 154 rfl (by kernel_rfl) (by decide))
      have h158 := vOf (hd 12 158 rfl (by kernel_rfl) (by decide))
      have h162 := vOf (hd 16 162 rfl (by kernel_rfl) (by decide))
      refine Does.call 169 #[(.agg (u64s (pr s30)).toArray), (.int .u64 a1), (.int .u64 b2)] (by clear hs hd; go_simp) ?_
      refine (H3.out.2.1 _).mono ?_
      rintro z w' ⟨rfl, l⟩
      exact ⟨_, rfl, rfl, l⟩
     ·intro ax wx hb hs hd
      have h5 : ax.tmps.getD 5 undef = (.pointer (some ⟨w.heap.size, 0, none⟩)) := hs 5 (by kernel_rfl)
      exact Does.value _ (by clear hs hd; go_simp) rfl
     ·intro ax wx hb hs hd
      have h164 := vOf (hd 18 164 rfl (by kernel_rfl) (by decide))
      exact Does.value _ (by clear hs hd; go_simp) rfl
     ·intro ax wx hb hs hd
      have h165 := vOf (hd 19 165 rfl (by kernel_rfl) (by decide))
      exact Does.value _ (by clear hs hd; go_simp) rfl
     ·intro ax wx hb hs hd
      have h166 := vOf (hd 20 166 rfl (by kernel_rfl) (by decide))
      have cx : wx.cell? ⟨w.heap.size, 2, none⟩ = some (.int .u64 a2) := (Blk.later W3.out.2.1 hb (Blk.lt W3.out.2.1)).cell 2
      exact Does.value _ (by clear hs hd; go_simp) rfl
     ·intro ax wx hb hs hd
      have h6 : ax.tmps.getD 6 undef = (.pointer (some ⟨(w.heap.size + 1), 0, none⟩)) := hs 6 (by kernel_rfl)
      exact Does.value _ (by clear hs hd; go_simp) rfl
     ·intro ax wx hb hs hd
      have h168 := vOf (hd 22 168 rfl (by kernel_rfl) (by decide))
      exact Does.value _ (by clear hs hd; go_simp) rfl
     ·intro ax wx hb hs hd
      have h169 := vOf (hd 23 169 rfl (by kernel_rfl) (by decide))
      exact Does.value _ (by clear hs hd; go_simp) rfl
     ·intro ax wx hb hs hd
      have h170 := vOf (hd 24 170 rfl (by kernel_rfl) (by decide))
      have cx : wx.cell? ⟨(w.heap.size + 1), 1, none⟩ = some (.int .u64 b1) := (Blk.later W3.out.2.2.1 hb (Blk.lt W3.out.2.2.1)).cell 1
      exact Does.value _ (by clear hs hd; go_simp) rfl
     ·intro ax wx hb hs hd
      have h163 := vOf (hd 17 163 rfl (by kernel_rfl) (by decide))
      have h167 := vOf (hd 21 167 rfl (by kernel_rfl) (by decide))
      have h171 := vOf (hd 25 171 rfl (by kernel_rfl) (by decide))
      refine Does.call 169 #[(.agg (u64s (pr s31)).toArray), (.int .u64 a2), (.int .u64 b1)] (by clear hs hd; go_simp) ?_
      refine (H3.out.2.2.1 _).mono ?_
      rintro z w' ⟨rfl, l⟩
      exact ⟨_, rfl, rfl, l⟩
     ·intro ax wx hb hs hd
      have h5 : ax.tmps.getD 5 undef = (.pointer (some ⟨w.heap.size, 0, none⟩)) := hs 5 (by kernel_rfl)
      exact Does.value _ (by clear hs hd; go_simp) rfl
     ·intro ax wx hb hs hd
      have h173 := vOf (hd 27 173 rfl (by kernel_rfl) (by decide))
      exact Does.value _ (by clear hs hd; go_simp) rfl
     ·intro ax wx hb hs hd
      have h174 := vOf (hd 28 174 rfl (by kernel_rfl) (by decide))
      exact Does.value _ (by clear hs hd; go_simp) rfl
     ·intro ax wx hb hs hd
      have h175 := vOf (hd 29 175 rfl (by kernel_rfl) (by decide))
      have cx : wx.cell? ⟨w.heap.size, 3, none⟩ = some (.int .u64 a3) := (Blk.later W3.out.2.1 hb (Blk.lt W3.out.2.1)).cell 3
      exact Does.value _ (by clear hs hd; go_simp) rfl
     ·intro ax wx hb hs hd
      have h6 : ax.tmps.getD 6 undef = (.pointer (some ⟨(w.heap.size + 1), 0, none⟩)) := hs 6 (by kernel_rfl)
      exact Does.value _ (by clear hs hd; go_simp) rfl
     ·intro ax wx hb hs hd
      have h177 := vOf (hd 31 177 rfl (by kernel_rfl) (by decide))
      exact Does.value _ (by clear hs hd; go_simp) rfl
     ·intro ax wx hb hs hd
      have h178 := vOf (hd 32 178 rfl (by kernel_rfl) (by decide))
      exact Does.value _ (by clear hs hd; go_simp) rfl
     ·intro ax wx hb hs hd
      have h179 := vOf (hd 33 179 rfl (by kernel_rfl) (by decide))
      have cx : wx.cell? ⟨(w.heap.size + 1), 0, none⟩ = some (.int .u64 b0) := (Blk.later W3.out.2.2.1 hb (Blk.lt W3.out.2.2.1)).cell 0
      exact Does.value _ (by clear hs hd; go_simp) rfl
     ·intro ax wx hb hs hd
      have h172 := vOf (hd 26 172 rfl (by kernel_rfl) (by decide))
      have h176 := vOf (hd 30 176 rfl (by kernel_rfl) (by decide))
      have h180 := vOf (hd 34 180 rfl (by kernel_rfl) (by decide))
      refine Does.call 169 #[(.agg (u64s (pr s32)).toArray), (.int .u64 a3), (.int .u64 b0)] (by clear hs hd; go_simp) ?_
      refine (H3.out.2.2.2.1 _).mono ?_
      rintro z w' ⟨rfl, l⟩
      exact ⟨_, rfl, rfl, l⟩
     ·intro ax wx hb hs hd
      have h5 : ax.tmps.getD 5 undef = (.pointer (some ⟨w.heap.size, 0, none⟩)) := hs 5 (by kernel_rfl)
      exact Does.value _ (by clear hs hd; go_simp) rfl
     ·intro ax wx hb hs hd
      have h182 := vOf (hd 36 182 rfl (by kernel_rfl) (by decide))
      exact Does.value _ (by clear hs hd; go_simp) rfl
     ·intro ax wx hb hs hd
      have h183 := vOf (hd 37 183 rfl (by kernel_rfl) (by decide))
      exact Does.value _ (by clear hs hd; go_simp) rfl
     ·intro ax wx hb hs hd
      have h184 := vOf (hd 38 184 rfl (by kernel_rfl) (by decide))
      have cx : wx.cell? ⟨w.heap.size, 4, none⟩ = some (.int .u64 a4) := (Blk.later W3.out.2.1 hb (Blk.lt W3.out.2.1)).cell 4
      exact Does.value _ (by clear hs hd; go_simp) rfl
     ·intro ax wx hb hs hd
      have h10 : ax.tmps.getD 10 undef = (.int .u64 (b4 * 19)) := hs 10 (by kernel_rfl)
      exact Does.value _ (by clear hs hd; go_simp) rfl
     ·intro ax wx hb hs hd
      have h181 := vOf (hd 35 181 rfl (by kernel_rfl) (by decide))
      have h185 := vOf (hd 39 185 rfl (by kernel_rfl) (by decide))
      have h186 := vOf (hd 40 186 rfl (by kernel_rfl) (by decide))
      refine Does.call 169 #[(.agg (u64s (pr s33)).toArray), (.int .u64 a4), (.int .u64 (b4 * 19))] (by clear hs hd; go_simp) ?_
      refine (H3.out.2.2.2.2 _).mono ?_
      rintro z w' ⟨rfl, l⟩
      exact ⟨_, rfl, rfl, l⟩
     ·intro ax wx hb hs hd
      exact Does.alloc 206 rfl 2 _ zeroWide hb.size
    ·intro wx hb
     iterate 42 refine @Ends.val _ _ _ _ _ _ _ _ _ _ rfl ?_
     refine @Ends.blk _ _ _ _ _ _ _ _ _ 206 (u64s [0, 0]) rfl ?_
     intro g42 hg42 bg42
     refine @Ends.one _ _ _ _ _ _ _ ?_
     simp only [Act.put, sA, sB, sC]
     obtain ⟨G3, hG3⟩ : ∃ q, q = g42 := ⟨_, rfl⟩
     subst hG3
     refine last_store 206 (.tmp 14) (.tmp 187) rfl rfl G3 rfl 206 _ (u64s (pr s34)) rfl bg42 rfl sizeWide (u64s_one _) ?_
     intro y n1 n2 n3
     have q5 := hb.size
     have q10 := W3.out.2.1.lt
     have q11 := W3.out.2.2.1.lt
     have q12 := W3.out.2.2.2.1.lt
     have q13 := W3.out.2.2.2.2.1.lt
     have q14 := W3.out.2.2.2.2.2.1.lt
     have q15 := W3.out.2.2.2.2.2.2.1.lt
     have qz := W3.out.2.2.2.2.2.2.2
     have W4 : Hid (Below w.heap.size w y ∧ Blk y w.heap.size 116 (u64s [a0, a1, a2, a3, a4]) ∧ Blk y (w.heap.size + 1) 116 (u64s [b0, b1, b2, b3, b4]) ∧ Blk y (w.heap.size + 1 + 1) 116 (u64s [0, 0, 0, 0, 0]) ∧ Blk y G0 206 (u64s (pr s04)) ∧ Blk y G1 206 (u64s (pr s14)) ∧ Blk y G2 206 (u64s (pr s24)) ∧ Blk y G3 206 (u64s (pr s34)) ∧ True ∧ w.heap.size + 3 ≤ G0 ∧ w.heap.size + 3 ≤ G1 ∧ w.heap.size + 3 ≤ G2 ∧ w.heap.size + 3 ≤ G3 ∧ G0 < G1 ∧ G1 < G2 ∧ G2 < G3) := ⟨below_kept (below_chain W3.out.1 hb (by omega)) n3 (by omega) (fun j hj => by omega), (W3.out.2.1.later hb q10).kept n3 (by omega), (W3.out.2.2.1.later hb q11).kept n3 (by omega), (W3.out.2.2.2.1.later hb q12).kept n3 (by omega), (W3.out.2.2.2.2.1.later hb q13).kept n3 (by omega), (W3.out.2.2.2.2.2.1.later hb q14).kept n3 (by omega), (W3.out.2.2.2.2.2.2.1.later hb q15).kept n3 (by omega), n1, trivial, by omega, by omega, by omega, by omega, by omega, by omega, by omega⟩
     obtain ⟨y4, rfl⟩ : ∃ q, q = y := ⟨_, rfl⟩
     clear W3 H3 n1 n2 n3 hb q5 qz hg42 bg42 q10 q11 q12 q13 q14 q15
     go_wp2_with fail
     refine region_invT ((.val (.pointer (some ⟨w.heap.size, 0, none⟩))) :: (.val (.pointer (some ⟨w.heap.size, 0, none⟩))) :: (.val (.pointer (some ⟨w.heap.size, 0, none⟩))) :: (.val (.int .u64 a0)) :: (.val (.pointer (some ⟨(w.heap.size + 1), 0, none⟩))) :: (.val (.pointer (some ⟨(w.heap.size + 1), 0, none⟩))) :: (.val (.pointer (some ⟨(w.heap.size + 1), 4, none⟩))) :: (.val (.int .u64 b4)) :: (.val (.agg (u64s (pr s40)).toArray)) :: (.val (.pointer (some ⟨w.heap.size, 0, none⟩))) :: (.val (.pointer (some ⟨w.heap.size, 0, none⟩))) :: (.val (.pointer (some ⟨w.heap.size, 1, none⟩))) :: (.val (.int .u64 a1)) :: (.val (.pointer (some ⟨(w.heap.size + 1), 0, none⟩))) :: (.val (.pointer (some ⟨(w.heap.size + 1), 0, none⟩))) :: (.val (.pointer (some ⟨(w.heap.size + 1), 3, none⟩))) :: (.val (.int .u64 b3)) :: (.val (.agg (u64s (pr s41)).toArray)) :: (.val (.pointer (some ⟨w.heap.size, 0, none⟩))) :: (.val (.pointer (some ⟨w.heap.size, 0, none⟩))) :: (.val (.pointer (some ⟨w.heap.size, 2, none⟩))) :: (.val (.int .u64 a2)) :: (.val (.pointer (some ⟨(w.heap.size + 1), 0, none⟩))) :: (.val (.pointer (some ⟨(w.heap.size + 1), 0, none⟩))) :: (.val (.pointer (some ⟨(w.heap.size + 1), 2, none⟩))) :: (.val (.int .u64 b2)) :: (.val (.agg (u64s (pr s42)).toArray)) :: (.val (.pointer (some ⟨w.heap.size, 0, none⟩))) :: (.val (.pointer (some ⟨w.heap.size, 0, none⟩))) :: (.val (.pointer (some ⟨w.heap.size, 3, none⟩))) :: (.val (.int .u64 a3)) :: (.val (.pointer (some ⟨(w.heap.size + 1), 0, none⟩))) :: (.val (.pointer (some ⟨(w.heap.size + 1), 0, none⟩))) :: (.val (.pointer (some ⟨(w.heap.size + 1), 1, none⟩))) :: (.val (.int .u64 b1)) :: (.val (.agg (u64s (pr s43)).toArray)) :: (.val (.pointer (some ⟨w.heap.size, 0, none⟩))) :: (.val (.pointer (some ⟨w.heap.size, 0, none⟩))) :: (.val (.pointer (some ⟨w.heap.size, 4, none⟩))) :: (.val (.int .u64 a4)) :: (.val (.pointer (some ⟨(w.heap.size + 1), 0, none⟩))) :: (.val (.pointer (some ⟨(w.heap.size + 1), 0, none⟩))) :: (.val (.pointer (some ⟨(w.heap.size + 1), 0, none⟩))) :: (.val (.int .u64 b0)) :: (.val (.agg (u64s (pr s44)).toArray)) :: (.blk 206 (u64s [0, 0])) :: []) (by kernel_rfl) (by kernel_rfl) (by kernel_rfl) ?_ ?_
     ·refine Steps'.cons ?_ (Steps'.cons ?_ (Steps'.cons ?_ (Steps'.cons ?_ (Steps'.cons ?_ (Steps'.cons ?_ (Steps'.cons ?_ (Steps'.cons ?_ (Steps'.cons ?_ (Steps'.cons ?_ (Steps'.cons ?_ (Steps'.cons ?_ (Steps'.cons ?_ (Steps'.cons ?_ (Steps'.cons ?_ (Steps'.cons ?_ (Steps'.cons ?_ (Steps'.cons ?_ (Steps'.cons ?_ (Steps'.cons ?_ (Steps'.cons ?_ (Steps'.cons ?_ (Steps'.cons ?_ (Steps'.cons ?_ (Steps'.cons ?_ (Steps'.cons ?_ (Steps'.cons ?_ (Steps'.cons ?_ (Steps'.cons ?_ (Steps'.cons ?_ (Steps'.cons ?_ (Steps'.cons ?_ (Steps'.cons ?_ (Steps'.cons ?_ (Steps'.cons ?_ (Steps'.cons ?_ (Steps'.cons ?_ (Steps'.cons ?_ (Steps'.cons ?_ (Steps'.cons ?_ (Steps'.cons ?_ (Steps'.cons ?_ (Steps'.cons ?_ (Steps'.cons ?_ (Steps'.cons ?_ (Steps'.cons ?_ (Steps'.one _ _ _ _ _ _ _))))))))))))))))))))))))))))))))))))))))))))))
      ·intro ax wx hb hs hd
       have h5 : ax.tmps.getD 5 undef = (.pointer (some ⟨w.heap.size, 0, none⟩)) := hs 5 (by kernel_rfl)
       exact Does.value _ (by clear hs hd; go_simp) rfl
      ·intro ax wx hb hs hd
       have h188 := vOf (hd 0 188 rfl (by kernel_rfl) (by decide))
       exact Does.value _ (by clear hs hd; go_simp) rfl
      ·intro ax wx hb hs hd
       have h189 := vOf (hd 1 189 rfl (by kernel_rfl) (by decide))
       exact Does.value _ (by clear hs hd; go_simp) rfl
      ·intro ax wx hb hs hd
       have h190 := vOf (hd 2 190 rfl (by kernel_rfl) (by decide))
       have cx : wx.cell? ⟨w.heap.size, 0, none⟩ = some (.int .u64 a0) := (Blk.later W4.out.2.1 hb (Blk.lt W4.out.2.1)).cell 0
       exact Does.value _ (by clear hs hd; go_simp) rfl
      ·intro ax wx hb hs hd
       have h6 : ax.tmps.getD 6 undef = (.pointer (some ⟨(w.heap.size + 1), 0, none⟩)) := hs 6 (by kernel_rfl)
       exact Does.value _ (by clear hs hd; go_simp) rfl
      ·intro ax wx hb hs hd
       have h192 := vOf (hd 4 192 rfl (by kernel_rfl) (by decide))
       exact Does.value _ (by clear hs hd; go_simp) rfl
      ·intro ax wx hb hs hd
       have h193 := vOf (hd 5 193 rfl (by kernel_rfl) (by decide))
       exact Does.value _ (by clear hs hd; go_simp) rfl
      ·intro ax wx hb hs hd
       have h194 := vOf (hd 6 194 rfl (by kernel_rfl) (by decide))
       have cx : wx.cell? ⟨(w.heap.size + 1), 4, none⟩ = some (.int .u64 b4) := (Blk.later W4.out.2.2.1 hb (Blk.lt W4.out.2.2.1)).cell 4
       exact Does.value _ (by clear hs hd; go_simp) rfl
      ·intro ax wx hb hs hd
       have h191 := vOf (hd 3 191 rfl (by kernel_rfl) (by decide))
       have h195 := vOf (hd 7 195 rfl (by kernel_rfl) (by decide))
       refine Does.call 168 #[(.int .u64 a0), (.int .u64 b4)] (by clear hs hd; go_simp) ?_
       refine (H4.out.1 _).mono ?_
       rintro z w' ⟨rfl, l⟩
       exact ⟨_, rfl, rfl, l⟩
      ·intro ax wx hb hs hd
       have h5 : ax.tmps.getD 5 undef = (.pointer (some ⟨w.heap.size, 0, none⟩)) := hs 5 (by kernel_rfl)
       exact Does.value _ (by clear hs hd; go_simp) rfl
      ·intro ax wx hb hs hd
       have h197 := vOf (hd 9 197 rfl (by kernel_rfl) (by decide))
       exact Does.value _ (by clear hs hd; go_simp) rfl
      ·intro ax wx hb hs hd
       have h198 := vOf (hd 10 198 rfl (by kernel_rfl) (by decide))
       exact Does.value _ (by clear hs hd; go_simp) rfl
      ·intro ax wx hb hs hd
       have h199 := vOf (hd 11 199 rfl (by kernel_rfl) (by decide))
       have cx : wx.cell? ⟨w.heap.size, 1, none⟩ = some (.int .u64 a1) := (Blk.later W4.out.2.1 hb (Blk.lt W4.out.2.1)).cell 1
       exact Does.value _ (by clear hs hd; go_simp) rfl
      ·intro ax wx hb hs hd
       have h6 : ax.tmps.getD 6 undef = (.pointer (some ⟨(w.heap.size + 1), 0, none⟩)) := hs 6 (by kernel_rfl)
       exact Does.value _ (by clear hs hd; go_simp) rfl
      ·intro ax wx hb hs hd
       have h201 := vOf (hd 13 201 rfl (by kernel_rfl) (by decide))
       exact Does.value _ (by clear hs hd; go_simp) rfl
      ·intro ax wx hb hs hd
       have h202 := vOf (hd 14 202 rfl (by kernel_rfl) (by decide))
       exact Does.value _ (by clear hs hd; go_simp) rfl
      ·intro ax wx hb hs hd
       have h203 := vOf (hd 15 203 rfl (by kernel_rfl) (by decide))
       have cx : wx.cell? ⟨(w.heap.size + 1), 3, none⟩ = some (.int .u64 b3) := (Blk.later W4.out.2.2.1 hb (Blk.lt W4.out.2.2.1)).cell 3
       exact Does.value _ (by clear hs hd; go_simp) rfl
      ·intro ax wx hb hs hd
       have h196 := vOf (hd 8 196 rfl (by kernel_rfl) (by decide))
       have h200 := vOf (hd 12 200 rfl (by kernel_rfl) (by decide))
       have h204 := vOf (hd 16 204 rfl (by kernel_rfl) (by decide))
       refine Does.call 169 #[(.agg (u64s (pr s40)).toArray), (.int .u64 a1), (.int .u64 b3)] (by clear hs hd; go_simp) ?_
       refine (H4.out.2.1 _).mono ?_
       rintro z w' ⟨rfl, l⟩
       exact ⟨_, rfl, rfl, l⟩
      ·intro ax wx hb hs hd
       have h5 : ax.tmps.getD 5 undef = (.pointer (some ⟨w.heap.size, 0, none⟩)) := hs 5 (by kernel_rfl)
       exact Does.value _ (by clear hs hd; go_simp) rfl
      ·intro ax wx hb hs hd
       have h206 := vOf (hd 18 206 rfl (by kernel_rfl) (by decide))
       exact Does.value _ (by clear hs hd; go_simp) rfl
      ·intro ax wx hb hs hd
       have h207 := vOf (hd 19 207 rfl (by kernel_rfl) (by decide))
       exact Does.value _ (by clear hs hd; go_simp) rfl
      ·intro ax wx hb hs hd
       have h208 := vOf (hd 20 208 rfl (by kernel_rfl) (by decide))
       have cx : wx.cell? ⟨w.heap.size, 2, none⟩ = some (.int .u64 a2) := (Blk.later W4.out.2.1 hb (Blk.lt W4.out.2.1)).cell 2
       exact Does.value _ (by clear hs hd; go_simp) rfl
      ·intro ax wx hb hs hd
       have h6 : ax.tmps.getD 6 undef = (.pointer (some ⟨(w.heap.size + 1), 0, none⟩)) := hs 6 (by kernel_rfl)
       exact Does.value _ (by clear hs hd; go_simp) rfl
      ·intro ax wx hb hs hd
       have h210 := vOf (hd 22 210 rfl (by kernel_rfl) (by decide))
       exact Does.value _ (by clear hs hd; go_simp) rfl
      ·intro ax wx hb hs hd
       have h211 := vOf (hd 23 211 rfl (by kernel_rfl) (by decide))
       exact Does.value _ (by clear hs hd; go_simp) rfl
      ·intro ax wx hb hs hd
       have h212 := vOf (hd 24 212 rfl (by kernel_rfl) (by decide))
       have cx : wx.cell? ⟨(w.heap.size + 1), 2, none⟩ = some (.int .u64 b2) := (Blk.later W4.out.2.2.1 hb (Blk.lt W4.out.2.2.1)).cell 2
       exact Does.value _ (by clear hs hd; go_simp) rfl
      ·intro ax wx hb hs hd
       have h205 := vOf (hd 17 205 rfl (by kernel_rfl) (by decide))
       have h209 := vOf (hd 21 209 rfl (by kernel_rfl) (by decide))
       have h213 := vOf (hd 25 213 rfl (by kernel_rfl) (by decide))
       refine Does.call 169 #[(.agg (u64s (pr s41)).toArray), (.int .u64 a2), (.int .u64 b2)] (by clear hs hd; go_simp) ?_
       refine (H4.out.2.2.1 _).mono ?_
       rintro z w' ⟨rfl, l⟩
       exact ⟨_, rfl, rfl, l⟩
      ·intro ax wx hb hs hd
       have h5 : ax.tmps.getD 5 undef = (.pointer (some ⟨w.heap.size, 0, none⟩)) := hs 5 (by kernel_rfl)
       exact Does.value _ (by clear hs hd; go_simp) rfl
      ·intro ax wx hb hs hd
       have h215 := vOf (hd 27 215 rfl (by kernel_rfl) (by decide))
       exact Does.value _ (by clear hs hd; go_simp) rfl
      ·intro ax wx hb hs hd
       have h216 := vOf (hd 28 216 rfl (by kernel_rfl) (by decide))
       exact Does.value _ (by clear hs hd; go_simp) rfl
      ·intro ax wx hb hs hd
       have h217 := vOf (hd 29 217 rfl (by kernel_rfl) (by decide))
       have cx : wx.cell? ⟨w.heap.size, 3, none⟩ = some (.int .u64 a3) := (Blk.later W4.out.2.1 hb (Blk.lt W4.out.2.1)).cell 3
       exact Does.value _ (by clear hs hd; go_simp) rfl
      ·intro ax wx hb hs hd
       have h6 : ax.tmps.getD 6 undef = (.pointer (some ⟨(w.heap.size + 1), 0, none⟩)) := hs 6 (by kernel_rfl)
       exact Does.value _ (by clear hs hd; go_simp) rfl
      ·intro ax wx hb hs hd
       have h219 := vOf (hd 31 219 rfl (by kernel_rfl) (by decide))
       exact Does.value _ (by clear hs hd; go_simp) rfl
      ·intro ax wx hb hs hd
       have h220 := vOf (hd 32 220 rfl (by kernel_rfl) (by decide))
       exact Does.value _ (by clear hs hd; go_simp) rfl
      ·intro ax wx hb hs hd
       have h221 := vOf (hd 33 221 rfl (by kernel_rfl) (by decide))
       have cx : wx.cell? ⟨(w.heap.size + 1), 1, none⟩ = some (.int .u64 b1) := (Blk.later W4.out.2.2.1 hb (Blk.lt W4.out.2.2.1)).cell 1
       exact Does.value _ (by clear hs hd; go_simp) rfl
      ·intro ax wx hb hs hd
       have h214 := vOf (hd 26 214 rfl (by kernel_rfl) (by decide))
       have h218 := vOf (hd 30 218 rfl (by kernel_rfl) (by decide))
       have h222 := vOf (hd 34 222 rfl (by kernel_rfl) (by decide))
       refine Does.call 169 #[(.agg (u64s (pr s42)).toArray), (.int .u64 a3), (.int .u64 b1)] (by clear hs hd; go_simp) ?_
       refine (H4.out.2.2.2.1 _).mono ?_
       rintro z w' ⟨rfl, l⟩
       exact ⟨_, rfl, rfl, l⟩
      ·intro ax wx hb hs hd
       have h5 : ax.tmps.getD 5 undef = (.pointer (some ⟨w.heap.size, 0, none⟩)) := hs 5 (by kernel_rfl)
       exact Does.value _ (by clear hs hd; go_simp) rfl
      ·intro ax wx hb hs hd
       have h224 := vOf (hd 36 224 rfl (by kernel_rfl) (by decide))
       exact Does.value _ (by clear hs hd; go_simp) rfl
      ·intro ax wx hb hs hd
       have h225 := vOf (hd 37 225 rfl (by kernel_rfl) (by decide))
       exact Does.value _ (by clear hs hd; go_simp) rfl
      ·intro ax wx hb hs hd
       have h226 := vOf (hd 38 226 rfl (by kernel_rfl) (by decide))
       have cx : wx.cell? ⟨w.heap.size, 4, none⟩ = some (.int .u64 a4) := (Blk.later W4.out.2.1 hb (Blk.lt W4.out.2.1)).cell 4
       exact Does.value _ (by clear hs hd; go_simp) rfl
      ·intro ax wx hb hs hd
       have h6 : ax.tmps.getD 6 undef = (.pointer (some ⟨(w.heap.size + 1), 0, none⟩)) := hs 6 (by kernel_rfl)
       exact Does.value _ (by clear hs hd; go_simp) rfl
      ·intro ax wx hb hs hd
       have h228 := vOf (hd 40 228 rfl (by kernel_rfl) (by decide))
       exact Does.value _ (by clear hs hd; go_simp) rfl
      ·intro ax wx hb hs hd
       have h229 := vOf (hd 41 229 rfl (by kernel_rfl) (by decide))
       exact Does.value _ (by clear hs hd; go_simp) rfl
      ·intro ax wx hb hs hd
       have h230 := vOf (hd 42 230 rfl (by kernel_rfl) (by decide))
       have cx : wx.cell? ⟨(w.heap.size + 1), 0, none⟩ = some (.int .u64 b0) := (Blk.later W4.out.2.2.1 hb (Blk.lt W4.out.2.2.1)).cell 0
       exact Does.value _ (by clear hs hd; go_simp) rfl
      ·intro ax wx hb hs hd
       have h223 := vOf (hd 35 223 rfl (by kernel_rfl) (by decide))
       have h227 := vOf (hd 39 227 rfl (by kernel_rfl) (by decide))
       have h231 := vOf (hd 43 231 rfl (by kernel_rfl) (by decide))
       refine Does.call 169 #[(.agg (u64s (pr s43)).toArray), (.int .u64 a4), (.int .u64 b0)] (by clear hs hd; go_simp) ?_
       refine (H4.out.2.2.2.2 _).mono ?_
       rintro z w' ⟨rfl, l⟩
       exact ⟨_, rfl, rfl, l⟩
      ·intro ax wx hb hs hd
       exact Does.alloc 206 rfl 2 _ zeroWide hb.size
     ·intro wx hb
      iterate 45 refine @Ends.val _ _ _ _ _ _ _ _ _ _ rfl ?_
      refine @Ends.blk _ _ _ _ _ _ _ _ _ 206 (u64s [0, 0]) rfl ?_
      intro g45 hg45 bg45
      refine @Ends.one _ _ _ _ _ _ _ ?_
      simp only [Act.put, sA, sB, sC]
      obtain ⟨G4, hG4⟩ : ∃ q, q = g45 := ⟨_, rfl⟩
      subst hG4
      refine last_store 206 (.tmp 15) (.tmp 232) rfl rfl G4 rfl 206 _ (u64s (pr s44)) rfl bg45 rfl sizeWide (u64s_one _) ?_
      intro y n1 n2 n3
      have q5 := hb.size
      have q10 := W4.out.2.1.lt
      have q11 := W4.out.2.2.1.lt
      have q12 := W4.out.2.2.2.1.lt
      have q13 := W4.out.2.2.2.2.1.lt
      have q14 := W4.out.2.2.2.2.2.1.lt
      have q15 := W4.out.2.2.2.2.2.2.1.lt
      have q16 := W4.out.2.2.2.2.2.2.2.1.lt
      have qz := W4.out.2.2.2.2.2.2.2.2
      have W5 : Hid (Below w.heap.size w y ∧ Blk y w.heap.size 116 (u64s [a0, a1, a2, a3, a4]) ∧ Blk y (w.heap.size + 1) 116 (u64s [b0, b1, b2, b3, b4]) ∧ Blk y (w.heap.size + 1 + 1) 116 (u64s [0, 0, 0, 0, 0]) ∧ Blk y G0 206 (u64s (pr s04)) ∧ Blk y G1 206 (u64s (pr s14)) ∧ Blk y G2 206 (u64s (pr s24)) ∧ Blk y G3 206 (u64s (pr s34)) ∧ Blk y G4 206 (u64s (pr s44)) ∧ True ∧ w.heap.size + 3 ≤ G0 ∧ w.heap.size + 3 ≤ G1 ∧ w.heap.size + 3 ≤ G2 ∧ w.heap.size + 3 ≤ G3 ∧ w.heap.size + 3 ≤ G4 ∧ G0 < G1 ∧ G1 < G2 ∧ G2 < G3 ∧ G3 < G4) := ⟨below_kept (below_chain W4.out.1 hb (by omega)) n3 (by omega) (fun j hj => by omega), (W4.out.2.1.later hb q10).kept n3 (by omega), (W4.out.2.2.1.later hb q11).kept n3 (by omega), (W4.out.2.2.2.1.later hb q12).kept n3 (by omega), (W4.out.2.2.2.2.1.later hb q13).kept n3 (by omega), (W4.out.2.2.2.2.2.1.later hb q14).kept n3 (by omega), (W4.out.2.2.2.2.2.2.1.later hb q15).kept n3 (by omega), (W4.out.2.2.2.2.2.2.2.1.later hb q16).kept n3 (by omega), n1, trivial, by omega, by omega, by omega, by omega, by omega, by omega, by omega, by omega, by omega⟩
      obtain ⟨y5, rfl⟩ : ∃ q, q = y := ⟨_, rfl⟩
      clear W4 H4 n1 n2 n3 hb q5 qz hg45 bg45 q10 q11 q12 q13 q14 q15 q16
      go_wp2_with (first | ((with_reducible show wpList _ _ _ (({ dst := some 233, op := _, type := _, pos := _, after := _, guard := _ } : Oper) :: _) _ _); refine wpList_load_blk rfl 206 (.tmp 11) rfl G0 rfl (u64s (pr s04)) _ W5.out.2.2.2.2.1 Tryz.underlying206 rfl sizeWide ?_) | ((with_reducible show wpList _ _ _ (({ dst := some 234, op := _, type := _, pos := _, after := _, guard := _ } : Oper) :: _) _ _); refine wpList_load_blk rfl 206 (.tmp 12) rfl G1 rfl (u64s (pr s14)) _ W5.out.2.2.2.2.2.1 Tryz.underlying206 rfl sizeWide ?_) | ((with_reducible show wpList _ _ _ (({ dst := some 235, op := _, type := _, pos := _, after := _, guard := _ } : Oper) :: _) _ _); refine wpList_load_blk rfl 206 (.tmp 13) rfl G2 rfl (u64s (pr s24)) _ W5.out.2.2.2.2.2.2.1 Tryz.underlying206 rfl sizeWide ?_) | ((with_reducible show wpList _ _ _ (({ dst := some 236, op := _, type := _, pos := _, after := _, guard := _ } : Oper) :: _) _ _); refine wpList_load_blk rfl 206 (.tmp 14) rfl G3 rfl (u64s (pr s34)) _ W5.out.2.2.2.2.2.2.2.1 Tryz.underlying206 rfl sizeWide ?_) | ((with_reducible show wpList _ _ _ (({ dst := some 237, op := _, type := _, pos := _, after := _, guard := _ } : Oper) :: _) _ _); refine wpList_load_blk rfl 206 (.tmp 15) rfl G4 rfl (u64s (pr s44)) _ W5.out.2.2.2.2.2.2.2.2.1 Tryz.underlying206 rfl sizeWide ?_) | (go_at_call 170; refine (HF.out.2 _ W5.out.2.1).mono ?_; rintro z y6 ⟨rfl, ⟨lr, q1, q2⟩, q3⟩; have HR : Hid (Blk y6 w.heap.size 116 (u64s lr) ∧ Blk y6 (w.heap.size + 1 + 1) 116 (u64s [0, 0, 0, 0, 0]) ∧ Below w.heap.size w y6 ∧ lr.length = 5 ∧ Fe lr (v5 s04 s14 s24 s34 s44 % PR)) := ⟨q1, W5.out.2.2.2.1.kept q3 (by omega), below_kept W5.out.1 q3 W5.out.1.size (fun j hj => by omega), q2.len, q2⟩; clear q1 q2 q3) | ((with_reducible show wpList _ _ _ (({ dst := some 239, op := _, type := _, pos := _, after := _, guard := _ } : Oper) :: _) _ _); refine wpList_load_blk rfl 116 (.tmp 2) rfl w.heap.size rfl (u64s lr) _ HR.out.1 Tryz.underlying116 rfl (by rw [u64s_length, HR.out.2.2.2.1]; exact sizeElem) ?_) | ((with_reducible show wpList _ _ _ (({ dst := none, op := _, type := _, pos := _, after := _, guard := _ } : Oper) :: _) _ _); refine wpList_store_blk rfl 116 116 _ _ rfl _ rfl _ (u64s lr) rfl HR.out.2.1 (by rw [u64s_length, HR.out.2.2.2.1]; rfl) (by rw [u64s_length, HR.out.2.2.2.1]; exact sizeElem) (u64s_one _) ?_; intro y7 b7 s7 k7))
      exact ret_blk rfl (w.heap.size + 1 + 1) (u64s lr) _ rfl b7 Tryz.underlying116 rfl (by rw [u64s_length, HR.out.2.2.2.1]; exact sizeElem) rfl ⟨lr, rfl, by have h := HR.out.2.2.2.2; rw [HF.out.1] at h; exact h, below_kept HR.out.2.2.1 k7 HR.out.2.2.1.size (fun j hj => by omega)⟩
theorem equal32A (t : TypeId) (n : Nat) (ht : Tryz.prog.underlying t = some (.array n 5)) (d : Nat) (zs : List Int) (hl : zs.length = n) (w : World) : (Op.equalIn (d + 2) t (.agg (u8s zs).toArray) (.agg (u8s zs).toArray)).run Tryz.prog w = .ok true w := by
 have hsz : ∀ w, (sizeOf 5).run Tryz.prog w = .ok 1 w := fun w => by
  have h := infoB8
  cases hq : Tryz.prog.info? 5 with
  | none => simp [hq] at h
  | some i => simp [hq] at h; simp [sizeOf, typeInfo, hq, h.2]
 have he := Tryz.underlying5
 rw [Op.equalIn]
 simp only [Sem.run_bind, run_underlying ht, Result.andThen_ok, hsz, Std.Legacy.Range.forIn_eq_forIn_range', Std.Legacy.Range.size, Nat.sub_zero, Nat.add_sub_cancel, Nat.div_one]
 have hlr : ∀ i ∈ List.range' 0 n 1, i < n := fun i hi => by simpa using (List.mem_range'_1.1 hi).2
 generalize List.range' 0 n 1 = l at hlr ⊢
 induction l with
 | nil => simp
 | cons i l ih =>
  have hi : i < n := hlr i (by simp)
  have px : (Go.part 5 (u8s zs).toArray (i * 1)).run Tryz.prog w = .ok (.int .u8 (zs.getD i 0)) w := by
   simp [Go.part, isAgg, run_underlying he, u8s, List.getD, List.getElem?_eq_getElem (show i < zs.length by omega)]
  have pe : (Op.equalIn (d + 1) 5 (.int .u8 (zs.getD i 0)) (.int .u8 (zs.getD i 0))).run Tryz.prog w = .ok true w := by
   rw [run_equalIn_int w d 5 .u8 .u8 _ _ he]; simp
  simp only [List.forIn_cons, Sem.run_bind, px, pe, Result.andThen_ok]
  simp only [Bool.not_true, Bool.false_eq_true, if_false, Sem.run_pure, Result.andThen_ok]
  exact ih fun j hj => hlr j (by simp [hj])
theorem mzero_any (x : Int) (hx : Word x) (w : World) :
  Calls Tryz.prog 187 #[.int .u64 x] w fun e w' => e = .returned (.int .u64 (mk (x == 0))) ∧ w = w' := by
 have hb : Word (bits .or .u64 x (IntKind.u64.wrap (-x)) / 9223372036854775808) := by rw [top_code x hx]; split <;> decide
 have H : Hid (bits .xor .u64 IntKind.u64.max (mk (bits .or .u64 x (IntKind.u64.wrap (-x)) / 9223372036854775808 % 2 == 1)) = mk (x == 0)) := by
  show _ = _
  rw [not_mk, top_code x hx]
  by_cases h : x = 0
  ·simp [h]
  ·have h' : (x == 0) = false := by simpa using h
   simp [h, h']
 go_enter Tryz.func187, Tryz.ntmps187
 go_wp2_with (go_at_call 165; refine (bit_any _ hb _).mono ?_; rintro e w' ⟨rfl, rfl⟩)
 go_ret
 exact ⟨ret_int H.out, rfl⟩
theorem or_zero_iff (a b : Int) (ha : Word a) (hb : Word b) : Word (bits .or .u64 a b) ∧ (bits .or .u64 a b = 0 ↔ a = 0 ∧ b = 0) := by
 rw [u64_or _ _ ha.1 ha.2 hb.1 hb.2]
 obtain ⟨x, rfl⟩ := Int.eq_ofNat_of_zero_le ha.1
 obtain ⟨y, rfl⟩ := Int.eq_ofNat_of_zero_le hb.1
 have h1 := ha.2
 have h2 := hb.2
 simp only [Int.toNat_natCast]
 have h3 : x ||| y < 2 ^ 64 := Nat.or_lt_two_pow (by omega) (by omega)
 refine ⟨⟨by omega, by omega⟩, ?_⟩
 have e : x ||| y = 0 ↔ x = 0 ∧ y = 0 := by
  constructor
  ·intro h
   refine ⟨Nat.eq_of_testBit_eq fun i => ?_, Nat.eq_of_testBit_eq fun i => ?_⟩
   ·have := congrArg (·.testBit i) h
    simp only [Nat.testBit_or, Nat.zero_testBit, Bool.or_eq_false_iff] at this
    simp [this.1]
   ·have := congrArg (·.testBit i) h
    simp only [Nat.testBit_or, Nat.zero_testBit, Bool.or_eq_false_iff] at this
    simp [this.2]
  ·rintro ⟨rfl, rfl⟩; rfl
 omega
theorem digs_zero (x : Int) (h : 0 ≤ x ∧ x < 57896044618658097711785492504343953926634992332820282019728792003956564819968) : (∀ j, j < 5 → (digs x).getD j 0 = 0) ↔ x = 0 := by
 constructor
 ·intro hz
  have h0 := hz 0 (by omega)
  have h1 := hz 1 (by omega)
  have h2 := hz 2 (by omega)
  have h3 := hz 3 (by omega)
  have h4 := hz 4 (by omega)
  simp only [digs, List.getD_cons_zero, List.getD_cons_succ] at h0 h1 h2 h3 h4
  omega
 ·rintro rfl j hj
  match j, hj with
  | 0, _ => rfl
  | 1, _ => rfl
  | 2, _ => rfl
  | 3, _ => rfl
  | 4, _ => rfl
theorem digs_word (x : Int) (j : Nat) : Word ((digs x).getD j 0) := by
 match j with
 | 0 => exact ⟨by simp only [digs, List.getD_cons_zero, List.getD_cons_succ]; omega, by simp only [digs, List.getD_cons_zero, List.getD_cons_succ]; omega⟩
 | 1 => exact ⟨by simp only [digs, List.getD_cons_zero, List.getD_cons_succ]; omega, by simp only [digs, List.getD_cons_zero, List.getD_cons_succ]; omega⟩
 | 2 => exact ⟨by simp only [digs, List.getD_cons_zero, List.getD_cons_succ]; omega, by simp only [digs, List.getD_cons_zero, List.getD_cons_succ]; omega⟩
 | 3 => exact ⟨by simp only [digs, List.getD_cons_zero, List.getD_cons_succ]; omega, by simp only [digs, List.getD_cons_zero, List.getD_cons_succ]; omega⟩
 | 4 => exact ⟨by simp only [digs, List.getD_cons_zero, List.getD_cons_succ]; omega, by simp only [digs, List.getD_cons_zero, List.getD_cons_succ]; omega⟩
 | j + 5 => exact ⟨by simp [digs], by simp [digs]⟩
theorem fzero_any (l : List Int) (x : Int) (hl : Fe l x) (w : World) :
  Calls Tryz.prog 151 #[.agg (u64s l).toArray] w fun e w' => e = .returned (.int .u64 (mk (x == 0))) ∧ Below w.heap.size w w' := by
 have hx : 0 ≤ x ∧ x < 57896044618658097711785492504343953926634992332820282019728792003956564819968 := by have h := hl.bd; unfold PR at h; omega
 have HL : Hid (Fe l x ∧ l.length = 5 ∧ ((∀ j, j < 5 → (digs x).getD j 0 = 0) ↔ x = 0)) := ⟨hl, hl.len, digs_zero x hx⟩
 have HD : Hid ((digs x).length = 5 ∧ (u64s (digs x)).length = 5) := ⟨rfl, rfl⟩
 have HW : Hid (∀ j, Word ((digs x).getD j 0)) := digs_word x
 obtain ⟨D, hD⟩ : ∃ z, digs x = z := ⟨_, rfl⟩
 have HR : Hid (∀ g W, Blk W g 116 (u64s l) → Calls Tryz.prog 173 #[.pointer (some ⟨g, 0, none⟩)] W fun e w' => e = .returned (.tuple #[]) ∧ Blk w' g 116 (u64s D) ∧ Kept (fun k => k = g) W w') := by rw [← hD]; exact fun g W hB => reduce_any g l x W hB hl
 rw [hD] at HL HD HW
 clear hl hx hD
 go_enter Tryz.func151, Tryz.ntmps151
 go_wp2_with (first | (refine wpList_box_new rfl 116 (.tmp 0) rfl (u64s l) rfl ?_; intro x1 z1 s1 l1) | (go_at_call 173; refine (HR.out _ _ z1).mono ?_; rintro e x3 ⟨rfl, b3, k3⟩) | (refine wpList_load_mid rfl 114 _ rfl w.heap.size 0 rfl (u64s D) _ b3.whole Tryz.underlying114 rfl (by rw [HD.out.2]; exact sizeA5) ?_))
 have WW : Hid (Below w.heap.size w x3) := below_kept l1 k3 (by omega) (fun j hj => by omega)
 clear z1 s1 l1 b3 k3
 go_loopw [3, 9] (fun a i wr => ∃ (k : Nat) (A : Int), k ≤ 5 ∧ i = .int .i64 k ∧ a = .int .u64 A ∧ x3 = wr ∧ Word A ∧ (A = 0 ↔ ∀ j, j < k → D.getD j 0 = 0)) (fun _ i _ => 5 - (intOf i).toNat)
 case atStart => exact ⟨0, 0, by omega, rfl, rfl, rfl, ⟨by decide, by decide⟩, by simp⟩
 case round =>
  obtain ⟨k, A, hk, rfl, rfl, rfl, hA, hz⟩ := hrel
  by_cases hlt : k < 5
  ·have i1 : (k : Int) < 5 := by omega
   have i3 : (0 : Int) ≤ (k : Int) := by omega
   have f1 := idx_A5 D HD.out.1 k hlt
   have hw := HW.out k
   obtain ⟨X, hX⟩ : ∃ z, D.getD k 0 = z := ⟨_, rfl⟩
   rw [hX] at f1 hw
   have HO : Hid (Word (bits .or .u64 A X) ∧ (bits .or .u64 A X = 0 ↔ ∀ j, j < k + 1 → D.getD j 0 = 0)) := by
    obtain ⟨o1, o2⟩ := or_zero_iff A X hA hw
    refine ⟨o1, o2.trans ⟨fun h j hj => ?_, fun h => ⟨hz.2 fun j hj => h j (by omega), by rw [← hX]; exact h k (by omega)⟩⟩⟩
    by_cases e : j = k
    ·subst e; rw [hX]; exact h.2
    ·exact hz.1 h.1 j (by omega)
   clear hA hz hX hw
   go_wp2_with fail
   go_roundw
   case rel => exact ⟨k + 1, _, by omega, by go_num, rfl, trivial, HO.out.1, HO.out.2⟩
   case measure => simp [intOf]; omega
  ·have hk5 : k = 5 := by omega
   have i1 : ¬ ((k : Int) < 5) := by omega
   have HQ : Hid (mk (A == 0) = mk (x == 0)) := by
    rw [hk5] at hz
    have : (A == 0) = (x == 0) := by
     rw [Bool.eq_iff_iff, beq_iff_eq, beq_iff_eq]
     exact hz.trans HL.out.2.2
    show mk (A == 0) = mk (x == 0)
    rw [this]
   clear hz hk5 hlt hk
   go_wp2_with (go_at_call 187; refine (mzero_any _ hA _).mono ?_; rintro e w' ⟨rfl, rfl⟩)
   go_ret
   exact ⟨ret_int HQ.out, WW.out⟩
def isF (x : Int) (v : Value) (w : World) : Prop := ∃ l, v = .agg (u64s l).toArray ∧ Fe l x
theorem isF_later (x : Int) : ∀ v w w', Below w.heap.size w w' → isF x v w → isF x v w' := fun _ _ _ _ h => h
def pwK (x : Int) (E k : Nat) : Int := x ^ (E / 2 ^ (256 - k)) % PR
theorem pwK_zero (x : Int) (E : Nat) (h : E < 2 ^ 256) : pwK x E 0 = 1 := by
 rw [pwK, Nat.sub_zero, Nat.div_eq_of_lt h, Int.pow_zero]; rfl
theorem pwK_all (x : Int) (E : Nat) : pwK x E 256 = x ^ E % PR := by
 rw [pwK, Nat.sub_self, Nat.pow_zero, Nat.div_one]
theorem pwK_succ (x : Int) (E k : Nat) (hk : k < 256) : (bif (((E / 2 ^ (255 - k) % 2 : Nat) : Int) == 1) then ((pwK x E k * pwK x E k) % PR * x) % PR else (pwK x E k * pwK x E k) % PR) = pwK x E (k + 1) := by
 have e1 : 2 ^ (256 - k) = 2 ^ (255 - k) * 2 := by rw [← Nat.pow_succ]; congr 1; omega
 have e2 : 256 - (k + 1) = 255 - k := by omega
 have e3 : (pwK x E k * pwK x E k) % PR = x ^ (2 * (E / 2 ^ (256 - k))) % PR := by
  rw [pwK, pm_l, pm_r, ← Int.pow_add]; congr 2; omega
 have e4 : E / 2 ^ (256 - k) = E / 2 ^ (255 - k) / 2 := by rw [e1, Nat.div_div_eq_div_mul]
 rw [e3, e4, pwK, e2]
 generalize E / 2 ^ (255 - k) = m
 rcases Nat.mod_two_eq_zero_or_one m with h | h
 ·rw [h]
  show x ^ (2 * (m / 2)) % PR = _
  congr 2; omega
 ·rw [h]
  show (x ^ (2 * (m / 2)) % PR * x) % PR = _
  rw [pm_l, ← Int.pow_succ]
  congr 2; omega
def isClo (b : Nat) (es : List Int) (v : Value) (w : World) : Prop := ∃ gL gE, v = .func (.func 228) #[] #[.pointer (some ⟨gL, 0, none⟩), .pointer (some ⟨gE, 0, none⟩)] ∧ b ≤ gL ∧ Blk w gL 3 [.int .i64 256] ∧ Blk w gE 22 (u8s es)
theorem isClo_later (b : Nat) (es : List Int) : ∀ v w w', Below w.heap.size w w' → isClo b es v w → isClo b es v w' := fun _ _ _ hb ⟨gL, gE, h1, h0, h2, h3⟩ => ⟨gL, gE, h1, h0, h2.later hb h2.lt, h3.later hb h3.lt⟩
theorem blk_ne {w : World} {g h : Nat} {t u : TypeId} {vs us : List Value} (a : Blk w g t vs) (b : Blk w h u us) (hn : t ≠ u) : g ≠ h := fun e => by
 subst e
 unfold Blk at a b
 rw [a] at b
 injection b with b
 injection b with _ b _
 exact hn b
theorem fpower_any (l es : List Int) (x : Int) (hl : Fe l x) (he : es.length = 32) (hb : Bytes es) (w : World) :
  Calls Tryz.prog 172 #[.agg (u64s l).toArray, .agg (u8s es).toArray] w fun e w' => ∃ r, e = .returned (.agg (u64s r).toArray) ∧ Fe r (x ^ (le es).toNat % PR) ∧ Below w.heap.size w w' := by
 obtain ⟨E, hE⟩ : ∃ z, (le es).toNat = z := ⟨_, rfl⟩
 have hE2 : E < 2 ^ 256 := by
  have h := le_bd es hb
  rw [he] at h
  have h2 : (256 : Int) ^ 32 = 115792089237316195423570985008687907853269984665640564039457584007913129639936 := by decide
  rw [h2] at h
  rw [← hE]
  have h3 : (2 : Nat) ^ 256 = 115792089237316195423570985008687907853269984665640564039457584007913129639936 := by decide
  omega
 have HP : Hid (pwK x E 0 = 1 ∧ pwK x E 256 = x ^ E % PR) := ⟨pwK_zero x E hE2, pwK_all x E⟩
 have HL : Hid (Fe l x ∧ (u64s l).length = 5 ∧ es.length = 32 ∧ Bytes es ∧ (u8s es).length = 32 ∧ (le es).toNat = E) := ⟨hl, by rw [u64s_length, hl.len], he, hb, by rw [u8s_length, he], hE⟩
 rw [hE]
 clear hl he hb hE hE2
 go_enter Tryz.func172, Tryz.ntmps172
 go_wp2_with (first | (refine wpList_box_new rfl 116 (.tmp 0) rfl (u64s l) rfl ?_; intro x1 z1 s1 l1) | (refine wpList_box_new rfl 22 (.tmp 1) rfl (u8s es) rfl ?_; intro x2 z2 s2 l2) | (refine wpList_alloc_new rfl 116 rfl 5 _ zeroElem ?_; intro x3 z3 s3 l3))
 try simp only [Act.put, sA, sB, sC]
 have e2 : x1.heap.size = w.heap.size + 1 := s1
 have e3 : x2.heap.size = w.heap.size + 1 + 1 := by omega
 rw [e2] at z2
 rw [e3] at z3
 try rw [e2]
 try rw [e3]
 have W0 : Hid (Below w.heap.size w x3 ∧ Blk x3 w.heap.size 116 (u64s l) ∧ Blk x3 (w.heap.size + 1) 22 (u8s es) ∧ Blk x3 (w.heap.size + 1 + 1) 116 (u64s [0, 0, 0, 0, 0]) ∧ w.heap.size + 3 = x3.heap.size) := ⟨below_chain (below_chain l1 l2 (by omega)) l3 (by omega), (z1.later l2 (by omega)).later l3 (by omega), z2.later l3 (by omega), z3, by omega⟩
 clear z1 s1 l1 z2 s2 l2 z3 s3 l3 e2 e3
 refine region_invP 4 ((.any (isF 1) (isF_later 1)) :: (.val (.agg (u8s es).toArray)) :: (.any (isClo (w.heap.size + 3) es) (isClo_later _ es)) :: (.blk 116 (u64s [0, 0, 0, 0, 0])) :: []) (by kernel_rfl) (by kernel_rfl) (by kernel_rfl) [5] ⟨.inl rfl, .inl rfl, .inl rfl, .inr ⟨116, _, 5, rfl, rfl, zeroElem⟩, trivial⟩ (by kernel_rfl) ?_ ?_
 ·refine Steps'.cons ?_ (Steps'.cons ?_ (Steps'.cons ?_ (Steps'.cons ?_ (Steps'.one _ _ _ _ _ _ _))))
  ·intro ax wx hb hs hd
   refine Does.call 79 #[.int .u64 1] (by clear hs hd; go_simp) ?_
   refine (small_any 1 (by decide) (by decide) _).mono ?_
   rintro z w' ⟨r, rfl, fr, l⟩
   exact ⟨_, rfl, ⟨r, rfl, fr⟩, l⟩
  ·intro ax wx hb hs hd
   have h3 : ax.tmps.getD 3 undef = (.pointer (some ⟨w.heap.size + 1, 0, none⟩)) := hs 3 (by kernel_rfl)
   exact Does.load 22 (.tmp 3) rfl (w.heap.size + 1) 0 h3 (u8s es) _ ((W0.out.2.2.1.later hb W0.out.2.2.1.lt).whole) Tryz.underlying22 rfl (by rw [HL.out.2.2.2.2.1]; exact size32)
  ·intro ax wx hb hs hd
   have h8 := vOf (hd 1 8 rfl (by kernel_rfl) (by decide))
   refine Does.call 203 #[.agg (u8s es).toArray] (by clear hs hd; go_simp) ?_
   refine (bits_any es HL.out.2.2.1 _).mono ?_
   rintro z w' ⟨gL, gE, rfl, q1, q2, q3, q4, l⟩
   exact ⟨_, rfl, ⟨gL, gE, rfl, by have := hb.size; have := W0.out.2.2.2.2; omega, q3, q4⟩, l⟩
  ·intro ax wx hb hs hd
   exact Does.alloc 116 rfl 5 _ zeroElem hb.size
 ·intro wx hb
  refine @EndsP.any _ _ _ _ _ _ _ _ (isF 1) (isF_later 1) rfl ?_
  intro v0 p0
  refine @EndsP.val _ _ _ _ _ _ _ _ (.agg (u8s es).toArray) rfl ?_
  refine @EndsP.any _ _ _ _ _ _ _ _ (isClo (w.heap.size + 3) es) (isClo_later _ es) rfl ?_
  intro v2 p2
  refine @EndsP.blk _ _ _ _ _ _ _ _ 116 (u64s [0, 0, 0, 0, 0]) rfl ?_
  intro g5 hg5 bg5
  intro hD n hn
  obtain ⟨m, rfl⟩ : ∃ m, n = m + 2 := ⟨n - 2, by have h3 : 2 ≤ n := hn; omega⟩
  obtain ⟨r0, rfl, f0⟩ := p0
  obtain ⟨gL, gE, rfl, hgL, bL, bE⟩ := p2
  clear hD hn
  have nLg : gL ≠ g5 := blk_ne bL bg5 (by decide)
  have nEg : gE ≠ g5 := blk_ne bE bg5 (by decide)
  have nEL : gE ≠ gL := blk_ne bE bL (by decide)
  have nr : Hid ((u64s r0).length = 5) := by rw [u64s_length, f0.len]; rfl
  simp only [Act.put, sA, sB, sC]
  refine wpAny_ready (rs := [4]) (by kernel_rfl) (by simp) (AllReady.cons rfl (fun K hK => ?_) AllReady.nil)
  rw [if_pos (by rfl)]
  refine last_store 116 (.tmp 5) (.tmp 7) rfl rfl g5 rfl 116 _ (u64s r0) rfl bg5 (by rw [nr.out]; rfl) (by rw [nr.out]; exact sizeElem) (u64s_one _) ?_
  intro w1 b1 s1 k1
  refine hK _ _ ?_
  refine wpAny_ready (rs := [5]) (by kernel_rfl) (by simp) (AllReady.cons rfl (fun K hK => ?_) AllReady.nil)
  rw [if_pos (by rfl)]
  refine last_assign (.tmp 9) rfl (some 6) rfl (.func (.func 228) #[] #[.pointer (some ⟨gL, 0, none⟩), .pointer (some ⟨gE, 0, none⟩)]) rfl ?_
  refine hK _ _ ?_
  refine wpAny_done (by kernel_rfl) (NoPanic.normal ?_) _
  simp only [Act.put, sA, sB, sC]
  have W1 : Hid (Below w.heap.size w w1 ∧ Blk w1 w.heap.size 116 (u64s l) ∧ Blk w1 (w.heap.size + 1 + 1) 116 (u64s [0, 0, 0, 0, 0]) ∧ Blk w1 gE 22 (u8s es) ∧ Blk w1 gL 3 [.int .i64 256] ∧ Blk w1 g5 116 (u64s r0) ∧ Fe r0 1 ∧ w.heap.size + 3 ≤ g5 ∧ w.heap.size + 3 ≤ gL ∧ gL ≠ g5 ∧ gE ≠ g5 ∧ gE ≠ gL) := by
   have q := W0.out.2.2.2.2
   have q2 := hb.size
   exact ⟨below_kept (below_chain W0.out.1 hb (by omega)) k1 (by omega) (fun j hj => by omega), (W0.out.2.1.later hb W0.out.2.1.lt).kept k1 (by omega), (W0.out.2.2.2.1.later hb W0.out.2.2.2.1.lt).kept k1 (by omega), bE.kept k1 (by omega), bL.kept k1 (by omega), b1, f0, by omega, hgL, nLg, nEg, nEL⟩
  clear W0 hb hg5 bg5 f0 hgL bL bE nLg nEg nEL nr b1 s1 k1 hK
  go_wp2_with fail
  go_loopw [10] (fun i wr => ∃ (k : Nat) (r : List Int), k ≤ 256 ∧ i = .int .i64 k ∧ Blk wr g5 116 (u64s r) ∧ Fe r (pwK x E k) ∧ Blk wr gL 3 [.int .i64 (256 - (k : Int))] ∧ Kept (fun b => b = g5 ∨ b = gL) w1 wr) (fun i _ => 256 - (intOf i).toNat)
  case atStart => exact ⟨0, r0, by omega, rfl, W1.out.2.2.2.2.2.1, by rw [HP.out.1]; exact W1.out.2.2.2.2.2.2.1, W1.out.2.2.2.2.1, Kept.refl _ _⟩
  case round =>
   obtain ⟨k, r, hk, rfl, hblk, hfe, hbl, hkp⟩ := hrel
   by_cases hlt : k < 256
   ·have i1 : (k : Int) < 256 := by omega
    have i3 : (0 : Int) ≤ (k : Int) := by omega
    obtain ⟨n, hn⟩ : ∃ n : Nat, 255 - k = n := ⟨_, rfl⟩
    have hn2 : (256 - (k : Int)) = (n : Int) + 1 := by omega
    have HW : Hid (Blk wr g5 116 (u64s r) ∧ Blk wr gL 3 [.int .i64 ((n : Int) + 1)] ∧ Blk wr w.heap.size 116 (u64s l) ∧ Blk wr gE 22 (u8s es) ∧ Kept (fun b => b = g5 ∨ b = gL) w1 wr) := by
     obtain ⟨a1, a2, a3, a4, a5, a6, a7, a8, a9, b1, b2, b3⟩ := W1.out
     rw [hn2] at hbl
     exact ⟨hblk, hbl, a2.kept hkp (by omega), a4.kept hkp (by omega), hkp⟩
    have HF : Hid (Fe r (pwK x E k) ∧ (u64s r).length = 5) := ⟨hfe, by rw [u64s_length, hfe.len]⟩
    have HN : Hid (255 - k = n ∧ n < 256 ∧ k < 256) := ⟨hn, by omega, hlt⟩
    clear hblk hfe hbl hkp hn hn2 hk
    go_wp2_with (first | (refine wpList_load_blk rfl 116 (.tmp 5) rfl g5 rfl (u64s r) _ HW.out.1 Tryz.underlying116 rfl (by rw [HF.out.2]; exact sizeElem) ?_) | (go_at_call 128; refine (square_any _ _ HF.out.1 _).mono ?_; rintro e y1 ⟨r1, rfl, f1, l1⟩; have HR : Hid (Fe r1 ((pwK x E k * pwK x E k) % PR) ∧ (u64s r1).length = 5) := ⟨f1, by rw [u64s_length, f1.len]⟩; clear f1) | (refine wpList_store_blk rfl 116 116 _ _ rfl _ rfl _ (u64s r1) rfl (HW.out.1.later l1 HW.out.1.lt) (by rw [HR.out.2, HF.out.2]) (by rw [HR.out.2]; exact sizeElem) (u64s_one _) ?_; intro y2 c2 t2 k2))
    have HV : Hid (Blk y2 g5 116 (u64s r1) ∧ Blk y2 gL 3 [.int .i64 ((n : Int) + 1)] ∧ Blk y2 w.heap.size 116 (u64s l) ∧ Blk y2 gE 22 (u8s es) ∧ Kept (fun b => b = g5 ∨ b = gL) w1 y2) := by
     obtain ⟨a1, a2, a3, a4, a5, a6, a7, a8, a9, b1, b2, b3⟩ := W1.out
     exact ⟨c2, (HW.out.2.1.later l1 HW.out.2.1.lt).kept k2 (by omega), (HW.out.2.2.1.later l1 HW.out.2.2.1.lt).kept k2 (by omega), (HW.out.2.2.2.1.later l1 HW.out.2.2.2.1.lt).kept k2 (by omega), HW.out.2.2.2.2.trans ((Kept.new _ l1).trans (k2.mono (fun b hb => Or.inl hb)))⟩
    simp only [Act.put, sA, sB, sC]
    have S0 : Hid (y2.rangeAt g5 0 (u64s r1) ∧ y2.rangeAt w.heap.size 0 (u64s l)) := ⟨HV.out.1.whole, HV.out.2.2.1.whole⟩
    clear c2 t2 k2 l1 HW
    refine wp_region_noPanic (till_region 7 (fun W => W.rangeAt g5 0 (u64s r1) ∧ W.rangeAt w.heap.size 0 (u64s l)) (by kernel_rfl) ?_)
    change wpTill _ _ _ _ _ _ _ _ y2.drew
    have HS : Hid (y2.drew.rangeAt g5 0 (u64s r1) ∧ y2.drew.rangeAt w.heap.size 0 (u64s l)) := S0.out
    refine tTake 0 (some 14) (.func (.func 228) #[] #[.pointer (some ⟨gL, 0, none⟩), .pointer (some ⟨gE, 0, none⟩)]) rfl rfl (by kernel_rfl) (by kernel_rfl) (by kernel_rfl) (by decide) (fun _ _ _ h => h) (by rfl) (fun _ => by go_simp) HS.out ?_
    simp only [Act.put, sA, sB, sC]
    refine tLoadMid 2 (some 16) (u64s r1) rfl rfl (by kernel_rfl) (by kernel_rfl) (by kernel_rfl) (by decide) (by kernel_rfl) (by kernel_rfl) (fun _ _ _ h => h) (by rfl) 116 (.tmp 5) rfl g5 0 rfl _ (fun _ h => h.1) Tryz.underlying116 rfl (by rw [HR.out.2]; exact sizeElem) HS.out ?_
    simp only [Act.put, sA, sB, sC]
    refine tLoadMid 3 (some 17) (u64s l) rfl rfl (by kernel_rfl) (by kernel_rfl) (by kernel_rfl) (by decide) (by kernel_rfl) (by kernel_rfl) (fun _ _ _ h => h) (by rfl) 116 (.tmp 2) rfl w.heap.size 0 rfl _ (fun _ h => h.2) Tryz.underlying116 rfl (by rw [HL.out.2.1]; exact sizeElem) HS.out ?_
    simp only [Act.put, sA, sB, sC]
    refine tLoadMid 5 (some 19) (u64s r1) rfl rfl (by kernel_rfl) (by kernel_rfl) (by kernel_rfl) (by decide) (by kernel_rfl) (by kernel_rfl) (fun _ _ _ h => h) (by rfl) 116 (.tmp 5) rfl g5 0 rfl _ (fun _ h => h.1) Tryz.underlying116 rfl (by rw [HR.out.2]; exact sizeElem) HS.out ?_
    simp only [Act.put, sA, sB, sC]
    have hbit := bit_of es HL.out.2.2.1 HL.out.2.2.2.1 n HN.out.2.1
    rw [HL.out.2.2.2.2.2] at hbit
    have hbd : Word (es.getD (n / 8) 0 / 2 ^ (n % 8)) := by
     have hX : 0 ≤ es.getD (n / 8) 0 ∧ es.getD (n / 8) 0 < 256 := by have := HL.out.2.2.2.1.at (n / 8) (by rw [HL.out.2.2.1]; have := HN.out.2.1; omega); omega
     have hf : n % 8 < 8 := Nat.mod_lt _ (by decide)
     generalize es.getD (n / 8) 0 = X at hX
     generalize n % 8 = f at hf
     have : f = 0 ∨ f = 1 ∨ f = 2 ∨ f = 3 ∨ f = 4 ∨ f = 5 ∨ f = 6 ∨ f = 7 := by omega
     rcases this with rfl | rfl | rfl | rfl | rfl | rfl | rfl | rfl <;> simp only [Int.reducePow] <;> exact ⟨by omega, by omega⟩
    have hclo := fun W h1 h2 => clo_any es HL.out.2.2.1 HL.out.2.2.2.1 n HN.out.2.1 gL gE W h1 h2
    obtain ⟨T, hT⟩ : ∃ z, es.getD (n / 8) 0 / 2 ^ (n % 8) = z := ⟨_, rfl⟩
    rw [hT] at hbit hbd hclo
    have HT : Hid (T % 2 = ((E / 2 ^ n % 2 : Nat) : Int)) := hbit
    have HCLO : Hid (∀ W, Blk W gL 3 [.int .i64 ((n : Int) + 1)] → Blk W gE 22 (u8s es) → Calls Tryz.prog 228 #[.pointer (some ⟨gL, 0, none⟩), .pointer (some ⟨gE, 0, none⟩)] W fun e w' => e = .returned (.int .u64 T) ∧ Blk w' gL 3 [.int .i64 (n : Int)] ∧ Kept (fun k => k = gL) W w') := hclo
    clear hbit hclo hT
    refine till_ready 1 (by kernel_rfl) rfl (fun K hK => ?_)
    go_simp
    go_wp2_with (go_at_call 228; refine (HCLO.out _ HV.out.2.1.drew HV.out.2.2.2.1.drew).mono ?_; rintro e y3 ⟨rfl, c3, k3⟩)
    have V3 : Hid (Blk y3 g5 116 (u64s r1) ∧ Blk y3 gL 3 [.int .i64 (n : Int)] ∧ Blk y3 w.heap.size 116 (u64s l) ∧ Kept (fun b => b = g5 ∨ b = gL) w1 y3) := by
     obtain ⟨a1, a2, a3, a4, a5, a6, a7, a8, a9, b1, b2, b3⟩ := W1.out
     have k3' : Kept (fun k => k = gL) y2 y3 := ⟨k3.os, k3.tape, k3.output, k3.size, k3.block⟩
     exact ⟨HV.out.1.kept k3' (by omega), c3, HV.out.2.2.1.kept k3' (by omega), HV.out.2.2.2.2.trans (k3'.mono (fun b hb => Or.inr hb))⟩
    clear c3 k3
    refine ⟨⟨V3.out.1.whole, V3.out.2.2.1.whole⟩, ?_⟩
    refine till_ready 4 (by kernel_rfl) rfl (fun K hK => ?_)
    go_simp
    go_wp2_with (go_at_call 127; refine (mul_any _ _ _ _ HR.out.1 HL.out.1 _).mono ?_; rintro e y4 ⟨r2, rfl, f2, l4⟩)
    have V4 : Hid (Blk y4 g5 116 (u64s r1) ∧ Blk y4 gL 3 [.int .i64 (n : Int)] ∧ Blk y4 w.heap.size 116 (u64s l) ∧ Kept (fun b => b = g5 ∨ b = gL) w1 y4 ∧ Fe r2 (((pwK x E k * pwK x E k) % PR * x) % PR)) := ⟨V3.out.1.later l4 V3.out.1.lt, V3.out.2.1.later l4 V3.out.2.1.lt, V3.out.2.2.1.later l4 V3.out.2.2.1.lt, V3.out.2.2.2.trans (Kept.new _ l4), f2⟩
    clear f2 l4
    refine ⟨⟨V4.out.1.whole, V4.out.2.2.1.whole⟩, ?_⟩
    refine till_ready 6 (by kernel_rfl) rfl (fun K hK => ?_)
    go_simp
    go_wp2_with (go_at_call 204; refine (fpick_any T hbd _ _ _ _ V4.out.2.2.2.2 HR.out.1 _).mono ?_; rintro e y5 ⟨r3, rfl, f3, l5⟩)
    have HG : Hid (Fe r3 (pwK x E (k + 1)) ∧ (u64s r3).length = 5) := by
     have e := pwK_succ x E k HN.out.2.2
     rw [HN.out.1, ← HT.out] at e
     rw [e] at f3
     exact ⟨f3, by rw [u64s_length, f3.len]⟩
    have V5 : Hid (Blk y5 g5 116 (u64s r1) ∧ Blk y5 gL 3 [.int .i64 (n : Int)] ∧ Kept (fun b => b = g5 ∨ b = gL) w1 y5) := ⟨V4.out.1.later l5 V4.out.1.lt, V4.out.2.1.later l5 V4.out.2.1.lt, V4.out.2.2.2.1.trans (Kept.new _ l5)⟩
    refine ⟨⟨V5.out.1.whole, (V4.out.2.2.1.later l5 V4.out.2.2.1.lt).whole⟩, ?_⟩
    clear f3 l5
    refine till_at (by kernel_rfl) ?_
    refine wpAny_ready (rs := [7]) (by kernel_rfl) (by simp) (AllReady.cons rfl (fun K hK => ?_) AllReady.nil)
    rw [if_pos (by rfl)]
    refine last_store 116 (.tmp 5) (.tmp 20) rfl rfl g5 rfl 116 _ (u64s r3) rfl V5.out.1 (by rw [HG.out.2, HR.out.2]) (by rw [HG.out.2]; exact sizeElem) (u64s_one _) ?_
    intro y6 c6 t6 k6
    refine hK _ _ ?_
    refine wpAny_done (by kernel_rfl) (NoPanic.normal ?_) _
    have V6 : Hid (Blk y6 g5 116 (u64s r3) ∧ Blk y6 gL 3 [.int .i64 (n : Int)] ∧ Kept (fun b => b = g5 ∨ b = gL) w1 y6) := by
     obtain ⟨a1, a2, a3, a4, a5, a6, a7, a8, a9, b1, b2, b3⟩ := W1.out
     exact ⟨c6, V5.out.2.1.kept k6 (by omega), V5.out.2.2.trans (k6.mono (fun b hb => Or.inl hb))⟩
    clear c6 t6 k6 V5 V4 V3 HV
    go_wp2_with fail
    go_roundw
    case rel =>
     have hn := HN.out.1
     exact ⟨k + 1, r3, by omega, by go_num, V6.out.1, HG.out.1, by have h := V6.out.2.1; rw [show (n : Int) = 256 - ((k + 1 : Nat) : Int) by omega] at h; exact h, V6.out.2.2⟩
    case measure => simp [intOf]; omega
   ·have hk5 : k = 256 := by omega
    have i1 : ¬ ((k : Int) < 256) := by omega
    have HQ : Hid (Blk wr g5 116 (u64s r) ∧ Blk wr (w.heap.size + 1 + 1) 116 (u64s [0, 0, 0, 0, 0]) ∧ Below w.heap.size w wr ∧ Fe r (x ^ E % PR) ∧ r.length = 5) := by
     obtain ⟨a1, a2, a3, a4, a5, a6, a7, a8, a9, b1, b2, b3⟩ := W1.out
     rw [hk5, HP.out.2] at hfe
     exact ⟨hblk, a3.kept hkp (by omega), below_kept a1 hkp a1.size (fun j hj => by omega), hfe, hfe.len⟩
    clear hblk hfe hbl hkp hk5 hlt hk
    go_wp2_with (first | (refine wpList_load_blk rfl 116 (.tmp 5) rfl g5 rfl (u64s r) _ HQ.out.1 Tryz.underlying116 rfl (by rw [u64s_length, HQ.out.2.2.2.2]; exact sizeElem) ?_) | (refine wpList_store_blk rfl 116 116 _ _ rfl _ rfl _ (u64s r) rfl HQ.out.2.1 (by rw [u64s_length, HQ.out.2.2.2.2]; rfl) (by rw [u64s_length, HQ.out.2.2.2.2]; exact sizeElem) (u64s_one _) ?_; intro y7 b7 s7 k7))
    exact ret_blk rfl (w.heap.size + 1 + 1) (u64s r) _ rfl b7 Tryz.underlying116 rfl (by rw [u64s_length, HQ.out.2.2.2.2]; exact sizeElem) rfl ⟨r, rfl, HQ.out.2.2.2.1, below_kept HQ.out.2.2.1 k7 HQ.out.2.2.1.size (fun j hj => by omega)⟩
def p2 : Nat := 57896044618658097711785492504343953926634992332820282019728792003956564819947
def inv (x : Int) : Int := x ^ p2 % PR
theorem pow_mod (a : Int) (e : Nat) : (a % PR) ^ e % PR = a ^ e % PR := by
 induction e with
 | zero => rw [Int.pow_zero, Int.pow_zero]
 | succ e ih => rw [Int.pow_succ, Int.pow_succ, pm_r, ← pm_l, ih, pm_l]
theorem aw2 : (le (leB 32 ((0 - 2) % PR))).toNat = p2 := by decide +kernel
theorem finv_any (l : List Int) (x : Int) (hl : Fe l x) (w : World) :
  Calls Tryz.prog 130 #[.agg (u64s l).toArray] w fun e w' => ∃ r, e = .returned (.agg (u64s r).toArray) ∧ Fe r (inv x) ∧ Below w.heap.size w w' := by
 have hpw : ∀ w, Calls Tryz.prog 172 #[.agg (u64s l).toArray, .agg (u8s (leB 32 ((0 - 2) % PR))).toArray] w fun e w' => ∃ r, e = .returned (.agg (u64s r).toArray) ∧ Fe r (inv x) ∧ Below w.heap.size w w' := fun w => by
  have h := fpower_any l (leB 32 ((0 - 2) % PR)) x hl (leB_length _ _) (leB_bytes _ _) w
  rw [aw2] at h
  exact h
 have HL : Hid ((u64s l).length = 5 ∧ (u8s (leB 32 ((0 - 2) % PR))).length = 32) := ⟨by rw [u64s_length, hl.len], by rw [u8s_length, leB_length]⟩
 obtain ⟨B, hB⟩ : ∃ z, leB 32 ((0 - 2) % PR) = z := ⟨_, rfl⟩
 have HB : Hid (leB 32 ((0 - 2) % PR) = B) := hB
 rw [hB] at hpw HL
 have HPW : Hid (∀ w, Calls Tryz.prog 172 #[.agg (u64s l).toArray, .agg (u8s B).toArray] w fun e w' => ∃ r, e = .returned (.agg (u64s r).toArray) ∧ Fe r (inv x) ∧ Below w.heap.size w w') := hpw
 clear hpw hB hl
 go_enter Tryz.func130, Tryz.ntmps130
 go_wp2_with (first
  | (refine wpList_box_new rfl 116 (.tmp 0) rfl (u64s l) rfl ?_; intro x1 z1 s1 l1)
  | ((with_reducible show wpList _ _ _ _ _ x1); refine wpList_alloc_new rfl 116 rfl 5 _ zeroElem ?_; intro x2 z2 s2 l2; rw [s1] at z2)
  | ((with_reducible show Calls _ 79 _ _ _); refine (small_any 2 (by decide) (by decide) _).mono ?_; rintro e x3 ⟨r2, rfl, f2, l3⟩)
  | (go_at_call 171; refine (neg_any _ _ f2 _).mono ?_; rintro e x4 ⟨rm, rfl, fm, l4⟩)
  | (go_at_call 131; refine (fbytes_any _ _ fm _).mono ?_; rintro e x5 ⟨rfl, l5⟩; rw [HB.out])
  | ((with_reducible show wpList _ _ _ _ _ x5); refine wpList_alloc_new rfl 22 rfl 32 _ zero32 ?_; intro x6 z6 s6 l6)
  | ((with_reducible show wpList _ _ _ _ _ x6); refine wpList_store_blk rfl 22 22 _ _ rfl _ rfl _ (u8s B) rfl z6 (by rw [HL.out.2]; rfl) (by rw [HL.out.2]; exact size32) (u8s_one _) ?_; intro x7 b7 s7 k7; obtain ⟨G, hG⟩ : ∃ z, x5.heap.size = z := ⟨_, rfl⟩; rw [hG] at b7 k7; rw [hG]; have WW : Hid (Blk x7 w.heap.size 116 (u64s l) ∧ Blk x7 (w.heap.size + 1) 116 (u64s [0, 0, 0, 0, 0]) ∧ Blk x7 G 22 (u8s B) ∧ Below w.heap.size w x7) := (by have q3 := l3.size; have q4 := l4.size; have q5 := l5.size; exact ⟨(((((z1.later l2 (by omega)).later l3 (by omega)).later l4 (by omega)).later l5 (by omega)).later l6 (by omega)).kept k7 (by omega), ((((z2.later l3 (by omega)).later l4 (by omega)).later l5 (by omega)).later l6 (by omega)).kept k7 (by omega), b7, below_kept (below_chain (below_chain (below_chain (below_chain (below_chain l1 l2 (by omega)) l3 (by omega)) l4 (by omega)) l5 (by omega)) l6 (by omega)) k7 (by omega) (fun j hj => by omega)⟩))
  | ((with_reducible show wpList _ _ _ (({ dst := some 7, op := _, type := _, pos := _, after := _, guard := _ } : Oper) :: _) _ _); refine wpList_load_blk rfl 116 (.tmp 1) rfl w.heap.size rfl (u64s l) _ WW.out.1 Tryz.underlying116 rfl (by rw [HL.out.1]; exact sizeElem) ?_)
  | ((with_reducible show wpList _ _ _ (({ dst := some 8, op := _, type := _, pos := _, after := _, guard := _ } : Oper) :: _) _ _); refine wpList_load_blk rfl 22 (.tmp 3) rfl G rfl (u8s B) _ WW.out.2.2.1 Tryz.underlying22 rfl (by rw [HL.out.2]; exact size32) ?_)
  | (go_at_call 172; refine (HPW.out _).mono ?_; rintro e x8 ⟨r, rfl, fr, l8⟩; have HR : Hid (Fe r (inv x) ∧ (u64s r).length = 5) := ⟨fr, by rw [u64s_length, fr.len]⟩; clear fr)
  | (refine wpList_store_blk rfl 116 116 _ _ rfl _ rfl _ (u64s r) rfl (WW.out.2.1.later l8 WW.out.2.1.lt) (by rw [HR.out.2]; rfl) (by rw [HR.out.2]; exact sizeElem) (u64s_one _) ?_; intro x9 b9 s9 k9))
 exact ret_blk rfl (w.heap.size + 1) (u64s r) _ rfl b9 Tryz.underlying116 rfl (by rw [HR.out.2]; exact sizeElem) rfl ⟨r, rfl, HR.out.1, below_kept (below_chain WW.out.2.2.2 l8 WW.out.2.2.2.size) k9 (by have := WW.out.2.2.2.size; have := l8.size; omega) (fun j hj => by omega)⟩
end Go.Proofs.YthlbjkfjkggdoaaGreatDoor
