/- The walk of StreamQuarters. -/
import Derived.Test.YtnijdlcfoepmbaaRSQuart
namespace Go.Proofs.Ytnijdlcfoepmbaa
open Go.RowKit
set_option linter.unusedVariables false
set_option linter.unusedSimpArgs false

set_option maxRecDepth 20000 in
set_option maxHeartbeats 1000000 in
theorem streamQuarters.walk (a b c d : Int) (w : World) (ha : Wd a) (hb : Wd b) (hc : Wd c) (hd : Wd d) :
    Calls Try.prog 3 #[.agg #[.int .u32 a, .int .u32 b, .int .u32 c, .int .u32 d]] w fun e w' => e = .returned (.bool true) ∧ Below w.heap.size w w' := by
  have hq := rq_any ⟨a, b, c, d⟩ ha hb hc hd
  have hW := half_wd _ 8 7 (half_wd ⟨a, b, c, d⟩ 16 12 ha hb hc hd (by simp [TurnL]) (by simp [TurnL])).1 (half_wd ⟨a, b, c, d⟩ 16 12 ha hb hc hd (by simp [TurnL]) (by simp [TurnL])).2.1 (half_wd ⟨a, b, c, d⟩ 16 12 ha hb hc hd (by simp [TurnL]) (by simp [TurnL])).2.2.1 (half_wd ⟨a, b, c, d⟩ 16 12 ha hb hc hd (by simp [TurnL]) (by simp [TurnL])).2.2.2 (by simp [TurnL]) (by simp [TurnL])
  have hp := quarter_any a b c d
  obtain ⟨⟨A, B, C, D⟩, hQ⟩ : ∃ x, quarter ⟨a, b, c, d⟩ = x := ⟨_, rfl⟩
  rw [show halfQ (halfQ ⟨a, b, c, d⟩ 16 12) 8 7 = ⟨A, B, C, D⟩ from hQ] at hW
  rw [hQ] at hq hp
  have wA : Wd A := hW.1
  have wB : Wd B := hW.2.1
  have wC : Wd C := hW.2.2.1
  have wD : Wd D := hW.2.2.2
  clear hQ hW
  go_enter Try.func3, Try.ntmps3
  go_wp2_with (first | (go_at_call 9; refine (hp _).mono ?_; rintro e w' ⟨rfl, rfl⟩) | (go_at_call 10; refine (hq _).mono ?_; rintro e w2 ⟨rfl, l2⟩) | (refine wpList_alloc_new rfl 27 rfl 4 _ zero4q ?_; intro w3 b3 s3 l3) | (refine wpList_store_blk rfl 27 27 _ _ rfl _ rfl _ (u64s [A, B, C, D]) rfl b3 rfl size4q (u64s_one _) ?_; intro w4 b4 s4 k4; have c0 : w4.cell? ⟨w2.heap.size, 0, none⟩ = some (.int .u64 A) := u64s_cell b4 0 (by simp); have c1 : w4.cell? ⟨w2.heap.size, 1, none⟩ = some (.int .u64 B) := u64s_cell b4 1 (by simp); have c2 : w4.cell? ⟨w2.heap.size, 2, none⟩ = some (.int .u64 C) := u64s_cell b4 2 (by simp); have c3 : w4.cell? ⟨w2.heap.size, 3, none⟩ = some (.int .u64 D) := u64s_cell b4 3 (by simp)))
  go_ret
  have L2 : Below w.heap.size w w2 := ((Below.refl w.heap.size w).alloc (Nat.le_refl _) _).trans (l2.mono (by simp))
  exact ⟨rfl, below_kept (below_chain L2 l3 L2.size) k4 (by have := L2.size; omega) (fun j hj => by have := L2.size; omega)⟩
end Go.Proofs.Ytnijdlcfoepmbaa
