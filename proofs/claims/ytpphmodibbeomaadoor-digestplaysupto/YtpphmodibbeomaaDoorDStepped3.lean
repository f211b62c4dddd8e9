/- DigestPlays: one step with a pair. -/
import Derived.Test.YtpphmodibbeomaaDoorDStepped2
import Derived.Lib.IfaceEq
namespace Go.Proofs.YtpphmodibbeomaaDoor
open Go.RowKit
set_option linter.unusedVariables false
set_option linter.unusedSimpArgs false

theorem infoErrno : (Tryd.prog.info? 63).map (·.comparable) = some true := by kernel_rfl
set_option maxRecDepth 20000 in
set_option maxHeartbeats 2000000 in
theorem stepped_1n (a b : Int) (bo : Option Addr) (c : Nat) (zs : List Int) (P h : Nat) (so : Option Addr) (pc : Nat) (w : World) (hp : PairAt w P h so pc (none)) (hx : Seen w bo zs.length zs) (hc : zs.length ≤ c) (hz : zs.length ≤ 1048576) (hK : KTab w) (hP : 0 < P) (hne : P ≠ h) :
    Calls Tryd.prog 17 #[.pointer (some ⟨P, 0, none⟩), .agg (opV 1 a b bo zs.length c).toArray] w fun e w' => e = .returned (.bool true) ∧ Stepped w w' P h (stepF 1 (none) zs) := by
  have HP : Hid (PairAt w P h so pc (none) ∧ KTab w) := ⟨hp, hK⟩
  have HX : Hid (Seen w bo zs.length zs ∧ zs.length ≤ c) := ⟨hx, hc⟩
  clear hp hx hc hK
  go_enter Tryd.func17, Tryd.ntmps17
  have hie : ∀ wx, (binOp .eql 46 (.iface 63 (.int .i64 1)) (.iface 63 (.int .i64 1))).run Tryd.prog wx = .ok (.bool true) wx := fun wx => Go.Lib.run_eql_iface_int wx 1 1 Tryd.underlying46 infoErrno Tryd.underlying63
  go_wp2_with (first | (refine wpList_box_new rfl 41 _ rfl (opV 1 a b bo zs.length c) rfl ?_; intro w1 b1 s1 l1; have cK : w1.cell? ⟨w.heap.size, 0, none⟩ = some (.int .i64 1) := b1.cell 0; have cB : w1.cell? ⟨w.heap.size, 3, none⟩ = some (.slice bo zs.length c) := b1.cell 3; have p1 := HP.out.1.grow l1; have d0 := p1.blk.cell 0; have d1 := p1.blk.cell 1; have d2 := p1.blk.cell 2; simp only [pairC, List.getElem?_cons_zero, List.getElem?_cons_succ] at d0 d1 d2) | (go_at_call 22; refine (spare_any bo zs.length c zs _ (HX.out.1.later l1 (Nat.le_refl _)) (by omega)).mono ?_; rintro e w2 ⟨rfl, b2, s2, l2⟩; rw [s1] at b2; have p2 := p1.grow l2; have g0 := p2.blk.cell 0; have g2 := p2.blk.cell 2; simp only [pairC, List.getElem?_cons_zero, List.getElem?_cons_succ] at g0 g2; have cB2 : w2.cell? ⟨w.heap.size, 3, none⟩ = some (.slice bo zs.length c) := (b1.later l2 b1.lt).cell 3) | (go_at_call 18; refine (write_nil _ _ _ _).mono ?_; rintro e w3 ⟨rfl, rfl⟩) | (go_at_call 27; refine (kept_yes _ bo zs.length c zs _ b2 ((HX.out.1.later l1 (Nat.le_refl _)).later l2 (Nat.le_refl _)) (by omega)).mono ?_; rintro e w4 ⟨rfl, q, rfl⟩))
  go_ret
  exact ⟨rfl, ⟨h, so, pc, p2.drewN q, .inl rfl⟩, (Kept.new _ (below_chain l1 l2 l1.size)).drewN q⟩
end Go.Proofs.YtpphmodibbeomaaDoor
