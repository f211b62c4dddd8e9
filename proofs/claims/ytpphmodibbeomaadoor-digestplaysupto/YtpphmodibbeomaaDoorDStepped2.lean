/- DigestPlays: one step with a pair. -/
import Derived.Test.YtpphmodibbeomaaDoorDStepped
namespace Go.Proofs.YtpphmodibbeomaaDoor
open Go.RowKit
set_option linter.unusedVariables false
set_option linter.unusedSimpArgs false

set_option maxRecDepth 20000 in
set_option maxHeartbeats 2000000 in
theorem stepped_2n (a b : Int) (bo : Option Addr) (c : Nat) (zs : List Int) (P h : Nat) (so : Option Addr) (pc : Nat) (w : World) (hp : PairAt w P h so pc (none)) (hx : Seen w bo zs.length zs) (hc : zs.length ≤ c) (hz : zs.length ≤ 1048576) (hK : KTab w) (hP : 0 < P) (hne : P ≠ h) :
    Calls Tryd.prog 17 #[.pointer (some ⟨P, 0, none⟩), .agg (opV 2 a b bo zs.length c).toArray] w fun e w' => e = .returned (.bool true) ∧ Stepped w w' P h (stepF 2 (none) zs) := by
  have HP : Hid (PairAt w P h so pc (none) ∧ KTab w) := ⟨hp, hK⟩
  have HX : Hid (Seen w bo zs.length zs ∧ zs.length ≤ c) := ⟨hx, hc⟩
  clear hp hx hc hK
  go_enter Tryd.func17, Tryd.ntmps17
  have heq : ∀ wx, (Op.equalIn 10000 26 (.agg (u8s (zer 32)).toArray) (.agg (u8s (zer 32)).toArray)).run Tryd.prog wx = .ok true wx := equal_self 9998 (zer 32) (zer_length _)
  have u2 : (Tryd.prog.info? 26).map (·.size) = some (u8s (zer 32)).length := by rw [u8s_length, zer_length]; exact sizeAH
  go_wp2_with (first | (refine wpList_box_new rfl 41 _ rfl (opV 2 a b bo zs.length c) rfl ?_; intro w1 b1 s1 l1; have cK : w1.cell? ⟨w.heap.size, 0, none⟩ = some (.int .i64 2) := b1.cell 0; have cB : w1.cell? ⟨w.heap.size, 3, none⟩ = some (.slice bo zs.length c) := b1.cell 3; have p1 := HP.out.1.grow l1; have d0 := p1.blk.cell 0; have d1 := p1.blk.cell 1; have d2 := p1.blk.cell 2; simp only [pairC, List.getElem?_cons_zero, List.getElem?_cons_succ] at d0 d1 d2) | (go_at_call 20; refine (sum_nil _).mono ?_; rintro e w2 ⟨rfl, l2⟩) | (refine wpList_alloc_new rfl 26 rfl 32 _ zeroAH ?_; intro w3 b3 s3 l3) | (refine wpList_store_blk rfl 26 26 _ _ rfl _ rfl _ (u8s (zer 32)) rfl b3 rfl u2 (u8s_one _) ?_; intro w4 b4 s4 k4; have k0 : Below w1.heap.size w1 w4 := below_chain l2 (below_kept l3 k4 (by omega) (fun j hj => by omega)) l2.size; have p4 := p1.grow k0; have e2 := p4.blk.cell 2; simp only [pairC, List.getElem?_cons_zero, List.getElem?_cons_succ] at e2) | (refine wpList_load_blk rfl 26 _ rfl _ rfl (u8s (zer 32)) _ b4 Tryd.underlying26 rfl u2 ?_) | (refine wpList_build rfl 26 _ rfl #[] (by simp) _ (build32 _) ?_))
  go_ret
  exact ⟨rfl, ⟨h, so, pc, p4, .inl rfl⟩, Kept.new _ (below_chain l1 k0 l1.size)⟩
set_option maxRecDepth 20000 in
set_option maxHeartbeats 2000000 in
theorem stepped_2s (a b : Int) (bo : Option Addr) (c : Nat) (zs : List Int) (P h : Nat) (so : Option Addr) (pc : Nat) (m : List Int) (w : World) (hp : PairAt w P h so pc (some m)) (hx : Seen w bo zs.length zs) (hc : zs.length ≤ c) (hz : zs.length ≤ 1048576) (hK : KTab w) (hP : 0 < P) (hne : P ≠ h) (hh : 0 < h) (hm : m.length + zs.length ≤ 1048576) :
    Calls Tryd.prog 17 #[.pointer (some ⟨P, 0, none⟩), .agg (opV 2 a b bo zs.length c).toArray] w fun e w' => e = .returned (.bool true) ∧ Stepped w w' P h (stepF 2 (some m) zs) := by
  have HP : Hid (PairAt w P h so pc (some m) ∧ KTab w) := ⟨hp, hK⟩
  have HX : Hid (Seen w bo zs.length zs ∧ zs.length ≤ c) := ⟨hx, hc⟩
  clear hp hx hc hK
  go_enter Tryd.func17, Tryd.ntmps17
  have heq : ∀ wx, (Op.equalIn 10000 26 (.agg (u8s (sha m)).toArray) (.agg (u8s (sha m)).toArray)).run Tryd.prog wx = .ok true wx := equal_self 9998 (sha m) (sha_length _)
  have u2 : (Tryd.prog.info? 26).map (·.size) = some (u8s (sha m)).length := by rw [u8s_length, sha_length]; exact sizeAH
  have u1 := Tryd.underlying26
  go_wp2_with (first | (refine wpList_box_new rfl 41 _ rfl (opV 2 a b bo zs.length c) rfl ?_; intro w1 b1 s1 l1; have cK : w1.cell? ⟨w.heap.size, 0, none⟩ = some (.int .i64 2) := b1.cell 0; have cB : w1.cell? ⟨w.heap.size, 3, none⟩ = some (.slice bo zs.length c) := b1.cell 3; have p1 := HP.out.1.grow l1; have d0 := p1.blk.cell 0; have d1 := p1.blk.cell 1; have d2 := p1.blk.cell 2; simp only [pairC, List.getElem?_cons_zero, List.getElem?_cons_succ] at d0 d1 d2) | (go_at_call 20; refine (sum_holds h m _ (p1.held m rfl).1 (HP.out.2.below l1 HP.out.2.lt)).mono ?_; rintro e w2 ⟨rfl, l2⟩) | (refine wpList_alloc_new rfl 26 rfl 32 _ zeroAH ?_; intro w3 b3 s3 l3) | (refine wpList_store_blk rfl 26 26 _ _ rfl _ rfl _ (u8s (sha m)) rfl b3 (by rw [u8s_length, sha_length, u8s_length, zer_length]) u2 (u8s_one _) ?_; intro w4 b4 s4 k4; have k0 : Below w1.heap.size w1 w4 := below_chain l2 (below_kept l3 k4 (by omega) (fun j hj => by omega)) l2.size; have p4 := p1.grow k0; have e2 := p4.blk.cell 2; simp only [pairC, List.getElem?_cons_zero, List.getElem?_cons_succ] at e2))
  have PP : Hid (PairAt w4 P h so pc (some m) ∧ Below w.heap.size w w4) := ⟨p4, below_chain l1 k0 l1.size⟩
  have HS : Hid (∀ W, Below w4.heap.size w4 W → W.rangeAt w2.heap.size 0 (u8s (sha m)) ∧ W.cell? ⟨P, 1, none⟩ = some (.slice so m.length pc)) := fun W hW => ⟨fun j v hv => by rw [Nat.zero_add, (b4.later hW b4.lt).cell]; exact hv, (p4.grow hW).blk.cell 1⟩
  have HA : Hid (Seen w4 so m.length m) := (p4.held m rfl).2.1.seen (p4.held m rfl).2.2.1 (by omega)
  clear p4 k0 b4 s4 k4 b3 s3 l3 l2 p1 d0 d1 d2 b1 s1 l1 cK cB e2
  go_region_held3 (fun W => W.rangeAt w2.heap.size 0 (u8s (sha m)) ∧ W.cell? ⟨P, 1, none⟩ = some (.slice so m.length pc)) (first | exact HS.out _ (below_dn (Below.refl _ _) 1) | exact HS.out _ G5.out) (first | (go_at_call 10; refine (rsum_any so m.length pc m w4.drew HA.out.drew (by omega)).mono ?_; rintro e w5 ⟨rfl, l5⟩; have G5 : Hid (Below w4.heap.size w4 w5) := below_chain (below_dn (Below.refl w4.heap.size w4) 1) l5 (Nat.le_refl _); clear l5))
  go_wp2
  go_ret
  exact ⟨rfl, ⟨h, so, pc, PP.out.1.grow G5.out, .inl rfl⟩, Kept.new _ (below_chain PP.out.2 G5.out PP.out.2.size)⟩
end Go.Proofs.YtpphmodibbeomaaDoor
