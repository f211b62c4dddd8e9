/- Layer derive: a hash that begins with a frame; both hashes of a key. -/
import Derived.Test.YtiimjhahblmggaaDoorVFrame
import Derived.Test.YtiimjhahblmggaaDoorDHeld
namespace Go.Proofs.YtiimjhahblmggaaDoor
open Go.RowKit
set_option linter.unusedVariables false
set_option linter.unusedSimpArgs false

set_option maxRecDepth 20000 in
set_option maxHeartbeats 1000000 in
theorem begun_any (fr : List Int) (hl : fr.length = 64) (hb : Bytes fr) (c : Int) (w : World) (hK : KTab w) :
    Calls Tryd.prog 45 #[.agg (u8s fr).toArray, .int .u8 c] w fun e w' => ∃ g, e = .returned (.pointer (some ⟨g, 0, none⟩)) ∧ w.heap.size ≤ g ∧ Holds w' g (turn c fr) ∧ Below w.heap.size w w' := by
  have HL : Hid (fr.length = 64 ∧ Bytes fr) := ⟨hl, hb⟩
  have HK : Hid (KTab w) := hK
  clear hl hb hK
  go_enter Tryd.func45, Tryd.ntmps45
  go_wp2_with (first | (refine wpList_box_new rfl 82 _ rfl (u8s fr) rfl ?_; intro w1 b1 s1 l1; have Z1 : Hid (w1.heap.size = w.heap.size + 1) := s1; clear s1))
  go_loopw [7] (fun i wr => ∃ k : Nat, k ≤ 64 ∧ i = .int .i64 k ∧ Blk wr w.heap.size 82 (u8s (turn c (fr.take k) ++ fr.drop k)) ∧ Kept (fun b => b = w.heap.size) w1 wr) (fun i _ => 64 - (intOf i).toNat)
  case atStart => exact ⟨0, by decide, rfl, b1, Kept.refl _ _⟩
  case round =>
    obtain ⟨k, hk, rfl, hb, hkp⟩ := hrel
    have hfl := HL.out.1
    have hll : (turn c (fr.take k) ++ fr.drop k).length = 64 := by simp [turn_length]; omega
    by_cases hlt : k < 64
    · have cs := u8s_cell hb k (by omega)
      have fs := hb.frozen k
      have e0 : (turn c (fr.take k) ++ fr.drop k).getD k 0 = fr.getD k 0 := by
        have q : (turn c (fr.take k)).length = k := by simp [turn_length]; omega
        simp [List.getD, List.getElem?_append_right, q]
      rw [e0] at cs
      have E1 : Hid ((turn c (fr.take k) ++ fr.drop k).set k (bits .xor .u8 (fr.getD k 0) c) = turn c (fr.take (k + 1)) ++ fr.drop (k + 1)) := by
        show _ = _
        have q : (turn c (fr.take k)).length = k := by simp [turn_length]; omega
        rw [List.set_append_right _ _ (by omega), q, Nat.sub_self, List.drop_eq_getElem_cons (by omega), List.set_cons_zero, List.take_succ_eq_append_getElem (by omega), turn, turn, List.map_append, List.append_assoc]
        simp [List.getD, show k < fr.length by omega]
      have X0 : Hid (Blk wr w.heap.size 82 (u8s (turn c (fr.take k) ++ fr.drop k)) ∧ Kept (fun b => b = w.heap.size) w1 wr) := ⟨hb, hkp⟩
      obtain ⟨y, hy⟩ : ∃ y, fr.getD k 0 = y := ⟨_, rfl⟩
      rw [hy] at cs E1
      have i1 : (0 : Int) ≤ (k : Int) := by omega
      have i2 : (k : Int) < 64 := by omega
      clear hb hkp hll e0 hy hfl
      go_wp2
      have R1 := X0.out.1.set k (.int .u8 (bits .xor .u8 y c))
      rw [u8s_set, E1.out] at R1
      exact ⟨⟨k + 1, by omega, by go_num, R1, X0.out.2.setCell (S := fun b => b = w.heap.size) rfl _⟩, by simp [intOf]; omega⟩
    · obtain rfl : k = 64 := by omega
      rw [show ((64 : Nat) : Int) = 64 from rfl]
      rw [List.take_of_length_le (by omega), List.drop_of_length_le (by omega), List.append_nil] at hb
      have X1 : Hid (Blk wr w.heap.size 82 (u8s (turn c fr)) ∧ KTab wr ∧ Below w.heap.size w wr ∧ w.heap.size < wr.heap.size ∧ (turn c fr).length = 64) := by
        have B1 : Below w.heap.size w wr := below_kept l1 hkp (by have := Z1.out; omega) (fun j hj => by omega)
        exact ⟨hb, HK.out.below B1 HK.out.lt, B1, hb.lt, by rw [turn_length, hfl]⟩
      clear hb hkp hll hfl b1 l1
      go_wp2_with (first | (go_at_call 55; refine (new_holds _).mono ?_; rintro e w2 ⟨g, rfl, hg, h2, l2⟩; have S2 : Hid (Seen w2 (some ⟨w.heap.size, 0, none⟩) 64 (turn c fr)) := (by have q := seen_blk (X1.out.1.later l2 X1.out.2.2.2.1) (turn_bytes c fr) (by rw [X1.out.2.2.2.2]; decide); rw [X1.out.2.2.2.2] at q; exact q); have G2 : Hid (Holds w2 g [] ∧ KTab w2 ∧ Below w.heap.size w w2 ∧ wr.heap.size ≤ g) := ⟨h2, X1.out.2.1.below l2 X1.out.2.1.lt, below_chain X1.out.2.2.1 l2 (Nat.le_of_lt X1.out.2.2.2.1), hg⟩; clear h2 l2 hg) | (go_at_call 35; refine (write_any g [] _ 64 64 (turn c fr) _ G2.out.1 S2.out (Nat.le_refl _) (fun b o _ e => by have e2 := e; simp at e2; have := X1.out.2.2.2.1; have := G2.out.2.2.2; omega) G2.out.2.1 (by have := X1.out.2.2.2.1; have := G2.out.2.2.2; omega) (by decide)).mono ?_; rintro e w3 ⟨rfl, h3, k3⟩; have G3 : Hid (Holds w3 g (turn c fr) ∧ Below w.heap.size w w3 ∧ w.heap.size ≤ g) := ⟨h3, below_kept G2.out.2.2.1 k3 G2.out.2.2.1.size (fun j hj => by have := G2.out.2.2.2; have := X1.out.2.2.2.1; omega), by have := G2.out.2.2.2; have := X1.out.2.2.2.1; omega⟩; clear h3 k3))
      go_ret
      exact ⟨g, rfl, G3.out.2.2, G3.out.1, G3.out.2.1⟩
theorem zeroKeyed : (Tryd.prog.info? 70).map (fun i => (i.zero, i.size)) = some (some (.agg [Value.pointer none, .pointer none].toArray), 2) := by kernel_rfl
theorem sizeKeyed : (Tryd.prog.info? 70).map (·.size) = some 2 := by kernel_rfl
set_option maxRecDepth 20000 in
set_option maxHeartbeats 1000000 in
theorem keyedBy_any (ao : Option Addr) (n c : Nat) (zs : List Int) (w : World) (hx : Seen w ao n zs) (hc : n ≤ c) (hK : KTab w) :
    Calls Tryd.prog 34 #[.slice ao n c] w fun e w' => ∃ g h, e = .returned (.agg #[.pointer (some ⟨g, 0, none⟩), .pointer (some ⟨h, 0, none⟩)]) ∧ w.heap.size ≤ g ∧ w.heap.size ≤ h ∧ g ≠ h ∧ Holds w' g (turn 54 (frm zs)) ∧ Holds w' h (turn 92 (frm zs)) ∧ Below w.heap.size w w' := by
  have HX : Hid (Seen w ao n zs ∧ KTab w ∧ n ≤ c ∧ Bytes zs) := ⟨hx, hK, hc, hx.bytes⟩
  have HF : Hid ((frm zs).length = 64 ∧ Bytes (frm zs)) := ⟨frm_length _, frm_bytes _ hx.bytes⟩
  clear hx hK hc
  go_enter Tryd.func34, Tryd.ntmps34
  go_wp2_with (first | (refine wpList_alloc_new rfl 70 rfl 2 [.pointer none, .pointer none] zeroKeyed ?_; intro w0 b0 s0 l0; have Z0 : Hid (w0.heap.size = w.heap.size + 1) := s0; clear s0) | (go_at_call 44; refine (frame_any ao n c zs _ (HX.out.1.later l0 (Nat.le_refl _)) HX.out.2.2.1 (HX.out.2.1.below l0 HX.out.2.1.lt)).mono ?_; rintro e w1 ⟨rfl, l1⟩; have G1 : Hid (Below w.heap.size w w1 ∧ Blk w1 w.heap.size 70 [.pointer none, .pointer none] ∧ KTab w1 ∧ w.heap.size < w1.heap.size) := (by have := Z0.out; have q := l1.size; have B1 := below_chain l0 l1 (by omega); exact ⟨B1, b0.later l1 (by omega), HX.out.2.1.below B1 HX.out.2.1.lt, by omega⟩); clear l1 l0 b0) | (refine wpList_alloc_new rfl 82 rfl 64 _ zeroA64b ?_; intro w2 b2 s2 l2; have Z2 : Hid (w2.heap.size = w1.heap.size + 1) := s2; clear s2) | (refine wpList_store_blk rfl 82 82 _ _ rfl _ rfl _ (u8s (frm zs)) rfl b2 (by rw [u8s_length, frm_length, u8s_length, zer_length]) (by rw [u8s_length, frm_length]; exact sizeA64b) (u8s_one _) ?_; intro w3 b3 s3 k3; have G3 : Hid (Blk w3 w1.heap.size 82 (u8s (frm zs)) ∧ Below w.heap.size w w3 ∧ Blk w3 w.heap.size 70 [.pointer none, .pointer none] ∧ KTab w3 ∧ w.heap.size < w1.heap.size ∧ w1.heap.size < w3.heap.size) := (by have := Z2.out; have q := G1.out.2.2.2; have B3 := below_kept (below_chain G1.out.1 l2 (by omega)) k3 (by omega) (fun j hj => by omega); exact ⟨b3, B3, (G1.out.2.1.later l2 (by omega)).kept k3 (by omega), HX.out.2.1.below B3 HX.out.2.1.lt, q, by omega⟩); clear b3 s3 k3 b2 l2))
  obtain ⟨q1, q2⟩ := G3.out.2.2.2.2
  have HR : Hid (∀ W, Below w3.heap.size w3 W → W.rangeAt w1.heap.size 0 (u8s (frm zs))) := fun W hW j v hv => by rw [Nat.zero_add, (G3.out.1.later hW q2).cell]; exact hv
  have u2 : (Tryd.prog.info? 82).map (·.size) = some (u8s (frm zs)).length := by rw [u8s_length, frm_length]; exact sizeA64b
  simp only [Act.put, List.setIfInBounds_toArray, List.set_cons_zero, List.set_cons_succ]
  refine wp_region_noPanic (wp_region_held_drew (S := fun W => W.rangeAt w1.heap.size 0 (u8s (frm zs))) (by kernel_rfl) (HR.out _ (below_dn (Below.refl _ _) 1)) (fun hH => ?_))
  refine hLoad 0 (some 6) (u8s (frm zs)) rfl rfl (by kernel_rfl) (by kernel_rfl) (by kernel_rfl) (fun _ _ _ h => h) (by rfl) 82 (.tmp 3) rfl w1.heap.size 0 rfl _ (fun _ h => h) Tryd.underlying82 rfl u2 hH ?_
  simp only [Act.put, List.setIfInBounds_toArray, List.set_cons_zero, List.set_cons_succ]
  refine hLoad 2 (some 8) (u8s (frm zs)) rfl rfl (by kernel_rfl) (by kernel_rfl) (by kernel_rfl) (fun _ _ _ h => h) (by rfl) 82 (.tmp 3) rfl w1.heap.size 0 rfl _ (fun _ h => h) Tryd.underlying82 rfl u2 hH ?_
  simp only [Act.put, List.setIfInBounds_toArray, List.set_cons_zero, List.set_cons_succ]
  refine wpAnyH_ready (rs := [1]) (by kernel_rfl) (by simp) (AllReadyH.cons rfl (fun K hK => ?_) AllReadyH.nil)
  go_simp
  go_wp2_with (go_at_call 45; refine (begun_any (frm zs) HF.out.1 HF.out.2 54 w3.drew G3.out.2.2.2.1).mono ?_; rintro e w4 ⟨g, rfl, hg, h4, l4⟩; have G4 : Hid (Below w3.heap.size w3 w4 ∧ Holds w4 g (turn 54 (frm zs)) ∧ w3.heap.size ≤ g ∧ g < w4.heap.size ∧ KTab w4) := (by have B4 := below_chain (below_dn (Below.refl w3.heap.size w3) 1) l4 (Nat.le_refl _); exact ⟨B4, h4, hg, h4.lt, G3.out.2.2.2.1.below B4 G3.out.2.2.2.1.lt⟩); clear hg h4 l4)
  refine hK.out _ _ (HR.out _ G4.out.1) (fun hH => ?_)
  clear hK K
  refine wpAnyH_ready (rs := [3]) (by kernel_rfl) (by simp) (AllReadyH.cons rfl (fun K hK => ?_) AllReadyH.nil)
  go_simp
  go_wp2_with (go_at_call 45; refine (begun_any (frm zs) HF.out.1 HF.out.2 92 w4 G4.out.2.2.2.2).mono ?_; rintro e w5 ⟨g', rfl, hg, h5, l5⟩; have G5 : Hid (Below w3.heap.size w3 w5 ∧ Holds w5 g (turn 54 (frm zs)) ∧ Holds w5 g' (turn 92 (frm zs)) ∧ w3.heap.size ≤ g ∧ w3.heap.size ≤ g' ∧ g ≠ g') := (by have q4 := G4.out.1.size; have q5 := G4.out.2.2.2.1; exact ⟨below_chain G4.out.1 l5 q4, G4.out.2.1.later l5 G4.out.2.1.lt, h5, G4.out.2.2.1, by omega, by omega⟩); clear hg h5 l5)
  refine hK.out _ _ (HR.out _ G5.out.1) (fun hH => ?_)
  clear hK K
  refine hTake 4 (some 10) (.agg #[.pointer (some ⟨g, 0, none⟩), .pointer (some ⟨g', 0, none⟩)]) rfl rfl (by kernel_rfl) (by kernel_rfl) (by kernel_rfl) (fun _ _ _ h => h) (by rfl) (fun _ _ => by go_simp) hH ?_
  simp only [Act.put, List.setIfInBounds_toArray, List.set_cons_zero, List.set_cons_succ]
  refine wpAnyH_ready (rs := [5]) (by kernel_rfl) (by simp) (AllReadyH.cons rfl (fun K hK => ?_) AllReadyH.nil)
  have B5 := G3.out.2.2.1.later G5.out.1 (by omega)
  refine step_store rfl (by rfl) 70 (.tmp 2) (.tmp 10) rfl w.heap.size 0 rfl [.pointer (some ⟨g, 0, none⟩), .pointer (some ⟨g', 0, none⟩)] rfl (B5.there (Nat.le_refl 2)) sizeKeyed (by intro v hv; simp at hv; rcases hv with rfl | rfl <;> rfl) ?_
  have K6 := (Kept.refl (fun b => b = w.heap.size) w5).setCells (S := fun b => b = w.heap.size) rfl 0 [.pointer (some ⟨g, 0, none⟩), .pointer (some ⟨g', 0, none⟩)]
  have B6 := Blk.setCells (w := w5) (g := w.heap.size) (t := 70) (xs := []) (zs := []) [Value.pointer (some ⟨g, 0, none⟩), .pointer (some ⟨g', 0, none⟩)] [Value.pointer none, .pointer none] rfl B5
  obtain ⟨w6, hw6⟩ : ∃ w6, w5.setCells w.heap.size 0 [Value.pointer (some ⟨g, 0, none⟩), .pointer (some ⟨g', 0, none⟩)] = w6 := ⟨_, rfl⟩
  change Blk (w5.setCells w.heap.size 0 [Value.pointer (some ⟨g, 0, none⟩), .pointer (some ⟨g', 0, none⟩)]) _ _ _ at B6
  rw [hw6] at K6 B6 ⊢
  refine hK.out _ _ ?_ (fun hH => ?_)
  · intro j v hv
    rw [Nat.zero_add, ((G3.out.1.later G5.out.1 q2).kept K6 (by omega)).cell]; exact hv
  clear hK K
  refine wpAnyH_done (by kernel_rfl) (NoPanic.normal ?_) _
  have G6 : Hid (Blk w6 w.heap.size 70 [.pointer (some ⟨g, 0, none⟩), .pointer (some ⟨g', 0, none⟩)] ∧ Holds w6 g (turn 54 (frm zs)) ∧ Holds w6 g' (turn 92 (frm zs)) ∧ Below w.heap.size w w6 ∧ w.heap.size ≤ g ∧ w.heap.size ≤ g' ∧ g ≠ g') := by
    obtain ⟨x1, x2, x3, x4, x5, x6⟩ := G5.out
    exact ⟨B6, x2.kept K6 (by omega), x3.kept K6 (by omega), below_kept (below_chain G3.out.2.1 x1 G3.out.2.1.size) K6 (by have := x1.size; have := G3.out.2.1.size; omega) (fun j hj => by omega), by omega, by omega, x6⟩
  clear B5 K6 B6 hw6 hH
  go_wp2
  exact ret_blk rfl w.heap.size _ _ rfl G6.out.1 Tryd.underlying70 rfl sizeKeyed rfl ⟨g, g', rfl, G6.out.2.2.2.2.1, G6.out.2.2.2.2.2.1, G6.out.2.2.2.2.2.2, G6.out.2.1, G6.out.2.2.1, G6.out.2.2.2.1⟩
end Go.Proofs.YtiimjhahblmggaaDoor
