/- Layer record: headsOf, Live, Together, ByIndex, ByGroup. -/
import Derived.Test.YtabdjoljdefjdaaRcOf
import Derived.Test.YtabdjoljdefjdaaDHeld
namespace Go.Proofs.Ytabdjoljdefjdaa
open Go.RowKit
set_option linter.unusedVariables false
set_option linter.unusedSimpArgs false

theorem hd_seen {w : World} {g : Nat} {h : Hd} (b : Blk w g 26 (hdC h)) (k : HdOk h) : Seen w (some ⟨g, 4, none⟩) 16 h.group :=
  ⟨k.len, by decide, k.bytes, fun _ => ⟨g, 4, rfl, b.lt, fun i hi => by
    rw [hd_range b i (.int .u8 (h.group.getD i 0)) (by simp [u8s, List.getD, show i < h.group.length by rw [k.len]; exact hi])]⟩⟩
set_option maxRecDepth 20000 in
set_option maxHeartbeats 4000000 in
theorem headsOf_any (ao bo : Option Addr) (n m c d : Nat) (xs ys : List Int) (hc : n ≤ c) (hd' : m ≤ d) (w : World) (hx : Seen w ao n xs) (hy : Seen w bo m ys) :
    Calls Try.prog 43 #[.slice ao n c, .slice bo m d] w fun e w' => e = .returned (.tuple #[.agg (hdC (hdV xs)).toArray, .agg (hdC (hdV ys)).toArray, .int .u64 (mk (isR xs && isR ys))]) ∧ Below w.heap.size w w' := by
  obtain ⟨x, ex⟩ : ∃ x, hdV xs = x := ⟨_, rfl⟩
  obtain ⟨y, ey⟩ : ∃ y, hdV ys = y := ⟨_, rfl⟩
  have HO : Hid (HdOk x ∧ HdOk y) := ⟨ex ▸ hdV_ok hx.bytes, ey ▸ hdV_ok hy.bytes⟩
  have HE : Hid (hdV xs = x ∧ hdV ys = y) := ⟨ex, ey⟩
  have HX : Hid (Seen w ao n xs ∧ Seen w bo m ys ∧ n ≤ c ∧ m ≤ d) := ⟨hx, hy, hc, hd'⟩
  obtain ⟨P, eP⟩ : ∃ P, isR xs = P := ⟨_, rfl⟩
  obtain ⟨R, eR⟩ : ∃ R, isR ys = R := ⟨_, rfl⟩
  have HP : Hid (isR xs = P ∧ isR ys = R) := ⟨eP, eR⟩
  rw [ex, ey, eP, eR]
  clear hx hy hc hd' ex ey eP eR
  go_enter Try.func43, Try.ntmps43
  go_wp2_with (first | ((with_reducible show wpList _ _ _ (({ dst := some 4, op := _, type := _, pos := _, after := _, guard := _ } : Oper) :: _) _ _); refine wpList_alloc_new rfl 26 rfl 20 _ hzero ?_; intro w1 b1 s1 l1; have z1 : Hid (w1.heap.size = w.heap.size + 1) := s1; clear s1) | ((with_reducible show wpList _ _ _ (({ dst := some 5, op := _, type := _, pos := _, after := _, guard := _ } : Oper) :: _) _ _); refine wpList_alloc_new rfl 26 rfl 20 _ hzero ?_; intro w2 b2 s2 l2; have z2 : Hid (w2.heap.size = w1.heap.size + 1) := s2; clear s2))
  refine (headOf_any ao n c xs HX.out.2.2.1 _ (HX.out.1.later (below_chain l1 l2 (by have := z1.out; have := z2.out; omega)) (Nat.le_refl _))).mono ?_
  rintro e w3 ⟨rfl, l3⟩
  have z3 : Hid (w2.heap.size ≤ w3.heap.size) := l3.size
  rw [HE.out.1, HP.out.1]
  go_wp2_with (first | ((with_reducible show wpList _ _ _ (({ dst := some 7, op := _, type := _, pos := _, after := _, guard := _ } : Oper) :: _) _ _); refine wpList_alloc_new rfl 26 rfl 20 _ hzero ?_; intro w4 b4 s4 l4; have z4 : Hid (w4.heap.size = w3.heap.size + 1) := s4; clear s4) | (refine wpList_store_blk rfl 26 26 (.tmp 7) (.tmp 14) rfl _ rfl _ (hdC x) rfl b4 (by rw [hdC_length HO.out.1.len]; rfl) (hsizeC HO.out.1.len) (hdC_one _) ?_; intro w5 b5 s5 k5; have z5 : Hid (w5.heap.size = w4.heap.size) := s5; clear s5))
  refine (headOf_any bo m d ys HX.out.2.2.2 _ (HX.out.2.1.later (below_kept (below_chain (below_chain (below_chain l1 l2 (by have := z1.out; have := z2.out; omega)) l3 (by have := z1.out; have := z2.out; have := z3.out; omega)) l4 (by have := z1.out; have := z2.out; have := z3.out; have := z4.out; omega)) k5 (by have := z1.out; have := z2.out; have := z3.out; have := z4.out; have := z5.out; omega) (fun j hj => (by have := z1.out; have := z2.out; have := z3.out; have := z4.out; have := z5.out; omega))) (Nat.le_refl _))).mono ?_
  rintro e w6 ⟨rfl, l6⟩
  have z6 : Hid (w5.heap.size ≤ w6.heap.size) := l6.size
  rw [HE.out.2, HP.out.2]
  go_wp2_with (first | ((with_reducible show wpList _ _ _ (({ dst := some 9, op := _, type := _, pos := _, after := _, guard := _ } : Oper) :: _) _ _); refine wpList_alloc_new rfl 26 rfl 20 _ hzero ?_; intro w7 b7 s7 l7; have z7 : Hid (w7.heap.size = w6.heap.size + 1) := s7; clear s7) | (refine wpList_store_blk rfl 26 26 (.tmp 9) (.tmp 19) rfl _ rfl _ (hdC y) rfl b7 (by rw [hdC_length HO.out.2.len]; rfl) (hsizeC HO.out.2.len) (hdC_one _) ?_; intro w8 b8 s8 k8; have z8 : Hid (w8.heap.size = w7.heap.size) := s8; clear s8))
  have V : Hid (Below w.heap.size w w8 ∧ Blk w8 (w.heap.size) 26 (hdC hdZ) ∧ Blk w8 (w1.heap.size) 26 (hdC hdZ) ∧ Blk w8 (w3.heap.size) 26 (hdC x) ∧ Blk w8 (w6.heap.size) 26 (hdC y)) := ⟨(below_kept (below_chain (below_chain (below_kept (below_chain (below_chain (below_chain l1 l2 (by have := z1.out; have := z2.out; omega)) l3 (by have := z1.out; have := z2.out; have := z3.out; omega)) l4 (by have := z1.out; have := z2.out; have := z3.out; have := z4.out; omega)) k5 (by have := z1.out; have := z2.out; have := z3.out; have := z4.out; have := z5.out; omega) (fun j hj => (by have := z1.out; have := z2.out; have := z3.out; have := z4.out; have := z5.out; omega))) l6 (by have := z1.out; have := z2.out; have := z3.out; have := z4.out; have := z5.out; have := z6.out; omega)) l7 (by have := z1.out; have := z2.out; have := z3.out; have := z4.out; have := z5.out; have := z6.out; have := z7.out; omega)) k8 (by have := z1.out; have := z2.out; have := z3.out; have := z4.out; have := z5.out; have := z6.out; have := z7.out; have := z8.out; omega) (fun j hj => (by have := z1.out; have := z2.out; have := z3.out; have := z4.out; have := z5.out; have := z6.out; have := z7.out; have := z8.out; omega))), (((((((b1.later l2 (by have := z1.out; have := z2.out; omega)).later l3 (by have := z1.out; have := z2.out; have := z3.out; omega)).later l4 (by have := z1.out; have := z2.out; have := z3.out; have := z4.out; omega)).kept k5 (by have := z1.out; have := z2.out; have := z3.out; have := z4.out; have := z5.out; omega)).later l6 (by have := z1.out; have := z2.out; have := z3.out; have := z4.out; have := z5.out; have := z6.out; omega)).later l7 (by have := z1.out; have := z2.out; have := z3.out; have := z4.out; have := z5.out; have := z6.out; have := z7.out; omega)).kept k8 (by have := z1.out; have := z2.out; have := z3.out; have := z4.out; have := z5.out; have := z6.out; have := z7.out; have := z8.out; omega)), ((((((b2.later l3 (by have := z1.out; have := z2.out; have := z3.out; omega)).later l4 (by have := z1.out; have := z2.out; have := z3.out; have := z4.out; omega)).kept k5 (by have := z1.out; have := z2.out; have := z3.out; have := z4.out; have := z5.out; omega)).later l6 (by have := z1.out; have := z2.out; have := z3.out; have := z4.out; have := z5.out; have := z6.out; omega)).later l7 (by have := z1.out; have := z2.out; have := z3.out; have := z4.out; have := z5.out; have := z6.out; have := z7.out; omega)).kept k8 (by have := z1.out; have := z2.out; have := z3.out; have := z4.out; have := z5.out; have := z6.out; have := z7.out; have := z8.out; omega)), (((b5.later l6 (by have := z1.out; have := z2.out; have := z3.out; have := z4.out; have := z5.out; have := z6.out; omega)).later l7 (by have := z1.out; have := z2.out; have := z3.out; have := z4.out; have := z5.out; have := z6.out; have := z7.out; omega)).kept k8 (by have := z1.out; have := z2.out; have := z3.out; have := z4.out; have := z5.out; have := z6.out; have := z7.out; have := z8.out; omega)), b8⟩
  clear l1 l2 l3 l4 k5 l6 l7 k8 b1 b2 b5 b8
  refine wp_region_noPanic (wp_region_held_drew (S := fun W => Blk W (w3.heap.size) 26 (hdC x) ∧ Blk W (w6.heap.size) 26 (hdC y)) (by kernel_rfl) ⟨(V.out.2.2.2.1).drew, (V.out.2.2.2.2).drew⟩ (fun hH => ?_))
  refine hLoad 0 (some 21) (hdC x) rfl rfl (by kernel_rfl) (by kernel_rfl) (by kernel_rfl) (fun _ _ _ h => h) (by rfl) 26 (.tmp 7) rfl (w3.heap.size) 0 rfl _ (fun _ h => h.1.allR) Try.underlying26 rfl (hsizeC HO.out.1.len) hH ?_
  simp only [Act.put, List.setIfInBounds_toArray, List.set_cons_zero, List.set_cons_succ]
  refine hLoad 1 (some 22) (hdC y) rfl rfl (by kernel_rfl) (by kernel_rfl) (by kernel_rfl) (fun _ _ _ h => h) (by rfl) 26 (.tmp 9) rfl (w6.heap.size) 0 rfl _ (fun _ h => h.2.allR) Try.underlying26 rfl (hsizeC HO.out.2.len) hH ?_
  simp only [Act.put, List.setIfInBounds_toArray, List.set_cons_zero, List.set_cons_succ]
  refine hTake 2 (some 23) (.int .u64 (mk P)) rfl rfl (by kernel_rfl) (by kernel_rfl) (by kernel_rfl) (fun _ _ _ h => h) (by rfl) (fun W' hS' => by go_simp) hH ?_
  simp only [Act.put, List.setIfInBounds_toArray, List.set_cons_zero, List.set_cons_succ]
  refine hTake 3 (some 24) (.int .u64 (mk R)) rfl rfl (by kernel_rfl) (by kernel_rfl) (by kernel_rfl) (fun _ _ _ h => h) (by rfl) (fun W' hS' => by go_simp) hH ?_
  simp only [Act.put, List.setIfInBounds_toArray, List.set_cons_zero, List.set_cons_succ]
  refine hTake 4 (some 25) (.int .u64 (mk (P && R))) rfl rfl (by kernel_rfl) (by kernel_rfl) (by kernel_rfl) (fun _ _ _ h => h) (by rfl) (fun W' hS' => by have ma := mk_and P R; go_simp) hH ?_
  simp only [Act.put, List.setIfInBounds_toArray, List.set_cons_zero, List.set_cons_succ]
  refine wpAnyH_ready (rs := [5]) (by kernel_rfl) (by simp) (AllReadyH.cons rfl (fun K hK => ?_) AllReadyH.nil)
  rw [if_pos (by rfl)]
  refine last_store 26 (.tmp 4) (.tmp 21) rfl rfl (w.heap.size) rfl 26 _ (hdC x) rfl (V.out.2.1).drew (by rw [hdC_length HO.out.1.len]; rfl) (hsizeC HO.out.1.len) (hdC_one _) ?_
  intro wp bp sp kp
  refine hK.out _ _ ⟨hH.1.kept kp (by have := z1.out; have := z2.out; have := z3.out; have := z4.out; have := z5.out; have := z6.out; have := z7.out; have := z8.out; omega), hH.2.kept kp (by have := z1.out; have := z2.out; have := z3.out; have := z4.out; have := z5.out; have := z6.out; have := z7.out; have := z8.out; omega)⟩ (fun hH => ?_)
  clear hK K
  refine wpAnyH_ready (rs := [6]) (by kernel_rfl) (by simp) (AllReadyH.cons rfl (fun K hK => ?_) AllReadyH.nil)
  rw [if_pos (by rfl)]
  refine last_store 26 (.tmp 5) (.tmp 22) rfl rfl (w1.heap.size) rfl 26 _ (hdC y) rfl ((V.out.2.2.1).drew.kept kp (by have := z1.out; have := z2.out; have := z3.out; have := z4.out; have := z5.out; have := z6.out; have := z7.out; have := z8.out; omega)) (by rw [hdC_length HO.out.2.len]; rfl) (hsizeC HO.out.2.len) (hdC_one _) ?_
  intro wq bq sq kq
  refine hK.out _ _ ⟨hH.1.kept kq (by have := z1.out; have := z2.out; have := z3.out; have := z4.out; have := z5.out; have := z6.out; have := z7.out; have := z8.out; omega), hH.2.kept kq (by have := z1.out; have := z2.out; have := z3.out; have := z4.out; have := z5.out; have := z6.out; have := z7.out; have := z8.out; omega)⟩ (fun hH => ?_)
  clear hK K
  refine hTake 7 (some 6) (.int .u64 (mk (P && R))) rfl rfl (by kernel_rfl) (by kernel_rfl) (by kernel_rfl) (fun _ _ _ h => h) (by rfl) (fun W' hS' => by go_simp) hH ?_
  simp only [Act.put, List.setIfInBounds_toArray, List.set_cons_zero, List.set_cons_succ]
  refine wpAnyH_done (by kernel_rfl) (NoPanic.normal ?_) _
  clear hH
  have q2 := V.out.1.size
  have L : Below w.heap.size w wq := below_kept (below_kept (below_dn V.out.1 1) kp q2 (fun j hj => (by have := z1.out; have := z2.out; have := z3.out; have := z4.out; have := z5.out; have := z6.out; have := z7.out; have := z8.out; omega))) kq (by have := kp.size; exact Nat.le_trans q2 this) (fun j hj => (by have := z1.out; have := z2.out; have := z3.out; have := z4.out; have := z5.out; have := z6.out; have := z7.out; have := z8.out; omega))
  have B4 : Blk wq (w.heap.size) 26 (hdC x) := bp.kept kq (by have := z1.out; have := z2.out; have := z3.out; have := z4.out; have := z5.out; have := z6.out; have := z7.out; have := z8.out; omega)
  clear bp kp kq sp q2
  go_wp2
  exact ret_bbt rfl (w.heap.size) (w1.heap.size) (hdC x) (hdC y) _ _ _ rfl rfl rfl B4 bq Try.underlying26 Try.underlying26 rfl rfl (hsizeC HO.out.1.len) (hsizeC HO.out.2.len) rfl ⟨rfl, L⟩
set_option maxRecDepth 20000 in
set_option maxHeartbeats 4000000 in
theorem Live_any (ao : Option Addr) (n c : Nat) (xs : List Int) (hc : n ≤ c) (w : World) (hx : Seen w ao n xs) :
    Calls Try.prog 22 #[.slice ao n c] w fun e w' => e = .returned (.int .u64 (mk (liveB xs))) ∧ Below w.heap.size w w' := by
  obtain ⟨x, ex⟩ : ∃ x, hdV xs = x := ⟨_, rfl⟩
  obtain ⟨P, eP⟩ : ∃ P, isR xs = P := ⟨_, rfl⟩
  have HO : Hid (HdOk x) := ex ▸ hdV_ok hx.bytes
  have HE : Hid (hdV xs = x) := ex
  have HP : Hid (isR xs = P) := eP
  have HX : Hid (Seen w ao n xs ∧ n ≤ c) := ⟨hx, hc⟩
  have HL : Hid ((P && lvB x) = liveB xs) := by show _ = _; rw [liveB, ex, eP]
  clear hx hc ex eP
  go_enter Try.func22, Try.ntmps22
  go_wp2_with (fail)
  refine (headOf_any ao n c xs HX.out.2 _ HX.out.1).mono ?_
  rintro e w1 ⟨rfl, l1⟩
  have z1 : Hid (w.heap.size ≤ w1.heap.size) := l1.size
  rw [HE.out, HP.out]
  go_wp2_with (first | ((with_reducible show wpList _ _ _ (({ dst := some 3, op := _, type := _, pos := _, after := _, guard := _ } : Oper) :: _) _ _); refine wpList_alloc_new rfl 26 rfl 20 _ hzero ?_; intro w2 b2 s2 l2; have z2 : Hid (w2.heap.size = w1.heap.size + 1) := s2; clear s2) | (refine wpList_store_blk rfl 26 26 (.tmp 3) (.tmp 8) rfl _ rfl _ (hdC x) rfl b2 (by rw [hdC_length HO.out.len]; rfl) (hsizeC HO.out.len) (hdC_one _) ?_; intro w3 b3 s3 k3; have z3 : Hid (w3.heap.size = w2.heap.size) := s3; clear s3) | ((with_reducible show wpList _ _ _ (({ dst := some 11, op := _, type := _, pos := _, after := _, guard := _ } : Oper) :: _) _ _); refine wpList_load_blk rfl 26 (.tmp 3) rfl _ rfl (hdC x) _ b3 Try.underlying26 rfl (hsizeC HO.out.len) ?_))
  refine (live_any x HO.out _).mono ?_
  rintro e w4 ⟨rfl, l4⟩
  have z4 : Hid (w3.heap.size ≤ w4.heap.size) := l4.size
  go_wp2
  go_ret
  exact ⟨ret_int (by rw [mk_and, HL.out]), (below_chain (below_kept (below_chain l1 l2 (by have := z1.out; have := z2.out; omega)) k3 (by have := z1.out; have := z2.out; have := z3.out; omega) (fun j hj => (by have := z1.out; have := z2.out; have := z3.out; omega))) l4 (by have := z1.out; have := z2.out; have := z3.out; have := z4.out; omega))⟩
set_option maxRecDepth 20000 in
set_option maxHeartbeats 4000000 in
theorem ByIndex_any (ao bo : Option Addr) (n m c d : Nat) (xs ys : List Int) (hc : n ≤ c) (hd' : m ≤ d) (w : World) (hx : Seen w ao n xs) (hy : Seen w bo m ys) :
    Calls Try.prog 29 #[.slice ao n c, .slice bo m d] w fun e w' => e = .returned (.int .u64 (mk (byI xs ys))) ∧ Below w.heap.size w w' := by
  obtain ⟨x, ex⟩ : ∃ x, hdV xs = x := ⟨_, rfl⟩
  obtain ⟨y, ey⟩ : ∃ y, hdV ys = y := ⟨_, rfl⟩
  have HO : Hid (HdOk x ∧ HdOk y) := ⟨ex ▸ hdV_ok hx.bytes, ey ▸ hdV_ok hy.bytes⟩
  have HE : Hid (hdV xs = x ∧ hdV ys = y) := ⟨ex, ey⟩
  have HX : Hid (Seen w ao n xs ∧ Seen w bo m ys ∧ n ≤ c ∧ m ≤ d) := ⟨hx, hy, hc, hd'⟩
  obtain ⟨P, eP⟩ : ∃ P, isR xs = P := ⟨_, rfl⟩
  obtain ⟨R, eR⟩ : ∃ R, isR ys = R := ⟨_, rfl⟩
  have HP : Hid (isR xs = P ∧ isR ys = R) := ⟨eP, eR⟩
  have HL : Hid ((P && R && lowB x y) = byI xs ys) := by show _ = _; rw [byI, ex, ey, eP, eR]
  clear hx hy hc hd' ex ey eP eR
  go_enter Try.func29, Try.ntmps29
  go_wp2_with (fail)
  refine (headsOf_any ao bo n m c d xs ys HX.out.2.2.1 HX.out.2.2.2 _ HX.out.1 HX.out.2.1).mono ?_
  rintro e w1 ⟨rfl, l1⟩
  have z1 : Hid (w.heap.size ≤ w1.heap.size) := l1.size
  rw [HE.out.1, HE.out.2, HP.out.1, HP.out.2]
  go_wp2_with (first | ((with_reducible show wpList _ _ _ (({ dst := some 5, op := _, type := _, pos := _, after := _, guard := _ } : Oper) :: _) _ _); refine wpList_alloc_new rfl 26 rfl 20 _ hzero ?_; intro w2 b2 s2 l2; have z2 : Hid (w2.heap.size = w1.heap.size + 1) := s2; clear s2) | ((with_reducible show wpList _ _ _ (({ dst := some 6, op := _, type := _, pos := _, after := _, guard := _ } : Oper) :: _) _ _); refine wpList_alloc_new rfl 26 rfl 20 _ hzero ?_; intro w3 b3 s3 l3; have z3 : Hid (w3.heap.size = w2.heap.size + 1) := s3; clear s3) | (refine wpList_store_blk rfl 26 26 (.tmp 5) (.tmp 12) rfl _ rfl _ (hdC x) rfl (b2.later l3 (by have := z1.out; have := z2.out; have := z3.out; omega)) (by rw [hdC_length HO.out.1.len]; rfl) (hsizeC HO.out.1.len) (hdC_one _) ?_; intro w4 b4 s4 k4; have z4 : Hid (w4.heap.size = w3.heap.size) := s4; clear s4) | (refine wpList_store_blk rfl 26 26 (.tmp 6) (.tmp 13) rfl _ rfl _ (hdC y) rfl (b3.kept k4 (by have := z1.out; have := z2.out; have := z3.out; have := z4.out; omega)) (by rw [hdC_length HO.out.2.len]; rfl) (hsizeC HO.out.2.len) (hdC_one _) ?_; intro w5 b5 s5 k5; have z5 : Hid (w5.heap.size = w4.heap.size) := s5; clear s5) | ((with_reducible show wpList _ _ _ (({ dst := some 16, op := _, type := _, pos := _, after := _, guard := _ } : Oper) :: _) _ _); refine wpList_load_blk rfl 26 (.tmp 5) rfl _ rfl (hdC x) _ (b4.kept k5 (by have := z1.out; have := z2.out; have := z3.out; have := z4.out; have := z5.out; omega)) Try.underlying26 rfl (hsizeC HO.out.1.len) ?_) | ((with_reducible show wpList _ _ _ (({ dst := some 17, op := _, type := _, pos := _, after := _, guard := _ } : Oper) :: _) _ _); refine wpList_load_blk rfl 26 (.tmp 6) rfl _ rfl (hdC y) _ b5 Try.underlying26 rfl (hsizeC HO.out.2.len) ?_))
  refine (lowI_any x y HO.out.1 HO.out.2 _).mono ?_
  rintro e w6 ⟨rfl, l6⟩
  have z6 : Hid (w5.heap.size ≤ w6.heap.size) := l6.size
  go_wp2
  go_ret
  exact ⟨ret_int (by rw [mk_and, HL.out]), (below_chain (below_kept (below_kept (below_chain (below_chain l1 l2 (by have := z1.out; have := z2.out; omega)) l3 (by have := z1.out; have := z2.out; have := z3.out; omega)) k4 (by have := z1.out; have := z2.out; have := z3.out; have := z4.out; omega) (fun j hj => (by have := z1.out; have := z2.out; have := z3.out; have := z4.out; omega))) k5 (by have := z1.out; have := z2.out; have := z3.out; have := z4.out; have := z5.out; omega) (fun j hj => (by have := z1.out; have := z2.out; have := z3.out; have := z4.out; have := z5.out; omega))) l6 (by have := z1.out; have := z2.out; have := z3.out; have := z4.out; have := z5.out; have := z6.out; omega))⟩
set_option maxRecDepth 20000 in
set_option maxHeartbeats 4000000 in
theorem Together_any (ao bo : Option Addr) (n m c d : Nat) (xs ys : List Int) (hc : n ≤ c) (hd' : m ≤ d) (w : World) (hx : Seen w ao n xs) (hy : Seen w bo m ys) :
    Calls Try.prog 25 #[.slice ao n c, .slice bo m d] w fun e w' => e = .returned (.int .u64 (mk (togB xs ys))) ∧ Below w.heap.size w w' := by
  obtain ⟨x, ex⟩ : ∃ x, hdV xs = x := ⟨_, rfl⟩
  obtain ⟨y, ey⟩ : ∃ y, hdV ys = y := ⟨_, rfl⟩
  have HO : Hid (HdOk x ∧ HdOk y) := ⟨ex ▸ hdV_ok hx.bytes, ey ▸ hdV_ok hy.bytes⟩
  have HE : Hid (hdV xs = x ∧ hdV ys = y) := ⟨ex, ey⟩
  have HX : Hid (Seen w ao n xs ∧ Seen w bo m ys ∧ n ≤ c ∧ m ≤ d) := ⟨hx, hy, hc, hd'⟩
  obtain ⟨P, eP⟩ : ∃ P, isR xs = P := ⟨_, rfl⟩
  obtain ⟨R, eR⟩ : ∃ R, isR ys = R := ⟨_, rfl⟩
  have HP : Hid (isR xs = P ∧ isR ys = R) := ⟨eP, eR⟩
  have HL : Hid (((((P && R) && lvB x) && lvB y) && samB x y) = togB xs ys) := by show _ = _; rw [togB, ex, ey, eP, eR]
  clear hx hy hc hd' ex ey eP eR
  go_enter Try.func25, Try.ntmps25
  go_wp2_with (fail)
  refine (headsOf_any ao bo n m c d xs ys HX.out.2.2.1 HX.out.2.2.2 _ HX.out.1 HX.out.2.1).mono ?_
  rintro e w1 ⟨rfl, l1⟩
  have z1 : Hid (w.heap.size ≤ w1.heap.size) := l1.size
  rw [HE.out.1, HE.out.2, HP.out.1, HP.out.2]
  go_wp2_with (first | ((with_reducible show wpList _ _ _ (({ dst := some 5, op := _, type := _, pos := _, after := _, guard := _ } : Oper) :: _) _ _); refine wpList_alloc_new rfl 26 rfl 20 _ hzero ?_; intro w2 b2 s2 l2; have z2 : Hid (w2.heap.size = w1.heap.size + 1) := s2; clear s2) | ((with_reducible show wpList _ _ _ (({ dst := some 6, op := _, type := _, pos := _, after := _, guard := _ } : Oper) :: _) _ _); refine wpList_alloc_new rfl 26 rfl 20 _ hzero ?_; intro w3 b3 s3 l3; have z3 : Hid (w3.heap.size = w2.heap.size + 1) := s3; clear s3) | (refine wpList_store_blk rfl 26 26 (.tmp 5) (.tmp 12) rfl _ rfl _ (hdC x) rfl (b2.later l3 (by have := z1.out; have := z2.out; have := z3.out; omega)) (by rw [hdC_length HO.out.1.len]; rfl) (hsizeC HO.out.1.len) (hdC_one _) ?_; intro w4 b4 s4 k4; have z4 : Hid (w4.heap.size = w3.heap.size) := s4; clear s4) | (refine wpList_store_blk rfl 26 26 (.tmp 6) (.tmp 13) rfl _ rfl _ (hdC y) rfl (b3.kept k4 (by have := z1.out; have := z2.out; have := z3.out; have := z4.out; omega)) (by rw [hdC_length HO.out.2.len]; rfl) (hsizeC HO.out.2.len) (hdC_one _) ?_; intro w5 b5 s5 k5; have z5 : Hid (w5.heap.size = w4.heap.size) := s5; clear s5))
  have V : Hid (Below w.heap.size w w5 ∧ Blk w5 (w1.heap.size) 26 (hdC x) ∧ Blk w5 (w2.heap.size) 26 (hdC y)) := ⟨(below_kept (below_kept (below_chain (below_chain l1 l2 (by have := z1.out; have := z2.out; omega)) l3 (by have := z1.out; have := z2.out; have := z3.out; omega)) k4 (by have := z1.out; have := z2.out; have := z3.out; have := z4.out; omega) (fun j hj => (by have := z1.out; have := z2.out; have := z3.out; have := z4.out; omega))) k5 (by have := z1.out; have := z2.out; have := z3.out; have := z4.out; have := z5.out; omega) (fun j hj => (by have := z1.out; have := z2.out; have := z3.out; have := z4.out; have := z5.out; omega))), (b4.kept k5 (by have := z1.out; have := z2.out; have := z3.out; have := z4.out; have := z5.out; omega)), b5⟩
  clear l1 l2 l3 k4 k5 b4 b5
  refine region_inv [.val (.int .u64 (mk (P && R))), .val (.agg (hdC x).toArray), .val (.int .u64 (mk (lvB x))), .val (.int .u64 (mk ((P && R) && (lvB x)))), .val (.agg (hdC y).toArray), .val (.int .u64 (mk (lvB y))), .val (.int .u64 (mk (((P && R) && (lvB x)) && (lvB y)))), .val (.agg (hdC x).toArray), .val (.agg (hdC y).toArray), .val (.int .u64 (mk (samB x y))), .val (.int .u64 (mk ((((P && R) && (lvB x)) && (lvB y)) && (samB x y))))] (by kernel_rfl) (by kernel_rfl) (by kernel_rfl) ?_ ?_
  · refine Steps'.cons ?_ (Steps'.cons ?_ (Steps'.cons ?_ (Steps'.cons ?_ (Steps'.cons ?_ (Steps'.cons ?_ (Steps'.cons ?_ (Steps'.cons ?_ (Steps'.cons ?_ (Steps'.cons ?_ (Steps'.cons ?_ (Steps'.one _ _ _ _ _ _ _)))))))))))
    · intro ax wx hb hs hd
      have h7 : ax.tmps.getD 7 undef = (.int .u64 (mk (P && R))) := hs 7 (by kernel_rfl)
      refine Does.value (.int .u64 (mk (P && R))) ?_ rfl
      clear hs hd
      go_simp
    · intro ax wx hb hs hd
      have h5 : ax.tmps.getD 5 undef = (.pointer (some ⟨w1.heap.size, 0, none⟩)) := hs 5 (by kernel_rfl)
      exact Does.load 26 (.tmp 5) rfl w1.heap.size 0 h5 (hdC x) _ (V.out.2.1.later hb V.out.2.1.lt).allR Try.underlying26 rfl (hsizeC HO.out.1.len)
    · intro ax wx hb hs hd
      have h16 : ax.tmps.getD 16 undef = (.agg (hdC x).toArray) := hd 1 16 rfl (by kernel_rfl) (by decide)
      refine Does.call 42 #[(.agg (hdC x).toArray)] (by clear hs hd; go_simp) ?_
      refine (live_any x HO.out.1 wx).mono ?_
      rintro e w' ⟨rfl, l⟩
      exact ⟨_, rfl, rfl, l⟩
    · intro ax wx hb hs hd
      have h15 : ax.tmps.getD 15 undef = (.int .u64 (mk (P && R))) := hd 0 15 rfl (by kernel_rfl) (by decide)
      have h17 : ax.tmps.getD 17 undef = (.int .u64 (mk (lvB x))) := hd 2 17 rfl (by kernel_rfl) (by decide)
      have ma := mk_and (P && R) (lvB x)
      refine Does.value (.int .u64 (mk ((P && R) && (lvB x)))) ?_ rfl
      clear hs hd
      go_simp
    · intro ax wx hb hs hd
      have h6 : ax.tmps.getD 6 undef = (.pointer (some ⟨w2.heap.size, 0, none⟩)) := hs 6 (by kernel_rfl)
      exact Does.load 26 (.tmp 6) rfl w2.heap.size 0 h6 (hdC y) _ (V.out.2.2.later hb V.out.2.2.lt).allR Try.underlying26 rfl (hsizeC HO.out.2.len)
    · intro ax wx hb hs hd
      have h19 : ax.tmps.getD 19 undef = (.agg (hdC y).toArray) := hd 4 19 rfl (by kernel_rfl) (by decide)
      refine Does.call 42 #[(.agg (hdC y).toArray)] (by clear hs hd; go_simp) ?_
      refine (live_any y HO.out.2 wx).mono ?_
      rintro e w' ⟨rfl, l⟩
      exact ⟨_, rfl, rfl, l⟩
    · intro ax wx hb hs hd
      have h18 : ax.tmps.getD 18 undef = (.int .u64 (mk ((P && R) && (lvB x)))) := hd 3 18 rfl (by kernel_rfl) (by decide)
      have h20 : ax.tmps.getD 20 undef = (.int .u64 (mk (lvB y))) := hd 5 20 rfl (by kernel_rfl) (by decide)
      have ma := mk_and ((P && R) && (lvB x)) (lvB y)
      refine Does.value (.int .u64 (mk (((P && R) && (lvB x)) && (lvB y)))) ?_ rfl
      clear hs hd
      go_simp
    · intro ax wx hb hs hd
      have h5 : ax.tmps.getD 5 undef = (.pointer (some ⟨w1.heap.size, 0, none⟩)) := hs 5 (by kernel_rfl)
      exact Does.load 26 (.tmp 5) rfl w1.heap.size 0 h5 (hdC x) _ (V.out.2.1.later hb V.out.2.1.lt).allR Try.underlying26 rfl (hsizeC HO.out.1.len)
    · intro ax wx hb hs hd
      have h6 : ax.tmps.getD 6 undef = (.pointer (some ⟨w2.heap.size, 0, none⟩)) := hs 6 (by kernel_rfl)
      exact Does.load 26 (.tmp 6) rfl w2.heap.size 0 h6 (hdC y) _ (V.out.2.2.later hb V.out.2.2.lt).allR Try.underlying26 rfl (hsizeC HO.out.2.len)
    · intro ax wx hb hs hd
      have h22 : ax.tmps.getD 22 undef = (.agg (hdC x).toArray) := hd 7 22 rfl (by kernel_rfl) (by decide)
      have h23 : ax.tmps.getD 23 undef = (.agg (hdC y).toArray) := hd 8 23 rfl (by kernel_rfl) (by decide)
      refine Does.call 44 #[(.agg (hdC x).toArray), (.agg (hdC y).toArray)] (by clear hs hd; go_simp) ?_
      refine (sameG_any x y HO.out.1 HO.out.2 wx).mono ?_
      rintro e w' ⟨rfl, l⟩
      exact ⟨_, rfl, rfl, l⟩
    · intro ax wx hb hs hd
      have h21 : ax.tmps.getD 21 undef = (.int .u64 (mk (((P && R) && (lvB x)) && (lvB y)))) := hd 6 21 rfl (by kernel_rfl) (by decide)
      have h24 : ax.tmps.getD 24 undef = (.int .u64 (mk (samB x y))) := hd 9 24 rfl (by kernel_rfl) (by decide)
      have ma := mk_and (((P && R) && (lvB x)) && (lvB y)) (samB x y)
      refine Does.value (.int .u64 (mk ((((P && R) && (lvB x)) && (lvB y)) && (samB x y)))) ?_ rfl
      clear hs hd
      go_simp
  · intro wx hb
    refine @Ends.val _ _ _ _ _ _ _ _ _ (.int .u64 (mk (P && R))) rfl ?_
    refine @Ends.val _ _ _ _ _ _ _ _ _ (.agg (hdC x).toArray) rfl ?_
    refine @Ends.val _ _ _ _ _ _ _ _ _ (.int .u64 (mk (lvB x))) rfl ?_
    refine @Ends.val _ _ _ _ _ _ _ _ _ (.int .u64 (mk ((P && R) && (lvB x)))) rfl ?_
    refine @Ends.val _ _ _ _ _ _ _ _ _ (.agg (hdC y).toArray) rfl ?_
    refine @Ends.val _ _ _ _ _ _ _ _ _ (.int .u64 (mk (lvB y))) rfl ?_
    refine @Ends.val _ _ _ _ _ _ _ _ _ (.int .u64 (mk (((P && R) && (lvB x)) && (lvB y)))) rfl ?_
    refine @Ends.val _ _ _ _ _ _ _ _ _ (.agg (hdC x).toArray) rfl ?_
    refine @Ends.val _ _ _ _ _ _ _ _ _ (.agg (hdC y).toArray) rfl ?_
    refine @Ends.val _ _ _ _ _ _ _ _ _ (.int .u64 (mk (samB x y))) rfl ?_
    refine @Ends.val _ _ _ _ _ _ _ _ _ (.int .u64 (mk ((((P && R) && (lvB x)) && (lvB y)) && (samB x y)))) rfl ?_
    refine @Ends.one _ _ _ _ _ _ _ ?_
    simp only [Act.put, List.setIfInBounds_toArray, List.set_cons_zero, List.set_cons_succ]
    refine last_assign (.tmp 25) rfl (some 4) rfl (.int .u64 (mk ((((P && R) && (lvB x)) && (lvB y)) && (samB x y)))) rfl ?_
    simp only [Act.put, List.setIfInBounds_toArray, List.set_cons_zero, List.set_cons_succ]
    go_wp2
    go_ret
    exact ⟨ret_int (by rw [HL.out]), below_chain V.out.1 hb V.out.1.size⟩
set_option maxRecDepth 20000 in
set_option maxHeartbeats 4000000 in
theorem ByGroup_any (ao bo : Option Addr) (n m c d : Nat) (xs ys : List Int) (hc : n ≤ c) (hd' : m ≤ d) (w : World) (hx : Seen w ao n xs) (hy : Seen w bo m ys) :
    Calls Try.prog 27 #[.slice ao n c, .slice bo m d] w fun e w' => e = .returned (.int .u64 (mk (byG xs ys))) ∧ Below w.heap.size w w' := by
  obtain ⟨x, ex⟩ : ∃ x, hdV xs = x := ⟨_, rfl⟩
  obtain ⟨y, ey⟩ : ∃ y, hdV ys = y := ⟨_, rfl⟩
  have HO : Hid (HdOk x ∧ HdOk y) := ⟨ex ▸ hdV_ok hx.bytes, ey ▸ hdV_ok hy.bytes⟩
  have HE : Hid (hdV xs = x ∧ hdV ys = y) := ⟨ex, ey⟩
  have HX : Hid (Seen w ao n xs ∧ Seen w bo m ys ∧ n ≤ c ∧ m ≤ d) := ⟨hx, hy, hc, hd'⟩
  obtain ⟨P, eP⟩ : ∃ P, isR xs = P := ⟨_, rfl⟩
  obtain ⟨R, eR⟩ : ∃ R, isR ys = R := ⟨_, rfl⟩
  have HP : Hid (isR xs = P ∧ isR ys = R) := ⟨eP, eR⟩
  have HL : Hid ((P && R && (lvB x && !lvB y || (((lvB x) && (lvB y)) && ((bef x.group y.group) || ((samB x y) && (lowB x y)))) || !lvB x && !lvB y && lowB x y)) = byG xs ys) := by show _ = _; rw [byG, ex, ey, eP, eR]
  clear hx hy hc hd' ex ey eP eR
  go_enter Try.func27, Try.ntmps27
  go_wp2_with (fail)
  refine (headsOf_any ao bo n m c d xs ys HX.out.2.2.1 HX.out.2.2.2 _ HX.out.1 HX.out.2.1).mono ?_
  rintro e w1 ⟨rfl, l1⟩
  have z1 : Hid (w.heap.size ≤ w1.heap.size) := l1.size
  rw [HE.out.1, HE.out.2, HP.out.1, HP.out.2]
  go_wp2_with (first | ((with_reducible show wpList _ _ _ (({ dst := some 5, op := _, type := _, pos := _, after := _, guard := _ } : Oper) :: _) _ _); refine wpList_alloc_new rfl 26 rfl 20 _ hzero ?_; intro w2 b2 s2 l2; have z2 : Hid (w2.heap.size = w1.heap.size + 1) := s2; clear s2) | ((with_reducible show wpList _ _ _ (({ dst := some 6, op := _, type := _, pos := _, after := _, guard := _ } : Oper) :: _) _ _); refine wpList_alloc_new rfl 26 rfl 20 _ hzero ?_; intro w3 b3 s3 l3; have z3 : Hid (w3.heap.size = w2.heap.size + 1) := s3; clear s3) | (refine wpList_store_blk rfl 26 26 (.tmp 5) (.tmp 17) rfl _ rfl _ (hdC x) rfl (b2.later l3 (by have := z1.out; have := z2.out; have := z3.out; omega)) (by rw [hdC_length HO.out.1.len]; rfl) (hsizeC HO.out.1.len) (hdC_one _) ?_; intro w4 b4 s4 k4; have z4 : Hid (w4.heap.size = w3.heap.size) := s4; clear s4) | (refine wpList_store_blk rfl 26 26 (.tmp 6) (.tmp 18) rfl _ rfl _ (hdC y) rfl (b3.kept k4 (by have := z1.out; have := z2.out; have := z3.out; have := z4.out; omega)) (by rw [hdC_length HO.out.2.len]; rfl) (hsizeC HO.out.2.len) (hdC_one _) ?_; intro w5 b5 s5 k5; have z5 : Hid (w5.heap.size = w4.heap.size) := s5; clear s5))
  have V : Hid (Below w.heap.size w w5 ∧ Blk w5 (w1.heap.size) 26 (hdC x) ∧ Blk w5 (w2.heap.size) 26 (hdC y)) := ⟨(below_kept (below_kept (below_chain (below_chain l1 l2 (by have := z1.out; have := z2.out; omega)) l3 (by have := z1.out; have := z2.out; have := z3.out; omega)) k4 (by have := z1.out; have := z2.out; have := z3.out; have := z4.out; omega) (fun j hj => (by have := z1.out; have := z2.out; have := z3.out; have := z4.out; omega))) k5 (by have := z1.out; have := z2.out; have := z3.out; have := z4.out; have := z5.out; omega) (fun j hj => (by have := z1.out; have := z2.out; have := z3.out; have := z4.out; have := z5.out; omega))), (b4.kept k5 (by have := z1.out; have := z2.out; have := z3.out; have := z4.out; have := z5.out; omega)), b5⟩
  clear l1 l2 l3 k4 k5 b4 b5
  refine region_invP 4 ((.val (.agg (hdC x).toArray)) :: (.val (.int .u64 (mk (lvB x)))) :: (.val (.agg (hdC y).toArray)) :: (.val (.int .u64 (mk (lvB y)))) :: []) (by kernel_rfl) (by kernel_rfl) (by kernel_rfl) [] ⟨.inl rfl, .inl rfl, .inl rfl, .inl rfl, trivial⟩ (by kernel_rfl) ?_ ?_
  · refine Steps'.cons ?_ (Steps'.cons ?_ (Steps'.cons ?_ (Steps'.cons ?_ (Steps'.one _ _ _ _ _ _ _))))
    · intro ax wx hb hs hd
      have h5 : ax.tmps.getD 5 undef = (.pointer (some ⟨w1.heap.size, 0, none⟩)) := hs 5 (by kernel_rfl)
      exact Does.load 26 (.tmp 5) rfl w1.heap.size 0 h5 (hdC x) _ (V.out.2.1.later hb V.out.2.1.lt).allR Try.underlying26 rfl (hsizeC HO.out.1.len)
    · intro ax wx hb hs hd
      have h20 : ax.tmps.getD 20 undef = (.agg (hdC x).toArray) := hd 0 20 rfl (by kernel_rfl) (by decide)
      refine Does.call 42 #[(.agg (hdC x).toArray)] (by clear hs hd; go_simp) ?_
      refine (live_any x HO.out.1 wx).mono ?_
      rintro e w' ⟨rfl, l⟩
      exact ⟨_, rfl, rfl, l⟩
    · intro ax wx hb hs hd
      have h6 : ax.tmps.getD 6 undef = (.pointer (some ⟨w2.heap.size, 0, none⟩)) := hs 6 (by kernel_rfl)
      exact Does.load 26 (.tmp 6) rfl w2.heap.size 0 h6 (hdC y) _ (V.out.2.2.later hb V.out.2.2.lt).allR Try.underlying26 rfl (hsizeC HO.out.2.len)
    · intro ax wx hb hs hd
      have h22 : ax.tmps.getD 22 undef = (.agg (hdC y).toArray) := hd 2 22 rfl (by kernel_rfl) (by decide)
      refine Does.call 42 #[(.agg (hdC y).toArray)] (by clear hs hd; go_simp) ?_
      refine (live_any y HO.out.2 wx).mono ?_
      rintro e w' ⟨rfl, l⟩
      exact ⟨_, rfl, rfl, l⟩
  · intro wx hb
    refine @EndsP.val _ _ _ _ _ _ _ _ (.agg (hdC x).toArray) rfl ?_
    refine @EndsP.val _ _ _ _ _ _ _ _ (.int .u64 (mk (lvB x))) rfl ?_
    refine @EndsP.val _ _ _ _ _ _ _ _ (.agg (hdC y).toArray) rfl ?_
    refine @EndsP.val _ _ _ _ _ _ _ _ (.int .u64 (mk (lvB y))) rfl ?_
    intro hD nf hn
    obtain ⟨mf, rfl⟩ : ∃ mf, nf = mf + 2 := ⟨nf - 2, by have h3 : 2 ≤ nf := hn; omega⟩
    clear hD hn
    simp only [Act.put, List.setIfInBounds_toArray, List.set_cons_zero, List.set_cons_succ]
    refine wpAny_ready (rs := [4]) (by kernel_rfl) (by simp) (AllReady.cons rfl (fun K hK => ?_) AllReady.nil)
    rw [if_pos (by rfl)]
    refine last_assign (.tmp 21) rfl (some 8) rfl (.int .u64 (mk (lvB x))) rfl ?_
    refine hK _ _ ?_
    clear hK K
    simp only [Act.put, List.setIfInBounds_toArray, List.set_cons_zero, List.set_cons_succ]
    refine wpAny_ready (rs := [5]) (by kernel_rfl) (by simp) (AllReady.cons rfl (fun K hK => ?_) AllReady.nil)
    rw [if_pos (by rfl)]
    refine last_assign (.tmp 23) rfl (some 9) rfl (.int .u64 (mk (lvB y))) rfl ?_
    refine hK _ _ ?_
    clear hK K
    simp only [Act.put, List.setIfInBounds_toArray, List.set_cons_zero, List.set_cons_succ]
    refine wpAny_done (by kernel_rfl) (NoPanic.normal ?_) _
    have U : Hid (Below w.heap.size w wx ∧ Blk wx (w1.heap.size) 26 (hdC x) ∧ Blk wx (w2.heap.size) 26 (hdC y)) := ⟨below_chain V.out.1 hb V.out.1.size, (V.out.2.1.later hb V.out.2.1.lt), (V.out.2.2.later hb V.out.2.2.lt)⟩
    obtain ⟨wu, hwu⟩ : ∃ u, wx = u := ⟨_, rfl⟩
    rw [hwu] at U ⊢
    clear hb V hwu
    go_wp2_with (first | ((with_reducible show wpList _ _ _ (({ dst := some 24, op := _, type := _, pos := _, after := _, guard := _ } : Oper) :: _) _ _); refine wpList_load_blk rfl 26 (.tmp 5) rfl _ rfl (hdC x) _ U.out.2.1 Try.underlying26 rfl (hsizeC HO.out.1.len) ?_) | ((with_reducible show wpList _ _ _ (({ dst := some 25, op := _, type := _, pos := _, after := _, guard := _ } : Oper) :: _) _ _); refine wpList_load_blk rfl 26 (.tmp 6) rfl _ rfl (hdC y) _ U.out.2.2 Try.underlying26 rfl (hsizeC HO.out.2.len) ?_))
    refine (lowI_any x y HO.out.1 HO.out.2 _).mono ?_
    rintro e wv ⟨rfl, lv⟩
    have U2 : Hid (Below w.heap.size w wv ∧ Blk wv (w1.heap.size) 26 (hdC x) ∧ Blk wv (w2.heap.size) 26 (hdC y)) := ⟨below_chain U.out.1 lv U.out.1.size, U.out.2.1.later lv U.out.2.1.lt, U.out.2.2.later lv U.out.2.2.lt⟩
    clear lv U
    go_wp2
    refine region_inv [.val (.int .u64 (mk (lvB x))), .val (.int .u64 (mk (lvB y))), .val (.int .u64 (mk ((lvB x) && (lvB y)))), .val (.pointer (some ⟨w1.heap.size, 4, none⟩)), .val (.slice (some ⟨w1.heap.size, 4, none⟩) 16 16), .val (.pointer (some ⟨w2.heap.size, 4, none⟩)), .val (.slice (some ⟨w2.heap.size, 4, none⟩) 16 16), .val (.int .u64 (mk (bef x.group y.group))), .val (.agg (hdC x).toArray), .val (.agg (hdC y).toArray), .val (.int .u64 (mk (samB x y))), .val (.int .u64 (mk (lowB x y))), .val (.int .u64 (mk ((samB x y) && (lowB x y)))), .val (.int .u64 (mk ((bef x.group y.group) || ((samB x y) && (lowB x y))))), .val (.int .u64 (mk (((lvB x) && (lvB y)) && ((bef x.group y.group) || ((samB x y) && (lowB x y))))))] (by kernel_rfl) (by kernel_rfl) (by kernel_rfl) ?_ ?_
    · refine Steps'.cons ?_ (Steps'.cons ?_ (Steps'.cons ?_ (Steps'.cons ?_ (Steps'.cons ?_ (Steps'.cons ?_ (Steps'.cons ?_ (Steps'.cons ?_ (Steps'.cons ?_ (Steps'.cons ?_ (Steps'.cons ?_ (Steps'.cons ?_ (Steps'.cons ?_ (Steps'.cons ?_ (Steps'.cons ?_ (Steps'.one _ _ _ _ _ _ _)))))))))))))))
      · intro ax wx hb hs hd
        have h8 : ax.tmps.getD 8 undef = (.int .u64 (mk (lvB x))) := hs 8 (by kernel_rfl)
        refine Does.value (.int .u64 (mk (lvB x))) ?_ rfl
        clear hs hd
        go_simp
      · intro ax wx hb hs hd
        have h9 : ax.tmps.getD 9 undef = (.int .u64 (mk (lvB y))) := hs 9 (by kernel_rfl)
        refine Does.value (.int .u64 (mk (lvB y))) ?_ rfl
        clear hs hd
        go_simp
      · intro ax wx hb hs hd
        have h27 : ax.tmps.getD 27 undef = (.int .u64 (mk (lvB x))) := hd 0 27 rfl (by kernel_rfl) (by decide)
        have h28 : ax.tmps.getD 28 undef = (.int .u64 (mk (lvB y))) := hd 1 28 rfl (by kernel_rfl) (by decide)
        have ma := mk_and (lvB x) (lvB y)
        refine Does.value (.int .u64 (mk ((lvB x) && (lvB y)))) ?_ rfl
        clear hs hd
        go_simp
      · intro ax wx hb hs hd
        have h5 : ax.tmps.getD 5 undef = (.pointer (some ⟨w1.heap.size, 0, none⟩)) := hs 5 (by kernel_rfl)
        refine Does.value (.pointer (some ⟨w1.heap.size, 4, none⟩)) ?_ rfl
        clear hs hd
        go_simp
      · intro ax wx hb hs hd
        have h30 : ax.tmps.getD 30 undef = (.pointer (some ⟨w1.heap.size, 4, none⟩)) := hd 3 30 rfl (by kernel_rfl) (by decide)
        refine Does.value (.slice (some ⟨w1.heap.size, 4, none⟩) 16 16) ?_ rfl
        clear hs hd
        go_simp
      · intro ax wx hb hs hd
        have h6 : ax.tmps.getD 6 undef = (.pointer (some ⟨w2.heap.size, 0, none⟩)) := hs 6 (by kernel_rfl)
        refine Does.value (.pointer (some ⟨w2.heap.size, 4, none⟩)) ?_ rfl
        clear hs hd
        go_simp
      · intro ax wx hb hs hd
        have h32 : ax.tmps.getD 32 undef = (.pointer (some ⟨w2.heap.size, 4, none⟩)) := hd 5 32 rfl (by kernel_rfl) (by decide)
        refine Does.value (.slice (some ⟨w2.heap.size, 4, none⟩) 16 16) ?_ rfl
        clear hs hd
        go_simp
      · intro ax wx hb hs hd
        have h31 : ax.tmps.getD 31 undef = (.slice (some ⟨w1.heap.size, 4, none⟩) 16 16) := hd 4 31 rfl (by kernel_rfl) (by decide)
        have h33 : ax.tmps.getD 33 undef = (.slice (some ⟨w2.heap.size, 4, none⟩) 16 16) := hd 6 33 rfl (by kernel_rfl) (by decide)
        refine Does.call 46 #[.slice (some ⟨w1.heap.size, 4, none⟩) 16 16, .slice (some ⟨w2.heap.size, 4, none⟩) 16 16] (by clear hs hd; go_simp) ?_
        refine (before_any _ _ 16 16 16 16 _ _ wx (hd_seen (U2.out.2.1.later hb U2.out.2.1.lt) HO.out.1) (hd_seen (U2.out.2.2.later hb U2.out.2.2.lt) HO.out.2)).mono ?_
        rintro e w' ⟨rfl, q, rfl⟩
        exact ⟨_, rfl, rfl, below_dn (Below.refl _ _) q⟩
      · intro ax wx hb hs hd
        have h5 : ax.tmps.getD 5 undef = (.pointer (some ⟨w1.heap.size, 0, none⟩)) := hs 5 (by kernel_rfl)
        exact Does.load 26 (.tmp 5) rfl w1.heap.size 0 h5 (hdC x) _ (U2.out.2.1.later hb U2.out.2.1.lt).allR Try.underlying26 rfl (hsizeC HO.out.1.len)
      · intro ax wx hb hs hd
        have h6 : ax.tmps.getD 6 undef = (.pointer (some ⟨w2.heap.size, 0, none⟩)) := hs 6 (by kernel_rfl)
        exact Does.load 26 (.tmp 6) rfl w2.heap.size 0 h6 (hdC y) _ (U2.out.2.2.later hb U2.out.2.2.lt).allR Try.underlying26 rfl (hsizeC HO.out.2.len)
      · intro ax wx hb hs hd
        have h35 : ax.tmps.getD 35 undef = (.agg (hdC x).toArray) := hd 8 35 rfl (by kernel_rfl) (by decide)
        have h36 : ax.tmps.getD 36 undef = (.agg (hdC y).toArray) := hd 9 36 rfl (by kernel_rfl) (by decide)
        refine Does.call 44 #[(.agg (hdC x).toArray), (.agg (hdC y).toArray)] (by clear hs hd; go_simp) ?_
        refine (sameG_any x y HO.out.1 HO.out.2 wx).mono ?_
        rintro e w' ⟨rfl, l⟩
        exact ⟨_, rfl, rfl, l⟩
      · intro ax wx hb hs hd
        have h10 : ax.tmps.getD 10 undef = (.int .u64 (mk (lowB x y))) := hs 10 (by kernel_rfl)
        refine Does.value (.int .u64 (mk (lowB x y))) ?_ rfl
        clear hs hd
        go_simp
      · intro ax wx hb hs hd
        have h37 : ax.tmps.getD 37 undef = (.int .u64 (mk (samB x y))) := hd 10 37 rfl (by kernel_rfl) (by decide)
        have h38 : ax.tmps.getD 38 undef = (.int .u64 (mk (lowB x y))) := hd 11 38 rfl (by kernel_rfl) (by decide)
        have ma := mk_and (samB x y) (lowB x y)
        refine Does.value (.int .u64 (mk ((samB x y) && (lowB x y)))) ?_ rfl
        clear hs hd
        go_simp
      · intro ax wx hb hs hd
        have h34 : ax.tmps.getD 34 undef = (.int .u64 (mk (bef x.group y.group))) := hd 7 34 rfl (by kernel_rfl) (by decide)
        have h39 : ax.tmps.getD 39 undef = (.int .u64 (mk ((samB x y) && (lowB x y)))) := hd 12 39 rfl (by kernel_rfl) (by decide)
        have ma := mk_or (bef x.group y.group) ((samB x y) && (lowB x y))
        refine Does.value (.int .u64 (mk ((bef x.group y.group) || ((samB x y) && (lowB x y))))) ?_ rfl
        clear hs hd
        go_simp
      · intro ax wx hb hs hd
        have h29 : ax.tmps.getD 29 undef = (.int .u64 (mk ((lvB x) && (lvB y)))) := hd 2 29 rfl (by kernel_rfl) (by decide)
        have h40 : ax.tmps.getD 40 undef = (.int .u64 (mk ((bef x.group y.group) || ((samB x y) && (lowB x y))))) := hd 13 40 rfl (by kernel_rfl) (by decide)
        have ma := mk_and ((lvB x) && (lvB y)) ((bef x.group y.group) || ((samB x y) && (lowB x y)))
        refine Does.value (.int .u64 (mk (((lvB x) && (lvB y)) && ((bef x.group y.group) || ((samB x y) && (lowB x y)))))) ?_ rfl
        clear hs hd
        go_simp
    · intro wx hb
      refine @Ends.val _ _ _ _ _ _ _ _ _ (.int .u64 (mk (lvB x))) rfl ?_
      refine @Ends.val _ _ _ _ _ _ _ _ _ (.int .u64 (mk (lvB y))) rfl ?_
      refine @Ends.val _ _ _ _ _ _ _ _ _ (.int .u64 (mk ((lvB x) && (lvB y)))) rfl ?_
      refine @Ends.val _ _ _ _ _ _ _ _ _ (.pointer (some ⟨w1.heap.size, 4, none⟩)) rfl ?_
      refine @Ends.val _ _ _ _ _ _ _ _ _ (.slice (some ⟨w1.heap.size, 4, none⟩) 16 16) rfl ?_
      refine @Ends.val _ _ _ _ _ _ _ _ _ (.pointer (some ⟨w2.heap.size, 4, none⟩)) rfl ?_
      refine @Ends.val _ _ _ _ _ _ _ _ _ (.slice (some ⟨w2.heap.size, 4, none⟩) 16 16) rfl ?_
      refine @Ends.val _ _ _ _ _ _ _ _ _ (.int .u64 (mk (bef x.group y.group))) rfl ?_
      refine @Ends.val _ _ _ _ _ _ _ _ _ (.agg (hdC x).toArray) rfl ?_
      refine @Ends.val _ _ _ _ _ _ _ _ _ (.agg (hdC y).toArray) rfl ?_
      refine @Ends.val _ _ _ _ _ _ _ _ _ (.int .u64 (mk (samB x y))) rfl ?_
      refine @Ends.val _ _ _ _ _ _ _ _ _ (.int .u64 (mk (lowB x y))) rfl ?_
      refine @Ends.val _ _ _ _ _ _ _ _ _ (.int .u64 (mk ((samB x y) && (lowB x y)))) rfl ?_
      refine @Ends.val _ _ _ _ _ _ _ _ _ (.int .u64 (mk ((bef x.group y.group) || ((samB x y) && (lowB x y))))) rfl ?_
      refine @Ends.val _ _ _ _ _ _ _ _ _ (.int .u64 (mk (((lvB x) && (lvB y)) && ((bef x.group y.group) || ((samB x y) && (lowB x y)))))) rfl ?_
      refine @Ends.one _ _ _ _ _ _ _ ?_
      simp only [Act.put, List.setIfInBounds_toArray, List.set_cons_zero, List.set_cons_succ]
      refine last_assign (.tmp 41) rfl (some 11) rfl (.int .u64 (mk (((lvB x) && (lvB y)) && ((bef x.group y.group) || ((samB x y) && (lowB x y)))))) rfl ?_
      simp only [Act.put, List.setIfInBounds_toArray, List.set_cons_zero, List.set_cons_succ]
      have n1 := not_mk (lvB x)
      have n2 := not_mk (lvB y)
      go_wp2
      go_ret
      refine ⟨ret_int ?_, below_chain U2.out.1 hb U2.out.1.size⟩
      rw [← HL.out]
      simp only [not_mk, mk_and, mk_or, mk_andNot]
end Go.Proofs.Ytabdjoljdefjdaa
