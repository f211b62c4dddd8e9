/- Joined by program: what the theorem reaches. -/
import Derived.Lib.AppendZeros
import Derived.ProofKit
import Derived.OpenShut
import Derived.ShutString
import Derived.ChangeOld
import Derived.SizedLaws
import Derived.Test.YtpanagghppdiiaaGreatRows
import Derived.Test.YtpanagghppdiiaaGreatJA
import Derived.Test.YtpanagghppdiiaaGreatJE
import Derived.Test.YtpanagghppdiiaaGreatJK
import Derived.Test.YtpanagghppdiiaaGreatJL
set_option maxRecDepth 100000
set_option maxHeartbeats 4000000
namespace Go.Proofs.YtpanagghppdiiaaGreat
open Go.RowKit
set_option linter.unusedVariables false
set_option linter.unusedSimpArgs false
theorem hd_seen {w : World} {g : Nat} {h : Hd} (b : Blk w g 69 (hdC h)) (k : HdOk h) : Seen w (some ⟨g, 4, none⟩) 16 h.group :=
 ⟨k.len, by decide, k.bytes, fun _ => ⟨g, 4, rfl, b.lt, fun i hi => by
  rw [hd_range b i (.int .u8 (h.group.getD i 0)) (by simp [u8s, List.getD, show i < h.group.length by rw [k.len]; exact hi])]⟩⟩
theorem headsOf_any (ao bo : Option Addr) (n m c d : Nat) (xs ys : List Int) (hc : n ≤ c) (hd' : m ≤ d) (w : World) (hx : Seen w ao n xs) (hy : Seen w bo m ys) :
  Calls Tryz.prog 31 #[.slice ao n c, .slice bo m d] w fun e w' => e = .returned (.tuple #[.agg (hdC (hdV xs)).toArray, .agg (hdC (hdV ys)).toArray, .int .u64 (mk (isR xs && isR ys))]) ∧ Below w.heap.size w w' := by
 obtain ⟨x, ex⟩ : ∃ x, hdV xs = x := ⟨_, rfl⟩
 obtain ⟨y, ey⟩ : ∃ y, hdV ys = y := ⟨_, rfl⟩
 have HO : Hid (HdOk x ∧ HdOk y) := ⟨ex ▸ hdV_ok hx.bytes, ey ▸ hdV_ok hy.bytes⟩
 have HE : Hid (hdV xs = x ∧ hdV ys = y) := ⟨ex, ey⟩
 have HX : Hid (Seen w ao n xs ∧ Seen w bo m ys ∧ n ≤ c ∧ m ≤ d) := ⟨hx, hy, hc, hd'⟩
 obtain ⟨P, eP⟩ : ∃ P, isR xs = P := ⟨_, rfl⟩
 obtain ⟨R, eR⟩ : ∃ R, isR ys = R := ⟨_, rfl⟩
 have HP : Hid (isR xs = P ∧ isR ys = R) := ⟨eP, eR⟩
 rw [ex, ey, eP, eR]
 clear hx hy hc hd' ex ey eP eR
 go_enter Tryz.func31, Tryz.ntmps31
 go_wp2_with (first | ((with_reducible show wpList _ _ _ (({ dst := some 4, op := _, type := _, pos := _, after := _, guard := _ } : Oper) :: _) _ _); refine wpList_alloc_new rfl 69 rfl 20 _ hzero ?_; intro w1 b1 s1 l1; have z1 : Hid (w1.heap.size = w.heap.size + 1) := s1; clear s1) | ((with_reducible show wpList _ _ _ (({ dst := some 5, op := _, type := _, pos := _, after := _, guard := _ } : Oper) :: _) _ _); refine wpList_alloc_new rfl 69 rfl 20 _ hzero ?_; intro w2 b2 s2 l2; have z2 : Hid (w2.heap.size = w1.heap.size + 1) := s2; clear s2))
 refine (rcheadOf_any ao n c xs HX.out.2.2.1 _ (HX.out.1.later (below_chain l1 l2 (by have := z1.out; have := z2.out; omega)) (Nat.le_refl _))).mono ?_
 rintro e w3 ⟨rfl, l3⟩
 have z3 : Hid (w2.heap.size ≤ w3.heap.size) := l3.size
 rw [HE.out.1, HP.out.1]
 go_wp2_with (first | ((with_reducible show wpList _ _ _ (({ dst := some 7, op := _, type := _, pos := _, after := _, guard := _ } : Oper) :: _) _ _); refine wpList_alloc_new rfl 69 rfl 20 _ hzero ?_; intro w4 b4 s4 l4; have z4 : Hid (w4.heap.size = w3.heap.size + 1) := s4; clear s4) | (refine wpList_store_blk rfl 69 69 (.tmp 7) (.tmp 14) rfl _ rfl _ (hdC x) rfl b4 (by rw [hdC_length HO.out.1.len]; rfl) (hsizeC HO.out.1.len) (hdC_one _) ?_; intro w5 b5 s5 k5; have z5 : Hid (w5.heap.size = w4.heap.size) := s5; clear s5))
 refine (rcheadOf_any bo m d ys HX.out.2.2.2 _ (HX.out.2.1.later (below_kept (below_chain (below_chain (below_chain l1 l2 (by have := z1.out; have := z2.out; omega)) l3 (by have := z1.out; have := z2.out; have := z3.out; omega)) l4 (by have := z1.out; have := z2.out; have := z3.out; have := z4.out; omega)) k5 (by have := z1.out; have := z2.out; have := z3.out; have := z4.out; have := z5.out; omega) (fun j hj => (by have := z1.out; have := z2.out; have := z3.out; have := z4.out; have := z5.out; omega))) (Nat.le_refl _))).mono ?_
 rintro e w6 ⟨rfl, l6⟩
 have z6 : Hid (w5.heap.size ≤ w6.heap.size) := l6.size
 rw [HE.out.2, HP.out.2]
 go_wp2_with (first | ((with_reducible show wpList _ _ _ (({ dst := some 9, op := _, type := _, pos := _, after := _, guard := _ } : Oper) :: _) _ _); refine wpList_alloc_new rfl 69 rfl 20 _ hzero ?_; intro w7 b7 s7 l7; have z7 : Hid (w7.heap.size = w6.heap.size + 1) := s7; clear s7) | (refine wpList_store_blk rfl 69 69 (.tmp 9) (.tmp 19) rfl _ rfl _ (hdC y) rfl b7 (by rw [hdC_length HO.out.2.len]; rfl) (hsizeC HO.out.2.len) (hdC_one _) ?_; intro w8 b8 s8 k8; have z8 : Hid (w8.heap.size = w7.heap.size) := s8; clear s8))
 have V : Hid (Below w.heap.size w w8 ∧ Blk w8 (w.heap.size) 69 (hdC hdZ) ∧ Blk w8 (w1.heap.size) 69 (hdC hdZ) ∧ Blk w8 (w3.heap.size) 69 (hdC x) ∧ Blk w8 (w6.heap.size) 69 (hdC y)) := ⟨(below_kept (below_chain (below_chain (below_kept (below_chain (below_chain (below_chain l1 l2 (by have := z1.out; have := z2.out; omega)) l3 (by have := z1.out; have := z2.out; have := z3.out; omega)) l4 (by have := z1.out; have := z2.out; have := z3.out; have := z4.out; omega)) k5 (by have := z1.out; have := z2.out; have := z3.out; have := z4.out; have := z5.out; omega) (fun j hj => (by have := z1.out; have := z2.out; have := z3.out; have := z4.out; have := z5.out; omega))) l6 (by have := z1.out; have := z2.out; have := z3.out; have := z4.out; have := z5.out; have := z6.out; omega)) l7 (by have := z1.out; have := z2.out; have := z3.out; have := z4.out; have := z5.out; have := z6.out; have := z7.out; omega)) k8 (by have := z1.out; have := z2.out; have := z3.out; have := z4.out; have := z5.out; have := z6.out; have := z7.out; have := z8.out; omega) (fun j hj => (by have := z1.out; have := z2.out; have := z3.out; have := z4.out; have := z5.out; have := z6.out; have := z7.out; have := z8.out; omega))), (((((((b1.later l2 (by have := z1.out; have := z2.out; omega)).later l3 (by have := z1.out; have := z2.out; have := z3.out; omega)).later l4 (by have := z1.out; have := z2.out; have := z3.out; have := z4.out; omega)).kept k5 (by have := z1.out; have := z2.out; have := z3.out; have := z4.out; have := z5.out; omega)).later l6 (by have := z1.out; have := z2.out; have := z3.out; have := z4.out; have := z5.out; have := z6.out; omega)).later l7 (by have := z1.out; have := z2.out; have := z3.out; have := z4.out; have := z5.out; have := z6.out; have := z7.out; omega)).kept k8 (by have := z1.out; have := z2.out; have := z3.out; have := z4.out; have := z5.out; have := z6.out; have := z7.out; have := z8.out; omega)), ((((((b2.later l3 (by have := z1.out; have := z2.out; have := z3.out; omega)).later l4 (by have := z1.out; have := z2.out; have := z3.out; have := z4.out; omega)).kept k5 (by have := z1.out; have := z2.out; have := z3.out; have := z4.out; have := z5.out; omega)).later l6 (by have := z1.out; have := z2.out; have := z3.out; have := z4.out; have := z5.out; have := z6.out; omega)).later l7 (by have := z1.out; have := z2.out; have := z3.out; have := z4.out; have := z5.out; have := z6.out; have := z7.out; omega)).kept k8 (by have := z1.out; have := z2.out; have := z3.out; have := z4.out; have := z5.out; have := z6.out; have := z7.out; have := z8.out; omega)), (((b5.later l6 (by have := z1.out; have := z2.out; have := z3.out; have := z4.out; have := z5.out; have := z6.out; omega)).later l7 (by have := z1.out; have := z2.out; have := z3.out; have := z4.out; have := z5.out; have := z6.out; have := z7.out; omega)).kept k8 (by have := z1.out; have := z2.out; have := z3.out; have := z4.out; have := z5.out; have := z6.out; have := z7.out; have := z8.out; omega)), b8⟩
 clear l1 l2 l3 l4 k5 l6 l7 k8 b1 b2 b5 b8
 refine wp_region_noPanic (wp_region_held_drew (S := fun W => Blk W (w3.heap.size) 69 (hdC x) ∧ Blk W (w6.heap.size) 69 (hdC y)) (by kernel_rfl) ⟨(V.out.2.2.2.1).drew, (V.out.2.2.2.2).drew⟩ (fun hH => ?_))
 refine hLoad 0 (some 21) (hdC x) rfl rfl (by kernel_rfl) (by kernel_rfl) (by kernel_rfl) (fun _ _ _ h => h) (by rfl) 69 (.tmp 7) rfl (w3.heap.size) 0 rfl _ (fun _ h => h.1.allRc) Tryz.underlying69 rfl (hsizeC HO.out.1.len) hH ?_
 simp only [Act.put, sqA, sqB, sqC]
 refine hLoad 1 (some 22) (hdC y) rfl rfl (by kernel_rfl) (by kernel_rfl) (by kernel_rfl) (fun _ _ _ h => h) (by rfl) 69 (.tmp 9) rfl (w6.heap.size) 0 rfl _ (fun _ h => h.2.allRc) Tryz.underlying69 rfl (hsizeC HO.out.2.len) hH ?_
 simp only [Act.put, sqA, sqB, sqC]
 refine hTake 2 (some 23) (.int .u64 (mk P)) rfl rfl (by kernel_rfl) (by kernel_rfl) (by kernel_rfl) (fun _ _ _ h => h) (by rfl) (fun W' hS' => by go_simp) hH ?_
 simp only [Act.put, sqA, sqB, sqC]
 refine hTake 3 (some 24) (.int .u64 (mk R)) rfl rfl (by kernel_rfl) (by kernel_rfl) (by kernel_rfl) (fun _ _ _ h => h) (by rfl) (fun W' hS' => by go_simp) hH ?_
 simp only [Act.put, sqA, sqB, sqC]
 refine hTake 4 (some 25) (.int .u64 (mk (P && R))) rfl rfl (by kernel_rfl) (by kernel_rfl) (by kernel_rfl) (fun _ _ _ h => h) (by rfl) (fun W' hS' => by have ma := mk_and P R; go_simp) hH ?_
 simp only [Act.put, sqA, sqB, sqC]
 refine wpAnyH_ready (rs := [5]) (by kernel_rfl) (by simp) (AllReadyH.cons rfl (fun K hK => ?_) AllReadyH.nil)
 rw [if_pos (by rfl)]
 refine last_store 69 (.tmp 4) (.tmp 21) rfl rfl (w.heap.size) rfl 69 _ (hdC x) rfl (V.out.2.1).drew (by rw [hdC_length HO.out.1.len]; rfl) (hsizeC HO.out.1.len) (hdC_one _) ?_
 intro wp bp sp kp
 refine hK.out _ _ ⟨hH.1.kept kp (by have := z1.out; have := z2.out; have := z3.out; have := z4.out; have := z5.out; have := z6.out; have := z7.out; have := z8.out; omega), hH.2.kept kp (by have := z1.out; have := z2.out; have := z3.out; have := z4.out; have := z5.out; have := z6.out; have := z7.out; have := z8.out; omega)⟩ (fun hH => ?_)
 clear hK K
 refine wpAnyH_ready (rs := [6]) (by kernel_rfl) (by simp) (AllReadyH.cons rfl (fun K hK => ?_) AllReadyH.nil)
 rw [if_pos (by rfl)]
 refine last_store 69 (.tmp 5) (.tmp 22) rfl rfl (w1.heap.size) rfl 69 _ (hdC y) rfl ((V.out.2.2.1).drew.kept kp (by have := z1.out; have := z2.out; have := z3.out; have := z4.out; have := z5.out; have := z6.out; have := z7.out; have := z8.out; omega)) (by rw [hdC_length HO.out.2.len]; rfl) (hsizeC HO.out.2.len) (hdC_one _) ?_
 intro wq bq sq kq
 refine hK.out _ _ ⟨hH.1.kept kq (by have := z1.out; have := z2.out; have := z3.out; have := z4.out; have := z5.out; have := z6.out; have := z7.out; have := z8.out; omega), hH.2.kept kq (by have := z1.out; have := z2.out; have := z3.out; have := z4.out; have := z5.out; have := z6.out; have := z7.out; have := z8.out; omega)⟩ (fun hH => ?_)
 clear hK K
 refine hTake 7 (some 6) (.int .u64 (mk (P && R))) rfl rfl (by kernel_rfl) (by kernel_rfl) (by kernel_rfl) (fun _ _ _ h => h) (by rfl) (fun W' hS' => by go_simp) hH ?_
 simp only [Act.put, sqA, sqB, sqC]
 refine wpAnyH_done (by kernel_rfl) (NoPanic.normal ?_) _
 clear hH
 have q2 := V.out.1.size
 have L : Below w.heap.size w wq := below_kept (below_kept (below_dn V.out.1 1) kp q2 (fun j hj => (by have := z1.out; have := z2.out; have := z3.out; have := z4.out; have := z5.out; have := z6.out; have := z7.out; have := z8.out; omega))) kq (by have := kp.size; exact Nat.le_trans q2 this) (fun j hj => (by have := z1.out; have := z2.out; have := z3.out; have := z4.out; have := z5.out; have := z6.out; have := z7.out; have := z8.out; omega))
 have B4 : Blk wq (w.heap.size) 69 (hdC x) := bp.kept kq (by have := z1.out; have := z2.out; have := z3.out; have := z4.out; have := z5.out; have := z6.out; have := z7.out; have := z8.out; omega)
 clear bp kp kq sp q2
 go_wp2
 exact ret_bbt rfl (w.heap.size) (w1.heap.size) (hdC x) (hdC y) _ _ _ rfl rfl rfl B4 bq Tryz.underlying69 Tryz.underlying69 rfl rfl (hsizeC HO.out.1.len) (hsizeC HO.out.2.len) rfl ⟨rfl, L⟩
theorem ByIndex_any (ao bo : Option Addr) (n m c d : Nat) (xs ys : List Int) (hc : n ≤ c) (hd' : m ≤ d) (w : World) (hx : Seen w ao n xs) (hy : Seen w bo m ys) :
  Calls Tryz.prog 22 #[.slice ao n c, .slice bo m d] w fun e w' => e = .returned (.int .u64 (mk (byI xs ys))) ∧ Below w.heap.size w w' := by
 obtain ⟨x, ex⟩ : ∃ x, hdV xs = x := ⟨_, rfl⟩
 obtain ⟨y, ey⟩ : ∃ y, hdV ys = y := ⟨_, rfl⟩
 have HO : Hid (HdOk x ∧ HdOk y) := ⟨ex ▸ hdV_ok hx.bytes, ey ▸ hdV_ok hy.bytes⟩
 have HE : Hid (hdV xs = x ∧ hdV ys = y) := ⟨ex, ey⟩
 have HX : Hid (Seen w ao n xs ∧ Seen w bo m ys ∧ n ≤ c ∧ m ≤ d) := ⟨hx, hy, hc, hd'⟩
 obtain ⟨P, eP⟩ : ∃ P, isR xs = P := ⟨_, rfl⟩
 obtain ⟨R, eR⟩ : ∃ R, isR ys = R := ⟨_, rfl⟩
 have HP : Hid (isR xs = P ∧ isR ys = R) := ⟨eP, eR⟩
 have HL : Hid ((P && R && lowB x y) = byI xs ys) := by show _ = _; rw [byI, ex, ey, eP, eR]
 clear hx hy hc hd' ex ey eP eR
 go_enter Tryz.func22, Tryz.ntmps22
 go_wp2_with (fail)
 refine (headsOf_any ao bo n m c d xs ys HX.out.2.2.1 HX.out.2.2.2 _ HX.out.1 HX.out.2.1).mono ?_
 rintro e w1 ⟨rfl, l1⟩
 have z1 : Hid (w.heap.size ≤ w1.heap.size) := l1.size
 rw [HE.out.1, HE.out.2, HP.out.1, HP.out.2]
 go_wp2_with (first | ((with_reducible show wpList _ _ _ (({ dst := some 5, op := _, type := _, pos := _, after := _, guard := _ } : Oper) :: _) _ _); refine wpList_alloc_new rfl 69 rfl 20 _ hzero ?_; intro w2 b2 s2 l2; have z2 : Hid (w2.heap.size = w1.heap.size + 1) := s2; clear s2) | ((with_reducible show wpList _ _ _ (({ dst := some 6, op := _, type := _, pos := _, after := _, guard := _ } : Oper) :: _) _ _); refine wpList_alloc_new rfl 69 rfl 20 _ hzero ?_; intro w3 b3 s3 l3; have z3 : Hid (w3.heap.size = w2.heap.size + 1) := s3; clear s3) | (refine wpList_store_blk rfl 69 69 (.tmp 5) (.tmp 12) rfl _ rfl _ (hdC x) rfl (b2.later l3 (by have := z1.out; have := z2.out; have := z3.out; omega)) (by rw [hdC_length HO.out.1.len]; rfl) (hsizeC HO.out.1.len) (hdC_one _) ?_; intro w4 b4 s4 k4; have z4 : Hid (w4.heap.size = w3.heap.size) := s4; clear s4) | (refine wpList_store_blk rfl 69 69 (.tmp 6) (.tmp 13) rfl _ rfl _ (hdC y) rfl (b3.kept k4 (by have := z1.out; have := z2.out; have := z3.out; have := z4.out; omega)) (by rw [hdC_length HO.out.2.len]; rfl) (hsizeC HO.out.2.len) (hdC_one _) ?_; intro w5 b5 s5 k5; have z5 : Hid (w5.heap.size = w4.heap.size) := s5; clear s5) | ((with_reducible show wpList _ _ _ (({ dst := some 16, op := _, type := _, pos := _, after := _, guard := _ } : Oper) :: _) _ _); refine wpList_load_blk rfl 69 (.tmp 5) rfl _ rfl (hdC x) _ (b4.kept k5 (by have := z1.out; have := z2.out; have := z3.out; have := z4.out; have := z5.out; omega)) Tryz.underlying69 rfl (hsizeC HO.out.1.len) ?_) | ((with_reducible show wpList _ _ _ (({ dst := some 17, op := _, type := _, pos := _, after := _, guard := _ } : Oper) :: _) _ _); refine wpList_load_blk rfl 69 (.tmp 6) rfl _ rfl (hdC y) _ b5 Tryz.underlying69 rfl (hsizeC HO.out.2.len) ?_))
 refine (lowI_any x y HO.out.1 HO.out.2 _).mono ?_
 rintro e w6 ⟨rfl, l6⟩
 have z6 : Hid (w5.heap.size ≤ w6.heap.size) := l6.size
 go_wp2
 go_ret
 exact ⟨ret_int (by rw [mk_and, HL.out]), (below_chain (below_kept (below_kept (below_chain (below_chain l1 l2 (by have := z1.out; have := z2.out; omega)) l3 (by have := z1.out; have := z2.out; have := z3.out; omega)) k4 (by have := z1.out; have := z2.out; have := z3.out; have := z4.out; omega) (fun j hj => (by have := z1.out; have := z2.out; have := z3.out; have := z4.out; omega))) k5 (by have := z1.out; have := z2.out; have := z3.out; have := z4.out; have := z5.out; omega) (fun j hj => (by have := z1.out; have := z2.out; have := z3.out; have := z4.out; have := z5.out; omega))) l6 (by have := z1.out; have := z2.out; have := z3.out; have := z4.out; have := z5.out; have := z6.out; omega))⟩
theorem ByGroup_any (ao bo : Option Addr) (n m c d : Nat) (xs ys : List Int) (hc : n ≤ c) (hd' : m ≤ d) (w : World) (hx : Seen w ao n xs) (hy : Seen w bo m ys) :
  Calls Tryz.prog 8 #[.slice ao n c, .slice bo m d] w fun e w' => e = .returned (.int .u64 (mk (byG xs ys))) ∧ Below w.heap.size w w' := by
 obtain ⟨x, ex⟩ : ∃ x, hdV xs = x := ⟨_, rfl⟩
 obtain ⟨y, ey⟩ : ∃ y, hdV ys = y := ⟨_, rfl⟩
 have HO : Hid (HdOk x ∧ HdOk y) := ⟨ex ▸ hdV_ok hx.bytes, ey ▸ hdV_ok hy.bytes⟩
 have HE : Hid (hdV xs = x ∧ hdV ys = y) := ⟨ex, ey⟩
 have HX : Hid (Seen w ao n xs ∧ Seen w bo m ys ∧ n ≤ c ∧ m ≤ d) := ⟨hx, hy, hc, hd'⟩
 obtain ⟨P, eP⟩ : ∃ P, isR xs = P := ⟨_, rfl⟩
 obtain ⟨R, eR⟩ : ∃ R, isR ys = R := ⟨_, rfl⟩
 have HP : Hid (isR xs = P ∧ isR ys = R) := ⟨eP, eR⟩
 have HL : Hid ((P && R && (lvB x && !lvB y || (((lvB x) && (lvB y)) && ((bef x.group y.group) || ((samB x y) && (lowB x y)))) || !lvB x && !lvB y && lowB x y)) = byG xs ys) := by show _ = _; rw [byG, ex, ey, eP, eR]
 clear hx hy hc hd' ex ey eP eR
 go_enter Tryz.func8, Tryz.ntmps8
 go_wp2_with (fail)
 refine (headsOf_any ao bo n m c d xs ys HX.out.2.2.1 HX.out.2.2.2 _ HX.out.1 HX.out.2.1).mono ?_
 rintro e w1 ⟨rfl, l1⟩
 have z1 : Hid (w.heap.size ≤ w1.heap.size) := l1.size
 rw [HE.out.1, HE.out.2, HP.out.1, HP.out.2]
 go_wp2_with (first | ((with_reducible show wpList _ _ _ (({ dst := some 5, op := _, type := _, pos := _, after := _, guard := _ } : Oper) :: _) _ _); refine wpList_alloc_new rfl 69 rfl 20 _ hzero ?_; intro w2 b2 s2 l2; have z2 : Hid (w2.heap.size = w1.heap.size + 1) := s2; clear s2) | ((with_reducible show wpList _ _ _ (({ dst := some 6, op := _, type := _, pos := _, after := _, guard := _ } : Oper) :: _) _ _); refine wpList_alloc_new rfl 69 rfl 20 _ hzero ?_; intro w3 b3 s3 l3; have z3 : Hid (w3.heap.size = w2.heap.size + 1) := s3; clear s3) | (refine wpList_store_blk rfl 69 69 (.tmp 5) (.tmp 17) rfl _ rfl _ (hdC x) rfl (b2.later l3 (by have := z1.out; have := z2.out; have := z3.out; omega)) (by rw [hdC_length HO.out.1.len]; rfl) (hsizeC HO.out.1.len) (hdC_one _) ?_; intro w4 b4 s4 k4; have z4 : Hid (w4.heap.size = w3.heap.size) := s4; clear s4) | (refine wpList_store_blk rfl 69 69 (.tmp 6) (.tmp 18) rfl _ rfl _ (hdC y) rfl (b3.kept k4 (by have := z1.out; have := z2.out; have := z3.out; have := z4.out; omega)) (by rw [hdC_length HO.out.2.len]; rfl) (hsizeC HO.out.2.len) (hdC_one _) ?_; intro w5 b5 s5 k5; have z5 : Hid (w5.heap.size = w4.heap.size) := s5; clear s5))
 have V : Hid (Below w.heap.size w w5 ∧ Blk w5 (w1.heap.size) 69 (hdC x) ∧ Blk w5 (w2.heap.size) 69 (hdC y)) := ⟨(below_kept (below_kept (below_chain (below_chain l1 l2 (by have := z1.out; have := z2.out; omega)) l3 (by have := z1.out; have := z2.out; have := z3.out; omega)) k4 (by have := z1.out; have := z2.out; have := z3.out; have := z4.out; omega) (fun j hj => (by have := z1.out; have := z2.out; have := z3.out; have := z4.out; omega))) k5 (by have := z1.out; have := z2.out; have := z3.out; have := z4.out; have := z5.out; omega) (fun j hj => (by have := z1.out; have := z2.out; have := z3.out; have := z4.out; have := z5.out; omega))), (b4.kept k5 (by have := z1.out; have := z2.out; have := z3.out; have := z4.out; have := z5.out; omega)), b5⟩
 clear l1 l2 l3 k4 k5 b4 b5
 refine region_invP 4 ((.val (.agg (hdC x).toArray)) :: (.val (.int .u64 (mk (lvB x)))) :: (.val (.agg (hdC y).toArray)) :: (.val (.int .u64 (mk (lvB y)))) :: []) (by kernel_rfl) (by kernel_rfl) (by kernel_rfl) [] ⟨.inl rfl, .inl rfl, .inl rfl, .inl rfl, trivial⟩ (by kernel_rfl) ?_ ?_
 ·refine Steps'.cons ?_ (Steps'.cons ?_ (Steps'.cons ?_ (Steps'.cons ?_ (Steps'.one _ _ _ _ _ _ _))))
  ·intro ax wx hb hs hd
   have h5 : ax.tmps.getD 5 undef = (.pointer (some ⟨w1.heap.size, 0, none⟩)) := hs 5 (by kernel_rfl)
   exact Does.load 69 (.tmp 5) rfl w1.heap.size 0 h5 (hdC x) _ (V.out.2.1.later hb V.out.2.1.lt).allRc Tryz.underlying69 rfl (hsizeC HO.out.1.len)
  ·intro ax wx hb hs hd
   have h20 := sqV (hd 0 20 rfl (by kernel_rfl) (by decide))
   refine Does.call 32 #[(.agg (hdC x).toArray)] (by clear hs hd; go_simp) ?_
   refine (live_any x HO.out.1 wx).mono ?_
   rintro e w' ⟨rfl, l⟩
   exact ⟨_, rfl, rfl, l⟩
  ·intro ax wx hb hs hd
   have h6 : ax.tmps.getD 6 undef = (.pointer (some ⟨w2.heap.size, 0, none⟩)) := hs 6 (by kernel_rfl)
   exact Does.load 69 (.tmp 6) rfl w2.heap.size 0 h6 (hdC y) _ (V.out.2.2.later hb V.out.2.2.lt).allRc Tryz.underlying69 rfl (hsizeC HO.out.2.len)
  ·intro ax wx hb hs hd
   have h22 := sqV (hd 2 22 rfl (by kernel_rfl) (by decide))
   refine Does.call 32 #[(.agg (hdC y).toArray)] (by clear hs hd; go_simp) ?_
   refine (live_any y HO.out.2 wx).mono ?_
   rintro e w' ⟨rfl, l⟩
   exact ⟨_, rfl, rfl, l⟩
 ·intro wx hb
  iterate 4 refine @EndsP.val _ _ _ _ _ _ _ _ _ rfl ?_
  intro hD nf hn
  obtain ⟨mf, rfl⟩ : ∃ mf, nf = mf + 2 := ⟨nf - 2, by have h3 : 2 ≤ nf := hn; omega⟩
  clear hD hn
  simp only [Act.put, sqA, sqB, sqC]
  refine wpAny_ready (rs := [4]) (by kernel_rfl) (by simp) (AllReady.cons rfl (fun K hK => ?_) AllReady.nil)
  rw [if_pos (by rfl)]
  refine last_assign (.tmp 21) rfl (some 8) rfl (.int .u64 (mk (lvB x))) rfl ?_
  refine hK _ _ ?_
  clear hK K
  simp only [Act.put, sqA, sqB, sqC]
  refine wpAny_ready (rs := [5]) (by kernel_rfl) (by simp) (AllReady.cons rfl (fun K hK => ?_) AllReady.nil)
  rw [if_pos (by rfl)]
  refine last_assign (.tmp 23) rfl (some 9) rfl (.int .u64 (mk (lvB y))) rfl ?_
  refine hK _ _ ?_
  clear hK K
  simp only [Act.put, sqA, sqB, sqC]
  refine wpAny_done (by kernel_rfl) (NoPanic.normal ?_) _
  have U : Hid (Below w.heap.size w wx ∧ Blk wx (w1.heap.size) 69 (hdC x) ∧ Blk wx (w2.heap.size) 69 (hdC y)) := ⟨below_chain V.out.1 hb V.out.1.size, (V.out.2.1.later hb V.out.2.1.lt), (V.out.2.2.later hb V.out.2.2.lt)⟩
  obtain ⟨wu, hwu⟩ : ∃ u, wx = u := ⟨_, rfl⟩
  rw [hwu] at U ⊢
  clear hb V hwu
  go_wp2_with (first | ((with_reducible show wpList _ _ _ (({ dst := some 24, op := _, type := _, pos := _, after := _, guard := _ } : Oper) :: _) _ _); refine wpList_load_blk rfl 69 (.tmp 5) rfl _ rfl (hdC x) _ U.out.2.1 Tryz.underlying69 rfl (hsizeC HO.out.1.len) ?_) | ((with_reducible show wpList _ _ _ (({ dst := some 25, op := _, type := _, pos := _, after := _, guard := _ } : Oper) :: _) _ _); refine wpList_load_blk rfl 69 (.tmp 6) rfl _ rfl (hdC y) _ U.out.2.2 Tryz.underlying69 rfl (hsizeC HO.out.2.len) ?_))
  refine (lowI_any x y HO.out.1 HO.out.2 _).mono ?_
  rintro e wv ⟨rfl, lv⟩
  have U2 : Hid (Below w.heap.size w wv ∧ Blk wv (w1.heap.size) 69 (hdC x) ∧ Blk wv (w2.heap.size) 69 (hdC y)) := ⟨below_chain U.out.1 lv U.out.1.size, U.out.2.1.later lv U.out.2.1.lt, U.out.2.2.later lv U.out.2.2.lt⟩
  clear lv U
  go_wp2
  refine region_inv [.val (.int .u64 (mk (lvB x))), .val (.int .u64 (mk (lvB y))), .val (.int .u64 (mk ((lvB x) && (lvB y)))), .val (.pointer (some ⟨w1.heap.size, 4, none⟩)), .val (.slice (some ⟨w1.heap.size, 4, none⟩) 16 16), .val (.pointer (some ⟨w2.heap.size, 4, none⟩)), .val (.slice (some ⟨w2.heap.size, 4, none⟩) 16 16), .val (.int .u64 (mk (bef x.group y.group))), .val (.agg (hdC x).toArray), .val (.agg (hdC y).toArray), .val (.int .u64 (mk (samB x y))), .val (.int .u64 (mk (lowB x y))), .val (.int .u64 (mk ((samB x y) && (lowB x y)))), .val (.int .u64 (mk ((bef x.group y.group) || ((samB x y) && (lowB x y))))), .val (.int .u64 (mk (((lvB x) && (lvB y)) && ((bef x.group y.group) || ((samB x y) && (lowB x y))))))] (by kernel_rfl) (by kernel_rfl) (by kernel_rfl) ?_ ?_
  ·refine Steps'.cons ?_ (Steps'.cons ?_ (Steps'.cons ?_ (Steps'.cons ?_ (Steps'.cons ?_ (Steps'.cons ?_ (Steps'.cons ?_ (Steps'.cons ?_ (Steps'.cons ?_ (Steps'.cons ?_ (Steps'.cons ?_ (Steps'.cons ?_ (Steps'.cons ?_ (Steps'.cons ?_ (Steps'.cons ?_ (Steps'.one _ _ _ _ _ _ _)))))))))))))))
   ·intro ax wx hb hs hd
    have h8 : ax.tmps.getD 8 undef = (.int .u64 (mk (lvB x))) := hs 8 (by kernel_rfl)
    exact Does.value _ (by clear hs hd; go_simp) rfl
   ·intro ax wx hb hs hd
    have h9 : ax.tmps.getD 9 undef = (.int .u64 (mk (lvB y))) := hs 9 (by kernel_rfl)
    exact Does.value _ (by clear hs hd; go_simp) rfl
   ·intro ax wx hb hs hd
    have h27 := sqV (hd 0 27 rfl (by kernel_rfl) (by decide))
    have h28 := sqV (hd 1 28 rfl (by kernel_rfl) (by decide))
    have ma := mk_and (lvB x) (lvB y)
    exact Does.value _ (by clear hs hd; go_simp) rfl
   ·intro ax wx hb hs hd
    have h5 : ax.tmps.getD 5 undef = (.pointer (some ⟨w1.heap.size, 0, none⟩)) := hs 5 (by kernel_rfl)
    exact Does.value _ (by clear hs hd; go_simp) rfl
   ·intro ax wx hb hs hd
    have h30 := sqV (hd 3 30 rfl (by kernel_rfl) (by decide))
    exact Does.value _ (by clear hs hd; go_simp) rfl
   ·intro ax wx hb hs hd
    have h6 : ax.tmps.getD 6 undef = (.pointer (some ⟨w2.heap.size, 0, none⟩)) := hs 6 (by kernel_rfl)
    exact Does.value _ (by clear hs hd; go_simp) rfl
   ·intro ax wx hb hs hd
    have h32 := sqV (hd 5 32 rfl (by kernel_rfl) (by decide))
    exact Does.value _ (by clear hs hd; go_simp) rfl
   ·intro ax wx hb hs hd
    have h31 := sqV (hd 4 31 rfl (by kernel_rfl) (by decide))
    have h33 := sqV (hd 6 33 rfl (by kernel_rfl) (by decide))
    refine Does.call 34 #[.slice (some ⟨w1.heap.size, 4, none⟩) 16 16, .slice (some ⟨w2.heap.size, 4, none⟩) 16 16] (by clear hs hd; go_simp) ?_
    refine (before_any _ _ 16 16 16 16 _ _ wx (hd_seen (U2.out.2.1.later hb U2.out.2.1.lt) HO.out.1) (hd_seen (U2.out.2.2.later hb U2.out.2.2.lt) HO.out.2)).mono ?_
    rintro e w' ⟨rfl, q, rfl⟩
    exact ⟨_, rfl, rfl, below_dn (Below.refl _ _) q⟩
   ·intro ax wx hb hs hd
    have h5 : ax.tmps.getD 5 undef = (.pointer (some ⟨w1.heap.size, 0, none⟩)) := hs 5 (by kernel_rfl)
    exact Does.load 69 (.tmp 5) rfl w1.heap.size 0 h5 (hdC x) _ (U2.out.2.1.later hb U2.out.2.1.lt).allRc Tryz.underlying69 rfl (hsizeC HO.out.1.len)
   ·intro ax wx hb hs hd
    have h6 : ax.tmps.getD 6 undef = (.pointer (some ⟨w2.heap.size, 0, none⟩)) := hs 6 (by kernel_rfl)
    exact Does.load 69 (.tmp 6) rfl w2.heap.size 0 h6 (hdC y) _ (U2.out.2.2.later hb U2.out.2.2.lt).allRc Tryz.underlying69 rfl (hsizeC HO.out.2.len)
   ·intro ax wx hb hs hd
    have h35 := sqV (hd 8 35 rfl (by kernel_rfl) (by decide))
    have h36 := sqV (hd 9 36 rfl (by kernel_rfl) (by decide))
    refine Does.call 35 #[(.agg (hdC x).toArray), (.agg (hdC y).toArray)] (by clear hs hd; go_simp) ?_
    refine (sameG_any x y HO.out.1 HO.out.2 wx).mono ?_
    rintro e w' ⟨rfl, l⟩
    exact ⟨_, rfl, rfl, l⟩
   ·intro ax wx hb hs hd
    have h10 : ax.tmps.getD 10 undef = (.int .u64 (mk (lowB x y))) := hs 10 (by kernel_rfl)
    exact Does.value _ (by clear hs hd; go_simp) rfl
   ·intro ax wx hb hs hd
    have h37 := sqV (hd 10 37 rfl (by kernel_rfl) (by decide))
    have h38 := sqV (hd 11 38 rfl (by kernel_rfl) (by decide))
    have ma := mk_and (samB x y) (lowB x y)
    exact Does.value _ (by clear hs hd; go_simp) rfl
   ·intro ax wx hb hs hd
    have h34 := sqV (hd 7 34 rfl (by kernel_rfl) (by decide))
    have h39 := sqV (hd 12 39 rfl (by kernel_rfl) (by decide))
    have ma := mk_or (bef x.group y.group) ((samB x y) && (lowB x y))
    exact Does.value _ (by clear hs hd; go_simp) rfl
   ·intro ax wx hb hs hd
    have h29 := sqV (hd 2 29 rfl (by kernel_rfl) (by decide))
    have h40 := sqV (hd 13 40 rfl (by kernel_rfl) (by decide))
    have ma := mk_and ((lvB x) && (lvB y)) ((bef x.group y.group) || ((samB x y) && (lowB x y)))
    exact Does.value _ (by clear hs hd; go_simp) rfl
  ·intro wx hb
   iterate 15 refine @Ends.val _ _ _ _ _ _ _ _ _ _ rfl ?_
   refine @Ends.one _ _ _ _ _ _ _ ?_
   simp only [Act.put, sqA, sqB, sqC]
   refine last_assign (.tmp 41) rfl (some 11) rfl (.int .u64 (mk (((lvB x) && (lvB y)) && ((bef x.group y.group) || ((samB x y) && (lowB x y)))))) rfl ?_
   simp only [Act.put, sqA, sqB, sqC]
   have n1 := not_mk (lvB x)
   have n2 := not_mk (lvB y)
   go_wp2
   go_ret
   refine ⟨ret_int ?_, below_chain U2.out.1 hb U2.out.1.size⟩
   rw [← HL.out]
   simp only [not_mk, mk_and, mk_or, mk_andNot]
end Go.Proofs.YtpanagghppdiiaaGreat
namespace Go.Proofs.YtpanagghppdiiaaGreat
open Go.RowKit
set_option linter.unusedVariables false
set_option linter.unusedSimpArgs false
theorem ordG (s : Nat) : OrdB 8 s byG := ⟨fun args w => by kernel_rfl, fun W ao bo c d a b ha hb hc hd => ByGroup_any ao bo s s c d a b hc hd W ha hb⟩
section
variable {w w' : World} {cf : Cf} {v : SlV} {g h : Nat} {s : Sn} {R : Nat → List Int} {S T : Nat → Prop}
def snN (cf : Cf) (v : SlV) (s : Sn) : Nat → Sn
 | 0 => s
 | m + 1 => (snN cf v s m).get cf v m
theorem bnN {cf : Cf} (hw : 2 ≤ cf.win) (v : SlV) (s : Sn) (m : Nat) (b : Bn cf s m) : ∀ k, Bn cf (snN cf v s k) (m + k)
 | 0 => b
 | k + 1 => (bnN hw v s m b k).get hw v k
def badN (lt : List Int → List Int → Bool) (R : Nat → List Int) : Nat → Bool
 | 0 => false
 | m + 1 => badN lt R m || (decide (0 < m) && lt (R m) (R (m - 1)))
theorem sorted_R (x : Lr w cf v g h s R S) (hn : SlN v cf) (n m : Nat) (hv : n ≤ v.n) (B : FuncId) (lt : List Int → List Int → Bool) (hB : OrdB B v.size lt) (b : Bn cf s m) (hm : m + n ≤ 100000000) :
  Calls Tryz.prog 7 #[.pointer (some ⟨g, 0, none⟩), .int .i64 (n : Int), .func (.func B) #[] #[]] w fun e w' => e = .returned (.tuple #[.bool (!badN lt R n), .int .i64 0]) ∧ ∃ S', Lr w' cf v g h (snN cf v s n) R S' ∧ Kept S w w' ∧ ∀ b, S' b → S b ∨ w.heap.size ≤ b := by
 have hg := x.good
 have hsz : v.size ≤ 1048576 := by have h1 := hn.each; have h2 := hn.fit; have h3 := hg.text.2; have : v.size ≤ v.each * v.size := Nat.le_mul_of_pos_left _ h1; omega
 have HX : Hid (Lr w cf v g h s R S ∧ SlN v cf ∧ n ≤ v.n ∧ OrdB B v.size lt ∧ Bn cf s m ∧ m + n ≤ 100000000 ∧ 2 ≤ cf.win ∧ v.size ≤ 1048576) := ⟨x, hn, hv, hB, b, hm, hg.win.1, hsz⟩
 have hnb : n ≤ 100000000 := by omega
 have CC : Hid (Calls Tryz.prog 28 #[.pointer (some ⟨g, 0, none⟩), .int .i64 (n : Int)] w fun e w' => e = .returned (.int .i64 0) ∧ w = w') := socheck_yes x n hv
 clear x hn hv hB b hm hg hsz
 go_enter Tryz.func7, Tryz.ntmps7
 go_wp2_with (go_at_call 28; refine CC.out.mono ?_; rintro e _ ⟨rfl, rfl⟩)
 go_loopw [9, 10, 21] (fun la bad i wr => ∃ (k lb : Nat) (lo : Option Addr) (ln lc : Nat) (S' : Nat → Prop), k ≤ n ∧ i = .int .i64 (k : Int) ∧ bad = .int .u64 (mk (badN lt R k)) ∧ la = .slice lo ln lc ∧ (0 < k → lo = some ⟨lb, 0, none⟩ ∧ ln = v.size ∧ Seen wr (some ⟨lb, 0, none⟩) v.size (R (k - 1)) ∧ lb < wr.heap.size ∧ ¬ S' lb) ∧ Lr wr cf v g h (snN cf v s k) R S' ∧ Kept S w wr ∧ ∀ b, S' b → S b ∨ w.heap.size ≤ b) (fun _ _ i _ => n - (intOf i).toNat)
 case atStart => exact ⟨0, 0, none, 0, 0, S, Nat.zero_le _, rfl, rfl, rfl, fun h => absurd h (Nat.lt_irrefl _), HX.out.1, Kept.refl _ _, fun b h => .inl h⟩
 case round =>
  obtain ⟨k, lb, lo, ln, lc, S', hk, rfl, rfl, rfl, hla, hlr, hkp, hsb⟩ := hrel
  have Y : Hid ((0 < k → lo = some ⟨lb, 0, none⟩ ∧ ln = v.size ∧ Seen wr (some ⟨lb, 0, none⟩) v.size (R (k - 1)) ∧ lb < wr.heap.size ∧ ¬ S' lb) ∧ Lr wr cf v g h (snN cf v s k) R S' ∧ Kept S w wr ∧ ∀ b, S' b → S b ∨ w.heap.size ≤ b) := ⟨hla, hlr, hkp, hsb⟩
  clear hla hlr hkp hsb
  by_cases hlt : k < n
  ·have i1 : (k : Int) < (n : Int) := by omega
   have kv : k < v.n := by have := HX.out.2.2.1; omega
   have rk := Y.out.2.1.row HX.out.2.1 k kv
   have HR : Hid ((R k).length = v.size ∧ Bytes (R k) ∧ k < v.n) := ⟨rk.1, rk.2, kv⟩
   clear rk kv
   go_wp2_with (fail)
   refine (get_R Y.out.2.1 HX.out.2.1 k (m + k) (bnN HX.out.2.2.2.2.2.2.1 v s m HX.out.2.2.2.2.1 k) (by have := HX.out.2.2.2.2.2.1; omega) HR.out.2.2).mono ?_
   rintro e w8 ⟨rb, rfl, b8, h8, S2, xl, nS, k8, f8⟩
   have SB : Seen w8 (some ⟨rb, 0, none⟩) v.size (R k) := by have := seen_blk b8 HR.out.2.1 (by rw [HR.out.1]; have := HX.out.2.2.2.2.2.2.2; omega); rw [HR.out.1] at this; exact this
   have X8 : Hid (Lr w8 cf v g h (snN cf v s (k + 1)) R S2 ∧ Kept S w w8 ∧ (∀ b, S2 b → S b ∨ w.heap.size ≤ b) ∧ Seen w8 (some ⟨rb, 0, none⟩) v.size (R k) ∧ rb < w8.heap.size ∧ ¬ S2 rb ∧ (0 < k → Seen w8 (some ⟨lb, 0, none⟩) v.size (R (k - 1)))) := ⟨xl, ⟨k8.os.trans Y.out.2.2.1.os, k8.tape.trans Y.out.2.2.1.tape, k8.output.trans Y.out.2.2.1.output, Nat.le_trans Y.out.2.2.1.size k8.size, fun j hj hn => (k8.block j (Nat.lt_of_lt_of_le hj Y.out.2.2.1.size) (fun hs => (Y.out.2.2.2 j hs).elim hn (fun e => by omega))).trans (Y.out.2.2.1.block j hj hn)⟩, fun b hb => (f8 b hb).elim (Y.out.2.2.2 b) (fun e => .inr (Nat.le_trans Y.out.2.2.1.size e)), SB, b8.lt, nS, fun h0 => by obtain ⟨h1, h2, h3, h4, h5⟩ := Y.out.1 h0; exact h3.off k8 (fun b o e hb => by cases e; exact h5 hb)⟩
   clear b8 h8 xl nS k8 f8 SB
   by_cases hk0 : k = 0
   ·subst hk0
    go_wp2
    refine ⟨⟨0 + 1, rb, some ⟨rb, 0, none⟩, v.size, v.size, S2, by omega, by go_num, ?_, rfl, fun _ => ⟨rfl, rfl, X8.out.2.2.2.1, X8.out.2.2.2.2.1, X8.out.2.2.2.2.2.1⟩, X8.out.1, X8.out.2.1, X8.out.2.2.1⟩, by simp [intOf]; omega⟩
    simp [badN]
   ·have i0 : (0 : Int) < (k : Int) := by omega
    have hk1 : 0 < k := by omega
    obtain ⟨rfl, rfl, _⟩ := Y.out.1 hk1
    have HO := mk_or (badN lt R k) (lt (R k) (R (k - 1)))
    obtain ⟨t, ht⟩ : ∃ t, lt (R k) (R (k - 1)) = t := ⟨_, rfl⟩
    obtain ⟨bd, hbd⟩ : ∃ t, badN lt R k = t := ⟨_, rfl⟩
    have HT : Hid (lt (R k) (R (k - 1)) = t ∧ badN lt R k = bd ∧ badN lt R (k + 1) = (bd || t)) := ⟨ht, hbd, by rw [badN, hbd, ht, decide_eq_true hk1, Bool.true_and]⟩
    rw [hbd, ht] at HO
    rw [hbd]
    clear ht hbd
    go_wp2_with (go_at_call 30; refine (soask_any B v.size lt HX.out.2.2.2.1 (some ⟨rb, 0, none⟩) (some ⟨lb, 0, none⟩) v.size lc (R k) (R (k - 1)) w8 X8.out.2.2.2.1 (X8.out.2.2.2.2.2.2 hk1)).mono ?_; rw [HT.out.1]; rintro e w9 ⟨rfl, l9⟩; have L9 : Hid (Below w8.heap.size w8 w9) := l9; clear l9)
    refine ⟨⟨k + 1, rb, some ⟨rb, 0, none⟩, v.size, v.size, S2, by omega, by go_num, by rw [HT.out.2.2], rfl, fun _ => ⟨rfl, rfl, X8.out.2.2.2.1.later L9.out (Nat.le_refl _), Nat.lt_of_lt_of_le X8.out.2.2.2.2.1 L9.out.size, X8.out.2.2.2.2.2.1⟩, X8.out.1.later L9.out, X8.out.2.1.trans (Kept.new S L9.out), X8.out.2.2.1⟩, by simp [intOf]; omega⟩
  ·obtain rfl : k = n := by omega
   obtain ⟨bd, hbd⟩ : ∃ t, badN lt R k = t := ⟨_, rfl⟩
   have HBD : Hid (badN lt R k = bd) := hbd
   rw [hbd]
   clear hbd
   cases bd with
   | true =>
    have e1 : ((mk true : Int) == 0) = false := by decide
    go_wp2
    go_ret2
    exact ⟨by rw [HBD.out]; rfl, S', Y.out.2⟩
   | false =>
    have e1 : ((mk false : Int) == 0) = true := by decide
    go_wp2
    go_ret2
    exact ⟨by rw [HBD.out]; rfl, S', Y.out.2⟩
end
end Go.Proofs.YtpanagghppdiiaaGreat
namespace Go.Proofs.YtpanagghppdiiaaGreat
open Go.RowKit
set_option linter.unusedVariables false
set_option linter.unusedSimpArgs false
def rcisO (base n : Nat) (zs : List Int) (v : Value) (w : World) : Prop := w.ownsRow base 5 1 v n (zs.map (Value.int .u8))
theorem rcisO_later (base n : Nat) (zs : List Int) : ∀ v w w', Below w.heap.size w w' → rcisO base n zs v w → rcisO base n zs v w' := fun _ _ _ hb h => ownsRow_below h hb
theorem isO_base {base base' n : Nat} {zs : List Int} {v : Value} {w : World} (h : rcisO base n zs v w) (hb : base' ≤ base) : rcisO base' n zs v w := ownsRow_base h hb
theorem isO_sl {w : World} {B n : Nat} {v : Value} {zs : List Int} (hl : zs.length = n) (hb : Bytes zs) (ht : n ≤ 140737488355328) (o : rcisO B n zs v w) : ∃ vo cap, v = .slice vo n cap ∧ Seen w vo n zs ∧ n ≤ cap ∧ (vo = none → cap = 0) ∧ ∀ b o, vo = some ⟨b, o, none⟩ → B ≤ b := by
 rcases own_len hl o with ⟨rfl, rfl⟩ | ⟨g, cap, rfl, hr, hg, hc, _⟩
 ·have e : zs = [] := List.length_eq_zero_iff.1 hl
  subst e
  exact ⟨none, 0, rfl, Seen.empty _ _, Nat.le_refl _, fun _ => rfl, fun b o h => by cases h⟩
 ·refine ⟨_, cap, rfl, ?_, hc, fun h => (by cases h), fun b o h => by simp at h; omega⟩
  have := Seen.of_row (n := n) hr (by omega) ht hb
  rwa [List.take_of_length_le (by omega)] at this
theorem below_grown_own {w w1 w2 : World} {B : Nat} {v : Value} {n : Nat} {xs : List Value} (hb : Below B w w1) (hB : B ≤ w1.heap.size) (ho : w1.ownsRow B 5 1 v n xs) (hg : w1.grownBy w2 v.ownBlock) : Below B w w2 := hb.grown hg hB (fun j hj => (ho.lt j hj).1)
theorem rcbytesOf_any (h : Hd) (k : HdOk h) (w : World) :
  Calls Tryz.prog 67 #[.agg (hdC h).toArray] w fun e w' => ∃ v, e = .returned v ∧ rcisO w.heap.size 26 (hdB h) v w' ∧ Below w.heap.size w w' := by
 have HK : Hid (HdOk h) := k
 obtain ⟨A, eA⟩ : ∃ A, [h.live, h.flag] = A := ⟨_, rfl⟩
 have bA : Bytes A := by
  rw [← eA]
  intro z hz
  simp only [List.mem_cons, List.not_mem_nil, or_false] at hz
  rcases hz with rfl | rfl
  ·exact k.live
  ·exact k.flag
 have HA : Hid ([h.live, h.flag] = A ∧ A.length = 2 ∧ Bytes A) := ⟨eA, by rw [← eA]; rfl, bA⟩
 clear k eA bA
 go_enter Tryz.func67, Tryz.ntmps67
 go_wp2_with (first | (refine wpList_box_new rfl 69 _ rfl (hdC h) rfl ?_; intro w1 b1 s1 l1; have c0 : w1.cell? ⟨w.heap.size, 0, none⟩ = some (.int .u8 h.live) := b1.cell 0; have c1 : w1.cell? ⟨w.heap.size, 1, none⟩ = some (.int .u8 h.flag) := b1.cell 1; have c2 : w1.cell? ⟨w.heap.size, 2, none⟩ = some (.int .u32 h.index) := b1.cell 2))
 obtain ⟨w2, hw2⟩ : ∃ w2, w1.alloc (.cells #[.int .u8 h.live, .int .u8 h.flag] 5) = w2 := ⟨_, rfl⟩
 rw [hw2]
 have V2 : Hid (Blk w2 w.heap.size 69 (hdC h) ∧ Seen w2 (some ⟨w.heap.size + 1, 0, none⟩) 2 A ∧ Below w.heap.size w w2) := by
  have B2 : Below w1.heap.size w1 w2 := hw2 ▸ (Below.refl _ _).alloc (Nat.le_refl _) _
  have D2 : Blk w2 w1.heap.size 5 (u8s A) := by rw [← hw2, ← HA.out.1]; exact heap_alloc_new w1 _
  rw [s1] at D2
  refine ⟨b1.later B2 (by omega), ?_, below_chain l1 B2 (by omega)⟩
  have := seen_blk D2 HA.out.2.2 (by rw [HA.out.2.1]; decide)
  rwa [HA.out.2.1] at this
 clear hw2 b1 s1 l1 c0 c1 c2
 refine (put_32 _ 2 2 A h.index w2 V2.out.2.1 (fun e => by cases e) (by decide) HK.out.index).mono ?_
 rintro e w3 ⟨v3, rfl, o3, l3⟩
 obtain ⟨B, eB⟩ : ∃ B, A ++ leB 4 h.index = B := ⟨_, rfl⟩
 rw [eB] at o3
 have HB : Hid (A ++ leB 4 h.index = B ∧ B.length = 6 ∧ Bytes B) := ⟨eB, by rw [← eB, List.length_append, HA.out.2.1, leB_length], by rw [← eB]; exact bytes_two HA.out.2.2 (leB_bytes _ _)⟩
 obtain ⟨q3, n3, rfl, S3, -, f3, -⟩ := isO_sl HB.out.2.1 HB.out.2.2 (by decide) o3
 have V3 : Hid (Blk w3 w.heap.size 69 (hdC h) ∧ Seen w3 q3 6 B ∧ Below w.heap.size w w3) := ⟨V2.out.1.later l3 V2.out.1.lt, S3, below_chain V2.out.2.2 l3 V2.out.2.2.size⟩
 have c3 : w3.cell? ⟨w.heap.size, 3, none⟩ = some (.int .u32 h.rank) := V3.out.1.cell 3
 have F3 : Hid (q3 = none → n3 = 0) := f3
 clear o3 l3 eB S3 f3 V2
 go_wp2_with (fail)
 refine (put_32 q3 6 n3 B h.rank w3 V3.out.2.1 F3.out (by decide) HK.out.rank).mono ?_
 rintro e w4 ⟨v4, rfl, o4, l4⟩
 obtain ⟨C, eC⟩ : ∃ C, B ++ leB 4 h.rank = C := ⟨_, rfl⟩
 rw [eC] at o4
 have HC : Hid (B ++ leB 4 h.rank = C ∧ C.length = 10 ∧ Bytes C) := ⟨eC, by rw [← eC, List.length_append, HB.out.2.1, leB_length], by rw [← eC]; exact bytes_two HB.out.2.2 (leB_bytes _ _)⟩
 have V4 : Hid (Blk w4 w.heap.size 69 (hdC h) ∧ w4.ownsRow w.heap.size 5 1 v4 10 (C.map (Value.int .u8)) ∧ Below w.heap.size w w4) := ⟨V3.out.1.later l4 V3.out.1.lt, ownsRow_base o4 V3.out.2.2.size, below_chain V3.out.2.2 l4 V3.out.2.2.size⟩
 clear o4 l4 eC V3 c3
 go_wp2_with (first | (refine wpList_append_seen rfl _ _ rfl w.heap.size v4 10 _ rfl V4.out.2.1 (some ⟨w.heap.size, 4, none⟩) 16 16 h.group rfl (hd_seen V4.out.1 HK.out) (fun e => by cases e) (by decide) V4.out.2.2.size ?_; intro v5 w5 o5 g5; have V5 : Hid (rcisO w.heap.size 26 (hdB h) v5 w5 ∧ Below w.heap.size w w5) := (by refine ⟨?_, below_grown_own V4.out.2.2 V4.out.2.2.size V4.out.2.1 g5⟩; show w5.ownsRow _ _ _ _ _ _; rw [show hdB h = C ++ h.group by rw [hdB, HA.out.1, HB.out.1, HC.out.1], List.map_append]; exact o5); clear o5 g5))
 go_ret
 exact ⟨_, rfl, V5.out.1, V5.out.2⟩
theorem grow_any (n : Nat) (hn : 1 ≤ n) (hl : n ≤ 140737488355328) (w : World) :
  Calls Tryz.prog 89 #[.slice none 0 0, .int .i64 n] w fun e w' => ∃ v, e = .returned v ∧ w'.ownsRow w.heap.size 5 1 v 0 [] ∧ Below w.heap.size w w' := by
 obtain ⟨i0, hi, hz0, hz1, hz2⟩ := info_parts info_byte
 have happ := Lib.run_append_nil_zeros (P := Tryz.prog) w 37 3 37 5 i0 (.int .u8 0) .i64 .i64 Tryz.underlying37 Tryz.underlying3 hi hz0 n (by omega) (by omega) (by omega) (by rw [hz2]; omega)
 obtain ⟨cap, hcap⟩ : ∃ cap, grownCap w n 0 5 = cap := ⟨_, rfl⟩
 have hcapge : n ≤ cap := by rw [← hcap]; exact grownCap_ge w _ 0 5
 have hcaple : cap ≤ maxLen := by rw [← hcap]; exact grownCap_le_maxLen w _ 0 5 (by unfold maxLen; omega)
 rw [hcap] at happ
 obtain ⟨Z, hZ⟩ : ∃ Z, (Builtin.zeroCells (Value.int .u8 0).cells n ++ Builtin.zeroCells (Value.int .u8 0).cells (cap - n)) = Z := ⟨_, rfl⟩
 have hZs : Z.size = cap := by rw [← hZ]; simp [size_zeroCells, Value.cells]; omega
 rw [hZ] at happ
 obtain ⟨w1, hw1⟩ : ∃ w1, w.drew.alloc (.cells Z 5) = w1 := ⟨_, rfl⟩
 rw [hw1] at happ
 have V : Hid (w1.ownsRow w.heap.size 5 1 (.slice (some ⟨w.heap.size, 0, none⟩) 0 cap) 0 [] ∧ Below w.heap.size w w1) := ⟨hw1 ▸ own_made w.drew cap hcaple Z hZs, hw1 ▸ ((below_dn (Below.refl w.heap.size w) 1).alloc (Nat.le_refl _) _)⟩
 clear hi hz0 hz1 hz2 hcap hZ hw1
 go_enter Tryz.func89, Tryz.ntmps89
 go_wp2_with (first | (refine Lib.wpList_append_run _ rfl _ _ _ _ rfl _ _ rfl rfl _ _ happ ?_))
 go_ret
 exact ⟨_, rfl, V.out.1, V.out.2⟩
def szK (n m k : Nat) : Nat := if k = 0 then 0 else if k = 1 then n else n + m
def catK (xs ys : List Int) (k : Nat) : List Int := if k = 0 then [] else if k = 1 then xs else xs ++ ys
theorem concat_any (ao bo : Option Addr) (n c m d g : Nat) (xs ys : List Int) (h1 : 1 ≤ n) (hl : n + m ≤ 140737488355328) (fa : ao = none → c = 0) (fb : bo = none → d = 0) (w : World) (hx : Seen w ao n xs) (hy : Seen w bo m ys) (hg : Blk w g 37 [.slice ao n c, .slice bo m d]) :
  Calls Tryz.prog 66 #[.slice (some ⟨g, 0, none⟩) 2 2] w fun e w' => ∃ v, e = .returned v ∧ rcisO w.heap.size (n + m) (xs ++ ys) v w' ∧ Below w.heap.size w w' := by
 have HX : Hid (Seen w ao n xs ∧ Seen w bo m ys ∧ Blk w g 37 [.slice ao n c, .slice bo m d] ∧ (ao = none → c = 0) ∧ (bo = none → d = 0)) := ⟨hx, hy, hg, fa, fb⟩
 have c0 : w.cell? ⟨g, 0, none⟩ = some (.slice ao n c) := hg.cell 0
 have c1 : w.cell? ⟨g, 1, none⟩ = some (.slice bo m d) := hg.cell 1
 clear hx hy hg fa fb
 go_enter Tryz.func66, Tryz.ntmps66
 go_wp2_with (fail)
 go_loopw [3, 11] (fun s i wr => ∃ k : Nat, k ≤ 2 ∧ i = .int .i64 k ∧ s = .int .i64 (szK n m k : Nat) ∧ wr = w) (fun _ i _ => 2 - (intOf i).toNat)
 case atStart => exact ⟨0, by decide, rfl, rfl, rfl⟩
 case round =>
  obtain ⟨k, hk, rfl, rfl, rfl⟩ := hrel
  obtain rfl | rfl | rfl : k = 0 ∨ k = 1 ∨ k = 2 := by omega
  ·have e0 : szK n m 0 = 0 := rfl
   rw [e0]
   have v1 : IntKind.i64.wrap (0 + (n : Int)) = (n : Int) := by simp only [IntKind.wrap, IntKind.bits, IntKind.signed]; simp; omega
   go_wp2
   go_roundw
   case rel => exact ⟨1, by decide, rfl, by first | rfl | (show Value.int _ _ = Value.int _ _; congr 1; simp [szK]), by first | rfl | trivial⟩
   case measure => simp [intOf]
  ·have e0 : szK n m 1 = n := rfl
   rw [e0]
   have v1 : IntKind.i64.wrap ((n : Int) + (m : Int)) = (n : Int) + (m : Int) := by simp only [IntKind.wrap, IntKind.bits, IntKind.signed]; simp; omega
   go_wp2
   go_roundw
   case rel => exact ⟨2, by decide, rfl, by first | rfl | (show Value.int _ _ = Value.int _ _; congr 1; simp [szK]), by first | rfl | trivial⟩
   case measure => simp [intOf]
  ·have e0 : ((szK n m 2 : Nat) : Int) = ((n + m : Nat) : Int) := rfl
   rw [e0]
   have G := grow_any (n + m) (by omega) hl wr
   rw [Int.natCast_add] at G
   obtain ⟨w0, rfl⟩ : ∃ w0, w0 = wr := ⟨_, rfl⟩
   go_wp2_with (go_at_call 89; refine G.mono ?_; rintro e w1 ⟨v1, rfl, o1, l1⟩)
   clear G
   have HL : Hid (xs.length = n ∧ ys.length = m ∧ n + m ≤ 140737488355328 ∧ 1 ≤ n) := ⟨HX.out.1.len, HX.out.2.1.len, hl, h1⟩
   clear hl h1 c0 c1
   go_loopw [6, 27] (fun v i wr => ∃ k : Nat, k ≤ 2 ∧ i = .int .i64 k ∧ rcisO w0.heap.size (szK n m k) (catK xs ys k) v wr ∧ Below w0.heap.size w0 wr) (fun _ i _ => 2 - (intOf i).toNat)
   case atStart => exact ⟨0, by decide, rfl, o1, l1⟩
   case round =>
    obtain ⟨k, hk, rfl, o2, l2⟩ := hrel
    have HG := HX.out.2.2.1.later l2 HX.out.2.2.1.lt
    have q2 := l2.size
    obtain rfl | rfl | rfl : k = 0 ∨ k = 1 ∨ k = 2 := by omega
    ·have c0 : wr.cell? ⟨g, 0, none⟩ = some (.slice ao n c) := HG.cell 0
     clear HG l1 o1
     go_wp2_with (first | (refine wpList_append_seen rfl _ _ rfl w0.heap.size _ 0 [] rfl o2 ao n c xs rfl (HX.out.1.later l2 (Nat.le_refl _)) HX.out.2.2.2.1 (by have := HL.out.2.2.1; omega) q2 ?_; intro v5 w5 o5 g5))
     go_roundw
     case rel => exact ⟨1, by decide, rfl, by rw [Nat.zero_add, List.nil_append] at o5; exact o5, below_grown_own l2 q2 o2 g5⟩
     case measure => simp [intOf]
    ·have c0 : wr.cell? ⟨g, 1, none⟩ = some (.slice bo m d) := HG.cell 1
     clear HG l1 o1
     go_wp2_with (first | (refine wpList_append_seen rfl _ _ rfl w0.heap.size _ n (xs.map (Value.int .u8)) rfl o2 bo m d ys rfl (HX.out.2.1.later l2 (Nat.le_refl _)) HX.out.2.2.2.2 HL.out.2.2.1 q2 ?_; intro v5 w5 o5 g5))
     go_roundw
     case rel => exact ⟨2, by decide, rfl, by rw [← List.map_append] at o5; exact o5, below_grown_own l2 q2 o2 g5⟩
     case measure => simp [intOf]
    ·have V : Hid (rcisO w0.heap.size (n + m) (xs ++ ys) u6 wr ∧ Below w0.heap.size w0 wr) := ⟨o2, l2⟩
     clear o2 l2 HG l1 o1 q2
     go_wp2
     go_ret
     exact ⟨_, rfl, V.out.1, V.out.2⟩
theorem make_any (h : Hd) (k : HdOk h) (ao : Option Addr) (m c : Nat) (bs : List Int) (fa : ao = none → c = 0) (hm : 26 + m ≤ 140737488355328) (w : World) (hx : Seen w ao m bs) :
  Calls Tryz.prog 38 #[.agg (hdC h).toArray, .slice ao m c] w fun e w' => ∃ v, e = .returned v ∧ rcisO w.heap.size (26 + m) (hdB h ++ bs) v w' ∧ Below w.heap.size w w' := by
 have HK : Hid (HdOk h) := k
 have HX : Hid (Seen w ao m bs ∧ (ao = none → c = 0) ∧ 26 + m ≤ 140737488355328) := ⟨hx, fa, hm⟩
 clear k hx fa hm
 go_enter Tryz.func38, Tryz.ntmps38
 go_wp2_with (first | (refine wpList_box_new rfl 69 _ rfl (hdC h) rfl ?_; intro w1 b1 s1 l1) | (refine wpList_load_blk rfl 69 _ rfl _ rfl (hdC h) _ b1 Tryz.underlying69 rfl (hsizeC HK.out.len) ?_))
 refine (rcbytesOf_any h HK.out w1).mono ?_
 rintro e w2 ⟨v2, rfl, o2, l2⟩
 obtain ⟨q2, n2, rfl, S2, -, f2, -⟩ := isO_sl (hdB_length HK.out.len) (hdB_bytes HK.out) (by decide) o2
 have V2 : Hid (Seen w2 q2 26 (hdB h) ∧ (q2 = none → n2 = 0) ∧ Below w.heap.size w w2) := ⟨S2, f2, below_chain l1 l2 (by omega)⟩
 clear S2 f2 o2 l1 l2 b1 s1
 go_wp2_with (fail)
 have B3 : Below w2.heap.size w2 (w2.alloc (.cells #[.slice q2 26 n2, .slice ao m c] 37)) := (Below.refl _ _).alloc (Nat.le_refl _) _
 refine (concat_any q2 ao 26 n2 m c w2.heap.size (hdB h) bs (by decide) HX.out.2.2 V2.out.2.1 HX.out.2.1 _ (V2.out.1.later B3 (Nat.le_refl _)) (HX.out.1.later (below_chain V2.out.2.2 B3 V2.out.2.2.size) (Nat.le_refl _)) (heap_alloc_new w2 _)).mono ?_
 rintro e w4 ⟨v4, rfl, o4, l4⟩
 have V4 : Hid (rcisO w.heap.size (26 + m) (hdB h ++ bs) v4 w4 ∧ Below w.heap.size w w4) := ⟨isO_base o4 (by have := V2.out.2.2.size; have := B3.size; omega), below_chain (below_chain V2.out.2.2 B3 V2.out.2.2.size) l4 (by have := V2.out.2.2.size; have := B3.size; omega)⟩
 clear o4 l4 B3
 go_wp2
 go_ret
 exact ⟨_, rfl, V4.out.1, V4.out.2⟩
end Go.Proofs.YtpanagghppdiiaaGreat
namespace Go.Proofs.YtpanagghppdiiaaGreat
open Go.RowKit
set_option linter.unusedVariables false
set_option linter.unusedSimpArgs false
def gW7 (k : Nat) : Int := [(2 : Int), 1, 0, 1].getD k 0
def lW7 (k : Nat) : Int := [(1 : Int), 1, 0, 1].getD k 0
def hdW7 (k : Nat) : Hd := ⟨lW7 k, 0, (k : Int), 0, gW7 k :: List.replicate 15 0⟩
def rowW7 (k : Nat) : List Int := hdB (hdW7 k) ++ []
def RW7 (m i : Nat) : List Int := if i < m then rowW7 i else List.replicate 26 0
def z7 : Zn := ⟨26, 86, 2, 4, 2⟩
theorem z7_is : znOf 26 60 2 4 = z7 := by kernel_rfl
theorem z7_fit : z7.Fit := by rw [← z7_is]; exact zn_fit _ _ _ _
def ke7 : List Int := List.replicate 32 0
def cf7 : Cf := z7.cf ke7 0
def v7 (p : Nat) : SlV := z7.sl p
def sW7 (p : Nat) : Nat → Sn
 | 0 => ⟨[], nm0⟩
 | k + 1 => (sW7 p k).set cf7 (v7 p) k
theorem bW7 (p : Nat) : ∀ k, Bn cf7 (sW7 p k) k
 | 0 => ⟨by show (0 : Nat) ≤ _; omega, by show (0 : Nat) ≤ _; omega, by show (0 : Nat) ≤ _; omega, by show (0 : Nat) ≤ _; omega⟩
 | k + 1 => (bW7 p k).set (by decide) (v7 p) k
theorem lenW7 (p : Nat) : ∀ k, (sW7 p k).l.length = k
 | 0 => rfl
 | k + 1 => by show ((sW7 p k).l ++ _).length = _; simp [lenW7 p k]
theorem lenN7 (cf : Cf) (v : SlV) (s : Sn) : ∀ k, (snN cf v s k).l.length = s.l.length + k
 | 0 => rfl
 | k + 1 => by show ((snN cf v s k).l ++ _).length = _; simp [lenN7 cf v s k]; omega
theorem lenG7 (cf : Cf) (v : SlV) (gs : List (Int × Int)) : ∀ s : Sn, (snG cf v s gs).l.length = s.l.length + gs.length := by
 induction gs with
 | nil => intro s; rfl
 | cons x gs ih => intro s; show (snG cf v (s.pair cf v _ _) gs).l.length = _; rw [ih]; show (s.l ++ _).length + _ = _; simp; omega
theorem gates7 : (gatesL 2).length = 6 := by kernel_rfl
theorem bad7 : badN byG (RW7 4) 4 = true := by kernel_rfl
theorem good7 : badN byG (rowG byG 4 (RW7 4) (gatesL 2)) 4 = false := by kernel_rfl
theorem row7 : (rowG byG 4 (RW7 4) (gatesL 2) 0).getD 2 0 = 1 ∧ (rowG byG 4 (RW7 4) (gatesL 2) 0).length = 26 := by constructor <;> kernel_rfl
theorem hd7 (k : Nat) (hk : k < 4) : HdOk (hdW7 k) := by
 obtain rfl | rfl | rfl | rfl : k = 0 ∨ k = 1 ∨ k = 2 ∨ k = 3 := by omega
 all_goals exact ⟨by decide, by decide, by decide, by decide, by decide, by unfold Bytes; decide⟩
theorem gl7 (k : Nat) (hk : k < 4) : (0 ≤ gW7 k ∧ gW7 k ≤ 2) ∧ (gW7 k ≤ 1 → lW7 k = gW7 k) ∧ (¬ gW7 k ≤ 1 → lW7 k = 1) ∧ (0 ≤ lW7 k ∧ lW7 k ≤ 1) := by
 obtain rfl | rfl | rfl | rfl : k = 0 ∨ k = 1 ∨ k = 2 ∨ k = 3 := by omega
 all_goals decide
theorem rw7_len (k : Nat) (hk : k < 4) : (rowW7 k).length = 26 ∧ Bytes (rowW7 k) := by
 refine ⟨by rw [rowW7, List.append_nil]; exact hdB_length (hd7 k hk).len, ?_⟩
 rw [rowW7, List.append_nil]; exact hdB_bytes (hd7 k hk)
theorem bWld7 (a : Nat) (w : World) : (Instr.build 36 #[(0, .int .i64 26), (1, .int .i64 60), (2, .int .i64 2), (6, .slice (some ⟨a, 0, none⟩) 4 4)]).run Tryz.prog w = .ok (.agg (wldS 26 60 2 ke7 0 (.slice none 0 0) (.slice (some ⟨a, 0, none⟩) 4 4) (.slice none 0 0)).toArray) w := by kernel_rfl
theorem bDrop7 (x : Int) (w : World) : (Instr.build 67 #[(0, .int .u8 x)]).run Tryz.prog w = .ok (.agg (u8s (x :: List.replicate 15 0)).toArray) w := by kernel_rfl
theorem bHead7 (l x : Int) (i : Int) (w : World) : (Instr.build 69 #[(0, .int .u8 l), (2, .int .u32 i), (4, .agg (u8s (x :: List.replicate 15 0)).toArray)]).run Tryz.prog w = .ok (.agg (hdC ⟨l, 0, i, 0, x :: List.replicate 15 0⟩).toArray) w := by kernel_rfl
theorem mk7 (w : World) : (Instr.makeSlice 33 (.int .i64 4) (.int .i64 4)).run Tryz.prog w = .ok (.slice (some ⟨w.heap.size, 0, none⟩) 4 4) (w.alloc (.cells #[.slice none 0 0, .slice none 0 0, .slice none 0 0, .slice none 0 0] 37)) := by kernel_rfl
theorem slog_R {w : World} {cf : Cf} {v : SlV} {g h : Nat} {s : Sn} {R : Nat → List Int} {S : Nat → Prop} (x : Lr w cf v g h s R S) (hl : s.l.length ≤ 1000000000) : Calls Tryz.prog 18 #[.pointer (some ⟨g, 0, none⟩)] w fun e w' => ∃ ao c, e = .returned (.slice ao s.l.length c) ∧ w'.ownsRow w.heap.size 89 3 (.slice ao s.l.length c) s.l.length (s.l.flatMap axC) ∧ Below w.heap.size w w' := by
 obtain ⟨lg, txt, F, a, y, c, d⟩ := x
 exact slog_any g _ s.l w y hl
theorem works17_any (w : World) : Calls Tryz.prog 9 #[] w fun e w' => e = .returned (.bool true) ∧ Below w.heap.size w w' := by
 have MR := mk7 w
 obtain ⟨w1, hw1⟩ : ∃ w1, w.alloc (.cells #[.slice none 0 0, .slice none 0 0, .slice none 0 0, .slice none 0 0] 37) = w1 := ⟨_, rfl⟩
 have L1 : Hid (Below w.heap.size w w1 ∧ w.heap.size < w1.heap.size) := by rw [← hw1]; exact ⟨(Below.refl _ _).alloc (Nat.le_refl _) _, by simp⟩
 rw [hw1] at MR
 have CB : Hid (Calls Tryz.prog 36 #[.agg (wldS 26 60 2 ke7 0 (.slice none 0 0) (.slice (some ⟨w.heap.size, 0, none⟩) 4 4) (.slice none 0 0)).toArray, .slice none 0 0] w1 fun e w' => ∃ g h p S, e = .returned (.tuple #[.pointer (some ⟨h, 0, none⟩), .pointer (some ⟨g, 0, none⟩), .bool true]) ∧ Lr w' cf7 (v7 p) g h ⟨[], nm0⟩ (fun _ => List.replicate 26 0) S ∧ (∀ b, S b → w1.heap.size ≤ b) ∧ Below w1.heap.size w1 w') := by
  have := begun_any 26 60 2 ke7 0 (.slice none 0 0) (some ⟨w.heap.size, 0, none⟩) 4 4 (.slice none 0 0) w1 rfl (by unfold Bytes ke7; intro z hz; rw [List.eq_of_mem_replicate hz]; decide) (by unfold Word; decide) (by decide)
  rw [z7_is] at this
  exact this
 clear hw1
 go_enter Tryz.func9, Tryz.ntmps9
 go_wp2_with (first | (refine wpList_mk rfl 33 _ _ rfl _ _ rfl rfl _ _ MR ?_) | (refine wpList_build rfl 36 _ rfl #[(0, .int .i64 26), (1, .int .i64 60), (2, .int .i64 2), (6, .slice (some ⟨w.heap.size, 0, none⟩) 4 4)] rfl _ (bWld7 _ _) ?_) | (go_at_call 36; refine CB.out.mono ?_; rintro e w2 ⟨g, h, p, S0, rfl, x2, s2, l2⟩))
 obtain ⟨w3, hw3⟩ : ∃ w3, w2.alloc (.cells #[.int .u8 2, .int .u8 1, .int .u8 0, .int .u8 1] 5) = w3 := ⟨_, rfl⟩
 have l3 : Below w2.heap.size w2 w3 := by rw [← hw3]; exact (Below.refl _ _).alloc (Nat.le_refl _) _
 have b3 : Blk w3 w2.heap.size 5 (u8s [2, 1, 0, 1]) := by rw [← hw3]; exact heap_alloc_new w2 _
 obtain ⟨gb, hgb⟩ : ∃ g, w2.heap.size = g := ⟨_, rfl⟩
 rw [hw3]
 rw [hgb] at b3 ⊢
 have A : Hid (Lr w3 cf7 (v7 p) g h ⟨[], nm0⟩ (fun _ => List.replicate 26 0) S0 ∧ (∀ b, S0 b → w.heap.size ≤ b ∧ b ≠ gb) ∧ Below w.heap.size w w3 ∧ Blk w3 gb 5 (u8s [2, 1, 0, 1])) := by
  have h1 := L1.out
  have h2 := l2.size
  have h3 := x2.lt
  exact ⟨x2.later l3, fun b hb => ⟨by have := s2 b hb; omega, by have := h3 b hb; omega⟩, below_chain (below_chain h1.1 l2 (by omega)) l3 (by omega), b3⟩
 clear x2 s2 l2 l3 b3 hw3 hgb MR CB
 go_loopw [5] (fun i wr => ∃ (m : Nat) (S : Nat → Prop), m ≤ 4 ∧ i = .int .i64 (m : Int) ∧ Lr wr cf7 (v7 p) g h (sW7 p m) (RW7 m) S ∧ (∀ b, S b → w.heap.size ≤ b ∧ b ≠ gb) ∧ Below w.heap.size w wr ∧ Blk wr gb 5 (u8s [2, 1, 0, 1])) (fun i _ => 4 - (intOf i).toNat)
 case atStart => exact ⟨0, S0, by omega, rfl, A.out.1.rows (fun i _ => by rw [RW7, if_neg (by omega)]), A.out.2.1, A.out.2.2.1, A.out.2.2.2⟩
 case round =>
  obtain ⟨m, S, hm, rfl, hx, hS, hbw, hbk⟩ := hrel
  have Y : Hid (Lr wr cf7 (v7 p) g h (sW7 p m) (RW7 m) S ∧ (∀ b, S b → w.heap.size ≤ b ∧ b ≠ gb) ∧ Below w.heap.size w wr ∧ Blk wr gb 5 (u8s [2, 1, 0, 1])) := ⟨hx, hS, hbw, hbk⟩
  clear hx hS hbw hbk
  by_cases hlt : m < 4
  ·have i1 : (0 : Int) ≤ (m : Int) := by omega
   have i2 : (m : Int) < 4 := by omega
   have GL := gl7 m hlt
   obtain ⟨gm, hgm⟩ : ∃ x, gW7 m = x := ⟨_, rfl⟩
   obtain ⟨lm, hlm⟩ : ∃ x, lW7 m = x := ⟨_, rfl⟩
   have HR : Hid (hdW7 m = ⟨lm, 0, (m : Int), 0, gm :: List.replicate 15 0⟩ ∧ HdOk (hdW7 m)) := ⟨by rw [← hgm, ← hlm]; rfl, hd7 m hlt⟩
   have HG : Hid ([(2 : Int), 1, 0, 1].getD m 0 = gm) := hgm
   rw [hgm, hlm] at GL
   have HGL : Hid ((0 ≤ gm ∧ gm ≤ 2) ∧ (gm ≤ 1 → lm = gm) ∧ (¬ gm ≤ 1 → lm = 1) ∧ (0 ≤ lm ∧ lm ≤ 1)) := GL
   have HLT : Hid (m < 4) := hlt
   clear GL hgm hlm hm
   go_wp2_with fail
   refine region_invP 18 ((.val (.pointer (some ⟨g, 0, none⟩))) :: (.val (.int .i64 (m : Int))) :: (.val (.slice (some ⟨gb, 0, none⟩) 4 4)) :: (.val (.int .i64 (m : Int))) :: (.val (.pointer (some ⟨gb, m, none⟩))) :: (.val (.int .u8 gm)) :: (.val (.int .i64 gm)) :: (.val (.int .i64 lm)) :: (.val (.int .u8 lm)) :: (.val (.int .i64 (m : Int))) :: (.val (.int .u32 (m : Int))) :: (.val (.slice (some ⟨gb, 0, none⟩) 4 4)) :: (.val (.int .i64 (m : Int))) :: (.val (.pointer (some ⟨gb, m, none⟩))) :: (.val (.int .u8 gm)) :: (.val (.agg (u8s (gm :: List.replicate 15 0)).toArray)) :: (.val (.agg (hdC ⟨lm, 0, (m : Int), 0, gm :: List.replicate 15 0⟩).toArray)) :: (.any (rcisO wr.heap.size 26 (rowW7 m)) (rcisO_later _ _ _)) :: []) (by kernel_rfl) (by kernel_rfl) (by kernel_rfl) [] ⟨.inl rfl, .inl rfl, .inl rfl, .inl rfl, .inl rfl, .inl rfl, .inl rfl, .inl rfl, .inl rfl, .inl rfl, .inl rfl, .inl rfl, .inl rfl, .inl rfl, .inl rfl, .inl rfl, .inl rfl, .inl rfl, trivial⟩ (by kernel_rfl) ?_ ?_
   ·refine Steps'.cons ?_ (Steps'.cons ?_ (Steps'.cons ?_ (Steps'.cons ?_ (Steps'.cons ?_ (Steps'.cons ?_ (Steps'.cons ?_ (Steps'.cons ?_ (Steps'.cons ?_ (Steps'.cons ?_ (Steps'.cons ?_ (Steps'.cons ?_ (Steps'.cons ?_ (Steps'.cons ?_ (Steps'.cons ?_ (Steps'.cons ?_ (Steps'.cons ?_ (Steps'.cons ?_ (Steps'.one _ _ _ _ _ _ _))))))))))))))))))
    ·intro ax wx hb hs hd
     have h2 : ax.tmps.getD 2 undef = (.pointer (some ⟨g, 0, none⟩)) := hs 2 (by kernel_rfl)
     exact Does.value _ (by clear hs hd; go_simp) rfl
    ·intro ax wx hb hs hd
     have h5 : ax.tmps.getD 5 undef = (.int .i64 (m : Int)) := hs 5 (by kernel_rfl)
     exact Does.value _ (by clear hs hd; go_simp) rfl
    ·intro ax wx hb hs hd
     have h4 : ax.tmps.getD 4 undef = (.slice (some ⟨gb, 0, none⟩) 4 4) := hs 4 (by kernel_rfl)
     exact Does.value _ (by clear hs hd; go_simp) rfl
    ·intro ax wx hb hs hd
     have h5 : ax.tmps.getD 5 undef = (.int .i64 (m : Int)) := hs 5 (by kernel_rfl)
     exact Does.value _ (by clear hs hd; go_simp) rfl
    ·intro ax wx hb hs hd
     have h33 := sqV (hd 2 33 rfl (by kernel_rfl) (by decide))
     have h34 := sqV (hd 3 34 rfl (by kernel_rfl) (by decide))
     exact Does.value _ (by clear hs hd; go_simp) rfl
    ·intro ax wx hb hs hd
     have h35 := sqV (hd 4 35 rfl (by kernel_rfl) (by decide))
     have c0 : wx.cell? ⟨gb, m, none⟩ = some (.int .u8 gm) := by have := u8s_cell (Y.out.2.2.2.later hb Y.out.2.2.2.lt) m HLT.out; rw [HG.out] at this; exact this
     exact Does.value _ (by clear hs hd; go_simp) rfl
    ·intro ax wx hb hs hd
     have h36 := sqV (hd 5 36 rfl (by kernel_rfl) (by decide))
     have z : IntKind.i64.wrap gm = gm := by have := HGL.out; simp [IntKind.wrap, IntKind.bits, IntKind.signed]; omega
     exact Does.value _ (by clear hs hd; go_simp) rfl
    ·intro ax wx hb hs hd
     have h37 := sqV (hd 6 37 rfl (by kernel_rfl) (by decide))
     by_cases hle : gm ≤ 1
     ·have e := HGL.out.2.1 hle
      subst e
      refine Does.value (.int .i64 lm) ?_ rfl
      clear hs hd
      go_simp
      try (intro hq; omega)
     ·have e := HGL.out.2.2.1 (by omega)
      subst e
      refine Does.value (.int .i64 1) ?_ rfl
      clear hs hd
      go_simp
      try (intro hq; omega)
    ·intro ax wx hb hs hd
     have h38 := sqV (hd 7 38 rfl (by kernel_rfl) (by decide))
     have z : IntKind.u8.wrap lm = lm := by have := HGL.out; simp [IntKind.wrap, IntKind.bits, IntKind.signed]; omega
     exact Does.value _ (by clear hs hd; go_simp) rfl
    ·intro ax wx hb hs hd
     have h5 : ax.tmps.getD 5 undef = (.int .i64 (m : Int)) := hs 5 (by kernel_rfl)
     exact Does.value _ (by clear hs hd; go_simp) rfl
    ·intro ax wx hb hs hd
     have h40 := sqV (hd 9 40 rfl (by kernel_rfl) (by decide))
     have z : IntKind.u32.wrap (m : Int) = (m : Int) := by have := HLT.out; simp [IntKind.wrap, IntKind.bits, IntKind.signed]; omega
     exact Does.value _ (by clear hs hd; go_simp) rfl
    ·intro ax wx hb hs hd
     have h4 : ax.tmps.getD 4 undef = (.slice (some ⟨gb, 0, none⟩) 4 4) := hs 4 (by kernel_rfl)
     exact Does.value _ (by clear hs hd; go_simp) rfl
    ·intro ax wx hb hs hd
     have h5 : ax.tmps.getD 5 undef = (.int .i64 (m : Int)) := hs 5 (by kernel_rfl)
     exact Does.value _ (by clear hs hd; go_simp) rfl
    ·intro ax wx hb hs hd
     have h42 := sqV (hd 11 42 rfl (by kernel_rfl) (by decide))
     have h43 := sqV (hd 12 43 rfl (by kernel_rfl) (by decide))
     exact Does.value _ (by clear hs hd; go_simp) rfl
    ·intro ax wx hb hs hd
     have h44 := sqV (hd 13 44 rfl (by kernel_rfl) (by decide))
     have c0 : wx.cell? ⟨gb, m, none⟩ = some (.int .u8 gm) := by have := u8s_cell (Y.out.2.2.2.later hb Y.out.2.2.2.lt) m HLT.out; rw [HG.out] at this; exact this
     exact Does.value _ (by clear hs hd; go_simp) rfl
    ·intro ax wx hb hs hd
     have h45 := sqV (hd 14 45 rfl (by kernel_rfl) (by decide))
     exact Does.build 67 _ rfl #[(0, .int .u8 gm)] (by have e1 : ax.eval (.tmp 45) = .int .u8 gm := h45; simp [e1]) _ (bDrop7 gm wx)
    ·intro ax wx hb hs hd
     have h39 := sqV (hd 8 39 rfl (by kernel_rfl) (by decide))
     have h41 := sqV (hd 10 41 rfl (by kernel_rfl) (by decide))
     have h46 := sqV (hd 15 46 rfl (by kernel_rfl) (by decide))
     exact Does.build 69 _ rfl #[(0, .int .u8 lm), (2, .int .u32 (m : Int)), (4, .agg (u8s (gm :: List.replicate 15 0)).toArray)] (by have e1 : ax.eval (.tmp 39) = .int .u8 lm := h39; have e2 : ax.eval (.tmp 41) = .int .u32 (m : Int) := h41; have e3 : ax.eval (.tmp 46) = .agg (u8s (gm :: List.replicate 15 0)).toArray := h46; simp [e1, e2, e3]) _ (bHead7 lm gm (m : Int) wx)
    ·intro ax wx hb hs hd
     have h47 := sqV (hd 16 47 rfl (by kernel_rfl) (by decide))
     refine Does.call 38 #[.agg (hdC ⟨lm, 0, (m : Int), 0, gm :: List.replicate 15 0⟩).toArray, .slice none 0 0] (by clear hs hd; go_simp) ?_
     have C := make_any (hdW7 m) HR.out.2 none 0 0 [] (fun _ => rfl) (by decide) wx (Seen.empty _ _)
     rw [HR.out.1] at C
     refine C.mono ?_
     rintro e w' ⟨v, rfl, o, l⟩
     exact ⟨v, rfl, by rw [rowW7, HR.out.1]; exact isO_base o hb.size, l⟩
   ·intro wx hb
    iterate 17 refine @EndsP.val _ _ _ _ _ _ _ _ _ rfl ?_
    refine @EndsP.any _ _ _ _ _ _ _ _ (rcisO wr.heap.size 26 (rowW7 m)) (rcisO_later _ _ _) rfl ?_
    intro vz pz
    intro hD nf hnf
    obtain ⟨mf, rfl⟩ : ∃ mf, nf = mf + 2 := ⟨nf - 2, by have h3 : 2 ≤ nf := hnf; omega⟩
    clear hD hnf
    simp only [Act.put, sqA, sqB, sqC]
    obtain ⟨vo, cap, rfl, hv, hcap, hvo, hvb⟩ := isO_sl (rw7_len m HLT.out).1 (rw7_len m HLT.out).2 (by decide) pz
    have CT : Hid (Calls Tryz.prog 37 #[.pointer (some ⟨g, 0, none⟩), .int .i64 (m : Int), .slice vo 26 cap] wx fun e w' => e = .returned (.int .i64 0) ∧ ∃ S', Lr w' cf7 (v7 p) g h (sW7 p (m + 1)) (upn (RW7 m) m (rowW7 m)) S' ∧ Kept S wx w' ∧ ∀ b, S' b → S b ∨ wx.heap.size ≤ b) := set_R (Y.out.1.later hb) (z7_fit.sln ke7 0 p) m m (bW7 p m) (by have := HLT.out; omega) HLT.out vo cap (rowW7 m) hv (fun b o e => ⟨by obtain ⟨cb, co, he, hcl, _⟩ := hv.cells (by decide); rw [e] at he; cases he; exact hcl, fun hSb => by have := hvb b o e; have := Y.out.1.lt b hSb; omega⟩)
    have B : Hid (Below wr.heap.size wr wx) := hb
    clear hb pz hv hcap hvo hvb
    refine wpAny_ready (rs := [18]) (by kernel_rfl) (by simp) (AllReady.cons rfl (fun K hK => ?_) AllReady.nil)
    go_simp
    go_wp2_with (go_at_call 37; refine CT.out.mono ?_; rintro e w5 ⟨rfl, S5, x5, k5, n5⟩)
    have V5 : Hid (Lr w5 cf7 (v7 p) g h (sW7 p (m + 1)) (RW7 (m + 1)) S5 ∧ (∀ b, S5 b → w.heap.size ≤ b ∧ b ≠ gb) ∧ Below w.heap.size w w5 ∧ Blk w5 gb 5 (u8s [2, 1, 0, 1])) := by
     have h1 := Y.out.2.2.1.size
     have h2 := B.out.size
     have h3 := Y.out.2.2.2.lt
     refine ⟨x5.rows (fun i hi => ?_), fun b hb => ?_, below_kept (below_chain Y.out.2.2.1 B.out h1) k5 (by omega) (fun j hj hs => by have := (Y.out.2.1 j hs).1; omega), (Y.out.2.2.2.later B.out h3).kept k5 (fun hs => (Y.out.2.1 gb hs).2 rfl)⟩
     ·unfold upn RW7
      by_cases e : i = m
      ·subst e; rw [if_pos rfl, if_pos (by omega)]
      ·rw [if_neg e]
       by_cases e2 : i < m
       ·rw [if_pos e2, if_pos (by omega)]
       ·rw [if_neg e2, if_neg (by omega)]
     ·rcases n5 b hb with e | e
      ·exact Y.out.2.1 b e
      ·exact ⟨by omega, by omega⟩
    clear x5 k5 n5 CT Y B
    refine take_op 19 (some 50) (.bool false) rfl rfl (by kernel_rfl) (by kernel_rfl) (by kernel_rfl) (fun _ _ _ h => h) (by rfl) (fun W' => by go_simp) ?_
    simp only [Act.put, sqA, sqB, sqC]
    refine wpAny_done (by kernel_rfl) (NoPanic.normal ?_) _
    go_wp2
    exact ⟨⟨m + 1, S5, by have := HLT.out; omega, by go_num, V5.out⟩, by have := HLT.out; simp [intOf]; omega⟩
  ·obtain rfl : m = 4 := by omega
   obtain ⟨s4, hs4⟩ : ∃ s, sW7 p 4 = s := ⟨_, rfl⟩
   have B4 : Hid (Bn cf7 s4 4 ∧ s4.l.length = 4) := by rw [← hs4]; exact ⟨bW7 p 4, lenW7 p 4⟩
   rw [hs4] at Y
   have SN : Hid (SlN (v7 p) cf7) := z7_fit.sln ke7 0 p
   have C1 : Hid (Calls Tryz.prog 7 #[.pointer (some ⟨g, 0, none⟩), .int .i64 4, .func (.func 8) #[] #[]] wr fun e w' => e = .returned (.tuple #[.bool false, .int .i64 0]) ∧ ∃ S', Lr w' cf7 (v7 p) g h (snN cf7 (v7 p) s4 4) (RW7 4) S' ∧ Kept S wr w' ∧ ∀ b, S' b → S b ∨ wr.heap.size ≤ b) := by
    have := sorted_R Y.out.1 SN.out 4 4 (by show (4 : Nat) ≤ 4; decide) 8 byG (ordG 26) B4.out.1 (by decide)
    rw [bad7] at this
    exact this
   have B5 : Hid (Bn cf7 (snN cf7 (v7 p) s4 4) 8 ∧ (snN cf7 (v7 p) s4 4).l.length = 8) := ⟨bnN (by decide) (v7 p) s4 4 B4.out.1 4, by rw [lenN7, B4.out.2]⟩
   obtain ⟨s5, hs5⟩ : ∃ s, snN cf7 (v7 p) s4 4 = s := ⟨_, rfl⟩
   rw [hs5] at C1 B5
   have C2 : Hid (∀ W S', Lr W cf7 (v7 p) g h s5 (RW7 4) S' → Calls Tryz.prog 10 #[.pointer (some ⟨g, 0, none⟩), .int .i64 4, .func (.func 8) #[] #[]] W fun e w' => e = .returned (.int .i64 0) ∧ ∃ S'', Lr w' cf7 (v7 p) g h (snG cf7 (v7 p) s5 (gatesL 2)) (rowG byG 4 (RW7 4) (gatesL 2)) S'' ∧ Kept S' W w' ∧ ∀ b, S'' b → S' b ∨ W.heap.size ≤ b) := fun W S' x => sort_R x SN.out 2 4 8 (by decide) rfl (by show (4 : Nat) ≤ 4; decide) 8 byG (ordG 26) B5.out.1 (by rw [gates7]; decide)
   have B6 : Hid (Bn cf7 (snG cf7 (v7 p) s5 (gatesL 2)) 14 ∧ (snG cf7 (v7 p) s5 (gatesL 2)).l.length = 14) := ⟨by have := bnG (by decide) (v7 p) (gatesL 2) s5 8 B5.out.1; rw [gates7] at this; exact this, by rw [lenG7, B5.out.2, gates7]⟩
   obtain ⟨s6, hs6⟩ : ∃ s, snG cf7 (v7 p) s5 (gatesL 2) = s := ⟨_, rfl⟩
   rw [hs6] at C2 B6
   have HGd := good7
   have HRw := row7
   obtain ⟨R6, hR6⟩ : ∃ R, rowG byG 4 (RW7 4) (gatesL 2) = R := ⟨_, rfl⟩
   rw [hR6] at C2 HGd HRw
   have C3 : Hid (∀ W S', Lr W cf7 (v7 p) g h s6 R6 S' → Calls Tryz.prog 7 #[.pointer (some ⟨g, 0, none⟩), .int .i64 4, .func (.func 8) #[] #[]] W fun e w' => e = .returned (.tuple #[.bool true, .int .i64 0]) ∧ ∃ S'', Lr w' cf7 (v7 p) g h (snN cf7 (v7 p) s6 4) R6 S'' ∧ Kept S' W w' ∧ ∀ b, S'' b → S' b ∨ W.heap.size ≤ b) := fun W S' x => by
    have := sorted_R x SN.out 4 14 (by show (4 : Nat) ≤ 4; decide) 8 byG (ordG 26) B6.out.1 (by decide)
    rw [HGd] at this
    exact this
   have B7 : Hid (Bn cf7 (snN cf7 (v7 p) s6 4) 18 ∧ (snN cf7 (v7 p) s6 4).l.length = 18) := ⟨bnN (by decide) (v7 p) s6 14 B6.out.1 4, by rw [lenN7, B6.out.2]⟩
   obtain ⟨s7, hs7⟩ : ∃ s, snN cf7 (v7 p) s6 4 = s := ⟨_, rfl⟩
   rw [hs7] at C3 B7
   have C4 : Hid (∀ W S', Lr W cf7 (v7 p) g h s7 R6 S' → Calls Tryz.prog 29 #[.pointer (some ⟨g, 0, none⟩), .int .i64 0] W fun e w' => ∃ rb, e = .returned (.tuple #[.slice (some ⟨rb, 0, none⟩) 26 26, .int .i64 0]) ∧ Blk w' rb 5 (u8s (R6 0)) ∧ W.heap.size ≤ rb ∧ ∃ S'', Lr w' cf7 (v7 p) g h (s7.get cf7 (v7 p) 0) R6 S'' ∧ ¬ S'' rb ∧ Kept S' W w' ∧ ∀ b, S'' b → S' b ∨ W.heap.size ≤ b) := fun W S' x => get_R x SN.out 0 18 B7.out.1 (by decide) (by show (0 : Nat) < 4; decide)
   have B8 : Hid ((s7.get cf7 (v7 p) 0).l.length = 19) := by show (s7.l ++ _).length = 19; simp [B7.out.2]
   obtain ⟨s8, hs8⟩ : ∃ s, s7.get cf7 (v7 p) 0 = s := ⟨_, rfl⟩
   rw [hs8] at C4 B8
   have C5 : Hid (∀ W S', Lr W cf7 (v7 p) g h s8 R6 S' → Calls Tryz.prog 18 #[.pointer (some ⟨g, 0, none⟩)] W fun e w' => ∃ ao c, e = .returned (.slice ao 19 c) ∧ Below W.heap.size W w') := fun W S' x => by
    refine (slog_R x (by rw [B8.out]; decide)).mono ?_
    rintro e w' ⟨ao, c, rfl, o, l⟩
    rw [B8.out]
    exact ⟨ao, c, rfl, l⟩
   have RW : Hid ((R6 0).getD 2 0 = 1 ∧ (R6 0).length = 26) := HRw
   have HB : Hid (Below w.heap.size w wr ∧ ∀ b, S b → w.heap.size ≤ b) := ⟨Y.out.2.2.1, fun b hb => (Y.out.2.1 b hb).1⟩
   clear Y hs4 hs5 hs6 hs7 hs8 hR6 HGd HRw hlt hm A
   have M1 : Hid True := trivial
   have M2 : Hid True := trivial
   have M3 : Hid True := trivial
   have M4 : Hid True := trivial
   have M5 : Hid True := trivial
   go_wp2_with (first
    | (clear M1; go_at_call 7; refine C1.out.mono ?_; rintro e w4 ⟨rfl, S4, x4, k4, n4⟩; have X4 : Hid (Lr w4 cf7 (v7 p) g h s5 (RW7 4) S4 ∧ Below w.heap.size w w4 ∧ ∀ b, S4 b → w.heap.size ≤ b) := ⟨x4, below_kept HB.out.1 k4 HB.out.1.size (fun j hj hs => by have := HB.out.2 j hs; omega), fun b hb => (n4 b hb).elim (HB.out.2 b) (fun e => Nat.le_trans HB.out.1.size e)⟩; clear x4 k4 n4)
    | (clear M2; go_at_call 10; refine (C2.out w4 S4 X4.out.1).mono ?_; rintro e w5 ⟨rfl, S5, x5, k5, n5⟩; have X5 : Hid (Lr w5 cf7 (v7 p) g h s6 R6 S5 ∧ Below w.heap.size w w5 ∧ ∀ b, S5 b → w.heap.size ≤ b) := ⟨x5, below_kept X4.out.2.1 k5 X4.out.2.1.size (fun j hj hs => by have := X4.out.2.2 j hs; omega), fun b hb => (n5 b hb).elim (X4.out.2.2 b) (fun e => Nat.le_trans X4.out.2.1.size e)⟩; clear x5 k5 n5)
    | (clear M3; go_at_call 7; refine (C3.out w5 S5 X5.out.1).mono ?_; rintro e w6 ⟨rfl, S6, x6, k6, n6⟩; have X6 : Hid (Lr w6 cf7 (v7 p) g h s7 R6 S6 ∧ Below w.heap.size w w6 ∧ ∀ b, S6 b → w.heap.size ≤ b) := ⟨x6, below_kept X5.out.2.1 k6 X5.out.2.1.size (fun j hj hs => by have := X5.out.2.2 j hs; omega), fun b hb => (n6 b hb).elim (X5.out.2.2 b) (fun e => Nat.le_trans X5.out.2.1.size e)⟩; clear x6 k6 n6)
    | (clear M4; go_at_call 29; refine (C4.out w6 S6 X6.out.1).mono ?_; rintro e w7 ⟨rb, rfl, b7, hrb, S7, x7, nrb, ke7, n7⟩; have X7 : Hid (Lr w7 cf7 (v7 p) g h s8 R6 S7 ∧ Below w.heap.size w w7) := ⟨x7, below_kept X6.out.2.1 ke7 X6.out.2.1.size (fun j hj hs => by have := X6.out.2.2 j hs; omega)⟩; have c2 : w7.cell? ⟨rb, 2, none⟩ = some (.int .u8 1) := (by have := u8s_cell b7 2 (by rw [RW.out.2]; decide); rw [RW.out.1] at this; exact this); clear x7 ke7 n7 b7 hrb nrb)
    | (clear M5; go_at_call 18; refine (C5.out w7 S7 X7.out.1).mono ?_; rintro e w8 ⟨ao, c, rfl, l8⟩))
   go_ret
   exact ⟨rfl, below_chain X7.out.2 l8 X7.out.2.size⟩
end Go.Proofs.YtpanagghppdiiaaGreat
namespace Go.Proofs.YtpanagghppdiiaaGreat.sorterNames
open Go.RowKit
set_option linter.unusedVariables false
set_option linter.unusedSimpArgs false
theorem check_nil (n : Int) (w : World) : Calls Tryz.prog 28 #[.pointer none, .int .i64 n] w fun e w' => e = .returned (.int .i64 1) ∧ w = w' := by
 go_enter Tryz.func28, Tryz.ntmps28
 go_wp2
 go_ret
 exact ⟨rfl, rfl⟩
theorem sorted_nil (n : Int) (f : Value) (w : World) : Calls Tryz.prog 7 #[.pointer none, .int .i64 n, f] w fun e w' => e = .returned (.tuple #[.bool false, .int .i64 1]) ∧ w = w' := by
 have C : Hid (∀ W, Calls Tryz.prog 28 #[.pointer none, .int .i64 n] W fun e w' => e = .returned (.int .i64 1) ∧ W = w') := fun W => check_nil n W
 go_enter Tryz.func7, Tryz.ntmps7
 go_wp2_with (go_at_call 28; refine (C.out _).mono ?_; rintro e _ ⟨rfl, rfl⟩)
 go_ret2
 exact ⟨rfl, rfl⟩
theorem sort_nil (n : Int) (f : Value) (w : World) : Calls Tryz.prog 10 #[.pointer none, .int .i64 n, f] w fun e w' => e = .returned (.int .i64 1) ∧ Below w.heap.size w w' := by
 have C : Hid (∀ W, Calls Tryz.prog 28 #[.pointer none, .int .i64 n] W fun e w' => e = .returned (.int .i64 1) ∧ W = w') := fun W => check_nil n W
 go_enter Tryz.func10, Tryz.ntmps10
 go_wp2_with (go_at_call 28; refine (C.out _).mono ?_; rintro e _ ⟨rfl, rfl⟩)
 refine bodyPost_ret (v := .int .i64 1) ?_ rfl ?_
 ·rw [results_cell1 (p := 6) (ty := 22) rfl]
  simp [go_sem]
  done
 ·exact ⟨rfl, ((Below.refl _ _).alloc (Nat.le_refl _) _).alloc (by simp) _⟩
theorem back_nil (n : Int) (w : World) : Calls Tryz.prog 11 #[.pointer none, .int .i64 n] w fun e w' => e = .returned (.int .i64 1) ∧ Below w.heap.size w w' := by
 go_enter Tryz.func11, Tryz.ntmps11
 go_wp2_with (go_at_call 10; refine (sort_nil n (.func (.func 22) #[] #[]) w).mono ?_; rintro e w1 ⟨rfl, l1⟩)
 go_ret
 exact ⟨rfl, l1⟩
theorem walk (w : World) : Calls Tryz.prog 3 #[] w fun e w' => e = .returned (.bool true) ∧ Below w.heap.size w w' := by
 have C1 : Hid (Calls Tryz.prog 7 #[.pointer none, .int .i64 (-1), .func (.func 8) #[] #[]] w fun e w' => e = .returned (.tuple #[.bool false, .int .i64 1]) ∧ w = w') := sorted_nil (-1) _ w
 go_enter Tryz.func3, Tryz.ntmps3
 go_wp2_with (first | (go_at_call 7; refine C1.out.mono ?_; rintro e _ ⟨rfl, rfl⟩) | (go_at_call 9; refine (works17_any w).mono ?_; rintro e w1 ⟨rfl, l1⟩) | (go_at_call 10; refine (sort_nil 3 (.func (.func 8) #[] #[]) w1).mono ?_; rintro e w2 ⟨rfl, l2⟩) | (go_at_call 11; refine (back_nil 0 w2).mono ?_; rintro e w3 ⟨rfl, l3⟩))
 go_ret
 exact ⟨rfl, below_chain (below_chain l1 l2 l1.size) l3 (by have := l1.size; have := l2.size; omega)⟩
end Go.Proofs.YtpanagghppdiiaaGreat.sorterNames
namespace Go.Proofs.YtpanagghppdiiaaGreat.sorterNames
open Go.ChangeShapes Go.WideShapes Go.ChangeAt Go.RowKit
set_option linter.unusedVariables false
set_option linter.unusedSimpArgs false
theorem pOwn : ownKnob Tryz.prog.godebug = none := by kernel_rfl
theorem lifted (os : Os) (started : os.Started) (H : Type) (enc : TypeId × Value → H) :
  ReturnsInHanded {} Tryz.checked os 3 .any (Rows.sorterNamesSpec.pre6 enc Tryz.prog Tryz.f3 Rows.sorterNamesRow.domain false) (Rows.sorterNamesSpec.post enc Tryz.prog Tryz.f3 false true false false) := by
 refine returnsInHanded_of_change_sized (C := Tryz.checked) pOwn started (by kernel_rfl) Tryz.func3
  (ChangeSpec.witness6 (enc := enc) (C := Tryz.checked) false ⟨#[], #[], []⟩ 8 (by kernel_rfl) (by kernel_rfl) (by kernel_rfl) (by kernel_rfl)) ?_
 intro W base args ds gs before hval0 hW hcnd hsz0 _
 have hval : ∀ (j : Nat) t v, Tryz.f3.params[j]? = some t → args[j]? = some v → Value.okWide Tryz.prog W .any base t v := hval0
 have hsz : (DataW.weightsEach Tryz.prog (Tryz.f3.params.toList ++ Rows.sorterNamesSpec.plain.varTypes Tryz.prog) (ds ++ gs)).all (· ≤ reachBytes) = true := hsz0
 have hW' := hW
 obtain ⟨p, q, hA0, hV, rfl, hfz, hnd⟩ := hW
 have hA : DataW.TrodAll enc Tryz.prog W 0 (fun _ => true) true Tryz.f3.params.toList args.toList ds p := hA0
 rw [Tryz.params3] at hA hval hsz
 obtain ⟨hargs, rfl, rfl⟩ := trodAll_nil hA
 obtain rfl : args = #[] := by cases args; simp_all
 obtain ⟨rfl, rfl⟩ := trodVars_none hV
 clear hA0 hval0
 refine (walk W).mono fun e W' ⟨he, bel⟩ => ?_
 subst he
 exact ⟨_, rfl, _, _, _, [], _, [], hW', trodAll_mk1 (shut_bool Tryz.underlying4 _), trodAll_mk0, rfl, bel.frame _, fun h => by cases h⟩
theorem over : Rows.sorterNamesRow.holds Tryz.pinned (OpenSpec.ofChange Rows.sorterNamesSpec) :=
 OpenClaim.holds_of_wide 3 Tryz.f3 rfl rfl rfl rfl rfl rfl rfl ⟨rfl, rfl, rfl, rfl, rfl⟩ rfl rfl rfl rfl rfl (by kernel_rfl) Tryz.func3 (by kernel_rfl)
  (of_decide_eq_true (by kernel_rfl)) (by unfold Func.isWrapper; first | (rw [if_pos (by decide +kernel)]; kernel_rfl) | (rw [if_neg (by decide +kernel)]; exact ⟨rfl, rfl⟩))
  (fun os started H enc _ => lifted os started H enc)
theorem proved : Rows.SorterNamesSaid := over
end Go.Proofs.YtpanagghppdiiaaGreat.sorterNames
namespace Go.Proofs.YtpanagghppdiiaaGreat
theorem sorterNames_holds : Rows.SorterNamesSaid := sorterNames.proved
#print axioms sorterNames_holds
end Go.Proofs.YtpanagghppdiiaaGreat
