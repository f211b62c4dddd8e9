/- Layer ladder: Base, Agree, and the statements' works. -/
import Derived.Test.YtnifolefhelmcaaLdMul
import Derived.Test.YtnifolefhelmcaaFEq
namespace Go.Proofs.Ytnifolefhelmcaa
open Go.RowKit
set_option linter.unusedVariables false
set_option linter.unusedSimpArgs false

/-- The public key 9. -/
def nineL : List Int := 9 :: List.replicate 31 0
theorem build_nine (w : World) : (Instr.build 58 #[(0, .int .u8 9)]).run Try.prog w = .ok (.agg (u8s nineL).toArray) w := by kernel_rfl
theorem nine_len : nineL.length = 32 := rfl
theorem nine_bytes : Bytes nineL := fun z hz => by
  simp only [nineL, List.mem_cons, List.mem_replicate] at hz
  omega
theorem nine_pub : pubN nineL = 9 := by decide +kernel
set_option maxRecDepth 20000 in
set_option maxHeartbeats 1000000 in
theorem base_any (ks : List Int) (hk : ks.length = 32) (bk : Bytes ks) (w : World) :
    Calls Try.prog 39 #[.agg (u8s ks).toArray] w fun e w' => e = .returned (.agg (u8s (prodL ks nineL)).toArray) ∧ Below w.heap.size w w' := by
  have HM := lmul_any ks nineL hk bk nine_len nine_bytes
  have HL : Hid ((u8s (prodL ks nineL)).length = 32 ∧ (Try.prog.info? 58).map (·.size) = some (u8s ks).length) := ⟨by rw [u8s_length, prodL_length], by rw [u8s_length, hk]; exact sizeKey⟩
  obtain ⟨rs, hr⟩ : ∃ z, prodL ks nineL = z := ⟨_, rfl⟩
  rw [hr] at HM HL ⊢
  clear hk bk hr
  go_enter Try.func39, Try.ntmps39
  go_wp2_with (first | (refine wpList_box_new rfl 58 (.tmp 0) rfl (u8s ks) rfl ?_; intro w1 b1 s1 l1) | (refine wpList_alloc_new rfl 58 rfl 32 _ zeroKey ?_; intro w2 b2 s2 l2) | (refine wpList_load_blk rfl 58 (.tmp 1) rfl w.heap.size rfl (u8s ks) _ (b1.later l2 (by omega)) Try.underlying58 rfl HL.out.2 ?_) | (refine wpList_build rfl 58 _ rfl #[(0, .int .u8 9)] (by simp [Act.eval]) _ (build_nine _) ?_) | (go_at_call 32; refine (HM _).mono ?_; rintro e w3 ⟨rfl, l3⟩) | (refine wpList_store_blk rfl 58 58 _ _ rfl (w.heap.size + 1) rfl _ (u8s rs) rfl (by rw [s1] at b2; exact b2.later l3 (by omega)) (by rw [HL.out.1]; rfl) (by rw [HL.out.1]; exact sizeKey) (u8s_one _) ?_; intro y7 b7 s7 k7))
  exact ret_blk rfl (w.heap.size + 1) (u8s rs) _ rfl b7 Try.underlying58 rfl (by rw [HL.out.1]; exact sizeKey) rfl ⟨rfl, below_kept (below_chain (below_chain l1 l2 (by omega)) l3 (by omega)) k7 (by have := l3.size; omega) (fun j hj => by omega)⟩
/-- The mask that says that a product is not 0. -/
def validN (ks us : List Int) : Int := mk (!(prodN ks us == 0))
set_option maxRecDepth 20000 in
set_option maxHeartbeats 2000000 in
theorem agree_any (ks us : List Int) (hk : ks.length = 32) (bk : Bytes ks) (hu : us.length = 32) (bu : Bytes us) (w : World) :
    Calls Try.prog 36 #[.agg (u8s ks).toArray, .agg (u8s us).toArray] w fun e w' => e = .returned (.tuple #[.agg (u8s (prodL ks us)).toArray, .int .u64 (validN ks us)]) ∧ Below w.heap.size w w' := by
  have HM := lmul_any ks us hk bk hu bu
  have HO := fof_any (prodL ks us) (prodL_length _ _) (prodL_bytes _ _)
  have hp : le (prodL ks us) % 57896044618658097711785492504343953926634992332820282019728792003956564819968 % PR = prodN ks us := pub_prod ks us
  rw [hp] at HO
  have HL : Hid ((u8s (prodL ks us)).length = 32 ∧ (Try.prog.info? 58).map (·.size) = some (u8s ks).length ∧ (Try.prog.info? 58).map (·.size) = some (u8s us).length) := ⟨by rw [u8s_length, prodL_length], by rw [u8s_length, hk]; exact sizeKey, by rw [u8s_length, hu]; exact sizeKey⟩
  have HZ := fun l hl => fzero_any l (prodN ks us) hl
  have hN := not_mk (prodN ks us == 0)
  unfold validN
  obtain ⟨rs, hr⟩ : ∃ z, prodL ks us = z := ⟨_, rfl⟩
  rw [hr] at HM HL HO ⊢
  obtain ⟨M, hM⟩ : ∃ z, mk (prodN ks us == 0) = z := ⟨_, rfl⟩
  obtain ⟨V, hV⟩ : ∃ z, mk (!(prodN ks us == 0)) = z := ⟨_, rfl⟩
  rw [hV] at hN ⊢
  rw [hM] at HZ hN
  obtain ⟨x, hx⟩ : ∃ z, prodN ks us = z := ⟨_, rfl⟩
  rw [hx] at HO HZ
  clear hk bk hr hp hM hV hu bu hx
  go_enter Try.func36, Try.ntmps36
  go_wp2_with (first | (refine wpList_box_new rfl 58 (.tmp 0) rfl (u8s ks) rfl ?_; intro w1 b1 s1 l1) | (refine wpList_box_new rfl 58 (.tmp 1) rfl (u8s us) rfl ?_; intro w2 b2 s2 l2) | ((with_reducible show wpList _ _ _ (({ dst := some 4, op := _, type := _, pos := _, after := _, guard := _ } : Oper) :: _) _ _); refine wpList_alloc_new rfl 58 rfl 32 _ zeroKey ?_; intro w3 b3 s3 l3; rw [s1] at b2; rw [s2, s1] at b3) | ((with_reducible show wpList _ _ _ (({ dst := some 7, op := _, type := _, pos := _, after := _, guard := _ } : Oper) :: _) _ _); refine wpList_load_blk rfl 58 (.tmp 2) rfl w.heap.size rfl (u8s ks) _ ((b1.later l2 (by omega)).later l3 (by omega)) Try.underlying58 rfl HL.out.2.1 ?_) | ((with_reducible show wpList _ _ _ (({ dst := some 8, op := _, type := _, pos := _, after := _, guard := _ } : Oper) :: _) _ _); refine wpList_load_blk rfl 58 (.tmp 3) rfl (w.heap.size + 1) rfl (u8s us) _ (b2.later l3 (by omega)) Try.underlying58 rfl HL.out.2.2 ?_) | (go_at_call 32; refine (HM _).mono ?_; rintro e w4 ⟨rfl, l4⟩) | ((with_reducible show wpList _ _ _ (({ dst := some 6, op := _, type := _, pos := _, after := _, guard := _ } : Oper) :: _) _ _); refine wpList_alloc_new rfl 58 rfl 32 _ zeroKey ?_; intro w5 b5 s5 l5) | (refine wpList_store_blk rfl 58 58 (.tmp 6) _ rfl _ rfl _ (u8s rs) rfl b5 (by rw [HL.out.1]; rfl) (by rw [HL.out.1]; exact sizeKey) (u8s_one _) ?_; intro w6 b6 s6 k6))
  obtain ⟨gs, hgs⟩ : ∃ q, w4.heap.size = q := ⟨_, rfl⟩
  have hsz : w3.heap.size = w.heap.size + 1 + 1 + 1 := by omega
  have W : Hid (Below w.heap.size w w6 ∧ Blk w6 gs 58 (u8s rs) ∧ Blk w6 (w.heap.size + 1 + 1) 58 (u8s (List.replicate 32 0)) ∧ w.heap.size + 1 + 1 < gs) := by
    have q1 := l4.size
    have q2 := l5.size
    rw [hgs] at b6 k6
    exact ⟨below_kept (below_chain (below_chain (below_chain (below_chain l1 l2 (by omega)) l3 (by omega)) l4 (by omega)) l5 (by omega)) k6 (by omega) (fun j hj => by omega), b6, ((b3.later l4 (by omega)).later l5 (by omega)).kept k6 (by omega), by omega⟩
  rw [hgs]
  clear b1 s1 l1 b2 s2 l2 b3 s3 l3 l4 b5 s5 l5 b6 s6 k6 hgs hsz
  simp only [Act.put, List.setIfInBounds_toArray, List.set_cons_zero, List.set_cons_succ]
  refine wp_region_noPanic (wp_region_held_drew (S := fun W => Blk W gs 58 (u8s rs)) (by kernel_rfl) (W.out.2.1.drew) (fun hH => ?_))
  refine hLoad 0 (some 10) (u8s rs) rfl rfl (by kernel_rfl) (by kernel_rfl) (by kernel_rfl) (fun _ _ _ h => h) (by rfl) 58 (.tmp 6) rfl gs 0 rfl _ (fun _ h => h.whole) Try.underlying58 rfl (by rw [HL.out.1]; exact sizeKey) hH ?_
  simp only [Act.put, List.setIfInBounds_toArray, List.set_cons_zero, List.set_cons_succ]
  refine hLoad 1 (some 11) (u8s rs) rfl rfl (by kernel_rfl) (by kernel_rfl) (by kernel_rfl) (fun _ _ _ h => h) (by rfl) 58 (.tmp 6) rfl gs 0 rfl _ (fun _ h => h.whole) Try.underlying58 rfl (by rw [HL.out.1]; exact sizeKey) hH ?_
  simp only [Act.put, List.setIfInBounds_toArray, List.set_cons_zero, List.set_cons_succ]
  refine wpAnyH_ready (rs := [2]) (by kernel_rfl) (by simp) (AllReadyH.cons rfl (fun K hK => ?_) AllReadyH.nil)
  go_simp
  go_wp2_with (go_at_call 13; refine (HO _).mono ?_; rintro e x1 ⟨lr, rfl, F1, l1⟩; have L1 : Hid (Below w6.drew.heap.size w6.drew x1) := l1; clear l1)
  refine hK.out _ _ (W.out.2.1.drew.later L1.out W.out.2.1.lt) (fun hH => ?_)
  clear hK K
  have HZ1 := HZ lr F1
  refine wpAnyH_ready (rs := [3]) (by kernel_rfl) (by simp) (AllReadyH.cons rfl (fun K hK => ?_) AllReadyH.nil)
  go_simp
  go_wp2_with (go_at_call 19; refine (HZ1 _).mono ?_; rintro e x2 ⟨rfl, l2⟩; have L2 : Hid (Below w6.drew.heap.size w6.drew x2) := below_chain L1.out l2 L1.out.size; clear l2)
  refine hK.out _ _ (W.out.2.1.drew.later L2.out W.out.2.1.lt) (fun hH => ?_)
  clear hK K
  refine hTake 4 (some 14) (.int .u64 V) rfl rfl (by kernel_rfl) (by kernel_rfl) (by kernel_rfl) (fun _ _ _ h => h) (by rfl) (fun W' hS' => by go_simp; exact hN) hH ?_
  simp only [Act.put, List.setIfInBounds_toArray, List.set_cons_zero, List.set_cons_succ]
  refine wpAnyH_ready (rs := [5]) (by kernel_rfl) (by simp) (AllReadyH.cons rfl (fun K hK => ?_) AllReadyH.nil)
  rw [if_pos (by rfl)]
  have Y0 : Hid (Blk x2 (w.heap.size + 1 + 1) 58 (u8s (List.replicate 32 0)) ∧ Below w.heap.size w x2) := ⟨W.out.2.2.1.drew.later L2.out W.out.2.2.1.lt, below_chain (below_dn W.out.1 1) L2.out W.out.1.size⟩
  refine last_store 58 (.tmp 4) (.tmp 10) rfl rfl (w.heap.size + 1 + 1) rfl 58 _ (u8s rs) rfl Y0.out.1 (by rw [HL.out.1]; rfl) (by rw [HL.out.1]; exact sizeKey) (u8s_one _) ?_
  intro y0 c0 t0 k0
  refine hK.out _ _ (hH.kept k0 (by have := W.out.2.2.2; omega)) (fun hH => ?_)
  clear hK K
  refine hTake 6 (some 5) (.int .u64 V) rfl rfl (by kernel_rfl) (by kernel_rfl) (by kernel_rfl) (fun _ _ _ h => h) (by rfl) (fun W' hS' => by rfl) hH ?_
  simp only [Act.put, List.setIfInBounds_toArray, List.set_cons_zero, List.set_cons_succ]
  refine wpAnyH_done (by kernel_rfl) (NoPanic.normal ?_) _
  clear hH
  go_wp2_with fail
  exact ret_blkt rfl (w.heap.size + 1 + 1) (u8s rs) _ _ rfl rfl c0 Try.underlying58 rfl (by rw [HL.out.1]; exact sizeKey) rfl ⟨rfl, below_kept Y0.out.2 k0 Y0.out.2.size (fun j hj => by omega)⟩
theorem build_255 (w : World) : (Instr.build 58 #[(0, .int .u8 255)]).run Try.prog w = .ok (.agg (u8s (255 :: List.replicate 31 0)).toArray) w := by kernel_rfl
theorem build_w2 (w : World) : (Instr.build 58 #[(0, .int .u8 248), (31, .int .u8 64)]).run Try.prog w = .ok (.agg (u8s (248 :: (List.replicate 30 0 ++ [64]))).toArray) w := by kernel_rfl
set_option maxRecDepth 20000 in
set_option maxHeartbeats 1000000 in
theorem works_any (w : World) : Calls Try.prog 34 #[] w fun e w' => e = .returned (.bool true) ∧ Below w.heap.size w w' := by
  have HC := clamp_any (255 :: List.replicate 31 0) rfl (fun z hz => by simp only [List.mem_cons, List.mem_replicate] at hz; omega)
  rw [show clampL (255 :: List.replicate 31 0) = 248 :: (List.replicate 30 0 ++ [64]) by decide] at HC
  have hq : ∀ wx, (Op.equalIn 10000 58 (.agg (u8s (248 :: (List.replicate 30 0 ++ [64]))).toArray) (.agg (u8s (248 :: (List.replicate 30 0 ++ [64]))).toArray)).run Try.prog wx = .ok true wx := equal32A 58 32 Try.underlying58 9998 _ rfl
  have h1 := build_255
  have h2 := build_w2
  obtain ⟨A, hA⟩ : ∃ z, (255 :: List.replicate 31 0 : List Int) = z := ⟨_, rfl⟩
  obtain ⟨B, hB⟩ : ∃ z, (248 :: (List.replicate 30 0 ++ [64]) : List Int) = z := ⟨_, rfl⟩
  rw [hA] at HC h1
  rw [hB] at HC hq h2
  clear hA hB
  go_enter Try.func34, Try.ntmps34
  go_wp2_with (first | ((with_reducible show wpList _ _ _ (({ dst := some 1, op := _, type := _, pos := _, after := _, guard := _ } : Oper) :: _) _ _); refine wpList_build rfl 58 _ rfl #[(0, .int .u8 255)] (by simp [Act.eval]) _ (h1 _) ?_) | ((with_reducible show wpList _ _ _ (({ dst := some 3, op := _, type := _, pos := _, after := _, guard := _ } : Oper) :: _) _ _); refine wpList_build rfl 58 _ rfl #[(0, .int .u8 248), (31, .int .u8 64)] (by simp [Act.eval]) _ (h2 _) ?_) | (go_at_call 37; refine (HC _).mono ?_; rintro e w1 ⟨rfl, l1⟩))
  go_ret
  exact ⟨rfl, l1⟩
end Go.Proofs.Ytnifolefhelmcaa
