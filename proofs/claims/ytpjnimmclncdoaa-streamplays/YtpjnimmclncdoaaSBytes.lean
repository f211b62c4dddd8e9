/- Layer stream: the state: with, begin, plus, bytesOf, stirred. -/
import Derived.Test.YtpjnimmclncdoaaSPlus
import Derived.Test.YtpjnimmclncdoaaSCopy
namespace Go.Proofs.Ytpjnimmclncdoaa
open Go.RowKit
set_option linter.unusedVariables false
set_option linter.unusedSimpArgs false

set_option maxRecDepth 20000 in
set_option maxHeartbeats 1000000 in
theorem bytesOf_any (st : List Int) (hs : st.length = 16) (hw : ∀ z ∈ st, 0 ≤ z ∧ z < 4294967296) (w : World) :
    Calls Try.prog 27 #[.agg (u32s st).toArray] w fun e w' => e = .returned (.agg (u8s (wB st 16)).toArray) ∧ Below w.heap.size w w' := by
  have HS : Hid (st.length = 16) := hs
  have HW : Hid (∀ k, k < 16 → 0 ≤ st.getD k 0 ∧ st.getD k 0 < 4294967296) := fun k hk => by
    have e : st.getD k 0 = st[k] := by simp [List.getD, show k < st.length by omega]
    rw [e]; exact hw _ (List.getElem_mem _)
  clear hs hw
  go_enter Try.func27, Try.ntmps27
  go_wp2_with (first | (refine wpList_box_new rfl 68 _ rfl (u32s st) rfl ?_; intro w1 b1 s1 l1) | ((with_reducible show wpList _ _ _ _ _ w1); refine wpList_alloc_new rfl 57 rfl 64 _ zero64b ?_; intro w2 b2 s2 l2) | (refine wpList_alloc_new rfl 57 rfl 64 _ zero64b ?_; intro w3 b3 s3 l3) | (refine wpList_load_blk rfl 68 _ rfl _ rfl (u32s st) _ ((b1.later l2 (by omega)).later l3 (by omega)) Try.underlying68 rfl (by rw [u32s_length, HS.out]; exact sizeSt) ?_))
  have HB : Hid (Blk w3 (w.heap.size + 1) 57 (u8s (List.replicate 64 0)) ∧ Blk w3 (w.heap.size + 2) 57 (u8s (List.replicate 64 0)) ∧ Below w.heap.size w w3) :=
    ⟨by have := b2.later l3 (by omega); rwa [s1] at this, by rwa [s2, s1] at b3, below_chain (below_chain l1 l2 (by omega)) l3 (by omega)⟩
  have sz : w3.heap.size = w.heap.size + 3 := by omega
  clear b1 s1 l1 b2 s2 l2 b3 s3 l3
  go_loopw [7] (fun i wr => ∃ k : Nat, k ≤ 16 ∧ i = .int .i64 k ∧ Blk wr (w.heap.size + 2) 57 (u8s (wB st k ++ List.replicate (64 - 4 * k) 0)) ∧ Kept (fun b => b = w.heap.size + 2) w3 wr) (fun i _ => 16 - (intOf i).toNat)
  case atStart => exact ⟨0, by omega, rfl, HB.out.2.1, Kept.refl _ _⟩
  case round =>
    obtain ⟨k, hk, rfl, hb, hkp⟩ := hrel
    by_cases hlt : k < 16
    · have f1 := idx_St st HS.out k hlt
      have hx := HW.out k hlt
      have hL : (wB st k).length = 4 * k := wB_length st k (by have := HS.out; omega)
      have hN : wB st (k + 1) = wB st k ++ leB 4 (st.getD k 0) := wB_succ st k (by have := HS.out; omega)
      obtain ⟨x, hxx⟩ : ∃ x, st.getD k 0 = x := ⟨_, rfl⟩
      rw [hxx] at f1 hx hN
      have X0 : Hid (Blk wr (w.heap.size + 2) 57 (u8s (wB st k) ++ (u8s (List.replicate 4 0) ++ u8s (List.replicate (64 - 4 * (k + 1)) 0)))) := by
        show Blk _ _ _ _
        rw [show 64 - 4 * k = 4 + (64 - 4 * (k + 1)) by omega, ← List.replicate_append_replicate] at hb
        simpa [u8s] using hb
      have X1 : Hid ((wB st k).length = 4 * k ∧ wB st (k + 1) = wB st k ++ leB 4 x) := ⟨hL, hN⟩
      have i1 : (k : Int) < 16 := by omega
      have i2 : (64 - 4 * (k : Int)).toNat = 64 - 4 * k := by omega
      have HK : Hid (Kept (fun b => b = w.heap.size + 2) w3 wr) := hkp
      clear hb hxx hL hN hkp
      go_wp2_with fail
      obtain ⟨J, hJ⟩ : ∃ J : Nat, J = 4 * k := ⟨_, rfl⟩
      have v6 : IntKind.i64.wrap ((k : Int) * 4) = (J : Int) := by rw [hJ]; simp only [IntKind.wrap, IntKind.bits, IntKind.signed]; simp; omega
      have j1 : (J : Int) ≤ 64 := by omega
      have j2 : J ≤ 60 := by omega
      have HJ : Hid (J = 4 * k) := hJ
      clear hJ
      obtain ⟨wd, hwd⟩ : ∃ x, wr.drew = x := ⟨_, rfl⟩
      have Y0 : Hid (Blk wd (w.heap.size + 2) 57 (u8s (wB st k) ++ (u8s (List.replicate 4 0) ++ u8s (List.replicate (64 - 4 * (k + 1)) 0))) ∧ Kept (fun b => b = w.heap.size + 2) w3 wd) := by rw [← hwd]; exact ⟨X0.out.drew, HK.out.drew⟩
      clear X0 HK
      refine wp_region_noPanic (wp_region_any (by kernel_rfl) ?_)
      change wpAny _ _ _ _ _ _ _ wr.drew
      rw [hwd]
      clear hwd
      refine take_op 0 (some 11) (.int .i64 k) rfl rfl (by kernel_rfl) (by kernel_rfl) (by kernel_rfl) (fun _ _ _ h => h) (by rfl) (fun _ => by rfl) ?_
      simp only [Act.put, List.setIfInBounds_toArray, List.set_cons_zero, List.set_cons_succ]
      refine take_op 1 (some 12) (.int .i64 J) rfl rfl (by kernel_rfl) (by kernel_rfl) (by kernel_rfl) (fun _ _ _ h => h) (by rfl) (fun _ => by go_simp) ?_
      simp only [Act.put, List.setIfInBounds_toArray, List.set_cons_zero, List.set_cons_succ]
      refine take_op 2 (some 13) (.slice (some ⟨w.heap.size + 1 + 1, J, none⟩) (64 - J) (64 - J)) rfl rfl (by kernel_rfl) (by kernel_rfl) (by kernel_rfl) (fun _ _ _ h => h) (by rfl) (fun _ => by go_simp; omega) ?_
      simp only [Act.put, List.setIfInBounds_toArray, List.set_cons_zero, List.set_cons_succ]
      refine take_op 3 (some 14) (.int .u32 x) rfl rfl (by kernel_rfl) (by kernel_rfl) (by kernel_rfl) (fun _ _ _ h => h) (by rfl) (fun _ => by rfl) ?_
      simp only [Act.put, List.setIfInBounds_toArray, List.set_cons_zero, List.set_cons_succ]
      refine wpAny_ready (rs := [4]) (by kernel_rfl) (by simp) (AllReady.cons rfl (fun K hK => ?_) AllReady.nil)
      go_simp
      go_wp2_with (go_at_call 34; refine (put_32 none 0 0 [] x _ (Seen.empty _ _) (fun _ => rfl) (by omega) hx).mono ?_; rintro e w4 ⟨v, rfl, ho, l4⟩; obtain ⟨vo, vc, rfl, sv, hv⟩ := own_seen (zs := leB 4 x) (leB_length _ _) (leB_bytes _ _) (by decide) (by simpa using ho))
      have q2 := l4.size
      have Y1 : Hid (Blk w4 (w.heap.size + 2) 57 (u8s (wB st k) ++ (u8s (List.replicate 4 0) ++ u8s (List.replicate (64 - 4 * (k + 1)) 0))) ∧ Kept (fun b => b = w.heap.size + 2) w3 w4) :=
        ⟨Y0.out.1.later l4 Y0.out.1.lt, Y0.out.2.trans (Kept.new _ l4)⟩
      refine wpAny_ready (rs := [5]) (by kernel_rfl) (by simp) (AllReady.cons rfl (fun K hK => ?_) AllReady.nil)
      refine step_copy_seen rfl (.tmp 13) (.tmp 15) rfl (w.heap.size + 1 + 1) J (64 - J) (64 - J) (some ⟨w.heap.size + 1 + 1, J, none⟩) vo 4 vc rfl rfl (leB 4 x) sv 57 (u8s (wB st k)) (u8s (List.replicate 4 0)) (u8s (List.replicate (64 - 4 * (k + 1)) 0)) Y1.out.1 (by rw [u8s_length, X1.out.1, HJ.out]) 4 (Nat.min_eq_left (by omega)) (by rw [u8s_length, List.length_replicate]) (fun _ => rfl) (some 16) rfl ?_
      intro w6 b6 s6 k6
      refine hK _ _ ?_
      clear hK K
      have Y2 : Hid (Blk w6 (w.heap.size + 2) 57 (u8s (wB st (k + 1) ++ List.replicate (64 - 4 * (k + 1)) 0)) ∧ Kept (fun b => b = w.heap.size + 2) w3 w6) := by
        refine ⟨?_, Y1.out.2.trans k6⟩
        rw [List.take_of_length_le (by rw [leB_length]; exact Nat.le_refl _)] at b6
        rw [X1.out.2]
        simpa [u8s] using b6
      clear b6 s6 k6 sv hv ho l4
      refine wpAny_done (by kernel_rfl) (NoPanic.normal ?_) _
      simp only [Act.put, List.setIfInBounds_toArray, List.set_cons_zero, List.set_cons_succ]
      go_wp2_with fail
      exact ⟨⟨k + 1, by omega, by go_num, Y2.out⟩, by simp [intOf]; omega⟩
    · obtain rfl : k = 16 := by omega
      rw [show ((16 : Nat) : Int) = 16 from rfl]
      rw [show 64 - 4 * 16 = 0 from rfl, List.replicate_zero, List.append_nil] at hb
      have X3 : Hid (Blk wr (w.heap.size + 2) 57 (u8s (wB st 16))) := hb
      have X4 : Hid (Blk wr (w.heap.size + 1) 57 (u8s (List.replicate 64 0))) := HB.out.1.kept hkp (by omega)
      have X5 : Hid (Below w.heap.size w wr) := below_kept HB.out.2.2 hkp (by omega) (fun j hj => by omega)
      have X6 : Hid ((u8s (wB st 16)).length = 64) := by show _ = _; rw [u8s_length, wB_length st 16 (by have := HS.out; omega)]
      clear hb hkp
      rw [show w.heap.size + 1 + 1 = w.heap.size + 2 from rfl]
      go_wp2_with (first | (refine wpList_load_blk rfl 57 _ rfl _ rfl (u8s (wB st 16)) _ X3.out Try.underlying57 rfl (by rw [X6.out]; exact size64b) ?_) | (refine wpList_store_blk rfl 57 57 _ _ rfl _ rfl _ (u8s (wB st 16)) rfl X4.out (by rw [X6.out, u8s_length, List.length_replicate]) (by rw [X6.out]; exact size64b) (u8s_one _) ?_; intro w5 b5 s5 k5))
      exact ret_blk rfl (w.heap.size + 1) (u8s (wB st 16)) _ rfl b5 Try.underlying57 rfl (by rw [X6.out]; exact size64b) rfl ⟨rfl, below_kept X5.out k5 X5.out.size (fun j hj => by omega)⟩
end Go.Proofs.Ytpjnimmclncdoaa
