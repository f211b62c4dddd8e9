/- Layer digest: Sum of a hash. -/
import Derived.Test.YtiimjhahblmggaaDoorDPad
namespace Go.Proofs.YtiimjhahblmggaaDoor
open Go.RowKit
set_option linter.unusedVariables false
set_option linter.unusedSimpArgs false
theorem padF_length (st bl : List Int) (sz : Int) (F : Nat) (hs : st.length = 8) : (padF st bl sz F).length = 8 := by
  unfold padF
  split
  · exact mixF_length _ _ (mixF_length _ _ hs)
  · exact mixF_length _ _ hs
set_option maxRecDepth 20000 in
set_option maxHeartbeats 1000000 in
theorem sum_any (g : Nat) (st bl : List Int) (sz : Int) (F : Nat) (hF : sz % 64 = F) (w : World) (h : HashAt w g st bl sz) (hz : 0 ≤ sz) (hK : KTab w) :
    Calls Tryd.prog 48 #[.pointer (some ⟨g, 0, none⟩)] w fun e w' => e = .returned (.agg (u8s (bytesF (padF st bl sz F) 32)).toArray) ∧ Below w.heap.size w w' := by
  have HH : Hid (HashAt w g st bl sz) := h
  have HC : Hid ((hcells st bl sz).length = 73) := hcells_length _ _ _ h.st8 h.bl64
  have HZ : Hid (0 ≤ sz) := hz
  have HF : Hid (sz % 64 = F) := hF
  have HK : Hid (KTab w) := hK
  have HP : Hid ((padF st bl sz F).length = 8) := padF_length _ _ _ _ h.st8
  clear h hz hF hK
  go_enter Tryd.func48, Tryd.ntmps48
  go_wp2_with (first | (refine wpList_alloc_new rfl 28 rfl 32 _ zeroAH ?_; intro w1 b1 s1 l1) | (refine wpList_load_blk rfl 87 _ rfl _ rfl (hcells st bl sz) _ (HH.out.later l1 HH.out.lt).blk Tryd.underlying87 rfl (by rw [HC.out]; exact sizeHash) ?_) | (refine wpList_alloc_new rfl 87 rfl 73 _ zeroHash ?_; intro w2 b2 s2 l2) | (refine wpList_store_blk rfl 87 87 _ _ rfl _ rfl _ (hcells st bl sz) rfl b2 (by rw [HC.out, hcells_length _ _ _ (by simp) (zer_length _)]) (by rw [HC.out]; exact sizeHash) (hcells_one _ _ _) ?_; intro w3 b3 s3 k3; have H3 : Hid (HashAt w3 w1.heap.size st bl sz ∧ KTab w3 ∧ 0 < w1.heap.size) := ⟨⟨b3, HH.out.st8, HH.out.bl64⟩, ((HK.out.below l1 HK.out.lt).below l2 (by have := HK.out.lt; omega)).kept k3 (by have := HK.out.lt; omega), by omega⟩) | (go_at_call 57; refine (pad_any _ st bl sz F HF.out _ (by first | exact H3.out.1 | (rw [← s1]; exact H3.out.1)) HZ.out H3.out.2.1 (by omega)).mono ?_; rintro e w4 ⟨rfl, h4, k4⟩) | (refine wpList_load_mid rfl 79 _ rfl _ 0 rfl (u32s (padF st bl sz F)) _ h4.words Tryd.underlying79 rfl (by rw [u32s_length, HP.out]; exact size8w) ?_) | (go_at_call 58; refine (bytesOf_any _ HP.out _).mono ?_; rintro e w5 ⟨rfl, l5⟩; have B5 : Hid (Blk w5 w.heap.size 28 (u8s (zer 32)) ∧ Below w.heap.size w w5) := ⟨((((b1.later l2 (by omega)).kept k3 (by omega)).kept k4 (by omega)).later l5 (by have := k4.size; omega)), below_chain (below_kept (below_kept (below_chain l1 l2 (by omega)) k3 (by omega) (fun j hj => by omega)) k4 (by omega) (fun j hj => by omega)) l5 (by have := k4.size; omega)⟩) | (refine wpList_store_blk rfl 28 28 _ _ rfl _ rfl _ (u8s (bytesF (padF st bl sz F) 32)) rfl B5.out.1 (by rw [u8s_length, bytesF_length, u8s_length, zer_length]) (by rw [u8s_length, bytesF_length]; exact sizeAH) (u8s_one _) ?_; intro w6 b6 s6 k6))
  exact ret_blk rfl w.heap.size (u8s (bytesF (padF st bl sz F) 32)) _ rfl b6 Tryd.underlying28 rfl (by rw [u8s_length, bytesF_length]; exact sizeAH) rfl ⟨rfl, below_kept B5.out.2 k6 B5.out.2.size (fun j hj => by omega)⟩
end Go.Proofs.YtiimjhahblmggaaDoor
