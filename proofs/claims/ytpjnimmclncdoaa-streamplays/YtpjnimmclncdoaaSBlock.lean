/- Layer stream: Block. -/
import Derived.Test.YtpjnimmclncdoaaSBytes
import Derived.Test.YtpjnimmclncdoaaSBegin
import Derived.Test.YtpjnimmclncdoaaSStir
namespace Go.Proofs.Ytpjnimmclncdoaa
open Go.RowKit
set_option linter.unusedVariables false
set_option linter.unusedSimpArgs false

theorem addW_words (xs ys : List Int) : ∀ z ∈ addW xs ys, 0 ≤ z ∧ z < 4294967296 := by
  intro z hz
  simp only [addW, List.mem_iff_getElem] at hz
  obtain ⟨i, hi, rfl⟩ := hz
  simp only [List.getElem_zipWith]
  omega
set_option maxRecDepth 20000 in
set_option maxHeartbeats 1000000 in
theorem block_any (key : List Int) (ctr : Int) (nonce : List Int) (hk : key.length = 32) (hn : nonce.length = 12) (hkb : Bytes key) (hnb : Bytes nonce) (w : World) :
    Calls Try.prog 20 #[.agg (u8s key).toArray, .int .u32 ctr, .agg (u8s nonce).toArray] w fun e w' => e = .returned (.agg (u8s (blkB key ctr nonce)).toArray) ∧ Below w.heap.size w w' := by
  have HS : Hid (key.length = 32 ∧ nonce.length = 12 ∧ Bytes key ∧ Bytes nonce) := ⟨hk, hn, hkb, hnb⟩
  clear hk hn hkb hnb
  have HL : Hid ((begW key ctr nonce).length = 16) := begW_length _ _ _
  obtain ⟨S, hS⟩ : ∃ x, begW key ctr nonce = x := ⟨_, rfl⟩
  rw [hS] at HL
  have HZ : Hid (begW key ctr nonce = S) := hS
  go_enter Try.func20, Try.ntmps20
  go_wp2_with (first | (refine wpList_box_new rfl 23 _ rfl (u8s key) rfl ?_; intro w1 b1 s1 l1) | (refine wpList_box_new rfl 25 _ rfl (u8s nonce) rfl ?_; intro w2 b2 s2 l2) | (refine wpList_alloc_new rfl 57 rfl 64 _ zero64b ?_; intro w3 b3 s3 l3; have K3 : Hid (Blk w3 w.heap.size 23 (u8s key) ∧ Blk w3 w1.heap.size 25 (u8s nonce)) := ⟨(b1.later l2 (by omega)).later l3 (by omega), b2.later l3 (by omega)⟩) | (refine wpList_load_blk rfl 23 _ rfl _ rfl (u8s key) _ K3.out.1 Try.underlying23 rfl (by rw [u8s_length, HS.out.1]; exact sizeKey) ?_) | (refine wpList_load_blk rfl 25 _ rfl _ rfl (u8s nonce) _ (by first | exact K3.out.2 | (rw [← s1]; exact K3.out.2)) Try.underlying25 rfl (by rw [u8s_length, HS.out.2.1]; exact sizeNonce) ?_) | (go_at_call 26; refine (begin_any key ctr nonce HS.out.1 HS.out.2.1 HS.out.2.2.1 HS.out.2.2.2 _).mono ?_; rintro e w4 ⟨rfl, l4⟩; rw [hS]) | (refine wpList_alloc_new rfl 68 rfl 16 _ zeroSt ?_; intro w5 b5 s5 l5) | (refine wpList_store_blk rfl 68 68 _ _ rfl _ rfl _ (u32s S) rfl b5 (by rw [u32s_length, u32s_length, HL.out]; rfl) (by rw [u32s_length, HL.out]; exact sizeSt) (u32s_one _) ?_; intro w6 b6 s6 k6))
  simp only [Act.put, List.setIfInBounds_toArray, List.set_cons_zero, List.set_cons_succ]
  obtain ⟨G, hG⟩ : ∃ G, w4.heap.size = G := ⟨_, rfl⟩
  rw [hG] at b6 k6 ⊢
  have HB : Hid (Blk w6 G 68 (u32s S) ∧ Blk w6 (w.heap.size + 1 + 1) 57 (u8s (List.replicate 64 0)) ∧ Below w.heap.size w w6 ∧ w.heap.size + 3 ≤ G ∧ G < w6.heap.size) := by
    have q4 := l4.size
    rw [s2, s1] at b3
    exact ⟨b6, ((b3.later l4 (by omega)).later l5 (by omega)).kept k6 (by omega), below_kept (below_chain (below_chain (below_chain (below_chain l1 l2 (by omega)) l3 (by omega)) l4 (by omega)) l5 (by omega)) k6 (by omega) (fun j hj => by omega), by omega, by omega⟩
  clear b1 s1 l1 b2 s2 l2 b3 s3 l3 l4 b5 s5 l5 b6 s6 k6 hG K3 hS
  refine wp_region_noPanic (till_region 5 (fun W => W.rangeAt G 0 (u32s S)) (by kernel_rfl) ?_)
  change wpTill _ _ _ _ _ _ _ _ w6.drew
  have RS : Hid (∀ W, Below w6.heap.size w6 W → W.rangeAt G 0 (u32s S)) := fun W hW j v hv => by rw [Nat.zero_add, (HB.out.1.later hW HB.out.2.2.2.2).cell]; exact hv
  have RG : Hid (w6.drew.rangeAt G 0 (u32s S)) := RS.out _ (below_dn (Below.refl _ _) 1)
  refine tLoadMid 0 (some 12) (u32s S) rfl rfl (by kernel_rfl) (by kernel_rfl) (by kernel_rfl) (by decide) (by kernel_rfl) (by kernel_rfl) (fun _ _ _ h => h) (by rfl) 68 (.tmp 7) rfl G 0 rfl _ (fun _ h => h) Try.underlying68 rfl (by rw [u32s_length, HL.out]; exact sizeSt) RG.out ?_
  simp only [Act.put, List.setIfInBounds_toArray, List.set_cons_zero, List.set_cons_succ]
  refine tLoadMid 2 (some 14) (u32s S) rfl rfl (by kernel_rfl) (by kernel_rfl) (by kernel_rfl) (by decide) (by kernel_rfl) (by kernel_rfl) (fun _ _ _ h => h) (by rfl) 68 (.tmp 7) rfl G 0 rfl _ (fun _ h => h) Try.underlying68 rfl (by rw [u32s_length, HL.out]; exact sizeSt) RG.out ?_
  simp only [Act.put, List.setIfInBounds_toArray, List.set_cons_zero, List.set_cons_succ]
  refine till_ready 1 (by kernel_rfl) rfl (fun K hK => ?_)
  go_simp
  go_wp2_with (go_at_call 29; refine (stirred_any S HL.out _).mono ?_; rintro e w7 ⟨rfl, l7⟩)
  have L7 : Below w6.heap.size w6 w7 := ⟨l7.os, l7.tape, l7.output, l7.size, l7.block⟩
  refine ⟨RS.out _ L7, ?_⟩
  refine till_ready 3 (by kernel_rfl) rfl (fun K hK => ?_)
  go_simp
  go_wp2_with (go_at_call 28; refine (plus_any (stir S) S (by rw [stir_length]; exact HL.out) HL.out _).mono ?_; rintro e w8 ⟨rfl, l8⟩)
  have L8 := below_chain L7 l8 L7.size
  refine ⟨RS.out _ L8, ?_⟩
  have HA : Hid ((addW (stir S) S).length = 16) := addW_length _ _ 16 (by rw [stir_length]; exact HL.out) HL.out
  refine till_ready 4 (by kernel_rfl) rfl (fun K hK => ?_)
  go_simp
  go_wp2_with (go_at_call 27; refine (bytesOf_any (addW (stir S) S) HA.out (addW_words _ _) _).mono ?_; rintro e w9 ⟨rfl, l9⟩)
  have L9 := below_chain L8 l9 L8.size
  refine ⟨RS.out _ L9, till_at (by kernel_rfl) ?_⟩
  obtain ⟨O, hO⟩ : ∃ x, wB (addW (stir S) S) 16 = x := ⟨_, rfl⟩
  have E3 : Hid (O.length = 64 ∧ blkB key ctr nonce = O) := by rw [← hO]; exact ⟨wB_length _ 16 (by rw [HA.out]; decide), by rw [blkB, blkW, HZ.out]⟩
  rw [hO]
  have HC : Hid (Blk w9 (w.heap.size + 1 + 1) 57 (u8s (List.replicate 64 0)) ∧ Below w.heap.size w w9 ∧ w.heap.size + 3 ≤ w9.heap.size) := by
    have := L9.size
    have := HB.out.2.2.2
    exact ⟨HB.out.2.1.later L9 (by omega), below_chain HB.out.2.2.1 L9 (by omega), by omega⟩
  clear l7 l8 l9 L7 L8 L9 RS RG HB hO HA
  have HT : w9.there (w.heap.size + 1 + 1) 0 (u8s O).length := HC.out.1.there (by rw [u8s_length, E3.out.1, u8s_length]; decide)
  have u4 : (Try.prog.info? 57).map (·.size) = some (u8s O).length := by rw [u8s_length, E3.out.1]; exact size64b
  have HD : Hid (Blk (w9.setCells (w.heap.size + 1 + 1) 0 (u8s O)) (w.heap.size + 1 + 1) 57 (u8s O) ∧ Kept (fun k => k = w.heap.size + 1 + 1) w9 (w9.setCells (w.heap.size + 1 + 1) 0 (u8s O))) := by
    refine ⟨?_, (Kept.refl (fun k => k = w.heap.size + 1 + 1) _).setCells (S := fun k => k = w.heap.size + 1 + 1) rfl _ _⟩
    have := Blk.setCells (xs := []) (zs := []) (u8s O) (u8s (List.replicate 64 0)) (by rw [u8s_length, E3.out.1, u8s_length]; rfl) (by simpa using HC.out.1)
    simpa using this
  refine one_step 5 rfl (by kernel_rfl) (fun K h => step_store rfl (by rfl) 57 (.tmp 6) (.tmp 16) rfl (w.heap.size + 1 + 1) 0 rfl (u8s O) rfl HT u4 (u8s_one _) h) ?_
  obtain ⟨wa, hwa⟩ : ∃ x, w9.setCells (w.heap.size + 1 + 1) 0 (u8s O) = x := ⟨_, rfl⟩
  rw [hwa] at HD ⊢
  clear hwa HT u4
  refine wpAny_done (by kernel_rfl) (NoPanic.normal ?_) _
  go_wp2_with fail
  exact ret_blk rfl (w.heap.size + 1 + 1) (u8s O) _ rfl HD.out.1 Try.underlying57 rfl (by rw [u8s_length, E3.out.1]; exact size64b) rfl ⟨by rw [E3.out.2], below_kept HC.out.2.1 HD.out.2 (by have := HC.out.2.2; omega) (fun j hj => by omega)⟩
end Go.Proofs.Ytpjnimmclncdoaa
