/- Layer stream: the state: with, begin, plus, bytesOf, stirred. -/
import Derived.Test.YtpjnimmclncdoaaSState
import Derived.Test.YtpjnimmclncdoaaSCopy
import Derived.Test.YtpjnimmclncdoaaSHeld
namespace Go.Proofs.Ytpjnimmclncdoaa
open Go.RowKit
set_option linter.unusedVariables false
set_option linter.unusedSimpArgs false

theorem sizeKey : (Try.prog.info? 23).map (·.size) = some 32 := by kernel_rfl
theorem sizeNonce : (Try.prog.info? 25).map (·.size) = some 12 := by kernel_rfl
def beg0 : List Int := fixW ++ List.replicate 12 0
def beg1 (key : List Int) : List Int := beg0.take 4 ++ (wds key 8 ++ beg0.drop (4 + 8))
def beg2 (key : List Int) (ctr : Int) : List Int := (beg1 key).set 12 ctr
theorem beg1_length (key : List Int) : (beg1 key).length = 16 := by simp [beg1, beg0, fixW, wds_length]
theorem beg2_length (key : List Int) (ctr : Int) : (beg2 key ctr).length = 16 := by simp [beg2, beg1_length]
theorem list8 (l : List Int) (h : l.length = 8) : ∃ a b c d e f g h, l = [a, b, c, d, e, f, g, h] := by
  match l, h with
  | [a, b, c, d, e, f, g, h], _ => exact ⟨a, b, c, d, e, f, g, h, rfl⟩
theorem beg3_eq (key : List Int) (ctr : Int) (nonce : List Int) : (beg2 key ctr).take 13 ++ (wds nonce 3 ++ (beg2 key ctr).drop (13 + 3)) = begW key ctr nonce := by
  obtain ⟨a, b, c, d, e, f, g, h, hl⟩ := list8 (wds key 8) (wds_length _ _)
  simp [beg2, beg1, beg0, begW, fixW, hl]
theorem build0 (w : World) : (Instr.build 68 #[(0, .int .u32 1634760805), (1, .int .u32 857760878), (2, .int .u32 2036477234), (3, .int .u32 1797285236)]).run Try.prog w = .ok (.agg (u32s beg0).toArray) w := by kernel_rfl
set_option maxRecDepth 20000 in
set_option maxHeartbeats 1000000 in
theorem begin_any (key : List Int) (ctr : Int) (nonce : List Int) (hk : key.length = 32) (hn : nonce.length = 12) (hkb : Bytes key) (hnb : Bytes nonce) (w : World) :
    Calls Try.prog 26 #[.agg (u8s key).toArray, .int .u32 ctr, .agg (u8s nonce).toArray] w fun e w' => e = .returned (.agg (u32s (begW key ctr nonce)).toArray) ∧ Below w.heap.size w w' := by
  have HS : Hid (key.length = 32 ∧ nonce.length = 12 ∧ Bytes key ∧ Bytes nonce) := ⟨hk, hn, hkb, hnb⟩
  clear hk hn hkb hnb
  go_enter Try.func26, Try.ntmps26
  go_wp2_with (first | (refine wpList_box_new rfl 23 _ rfl (u8s key) rfl ?_; intro w1 b1 s1 l1) | (refine wpList_box_new rfl 25 _ rfl (u8s nonce) rfl ?_; intro w2 b2 s2 l2) | ((with_reducible show wpList _ _ _ _ _ w2); refine wpList_alloc_new rfl 68 rfl 16 _ zeroSt ?_; intro w3 b3 s3 l3) | (refine wpList_build rfl 68 _ rfl _ rfl _ (build0 _) ?_) | (refine wpList_alloc_new rfl 68 rfl 16 _ zeroSt ?_; intro w4 b4 s4 l4) | (refine wpList_store_blk rfl 68 68 _ _ rfl _ rfl _ (u32s beg0) rfl b4 (by rw [u32s_length, u32s_length]; rfl) (by rw [u32s_length]; exact sizeSt) (u32s_one _) ?_; intro w5 b5 s5 k5))
  simp only [Act.put, List.setIfInBounds_toArray, List.set_cons_zero, List.set_cons_succ]
  obtain ⟨G, hG⟩ : ∃ G, w3.heap.size = G := ⟨_, rfl⟩
  rw [hG] at b5 k5 ⊢
  have HB : Hid (Blk w5 G 68 (u32s beg0) ∧ Blk w5 w.heap.size 23 (u8s key) ∧ Blk w5 (w.heap.size + 1) 25 (u8s nonce) ∧ Blk w5 (w.heap.size + 2) 68 (u32s (List.replicate 16 0)) ∧ Below w.heap.size w w5) := by
    rw [s1] at b2
    rw [s2, s1] at b3
    exact ⟨b5, (((b1.later l2 (by omega)).later l3 (by omega)).later l4 (by omega)).kept k5 (by omega), ((b2.later l3 (by omega)).later l4 (by omega)).kept k5 (by omega), (b3.later l4 (by omega)).kept k5 (by omega), below_kept (below_chain (below_chain (below_chain l1 l2 (by omega)) l3 (by omega)) l4 (by omega)) k5 (by omega) (fun j hj => by omega)⟩
  have gG : G = w.heap.size + 3 := by omega
  have g5 : w5.heap.size = w.heap.size + 4 := by omega
  have HG : Hid (G = w.heap.size + 3 ∧ w5.heap.size = w.heap.size + 4) := ⟨gG, g5⟩
  clear b1 s1 l1 b2 s2 l2 b3 s3 l3 b4 s4 l4 b5 s5 k5 hG gG g5
  refine wp_region_noPanic (till_region 3 (fun W => W.rangeAt G 0 (u32s beg0)) (by kernel_rfl) ?_)
  change wpTill _ _ _ _ _ _ _ _ w5.drew
  have RG : Hid (w5.drew.rangeAt G 0 (u32s beg0)) := fun j v hv => by rw [Nat.zero_add, HB.out.1.drew.cell]; exact hv
  refine tLoadMid 0 (some 9) (u32s beg0) rfl rfl (by kernel_rfl) (by kernel_rfl) (by kernel_rfl) (by decide) (by kernel_rfl) (by kernel_rfl) (fun _ _ _ h => h) (by rfl) 68 (.tmp 7) rfl G 0 rfl _ (fun _ h => h) Try.underlying68 rfl (by rw [u32s_length, show beg0.length = 16 from rfl]; exact sizeSt) RG.out ?_
  simp only [Act.put, List.setIfInBounds_toArray, List.set_cons_zero, List.set_cons_succ]
  refine tTake 2 (some 11) (.slice (some ⟨w.heap.size, 0, none⟩) 32 32) rfl rfl (by kernel_rfl) (by kernel_rfl) (by kernel_rfl) (by decide) (fun _ _ _ h => h) (by rfl) (fun _ => by go_simp) RG.out ?_
  simp only [Act.put, List.setIfInBounds_toArray, List.set_cons_zero, List.set_cons_succ]
  refine till_ready 1 (by kernel_rfl) rfl (fun K hK => ?_)
  go_simp
  go_wp2_with (go_at_call 33; refine (cell_any 1 0 (by decide) (by decide) _).mono ?_; rintro e w' ⟨rfl, rfl⟩)
  refine ⟨RG.out, till_at (by kernel_rfl) ?_⟩
  refine wpAny_ready (rs := [3]) (by kernel_rfl) (by simp) (AllReady.cons rfl (fun K hK => ?_) AllReady.nil)
  go_simp
  have SK : Hid (Seen w5.drew (some ⟨w.heap.size, 0, none⟩) 32 key) := by
    have := seen_blk HB.out.2.1.drew HS.out.2.2.1 (by have := HS.out.1; omega)
    rwa [HS.out.1] at this
  go_wp2_with (go_at_call 32; refine (with_any beg0 rfl 4 8 32 (by decide) rfl _ 32 key _ SK.out (by decide)).mono ?_; rintro e w6 ⟨rfl, l6⟩)
  have l6' : Below w5.heap.size w5 w6 := ⟨l6.os, l6.tape, l6.output, l6.size, l6.block⟩
  obtain ⟨S1, hS1⟩ : ∃ x, beg0.take 4 ++ (wds key 8 ++ beg0.drop (4 + 8)) = x := ⟨_, rfl⟩
  rw [hS1]
  have E1 : Hid (S1 = beg1 key ∧ S1.length = 16) := by rw [← hS1]; exact ⟨rfl, beg1_length key⟩
  have HC : Hid (Blk w6 G 68 (u32s beg0) ∧ Blk w6 (w.heap.size + 1) 25 (u8s nonce) ∧ Blk w6 (w.heap.size + 2) 68 (u32s (List.replicate 16 0)) ∧ Below w.heap.size w w6 ∧ w.heap.size + 4 ≤ w6.heap.size) := by
    have := HG.out.1
    have := HG.out.2
    have := l6'.size
    exact ⟨HB.out.1.later l6' (by omega), HB.out.2.2.1.later l6' (by omega), HB.out.2.2.2.1.later l6' (by omega), below_chain HB.out.2.2.2.2 l6' (by omega), by omega⟩
  clear l6 l6' hS1 SK RG HB
  have HT : w6.there G 0 (u32s S1).length := HC.out.1.there (by rw [u32s_length, E1.out.2, u32s_length]; decide)
  have u4 : (Try.prog.info? 68).map (·.size) = some (u32s S1).length := by rw [u32s_length, E1.out.2]; exact sizeSt
  have HD : Hid (Blk (w6.setCells G 0 (u32s S1)) G 68 (u32s S1) ∧ Kept (fun k => k = G) w6 (w6.setCells G 0 (u32s S1))) := by
    refine ⟨?_, (Kept.refl (fun k => k = G) _).setCells (S := fun k => k = G) rfl _ _⟩
    have := Blk.setCells (xs := []) (zs := []) (u32s S1) (u32s beg0) (by rw [u32s_length, E1.out.2, u32s_length]; rfl) (by simpa using HC.out.1)
    simpa using this
  refine one_step 4 rfl (by kernel_rfl) (fun K h => step_store rfl (by rfl) 68 (.tmp 7) (.tmp 12) rfl G 0 rfl (u32s S1) rfl HT u4 (u32s_one _) h) ?_
  obtain ⟨w7, hw7⟩ : ∃ x, w6.setCells G 0 (u32s S1) = x := ⟨_, rfl⟩
  rw [hw7] at HD ⊢
  clear hw7 HT u4
  refine wpAny_done (by kernel_rfl) (NoPanic.normal ?_) _
  have c12 := u32s_cell HD.out.1 12 (by have := E1.out.2; omega)
  have f12 := HD.out.1.frozen 12
  go_wp2_with (go_at_call 33; refine (cell_any 3 0 (by decide) (by decide) _).mono ?_; rintro e w' ⟨rfl, rfl⟩)
  obtain ⟨S2, hS2⟩ : ∃ x, S1.set 12 ctr = x := ⟨_, rfl⟩
  have E2 : Hid (S2 = beg2 key ctr ∧ S2.length = 16) := by
    have h := beg2_length key ctr
    rw [← hS2, E1.out.1]; exact ⟨rfl, h⟩
  have HE : Hid (Blk (w7.setCell ⟨G, 12, none⟩ (.int .u32 ctr)) G 68 (u32s S2) ∧ Kept (fun k => k = G) w6 (w7.setCell ⟨G, 12, none⟩ (.int .u32 ctr))) := by
    refine ⟨?_, HD.out.2.setCell rfl _⟩
    rw [← hS2, ← u32s_set]; exact HD.out.1.set _ _
  obtain ⟨w8, hw8⟩ : ∃ x, w7.setCell ⟨G, 12, none⟩ (.int .u32 ctr) = x := ⟨_, rfl⟩
  rw [hw8] at HE ⊢
  have HF : Hid (Blk w8 G 68 (u32s S2) ∧ Blk w8 (w.heap.size + 1) 25 (u8s nonce) ∧ Blk w8 (w.heap.size + 2) 68 (u32s (List.replicate 16 0)) ∧ Below w.heap.size w w8 ∧ w.heap.size + 4 ≤ w8.heap.size) := by
    have := HG.out.1
    have := HE.out.2.size
    have := HC.out.2.2.2.2
    exact ⟨HE.out.1, HC.out.2.1.kept HE.out.2 (by omega), HC.out.2.2.1.kept HE.out.2 (by omega), below_kept HC.out.2.2.2.1 HE.out.2 (by omega) (fun j hj => by omega), by omega⟩
  clear hS2 hw8 HD HE HC c12 f12
  refine wp_region_noPanic (till_region 3 (fun W => W.rangeAt G 0 (u32s S2)) (by kernel_rfl) ?_)
  change wpTill _ _ _ _ _ _ _ _ w8.drew
  have RG : Hid (w8.drew.rangeAt G 0 (u32s S2)) := fun j v hv => by rw [Nat.zero_add, HF.out.1.drew.cell]; exact hv
  refine tLoadMid 0 (some 16) (u32s S2) rfl rfl (by kernel_rfl) (by kernel_rfl) (by kernel_rfl) (by decide) (by kernel_rfl) (by kernel_rfl) (fun _ _ _ h => h) (by rfl) 68 (.tmp 7) rfl G 0 rfl _ (fun _ h => h) Try.underlying68 rfl (by rw [u32s_length, E2.out.2]; exact sizeSt) RG.out ?_
  simp only [Act.put, List.setIfInBounds_toArray, List.set_cons_zero, List.set_cons_succ]
  refine tTake 2 (some 18) (.slice (some ⟨w.heap.size + 1, 0, none⟩) 12 12) rfl rfl (by kernel_rfl) (by kernel_rfl) (by kernel_rfl) (by decide) (fun _ _ _ h => h) (by rfl) (fun _ => by go_simp) RG.out ?_
  simp only [Act.put, List.setIfInBounds_toArray, List.set_cons_zero, List.set_cons_succ]
  refine till_ready 1 (by kernel_rfl) rfl (fun K hK => ?_)
  go_simp
  go_wp2_with (go_at_call 33; refine (cell_any 3 1 (by decide) (by decide) _).mono ?_; rintro e w' ⟨rfl, rfl⟩)
  refine ⟨RG.out, till_at (by kernel_rfl) ?_⟩
  refine wpAny_ready (rs := [3]) (by kernel_rfl) (by simp) (AllReady.cons rfl (fun K hK => ?_) AllReady.nil)
  go_simp
  have SK : Hid (Seen w8.drew (some ⟨w.heap.size + 1, 0, none⟩) 12 nonce) := by
    have := seen_blk HF.out.2.1.drew HS.out.2.2.2 (by have := HS.out.2.1; omega)
    rwa [HS.out.2.1] at this
  go_wp2_with (go_at_call 32; refine (with_any S2 E2.out.2 13 3 12 (by decide) rfl _ 12 nonce _ SK.out (by decide)).mono ?_; rintro e w9 ⟨rfl, l9⟩)
  have l9' : Below w8.heap.size w8 w9 := ⟨l9.os, l9.tape, l9.output, l9.size, l9.block⟩
  rw [E2.out.1, beg3_eq]
  have HC : Hid (Blk w9 (w.heap.size + 1 + 1) 68 (u32s (List.replicate 16 0)) ∧ Below w.heap.size w w9 ∧ w.heap.size + 4 ≤ w9.heap.size) := by
    have := l9'.size
    have := HF.out.2.2.2.2
    exact ⟨HF.out.2.2.1.later l9' (by omega), below_chain HF.out.2.2.2.1 l9' (by omega), by omega⟩
  clear l9 l9' SK RG HF
  obtain ⟨S3, hS3⟩ : ∃ x, begW key ctr nonce = x := ⟨_, rfl⟩
  have E3 : Hid (S3.length = 16) := by rw [← hS3]; exact begW_length _ _ _
  rw [hS3]
  have HT : w9.there (w.heap.size + 1 + 1) 0 (u32s S3).length := HC.out.1.there (by rw [u32s_length, E3.out, u32s_length]; decide)
  have u4 : (Try.prog.info? 68).map (·.size) = some (u32s S3).length := by rw [u32s_length, E3.out]; exact sizeSt
  have HD : Hid (Blk (w9.setCells (w.heap.size + 1 + 1) 0 (u32s S3)) (w.heap.size + 1 + 1) 68 (u32s S3) ∧ Kept (fun k => k = w.heap.size + 1 + 1) w9 (w9.setCells (w.heap.size + 1 + 1) 0 (u32s S3))) := by
    refine ⟨?_, (Kept.refl (fun k => k = w.heap.size + 1 + 1) _).setCells (S := fun k => k = w.heap.size + 1 + 1) rfl _ _⟩
    have := Blk.setCells (xs := []) (zs := []) (u32s S3) (u32s (List.replicate 16 0)) (by rw [u32s_length, E3.out, u32s_length]; rfl) (by simpa using HC.out.1)
    simpa using this
  refine one_step 4 rfl (by kernel_rfl) (fun K h => step_store rfl (by rfl) 68 (.tmp 6) (.tmp 19) rfl (w.heap.size + 1 + 1) 0 rfl (u32s S3) rfl HT u4 (u32s_one _) h) ?_
  obtain ⟨wa, hwa⟩ : ∃ x, w9.setCells (w.heap.size + 1 + 1) 0 (u32s S3) = x := ⟨_, rfl⟩
  rw [hwa] at HD ⊢
  have HZ : Hid (begW key ctr nonce = S3) := hS3
  clear hwa HT u4 hS3
  refine wpAny_done (by kernel_rfl) (NoPanic.normal ?_) _
  go_wp2_with fail
  exact ret_blk rfl (w.heap.size + 1 + 1) (u32s S3) _ rfl HD.out.1 Try.underlying68 rfl (by rw [u32s_length, E3.out]; exact sizeSt) rfl ⟨by rw [HZ.out], below_kept HC.out.2.1 HD.out.2 (by have := HC.out.2.2; omega) (fun j hj => by omega)⟩
end Go.Proofs.Ytpjnimmclncdoaa
