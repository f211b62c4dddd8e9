/- Joined by program: what the theorem reaches. -/
import Derived.Lib.Mul64
import Derived.Shelf.Spec.BitsCarry
import Derived.Shelf.Bits.Mul64
import Derived.Test.YtpanagghppdiiaaGreatJA
import Derived.Test.YtpanagghppdiiaaGreatJB
import Derived.Test.YtpanagghppdiiaaGreatJC
namespace Go.Proofs.YtpanagghppdiiaaGreat
open Go.RowKit
set_option linter.unusedVariables false
set_option linter.unusedSimpArgs false
set_option maxRecDepth 20000
set_option maxHeartbeats 4000000
theorem sizeKey : (Tryz.prog.info? 30).map (·.size) = some 32 := by kernel_rfl
theorem sizeNonce : (Tryz.prog.info? 95).map (·.size) = some 12 := by kernel_rfl
def beg0 : List Int := fixW ++ List.replicate 12 0
def beg1 (key : List Int) : List Int := beg0.take 4 ++ (wds key 8 ++ beg0.drop (4 + 8))
def beg2 (key : List Int) (ctr : Int) : List Int := (beg1 key).set 12 ctr
theorem beg1_length (key : List Int) : (beg1 key).length = 16 := by simp [beg1, beg0, fixW, wds_length]
theorem beg2_length (key : List Int) (ctr : Int) : (beg2 key ctr).length = 16 := by simp [beg2, beg1_length]
theorem list8 (l : List Int) (h : l.length = 8) : ∃ a b c d e f g h, l = [a, b, c, d, e, f, g, h] := by
 match l, h with
 | [a, b, c, d, e, f, g, h], _ => exact ⟨a, b, c, d, e, f, g, h, rfl⟩
theorem beg3_eq (key : List Int) (ctr : Int) (nonce : List Int) : (beg2 key ctr).take 13 ++ (wds nonce 3 ++ (beg2 key ctr).drop (13 + 3)) = begW key ctr nonce := by
 obtain ⟨a, b, c, d, e, f, g, h, hl⟩ := list8 (wds key 8) (wds_length _ _)
 simp [beg2, beg1, beg0, begW, fixW, hl]
theorem build0 (w : World) : (Instr.build 226 #[(0, .int .u32 1634760805), (1, .int .u32 857760878), (2, .int .u32 2036477234), (3, .int .u32 1797285236)]).run Tryz.prog w = .ok (.agg (u32s beg0).toArray) w := by kernel_rfl
theorem begin_any (key : List Int) (ctr : Int) (nonce : List Int) (hk : key.length = 32) (hn : nonce.length = 12) (hkb : Bytes key) (hnb : Bytes nonce) (w : World) :
  Calls Tryz.prog 149 #[.agg (u8s key).toArray, .int .u32 ctr, .agg (u8s nonce).toArray] w fun e w' => e = .returned (.agg (u32s (begW key ctr nonce)).toArray) ∧ Below w.heap.size w w' := by
 have HS : Hid (key.length = 32 ∧ nonce.length = 12 ∧ Bytes key ∧ Bytes nonce) := ⟨hk, hn, hkb, hnb⟩
 clear hk hn hkb hnb
 go_enter Tryz.func149, Tryz.ntmps149
 go_wp2_with (first | (refine wpList_box_new rfl 30 _ rfl (u8s key) rfl ?_; intro w1 b1 s1 l1) | (refine wpList_box_new rfl 95 _ rfl (u8s nonce) rfl ?_; intro w2 b2 s2 l2) | ((with_reducible show wpList _ _ _ _ _ w2); refine wpList_alloc_new rfl 226 rfl 16 _ zeroSt ?_; intro w3 b3 s3 l3) | (refine wpList_build rfl 226 _ rfl _ rfl _ (build0 _) ?_) | (refine wpList_alloc_new rfl 226 rfl 16 _ zeroSt ?_; intro w4 b4 s4 l4) | (refine wpList_store_blk rfl 226 226 _ _ rfl _ rfl _ (u32s beg0) rfl b4 (by rw [u32s_length, u32s_length]; rfl) (by rw [u32s_length]; exact sizeSt) (u32s_one _) ?_; intro w5 b5 s5 k5))
 simp only [Act.put, sqA, sqB, sqC]
 obtain ⟨G, hG⟩ : ∃ G, w3.heap.size = G := ⟨_, rfl⟩
 rw [hG] at b5 k5 ⊢
 have HB : Hid (Blk w5 G 226 (u32s beg0) ∧ Blk w5 w.heap.size 30 (u8s key) ∧ Blk w5 (w.heap.size + 1) 95 (u8s nonce) ∧ Blk w5 (w.heap.size + 2) 226 (u32s (List.replicate 16 0)) ∧ Below w.heap.size w w5) := by
  rw [s1] at b2
  rw [s2, s1] at b3
  exact ⟨b5, (((b1.later l2 (by omega)).later l3 (by omega)).later l4 (by omega)).kept k5 (by omega), ((b2.later l3 (by omega)).later l4 (by omega)).kept k5 (by omega), (b3.later l4 (by omega)).kept k5 (by omega), below_kept (below_chain (below_chain (below_chain l1 l2 (by omega)) l3 (by omega)) l4 (by omega)) k5 (by omega) (fun j hj => by omega)⟩
 have gG : G = w.heap.size + 3 := by omega
 have g5 : w5.heap.size = w.heap.size + 4 := by omega
 have HG : Hid (G = w.heap.size + 3 ∧ w5.heap.size = w.heap.size + 4) := ⟨gG, g5⟩
 clear b1 s1 l1 b2 s2 l2 b3 s3 l3 b4 s4 l4 b5 s5 k5 hG gG g5
 refine wp_region_noPanic (till_region 3 (fun W => W.rangeAt G 0 (u32s beg0)) (by kernel_rfl) ?_)
 change wpTill _ _ _ _ _ _ _ _ w5.drew
 have RG : Hid (w5.drew.rangeAt G 0 (u32s beg0)) := fun j v hv => by rw [Nat.zero_add, HB.out.1.drew.cell]; exact hv
 refine tLoadMid 0 (some 9) (u32s beg0) rfl rfl (by kernel_rfl) (by kernel_rfl) (by kernel_rfl) (by decide) (by kernel_rfl) (by kernel_rfl) (fun _ _ _ h => h) (by rfl) 226 (.tmp 7) rfl G 0 rfl _ (fun _ h => h) Tryz.underlying226 rfl (by rw [u32s_length, show beg0.length = 16 from rfl]; exact sizeSt) RG.out ?_
 simp only [Act.put, sqA, sqB, sqC]
 refine tTake 2 (some 11) (.slice (some ⟨w.heap.size, 0, none⟩) 32 32) rfl rfl (by kernel_rfl) (by kernel_rfl) (by kernel_rfl) (by decide) (fun _ _ _ h => h) (by rfl) (fun _ => by go_simp) RG.out ?_
 simp only [Act.put, sqA, sqB, sqC]
 refine till_ready 1 (by kernel_rfl) rfl (fun K hK => ?_)
 go_simp
 go_wp2_with (go_at_call 160; refine (cell_any 1 0 (by decide) (by decide) _).mono ?_; rintro e w' ⟨rfl, rfl⟩)
 refine ⟨RG.out, till_at (by kernel_rfl) ?_⟩
 refine wpAny_ready (rs := [3]) (by kernel_rfl) (by simp) (AllReady.cons rfl (fun K hK => ?_) AllReady.nil)
 go_simp
 have SK : Hid (Seen w5.drew (some ⟨w.heap.size, 0, none⟩) 32 key) := by
  have := seen_blk HB.out.2.1.drew HS.out.2.2.1 (by have := HS.out.1; omega)
  rwa [HS.out.1] at this
 go_wp2_with (go_at_call 159; refine (with_any beg0 rfl 4 8 32 (by decide) rfl _ 32 key _ SK.out (by decide)).mono ?_; rintro e w6 ⟨rfl, l6⟩)
 have l6' : Below w5.heap.size w5 w6 := ⟨l6.os, l6.tape, l6.output, l6.size, l6.block⟩
 obtain ⟨S1, hS1⟩ : ∃ x, beg0.take 4 ++ (wds key 8 ++ beg0.drop (4 + 8)) = x := ⟨_, rfl⟩
 rw [hS1]
 have E1 : Hid (S1 = beg1 key ∧ S1.length = 16) := by rw [← hS1]; exact ⟨rfl, beg1_length key⟩
 have HC : Hid (Blk w6 G 226 (u32s beg0) ∧ Blk w6 (w.heap.size + 1) 95 (u8s nonce) ∧ Blk w6 (w.heap.size + 2) 226 (u32s (List.replicate 16 0)) ∧ Below w.heap.size w w6 ∧ w.heap.size + 4 ≤ w6.heap.size) := by
  have := HG.out.1
  have := HG.out.2
  have := l6'.size
  exact ⟨HB.out.1.later l6' (by omega), HB.out.2.2.1.later l6' (by omega), HB.out.2.2.2.1.later l6' (by omega), below_chain HB.out.2.2.2.2 l6' (by omega), by omega⟩
 clear l6 l6' hS1 SK RG HB
 have HT : w6.there G 0 (u32s S1).length := HC.out.1.there (by rw [u32s_length, E1.out.2, u32s_length]; decide)
 have u4 : (Tryz.prog.info? 226).map (·.size) = some (u32s S1).length := by rw [u32s_length, E1.out.2]; exact sizeSt
 have HD : Hid (Blk (w6.setCells G 0 (u32s S1)) G 226 (u32s S1) ∧ Kept (fun k => k = G) w6 (w6.setCells G 0 (u32s S1))) := by
  refine ⟨?_, (Kept.refl (fun k => k = G) _).setCells (S := fun k => k = G) rfl _ _⟩
  have := Blk.setCells (xs := []) (zs := []) (u32s S1) (u32s beg0) (by rw [u32s_length, E1.out.2, u32s_length]; rfl) (by simpa using HC.out.1)
  simpa using this
 refine one_step 4 rfl (by kernel_rfl) (fun K h => step_store rfl (by rfl) 226 (.tmp 7) (.tmp 12) rfl G 0 rfl (u32s S1) rfl HT u4 (u32s_one _) h) ?_
 obtain ⟨w7, hw7⟩ : ∃ x, w6.setCells G 0 (u32s S1) = x := ⟨_, rfl⟩
 rw [hw7] at HD ⊢
 clear hw7 HT u4
 refine wpAny_done (by kernel_rfl) (NoPanic.normal ?_) _
 have c12 := u32s_cell HD.out.1 12 (by have := E1.out.2; omega)
 have f12 := HD.out.1.frozen 12
 go_wp2_with (go_at_call 160; refine (cell_any 3 0 (by decide) (by decide) _).mono ?_; rintro e w' ⟨rfl, rfl⟩)
 obtain ⟨S2, hS2⟩ : ∃ x, S1.set 12 ctr = x := ⟨_, rfl⟩
 have E2 : Hid (S2 = beg2 key ctr ∧ S2.length = 16) := by
  have h := beg2_length key ctr
  rw [← hS2, E1.out.1]; exact ⟨rfl, h⟩
 have HE : Hid (Blk (w7.setCell ⟨G, 12, none⟩ (.int .u32 ctr)) G 226 (u32s S2) ∧ Kept (fun k => k = G) w6 (w7.setCell ⟨G, 12, none⟩ (.int .u32 ctr))) := by
  refine ⟨?_, HD.out.2.setCell rfl _⟩
  rw [← hS2, ← u32s_set]; exact HD.out.1.set _ _
 obtain ⟨w8, hw8⟩ : ∃ x, w7.setCell ⟨G, 12, none⟩ (.int .u32 ctr) = x := ⟨_, rfl⟩
 rw [hw8] at HE ⊢
 have HF : Hid (Blk w8 G 226 (u32s S2) ∧ Blk w8 (w.heap.size + 1) 95 (u8s nonce) ∧ Blk w8 (w.heap.size + 2) 226 (u32s (List.replicate 16 0)) ∧ Below w.heap.size w w8 ∧ w.heap.size + 4 ≤ w8.heap.size) := by
  have := HG.out.1
  have := HE.out.2.size
  have := HC.out.2.2.2.2
  exact ⟨HE.out.1, HC.out.2.1.kept HE.out.2 (by omega), HC.out.2.2.1.kept HE.out.2 (by omega), below_kept HC.out.2.2.2.1 HE.out.2 (by omega) (fun j hj => by omega), by omega⟩
 clear hS2 hw8 HD HE HC c12 f12
 refine wp_region_noPanic (till_region 3 (fun W => W.rangeAt G 0 (u32s S2)) (by kernel_rfl) ?_)
 change wpTill _ _ _ _ _ _ _ _ w8.drew
 have RG : Hid (w8.drew.rangeAt G 0 (u32s S2)) := fun j v hv => by rw [Nat.zero_add, HF.out.1.drew.cell]; exact hv
 refine tLoadMid 0 (some 16) (u32s S2) rfl rfl (by kernel_rfl) (by kernel_rfl) (by kernel_rfl) (by decide) (by kernel_rfl) (by kernel_rfl) (fun _ _ _ h => h) (by rfl) 226 (.tmp 7) rfl G 0 rfl _ (fun _ h => h) Tryz.underlying226 rfl (by rw [u32s_length, E2.out.2]; exact sizeSt) RG.out ?_
 simp only [Act.put, sqA, sqB, sqC]
 refine tTake 2 (some 18) (.slice (some ⟨w.heap.size + 1, 0, none⟩) 12 12) rfl rfl (by kernel_rfl) (by kernel_rfl) (by kernel_rfl) (by decide) (fun _ _ _ h => h) (by rfl) (fun _ => by go_simp) RG.out ?_
 simp only [Act.put, sqA, sqB, sqC]
 refine till_ready 1 (by kernel_rfl) rfl (fun K hK => ?_)
 go_simp
 go_wp2_with (go_at_call 160; refine (cell_any 3 1 (by decide) (by decide) _).mono ?_; rintro e w' ⟨rfl, rfl⟩)
 refine ⟨RG.out, till_at (by kernel_rfl) ?_⟩
 refine wpAny_ready (rs := [3]) (by kernel_rfl) (by simp) (AllReady.cons rfl (fun K hK => ?_) AllReady.nil)
 go_simp
 have SK : Hid (Seen w8.drew (some ⟨w.heap.size + 1, 0, none⟩) 12 nonce) := by
  have := seen_blk HF.out.2.1.drew HS.out.2.2.2 (by have := HS.out.2.1; omega)
  rwa [HS.out.2.1] at this
 go_wp2_with (go_at_call 159; refine (with_any S2 E2.out.2 13 3 12 (by decide) rfl _ 12 nonce _ SK.out (by decide)).mono ?_; rintro e w9 ⟨rfl, l9⟩)
 have l9' : Below w8.heap.size w8 w9 := ⟨l9.os, l9.tape, l9.output, l9.size, l9.block⟩
 rw [E2.out.1, beg3_eq]
 have HC : Hid (Blk w9 (w.heap.size + 1 + 1) 226 (u32s (List.replicate 16 0)) ∧ Below w.heap.size w w9 ∧ w.heap.size + 4 ≤ w9.heap.size) := by
  have := l9'.size
  have := HF.out.2.2.2.2
  exact ⟨HF.out.2.2.1.later l9' (by omega), below_chain HF.out.2.2.2.1 l9' (by omega), by omega⟩
 clear l9 l9' SK RG HF
 obtain ⟨S3, hS3⟩ : ∃ x, begW key ctr nonce = x := ⟨_, rfl⟩
 have E3 : Hid (S3.length = 16) := by rw [← hS3]; exact begW_length _ _ _
 rw [hS3]
 have HT : w9.there (w.heap.size + 1 + 1) 0 (u32s S3).length := HC.out.1.there (by rw [u32s_length, E3.out, u32s_length]; decide)
 have u4 : (Tryz.prog.info? 226).map (·.size) = some (u32s S3).length := by rw [u32s_length, E3.out]; exact sizeSt
 have HD : Hid (Blk (w9.setCells (w.heap.size + 1 + 1) 0 (u32s S3)) (w.heap.size + 1 + 1) 226 (u32s S3) ∧ Kept (fun k => k = w.heap.size + 1 + 1) w9 (w9.setCells (w.heap.size + 1 + 1) 0 (u32s S3))) := by
  refine ⟨?_, (Kept.refl (fun k => k = w.heap.size + 1 + 1) _).setCells (S := fun k => k = w.heap.size + 1 + 1) rfl _ _⟩
  have := Blk.setCells (xs := []) (zs := []) (u32s S3) (u32s (List.replicate 16 0)) (by rw [u32s_length, E3.out, u32s_length]; rfl) (by simpa using HC.out.1)
  simpa using this
 refine one_step 4 rfl (by kernel_rfl) (fun K h => step_store rfl (by rfl) 226 (.tmp 6) (.tmp 19) rfl (w.heap.size + 1 + 1) 0 rfl (u32s S3) rfl HT u4 (u32s_one _) h) ?_
 obtain ⟨wa, hwa⟩ : ∃ x, w9.setCells (w.heap.size + 1 + 1) 0 (u32s S3) = x := ⟨_, rfl⟩
 rw [hwa] at HD ⊢
 have HZ : Hid (begW key ctr nonce = S3) := hS3
 clear hwa HT u4 hS3
 refine wpAny_done (by kernel_rfl) (NoPanic.normal ?_) _
 go_wp2_with fail
 exact ret_blk rfl (w.heap.size + 1 + 1) (u32s S3) _ rfl HD.out.1 Tryz.underlying226 rfl (by rw [u32s_length, E3.out]; exact sizeSt) rfl ⟨by rw [HZ.out], below_kept HC.out.2.1 HD.out.2 (by have := HC.out.2.2; omega) (fun j hj => by omega)⟩
theorem stirred_any (st : List Int) (hs : st.length = 16) (w : World) :
  Calls Tryz.prog 152 #[.agg (u32s st).toArray] w fun e w' => e = .returned (.agg (u32s (stir st)).toArray) ∧ Below w.heap.size w w' := by
 have HZ : Hid (st.length = 16) := hs
 clear hs
 go_enter Tryz.func152, Tryz.ntmps152
 go_wp2_with (first | (refine wpList_box_new rfl 226 _ rfl (u32s st) rfl ?_; intro w1 b1 s1 l1) | (refine wpList_alloc_new rfl 226 rfl 16 _ zeroSt ?_; intro w2 b2 s2 l2))
 have HB : Hid (Blk w2 w.heap.size 226 (u32s st) ∧ Blk w2 (w.heap.size + 1) 226 (u32s (List.replicate 16 0)) ∧ Below w.heap.size w w2) :=
  ⟨b1.later l2 (by omega), by rwa [s1] at b2, below_chain l1 l2 (by omega)⟩
 have sz : w2.heap.size = w.heap.size + 2 := by omega
 clear b1 s1 l1 b2 s2 l2
 go_loopw [9] (fun i wr => ∃ p : Nat, p ≤ 10 ∧ i = .int .i64 p ∧ Blk wr w.heap.size 226 (u32s (passN st p)) ∧ Kept (fun b => b = w.heap.size) w2 wr) (fun i _ => 10 - (intOf i).toNat)
 case atStart => exact ⟨0, by omega, rfl, HB.out.1, Kept.refl _ _⟩
 case round =>
  obtain ⟨p, hp, rfl, hb, hkp⟩ := hrel
  by_cases hlt : p < 10
  ·have i1 : (p : Int) < 10 := by omega
   have X1 : Hid (Blk wr w.heap.size 226 (u32s (passN st p)) ∧ Kept (fun b => b = w.heap.size) w2 wr) := ⟨hb, hkp⟩
   have T1 : Hid ((passN st p).length = 16) := (passN_length st p).trans HZ.out
   have E1 : Hid (passN st (p + 1) = slants (passN st p) 2) := rfl
   obtain ⟨sp, hsp⟩ : ∃ sp, passN st p = sp := ⟨_, rfl⟩
   rw [hsp] at X1 T1 E1
   clear hb hkp hsp
   go_wp2
   obtain ⟨w3, rfl⟩ : ∃ w3, w3 = wr := ⟨_, rfl⟩
   go_loopw [11] (fun i wr => ∃ s : Nat, s ≤ 2 ∧ i = .int .u64 s ∧ Blk wr w.heap.size 226 (u32s (slants sp s)) ∧ Kept (fun b => b = w.heap.size) w2 wr) (fun i _ => 2 - (intOf i).toNat)
   case atStart => exact ⟨0, by omega, rfl, X1.out⟩
   case round =>
    obtain ⟨s, hs, rfl, hb, hkp⟩ := hrel
    by_cases hlt2 : s < 2
    ·have i2 : (s : Int) < 2 := by omega
     have X2 : Hid (Blk wr w.heap.size 226 (u32s (slants sp s)) ∧ Kept (fun b => b = w.heap.size) w2 wr) := ⟨hb, hkp⟩
     have T2 : Hid ((slants sp s).length = 16) := (slants_length sp s).trans T1.out
     have E2 : Hid (slants sp (s + 1) = cols (slants sp s) s 4) := rfl
     obtain ⟨sq, hsq⟩ : ∃ sq, slants sp s = sq := ⟨_, rfl⟩
     rw [hsq] at X2 T2 E2
     clear hb hkp hsq
     go_wp2
     obtain ⟨w4, rfl⟩ : ∃ w4, w4 = wr := ⟨_, rfl⟩
     go_loopw [14] (fun i wr => ∃ c : Nat, c ≤ 4 ∧ i = .int .u64 c ∧ Blk wr w.heap.size 226 (u32s (cols sq s c)) ∧ Kept (fun b => b = w.heap.size) w2 wr) (fun i _ => 4 - (intOf i).toNat)
     case atStart => exact ⟨0, by omega, rfl, X2.out⟩
     case round =>
      obtain ⟨c, hc, rfl, hb, hkp⟩ := hrel
      by_cases hlt3 : c < 4
      ·have i3 : (c : Int) < 4 := by omega
       have T3 : (cols sq s c).length = 16 := (cols_length sq s c).trans T2.out
       have E3 : Hid (cols sq s (c + 1) = colStep (cols sq s c) s c) := rfl
       have X3 : Hid (Blk wr w.heap.size 226 (u32s (cols sq s c)) ∧ Kept (fun b => b = w.heap.size) w2 wr) := ⟨hb, hkp⟩
       clear hb hkp
       go_wp2_with (first | (go_at_call 160; first | ((with_reducible show Calls _ _ #[.int .u64 0, _] _ _); refine (cell_at 0 _ c (by omega) (by omega) (by omega) _).mono ?_; rintro e w' ⟨rfl, rfl⟩) | ((with_reducible show Calls _ _ #[.int .u64 1, _] _ _); refine (cell_at 1 _ (c + s) (by omega) (by omega) (by omega) _).mono ?_; rintro e w' ⟨rfl, rfl⟩) | ((with_reducible show Calls _ _ #[.int .u64 2, _] _ _); refine (cell_at 2 _ (c + 2 * s) (by omega) (by omega) (by omega) _).mono ?_; rintro e w' ⟨rfl, rfl⟩) | ((with_reducible show Calls _ _ #[.int .u64 3, _] _ _); refine (cell_at 3 _ (c + 3 * s) (by omega) (by omega) (by omega) _).mono ?_; rintro e w' ⟨rfl, rfl⟩)))
       obtain ⟨ia, hia⟩ : ∃ x : Nat, x = c % 4 := ⟨_, rfl⟩
       obtain ⟨ib, hib⟩ : ∃ x : Nat, x = 4 + (c + s) % 4 := ⟨_, rfl⟩
       obtain ⟨ic, hic⟩ : ∃ x : Nat, x = 8 + (c + 2 * s) % 4 := ⟨_, rfl⟩
       obtain ⟨id, hid⟩ : ∃ x : Nat, x = 12 + (c + 3 * s) % 4 := ⟨_, rfl⟩
       rw [show (c : Int) % 4 = (ia : Int) by omega, show 4 + ((c : Int) + (s : Int)) % 4 = (ib : Int) by omega, show 8 + ((c : Int) + 2 * (s : Int)) % 4 = (ic : Int) by omega, show 12 + ((c : Int) + 3 * (s : Int)) % 4 = (id : Int) by omega]
       have E4 : Hid (colStep (cols sq s c) s c = qPut (cols sq s c) (quarter (qOf (cols sq s c) ia ib ic id)) ia ib ic id) := by show _ = _; rw [hia, hib, hic, hid]; rfl
       have ja : (ia : Int) < 16 := by omega
       have jb : (ib : Int) < 16 := by omega
       have jc : (ic : Int) < 16 := by omega
       have jd : (id : Int) < 16 := by omega
       clear hia hib hic hid
       obtain ⟨sC, hsC⟩ : ∃ x, cols sq s c = x := ⟨_, rfl⟩
       rw [hsC] at T3 E3 E4 X3
       clear hsC
       obtain ⟨wd, hwd⟩ : ∃ x, wr.drew = x := ⟨_, rfl⟩
       have B0 : Hid (Blk wd w.heap.size 226 (u32s sC)) := by show Blk _ _ _ _; rw [← hwd]; exact X3.out.1.drew
       have K0 : Hid (Kept (fun b => b = w.heap.size) w2 wd) := by show Kept _ _ _; rw [← hwd]; exact X3.out.2.drew
       obtain ⟨va, hva⟩ : ∃ x, sC.getD ia 0 = x := ⟨_, rfl⟩
       obtain ⟨vb, hvb⟩ : ∃ x, sC.getD ib 0 = x := ⟨_, rfl⟩
       obtain ⟨vc, hvc⟩ : ∃ x, sC.getD ic 0 = x := ⟨_, rfl⟩
       obtain ⟨vd, hvd⟩ : ∃ x, sC.getD id 0 = x := ⟨_, rfl⟩
       have HS : Hid (wd.cell? ⟨w.heap.size, ia, none⟩ = some (.int .u32 va) ∧ wd.cell? ⟨w.heap.size, ib, none⟩ = some (.int .u32 vb) ∧ wd.cell? ⟨w.heap.size, ic, none⟩ = some (.int .u32 vc) ∧ wd.cell? ⟨w.heap.size, id, none⟩ = some (.int .u32 vd)) :=
        ⟨by rw [← hva]; exact u32s_cell B0.out ia (by omega), by rw [← hvb]; exact u32s_cell B0.out ib (by omega), by rw [← hvc]; exact u32s_cell B0.out ic (by omega), by rw [← hvd]; exact u32s_cell B0.out id (by omega)⟩
       obtain ⟨q, hq⟩ : ∃ q, quarter ⟨va, vb, vc, vd⟩ = q := ⟨_, rfl⟩
       have E5 : Hid (colStep sC s c = qPut sC q ia ib ic id) := by show _ = _; rw [E4.out, qOf, hva, hvb, hvc, hvd, hq]
       clear hva hvb hvc hvd X3 E4
       --REGION
       refine wp_region_noPanic (till_region 16 (fun W => W.cell? ⟨w.heap.size, ia, none⟩ = some (.int .u32 va) ∧ W.cell? ⟨w.heap.size, ib, none⟩ = some (.int .u32 vb) ∧ W.cell? ⟨w.heap.size, ic, none⟩ = some (.int .u32 vc) ∧ W.cell? ⟨w.heap.size, id, none⟩ = some (.int .u32 vd)) (by kernel_rfl) ?_)
       change wpTill _ _ _ _ _ _ _ _ wr.drew
       rw [hwd]
       clear hwd
       refine tTake 0 (some 34) (.int .u64 ia) rfl rfl (by kernel_rfl) (by kernel_rfl) (by kernel_rfl) (by decide) (fun _ _ _ h => h) (by rfl) (fun _ => by rfl) HS.out ?_
       simp only [Act.put, sqA, sqB, sqC]
       refine tTake 1 (some 35) (.int .u64 ib) rfl rfl (by kernel_rfl) (by kernel_rfl) (by kernel_rfl) (by decide) (fun _ _ _ h => h) (by rfl) (fun _ => by rfl) HS.out ?_
       simp only [Act.put, sqA, sqB, sqC]
       refine tTake 2 (some 36) (.int .u64 ic) rfl rfl (by kernel_rfl) (by kernel_rfl) (by kernel_rfl) (by decide) (fun _ _ _ h => h) (by rfl) (fun _ => by rfl) HS.out ?_
       simp only [Act.put, sqA, sqB, sqC]
       refine tTake 3 (some 37) (.int .u64 id) rfl rfl (by kernel_rfl) (by kernel_rfl) (by kernel_rfl) (by decide) (fun _ _ _ h => h) (by rfl) (fun _ => by rfl) HS.out ?_
       simp only [Act.put, sqA, sqB, sqC]
       refine tTake 4 (some 38) (.int .u64 ia) rfl rfl (by kernel_rfl) (by kernel_rfl) (by kernel_rfl) (by decide) (fun _ _ _ h => h) (by rfl) (fun _ => by rfl) HS.out ?_
       simp only [Act.put, sqA, sqB, sqC]
       refine tTake 5 (some 39) (.pointer (some ⟨w.heap.size, ia, none⟩)) rfl rfl (by kernel_rfl) (by kernel_rfl) (by kernel_rfl) (by decide) (fun _ _ _ h => h) (by rfl) (fun _ => by go_simp) HS.out ?_
       simp only [Act.put, sqA, sqB, sqC]
       refine tLoad 6 (some 40) (.int .u32 va) rfl rfl (by kernel_rfl) (by kernel_rfl) (by kernel_rfl) (by decide) (by kernel_rfl) (by kernel_rfl) (fun _ _ _ h => h) (by rfl) (fun W' hS' => by obtain ⟨s1, s2, s3, s4⟩ := hS'; go_simp) HS.out ?_
       simp only [Act.put, sqA, sqB, sqC]
       refine tTake 7 (some 41) (.int .u64 ib) rfl rfl (by kernel_rfl) (by kernel_rfl) (by kernel_rfl) (by decide) (fun _ _ _ h => h) (by rfl) (fun _ => by rfl) HS.out ?_
       simp only [Act.put, sqA, sqB, sqC]
       refine tTake 8 (some 42) (.pointer (some ⟨w.heap.size, ib, none⟩)) rfl rfl (by kernel_rfl) (by kernel_rfl) (by kernel_rfl) (by decide) (fun _ _ _ h => h) (by rfl) (fun _ => by go_simp) HS.out ?_
       simp only [Act.put, sqA, sqB, sqC]
       refine tLoad 9 (some 43) (.int .u32 vb) rfl rfl (by kernel_rfl) (by kernel_rfl) (by kernel_rfl) (by decide) (by kernel_rfl) (by kernel_rfl) (fun _ _ _ h => h) (by rfl) (fun W' hS' => by obtain ⟨s1, s2, s3, s4⟩ := hS'; go_simp) HS.out ?_
       simp only [Act.put, sqA, sqB, sqC]
       refine tTake 10 (some 44) (.int .u64 ic) rfl rfl (by kernel_rfl) (by kernel_rfl) (by kernel_rfl) (by decide) (fun _ _ _ h => h) (by rfl) (fun _ => by rfl) HS.out ?_
       simp only [Act.put, sqA, sqB, sqC]
       refine tTake 11 (some 45) (.pointer (some ⟨w.heap.size, ic, none⟩)) rfl rfl (by kernel_rfl) (by kernel_rfl) (by kernel_rfl) (by decide) (fun _ _ _ h => h) (by rfl) (fun _ => by go_simp) HS.out ?_
       simp only [Act.put, sqA, sqB, sqC]
       refine tLoad 12 (some 46) (.int .u32 vc) rfl rfl (by kernel_rfl) (by kernel_rfl) (by kernel_rfl) (by decide) (by kernel_rfl) (by kernel_rfl) (fun _ _ _ h => h) (by rfl) (fun W' hS' => by obtain ⟨s1, s2, s3, s4⟩ := hS'; go_simp) HS.out ?_
       simp only [Act.put, sqA, sqB, sqC]
       refine tTake 13 (some 47) (.int .u64 id) rfl rfl (by kernel_rfl) (by kernel_rfl) (by kernel_rfl) (by decide) (fun _ _ _ h => h) (by rfl) (fun _ => by rfl) HS.out ?_
       simp only [Act.put, sqA, sqB, sqC]
       refine tTake 14 (some 48) (.pointer (some ⟨w.heap.size, id, none⟩)) rfl rfl (by kernel_rfl) (by kernel_rfl) (by kernel_rfl) (by decide) (fun _ _ _ h => h) (by rfl) (fun _ => by go_simp) HS.out ?_
       simp only [Act.put, sqA, sqB, sqC]
       refine tLoad 15 (some 49) (.int .u32 vd) rfl rfl (by kernel_rfl) (by kernel_rfl) (by kernel_rfl) (by decide) (by kernel_rfl) (by kernel_rfl) (fun _ _ _ h => h) (by rfl) (fun W' hS' => by obtain ⟨s1, s2, s3, s4⟩ := hS'; go_simp) HS.out ?_
       simp only [Act.put, sqA, sqB, sqC]
       refine till_at (by kernel_rfl) ?_
       refine wpAny_ready (rs := [16]) (by kernel_rfl) (by simp) (AllReady.cons rfl (fun K hK => ?_) AllReady.nil)
       go_simp
       go_wp2_with (go_at_call 161; refine (quarter_any va vb vc vd _).mono ?_; rintro e w' ⟨rfl, rfl⟩)
       have HQ : Hid (quarter ⟨va, vb, vc, vd⟩ = q) := hq
       clear hq
       refine take_op 17 (some 33) (.tuple #[.int .u32 q.a, .int .u32 q.b, .int .u32 q.c, .int .u32 q.d]) rfl rfl (by kernel_rfl) (by kernel_rfl) (by kernel_rfl) (fun _ _ _ h => h) (by rfl) (fun _ => by rfl) ?_
       simp only [Act.put, sqA, sqB, sqC]
       refine take_op 18 (some 51) (.int .u32 q.a) rfl rfl (by kernel_rfl) (by kernel_rfl) (by kernel_rfl) (fun _ _ _ h => h) (by rfl) (fun _ => by rfl) ?_
       simp only [Act.put, sqA, sqB, sqC]
       refine take_op 19 (some 52) (.int .u32 q.b) rfl rfl (by kernel_rfl) (by kernel_rfl) (by kernel_rfl) (fun _ _ _ h => h) (by rfl) (fun _ => by rfl) ?_
       simp only [Act.put, sqA, sqB, sqC]
       refine take_op 20 (some 53) (.int .u32 q.c) rfl rfl (by kernel_rfl) (by kernel_rfl) (by kernel_rfl) (fun _ _ _ h => h) (by rfl) (fun _ => by rfl) ?_
       simp only [Act.put, sqA, sqB, sqC]
       refine take_op 21 (some 54) (.int .u32 q.d) rfl rfl (by kernel_rfl) (by kernel_rfl) (by kernel_rfl) (fun _ _ _ h => h) (by rfl) (fun _ => by rfl) ?_
       simp only [Act.put, sqA, sqB, sqC]
       refine take_op 22 (some 55) (.pointer (some ⟨w.heap.size, ia, none⟩)) rfl rfl (by kernel_rfl) (by kernel_rfl) (by kernel_rfl) (fun _ _ _ h => h) (by rfl) (fun _ => by go_simp) ?_
       simp only [Act.put, sqA, sqB, sqC]
       have c0 := u32s_cell B0.out ia (by first | omega | (simp only [List.length_set]; omega))
       have f0 := B0.out.frozen ia
       have B1 : Hid (Blk (wd.setCell ⟨w.heap.size, ia, none⟩ (.int .u32 q.a)) w.heap.size 226 (u32s (sC.set ia q.a))) := by show Blk _ _ _ _; rw [← u32s_set]; exact B0.out.set _ _
       have K1 : Hid (Kept (fun b => b = w.heap.size) w2 (wd.setCell ⟨w.heap.size, ia, none⟩ (.int .u32 q.a))) := K0.out.setCell rfl _
       refine wpAny_ready (rs := [23]) (by kernel_rfl) (by simp) (AllReady.cons rfl (fun K hK => ?_) AllReady.nil)
       go_simp
       refine hK _ _ ?_
       clear hK K
       change wpAny _ _ _ _ _ _ _ (World.setCell wd ⟨w.heap.size, ia, none⟩ (.int .u32 q.a))
       obtain ⟨x1, hx1⟩ : ∃ x, World.setCell wd ⟨w.heap.size, ia, none⟩ (.int .u32 q.a) = x := ⟨_, rfl⟩
       rw [hx1] at B1 K1 ⊢
       clear hx1 c0 f0
       refine take_op 24 (some 56) (.pointer (some ⟨w.heap.size, ib, none⟩)) rfl rfl (by kernel_rfl) (by kernel_rfl) (by kernel_rfl) (fun _ _ _ h => h) (by rfl) (fun _ => by go_simp) ?_
       simp only [Act.put, sqA, sqB, sqC]
       have c1 := u32s_cell B1.out ib (by first | omega | (simp only [List.length_set]; omega))
       have f1 := B1.out.frozen ib
       have B2 : Hid (Blk (x1.setCell ⟨w.heap.size, ib, none⟩ (.int .u32 q.b)) w.heap.size 226 (u32s ((sC.set ia q.a).set ib q.b))) := by show Blk _ _ _ _; rw [← u32s_set]; exact B1.out.set _ _
       have K2 : Hid (Kept (fun b => b = w.heap.size) w2 (x1.setCell ⟨w.heap.size, ib, none⟩ (.int .u32 q.b))) := K1.out.setCell rfl _
       refine wpAny_ready (rs := [25]) (by kernel_rfl) (by simp) (AllReady.cons rfl (fun K hK => ?_) AllReady.nil)
       go_simp
       refine hK _ _ ?_
       clear hK K
       change wpAny _ _ _ _ _ _ _ (World.setCell x1 ⟨w.heap.size, ib, none⟩ (.int .u32 q.b))
       obtain ⟨x2, hx2⟩ : ∃ x, World.setCell x1 ⟨w.heap.size, ib, none⟩ (.int .u32 q.b) = x := ⟨_, rfl⟩
       rw [hx2] at B2 K2 ⊢
       clear hx2 c1 f1
       refine take_op 26 (some 57) (.pointer (some ⟨w.heap.size, ic, none⟩)) rfl rfl (by kernel_rfl) (by kernel_rfl) (by kernel_rfl) (fun _ _ _ h => h) (by rfl) (fun _ => by go_simp) ?_
       simp only [Act.put, sqA, sqB, sqC]
       have c2 := u32s_cell B2.out ic (by first | omega | (simp only [List.length_set]; omega))
       have f2 := B2.out.frozen ic
       have B3 : Hid (Blk (x2.setCell ⟨w.heap.size, ic, none⟩ (.int .u32 q.c)) w.heap.size 226 (u32s (((sC.set ia q.a).set ib q.b).set ic q.c))) := by show Blk _ _ _ _; rw [← u32s_set]; exact B2.out.set _ _
       have K3 : Hid (Kept (fun b => b = w.heap.size) w2 (x2.setCell ⟨w.heap.size, ic, none⟩ (.int .u32 q.c))) := K2.out.setCell rfl _
       refine wpAny_ready (rs := [27]) (by kernel_rfl) (by simp) (AllReady.cons rfl (fun K hK => ?_) AllReady.nil)
       go_simp
       refine hK _ _ ?_
       clear hK K
       change wpAny _ _ _ _ _ _ _ (World.setCell x2 ⟨w.heap.size, ic, none⟩ (.int .u32 q.c))
       obtain ⟨x3, hx3⟩ : ∃ x, World.setCell x2 ⟨w.heap.size, ic, none⟩ (.int .u32 q.c) = x := ⟨_, rfl⟩
       rw [hx3] at B3 K3 ⊢
       clear hx3 c2 f2
       refine take_op 28 (some 58) (.pointer (some ⟨w.heap.size, id, none⟩)) rfl rfl (by kernel_rfl) (by kernel_rfl) (by kernel_rfl) (fun _ _ _ h => h) (by rfl) (fun _ => by go_simp) ?_
       simp only [Act.put, sqA, sqB, sqC]
       have c3 := u32s_cell B3.out id (by first | omega | (simp only [List.length_set]; omega))
       have f3 := B3.out.frozen id
       have B4 : Hid (Blk (x3.setCell ⟨w.heap.size, id, none⟩ (.int .u32 q.d)) w.heap.size 226 (u32s ((((sC.set ia q.a).set ib q.b).set ic q.c).set id q.d))) := by show Blk _ _ _ _; rw [← u32s_set]; exact B3.out.set _ _
       have K4 : Hid (Kept (fun b => b = w.heap.size) w2 (x3.setCell ⟨w.heap.size, id, none⟩ (.int .u32 q.d))) := K3.out.setCell rfl _
       refine wpAny_ready (rs := [29]) (by kernel_rfl) (by simp) (AllReady.cons rfl (fun K hK => ?_) AllReady.nil)
       go_simp
       refine hK _ _ ?_
       clear hK K
       change wpAny _ _ _ _ _ _ _ (World.setCell x3 ⟨w.heap.size, id, none⟩ (.int .u32 q.d))
       obtain ⟨x4, hx4⟩ : ∃ x, World.setCell x3 ⟨w.heap.size, id, none⟩ (.int .u32 q.d) = x := ⟨_, rfl⟩
       rw [hx4] at B4 K4 ⊢
       clear hx4 c3 f3
       refine wpAny_done (by kernel_rfl) (NoPanic.normal ?_) _
       --ENDREGION
       go_wp2
       exact ⟨⟨c + 1, by omega, by go_num, by rw [E3.out, E5.out]; exact B4.out, K4.out⟩, by simp [intOf]; omega⟩
      ·obtain rfl : c = 4 := by omega
       rw [show ((4 : Nat) : Int) = 4 from rfl]
       have X3 : Hid (Blk wr w.heap.size 226 (u32s (cols sq s 4)) ∧ Kept (fun b => b = w.heap.size) w2 wr) := ⟨hb, hkp⟩
       clear hb hkp
       go_wp2
       exact ⟨⟨s + 1, by omega, by go_num, by rw [E2.out]; exact X3.out.1, X3.out.2⟩, by simp [intOf]; omega⟩
    ·obtain rfl : s = 2 := by omega
     rw [show ((2 : Nat) : Int) = 2 from rfl]
     have X3 : Hid (Blk wr w.heap.size 226 (u32s (slants sp 2)) ∧ Kept (fun b => b = w.heap.size) w2 wr) := ⟨hb, hkp⟩
     clear hb hkp
     go_wp2
     exact ⟨⟨p + 1, by omega, by go_num, by rw [E1.out]; exact X3.out.1, X3.out.2⟩, by simp [intOf]; omega⟩
  ·obtain rfl : p = 10 := by omega
   rw [show ((10 : Nat) : Int) = 10 from rfl]
   have X3 : Hid (Blk wr w.heap.size 226 (u32s (stir st))) := hb
   have X4 : Hid (Blk wr (w.heap.size + 1) 226 (u32s (List.replicate 16 0))) := HB.out.2.1.kept hkp (by omega)
   have X5 : Hid (Below w.heap.size w wr) := below_kept HB.out.2.2 hkp (by omega) (fun j hj => by omega)
   have X6 : Hid ((u32s (stir st)).length = 16) := by show _ = _; rw [u32s_length, stir_length]; exact HZ.out
   clear hb hkp
   go_wp2_with (first | (refine wpList_load_blk rfl 226 _ rfl _ rfl (u32s (stir st)) _ X3.out Tryz.underlying226 rfl (by rw [X6.out]; exact sizeSt) ?_) | (refine wpList_store_blk rfl 226 226 _ _ rfl _ rfl _ (u32s (stir st)) rfl X4.out (by rw [X6.out, u32s_length, List.length_replicate]) (by rw [X6.out]; exact sizeSt) (u32s_one _) ?_; intro w5 b5 s5 k5))
   exact ret_blk rfl (w.heap.size + 1) (u32s (stir st)) _ rfl b5 Tryz.underlying226 rfl (by rw [X6.out]; exact sizeSt) rfl ⟨rfl, below_kept X5.out k5 X5.out.size (fun j hj => by omega)⟩
theorem addW_words (xs ys : List Int) : ∀ z ∈ addW xs ys, 0 ≤ z ∧ z < 4294967296 := by
 intro z hz
 simp only [addW, List.mem_iff_getElem] at hz
 obtain ⟨i, hi, rfl⟩ := hz
 simp only [List.getElem_zipWith]
 omega
theorem block_any (key : List Int) (ctr : Int) (nonce : List Int) (hk : key.length = 32) (hn : nonce.length = 12) (hkb : Bytes key) (hnb : Bytes nonce) (w : World) :
  Calls Tryz.prog 142 #[.agg (u8s key).toArray, .int .u32 ctr, .agg (u8s nonce).toArray] w fun e w' => e = .returned (.agg (u8s (blkB key ctr nonce)).toArray) ∧ Below w.heap.size w w' := by
 have HS : Hid (key.length = 32 ∧ nonce.length = 12 ∧ Bytes key ∧ Bytes nonce) := ⟨hk, hn, hkb, hnb⟩
 clear hk hn hkb hnb
 have HL : Hid ((begW key ctr nonce).length = 16) := begW_length _ _ _
 obtain ⟨S, hS⟩ : ∃ x, begW key ctr nonce = x := ⟨_, rfl⟩
 rw [hS] at HL
 have HZ : Hid (begW key ctr nonce = S) := hS
 go_enter Tryz.func142, Tryz.ntmps142
 go_wp2_with (first | (refine wpList_box_new rfl 30 _ rfl (u8s key) rfl ?_; intro w1 b1 s1 l1) | (refine wpList_box_new rfl 95 _ rfl (u8s nonce) rfl ?_; intro w2 b2 s2 l2) | (refine wpList_alloc_new rfl 216 rfl 64 _ zero64b ?_; intro w3 b3 s3 l3; have K3 : Hid (Blk w3 w.heap.size 30 (u8s key) ∧ Blk w3 w1.heap.size 95 (u8s nonce)) := ⟨(b1.later l2 (by omega)).later l3 (by omega), b2.later l3 (by omega)⟩) | (refine wpList_load_blk rfl 30 _ rfl _ rfl (u8s key) _ K3.out.1 Tryz.underlying30 rfl (by rw [u8s_length, HS.out.1]; exact sizeKey) ?_) | (refine wpList_load_blk rfl 95 _ rfl _ rfl (u8s nonce) _ (by first | exact K3.out.2 | (rw [← s1]; exact K3.out.2)) Tryz.underlying95 rfl (by rw [u8s_length, HS.out.2.1]; exact sizeNonce) ?_) | (go_at_call 149; refine (begin_any key ctr nonce HS.out.1 HS.out.2.1 HS.out.2.2.1 HS.out.2.2.2 _).mono ?_; rintro e w4 ⟨rfl, l4⟩; rw [hS]) | (refine wpList_alloc_new rfl 226 rfl 16 _ zeroSt ?_; intro w5 b5 s5 l5) | (refine wpList_store_blk rfl 226 226 _ _ rfl _ rfl _ (u32s S) rfl b5 (by rw [u32s_length, u32s_length, HL.out]; rfl) (by rw [u32s_length, HL.out]; exact sizeSt) (u32s_one _) ?_; intro w6 b6 s6 k6))
 simp only [Act.put, sqA, sqB, sqC]
 obtain ⟨G, hG⟩ : ∃ G, w4.heap.size = G := ⟨_, rfl⟩
 rw [hG] at b6 k6 ⊢
 have HB : Hid (Blk w6 G 226 (u32s S) ∧ Blk w6 (w.heap.size + 1 + 1) 216 (u8s (List.replicate 64 0)) ∧ Below w.heap.size w w6 ∧ w.heap.size + 3 ≤ G ∧ G < w6.heap.size) := by
  have q4 := l4.size
  rw [s2, s1] at b3
  exact ⟨b6, ((b3.later l4 (by omega)).later l5 (by omega)).kept k6 (by omega), below_kept (below_chain (below_chain (below_chain (below_chain l1 l2 (by omega)) l3 (by omega)) l4 (by omega)) l5 (by omega)) k6 (by omega) (fun j hj => by omega), by omega, by omega⟩
 clear b1 s1 l1 b2 s2 l2 b3 s3 l3 l4 b5 s5 l5 b6 s6 k6 hG K3 hS
 refine wp_region_noPanic (till_region 5 (fun W => W.rangeAt G 0 (u32s S)) (by kernel_rfl) ?_)
 change wpTill _ _ _ _ _ _ _ _ w6.drew
 have RS : Hid (∀ W, Below w6.heap.size w6 W → W.rangeAt G 0 (u32s S)) := fun W hW j v hv => by rw [Nat.zero_add, (HB.out.1.later hW HB.out.2.2.2.2).cell]; exact hv
 have RG : Hid (w6.drew.rangeAt G 0 (u32s S)) := RS.out _ (below_dn (Below.refl _ _) 1)
 refine tLoadMid 0 (some 12) (u32s S) rfl rfl (by kernel_rfl) (by kernel_rfl) (by kernel_rfl) (by decide) (by kernel_rfl) (by kernel_rfl) (fun _ _ _ h => h) (by rfl) 226 (.tmp 7) rfl G 0 rfl _ (fun _ h => h) Tryz.underlying226 rfl (by rw [u32s_length, HL.out]; exact sizeSt) RG.out ?_
 simp only [Act.put, sqA, sqB, sqC]
 refine tLoadMid 2 (some 14) (u32s S) rfl rfl (by kernel_rfl) (by kernel_rfl) (by kernel_rfl) (by decide) (by kernel_rfl) (by kernel_rfl) (fun _ _ _ h => h) (by rfl) 226 (.tmp 7) rfl G 0 rfl _ (fun _ h => h) Tryz.underlying226 rfl (by rw [u32s_length, HL.out]; exact sizeSt) RG.out ?_
 simp only [Act.put, sqA, sqB, sqC]
 refine till_ready 1 (by kernel_rfl) rfl (fun K hK => ?_)
 go_simp
 go_wp2_with (go_at_call 152; refine (stirred_any S HL.out _).mono ?_; rintro e w7 ⟨rfl, l7⟩)
 have L7 : Below w6.heap.size w6 w7 := ⟨l7.os, l7.tape, l7.output, l7.size, l7.block⟩
 refine ⟨RS.out _ L7, ?_⟩
 refine till_ready 3 (by kernel_rfl) rfl (fun K hK => ?_)
 go_simp
 go_wp2_with (go_at_call 151; refine (plus_any (stir S) S (by rw [stir_length]; exact HL.out) HL.out _).mono ?_; rintro e w8 ⟨rfl, l8⟩)
 have L8 := below_chain L7 l8 L7.size
 refine ⟨RS.out _ L8, ?_⟩
 have HA : Hid ((addW (stir S) S).length = 16) := addW_length _ _ 16 (by rw [stir_length]; exact HL.out) HL.out
 refine till_ready 4 (by kernel_rfl) rfl (fun K hK => ?_)
 go_simp
 go_wp2_with (go_at_call 150; refine (bytesOf_any (addW (stir S) S) HA.out (addW_words _ _) _).mono ?_; rintro e w9 ⟨rfl, l9⟩)
 have L9 := below_chain L8 l9 L8.size
 refine ⟨RS.out _ L9, till_at (by kernel_rfl) ?_⟩
 obtain ⟨O, hO⟩ : ∃ x, wB (addW (stir S) S) 16 = x := ⟨_, rfl⟩
 have E3 : Hid (O.length = 64 ∧ blkB key ctr nonce = O) := by rw [← hO]; exact ⟨wB_length _ 16 (by rw [HA.out]; decide), by rw [blkB, blkW, HZ.out]⟩
 rw [hO]
 have HC : Hid (Blk w9 (w.heap.size + 1 + 1) 216 (u8s (List.replicate 64 0)) ∧ Below w.heap.size w w9 ∧ w.heap.size + 3 ≤ w9.heap.size) := by
  have := L9.size
  have := HB.out.2.2.2
  exact ⟨HB.out.2.1.later L9 (by omega), below_chain HB.out.2.2.1 L9 (by omega), by omega⟩
 clear l7 l8 l9 L7 L8 L9 RS RG HB hO HA
 have HT : w9.there (w.heap.size + 1 + 1) 0 (u8s O).length := HC.out.1.there (by rw [u8s_length, E3.out.1, u8s_length]; decide)
 have u4 : (Tryz.prog.info? 216).map (·.size) = some (u8s O).length := by rw [u8s_length, E3.out.1]; exact size64b
 have HD : Hid (Blk (w9.setCells (w.heap.size + 1 + 1) 0 (u8s O)) (w.heap.size + 1 + 1) 216 (u8s O) ∧ Kept (fun k => k = w.heap.size + 1 + 1) w9 (w9.setCells (w.heap.size + 1 + 1) 0 (u8s O))) := by
  refine ⟨?_, (Kept.refl (fun k => k = w.heap.size + 1 + 1) _).setCells (S := fun k => k = w.heap.size + 1 + 1) rfl _ _⟩
  have := Blk.setCells (xs := []) (zs := []) (u8s O) (u8s (List.replicate 64 0)) (by rw [u8s_length, E3.out.1, u8s_length]; rfl) (by simpa using HC.out.1)
  simpa using this
 refine one_step 5 rfl (by kernel_rfl) (fun K h => step_store rfl (by rfl) 216 (.tmp 6) (.tmp 16) rfl (w.heap.size + 1 + 1) 0 rfl (u8s O) rfl HT u4 (u8s_one _) h) ?_
 obtain ⟨wa, hwa⟩ : ∃ x, w9.setCells (w.heap.size + 1 + 1) 0 (u8s O) = x := ⟨_, rfl⟩
 rw [hwa] at HD ⊢
 clear hwa HT u4
 refine wpAny_done (by kernel_rfl) (NoPanic.normal ?_) _
 go_wp2_with fail
 exact ret_blk rfl (w.heap.size + 1 + 1) (u8s O) _ rfl HD.out.1 Tryz.underlying216 rfl (by rw [u8s_length, E3.out.1]; exact size64b) rfl ⟨by rw [E3.out.2], below_kept HC.out.2.1 HD.out.2 (by have := HC.out.2.2; omega) (fun j hj => by omega)⟩
theorem sizeStrm : (Tryz.prog.info? 237).map (·.size) = some 45 := by kernel_rfl
def zeroS : List Value := u8s (List.replicate 44 0) ++ [.int .u64 0]
theorem zeroStrm : (Tryz.prog.info? 237).map (fun i => (i.zero, i.size)) = some (some (.agg zeroS.toArray), 45) := by kernel_rfl
def sCells (key nonce : List Int) (P : Int) : List Value := u8s key ++ (u8s nonce ++ [Value.int .u64 P])
theorem sCells_length (key nonce : List Int) (P : Int) (hk : key.length = 32) (hn : nonce.length = 12) : (sCells key nonce P).length = 45 := by simp [sCells, u8s, hk, hn]
theorem sCells_one (key nonce : List Int) (P : Int) : ∀ v ∈ sCells key nonce P, v.oneCell' = true := by
 intro v hv
 simp only [sCells, List.mem_append, List.mem_singleton] at hv
 rcases hv with h | h | rfl
 ·exact u8s_one _ v h
 ·exact u8s_one _ v h
 ·rfl
structure StAt (w : World) (g : Nat) (key nonce : List Int) (P : Nat) : Prop where
 blk : Blk w g 237 (sCells key nonce P)
 k32 : key.length = 32
 n12 : nonce.length = 12
 kb : Bytes key
 nb : Bytes nonce
 top : P ≤ 274877906944
theorem wpList_yield {ops : Array Oper} {rest : List Oper} {o : Oper} {a : Act} {Q : Exit → Act → World → Prop} {w : World} (hgd : o.guard = none) (v : Value) (hrun : (execOp a.eval o).run Tryz.prog w = .ok (.value v) w) (h : wpList Tryz.prog ops Q rest (a.put o.dst v) w) : wpList Tryz.prog ops Q (o :: rest) a w := by
 refine wpList_plain hgd fun K hK => ?_
 unfold Oper.wp
 rw [hrun]
 exact hK _ _ h
theorem list_range (l : List Int) (n : Nat) (h : l.length = n) : l = (List.range n).map (fun i => l.getD i 0) := by
 subst h
 apply List.ext_getElem
 ·simp
 ·intro i h1 h2; simp [List.getD, h1]
theorem build_s0 (f g : Nat → Int) (P : Int) (w : World) : (Instr.build 237 #[(0, .agg (u8s ((List.range 32).map f)).toArray), (1, .agg (u8s ((List.range 12).map g)).toArray), (2, .int .u64 P)]).run Tryz.prog w = .ok (.agg (sCells ((List.range 32).map f) ((List.range 12).map g) P).toArray) w := by kernel_rfl
theorem build_s (key nonce : List Int) (hk : key.length = 32) (hn : nonce.length = 12) (P : Int) (w : World) : (Instr.build 237 #[(0, .agg (u8s key).toArray), (1, .agg (u8s nonce).toArray), (2, .int .u64 P)]).run Tryz.prog w = .ok (.agg (sCells key nonce P).toArray) w := by
 rw [list_range key 32 hk, list_range nonce 12 hn]
 exact build_s0 _ _ P w
theorem new_any (key : List Int) (ctr : Nat) (nonce : List Int) (hk : key.length = 32) (hn : nonce.length = 12) (hkb : Bytes key) (hnb : Bytes nonce) (hc : ctr < 4294967296) (w : World) :
  Calls Tryz.prog 147 #[.agg (u8s key).toArray, .agg (u8s nonce).toArray, .int .u32 ctr] w fun e w' => ∃ g, e = .returned (.pointer (some ⟨g, 0, none⟩)) ∧ w.heap.size ≤ g ∧ StAt w' g key nonce (64 * ctr) ∧ Below w.heap.size w w' := by
 have HS : Hid (key.length = 32 ∧ nonce.length = 12 ∧ Bytes key ∧ Bytes nonce) := ⟨hk, hn, hkb, hnb⟩
 clear hk hn hkb hnb
 have v1 : IntKind.u64.wrap (ctr : Int) = (ctr : Int) := by simp only [IntKind.wrap, IntKind.bits, IntKind.signed]; simp; omega
 have v2 : IntKind.u64.wrap (64 * (ctr : Int)) = 64 * (ctr : Int) := by simp only [IntKind.wrap, IntKind.bits, IntKind.signed]; simp; omega
 go_enter Tryz.func147, Tryz.ntmps147
 go_wp2_with (first | ((with_reducible show wpList _ _ _ ({ dst := some 12, op := _, type := _, pos := _, after := _, guard := _ } :: _) _ _); refine Hid.out ?_) | (refine wpList_box_new rfl 30 _ rfl (u8s key) rfl ?_; intro w1 b1 s1 l1) | (refine wpList_box_new rfl 95 _ rfl (u8s nonce) rfl ?_; intro w2 b2 s2 l2) | (refine wpList_load_blk rfl 30 _ rfl _ rfl (u8s key) _ (by first | exact b1.later l2 (by omega)) Tryz.underlying30 rfl (by rw [u8s_length, HS.out.1]; exact sizeKey) ?_) | (refine wpList_load_blk rfl 95 _ rfl _ rfl (u8s nonce) _ (by first | exact b2 | (rw [← s1]; exact b2)) Tryz.underlying95 rfl (by rw [u8s_length, HS.out.2.1]; exact sizeNonce) ?_) | ((with_reducible show wpList _ _ _ ({ dst := some 9, op := _, type := _, pos := _, after := _, guard := _ } :: _) _ _); refine wpList_yield rfl (.int .u32 (ctr : Int)) rfl ?_) | ((with_reducible show wpList _ _ _ ({ dst := some 10, op := _, type := _, pos := _, after := _, guard := _ } :: _) _ _); refine wpList_yield rfl (.int .u64 (ctr : Int)) (by go_simp) ?_) | ((with_reducible show wpList _ _ _ ({ dst := some 11, op := _, type := _, pos := _, after := _, guard := _ } :: _) _ _); refine wpList_yield rfl (.int .u64 (64 * (ctr : Int))) (by go_simp) ?_) | (refine wpList_build rfl 237 _ rfl #[(0, .agg (u8s key).toArray), (1, .agg (u8s nonce).toArray), (2, .int .u64 (64 * (ctr : Int)))] rfl _ (build_s key nonce HS.out.1 HS.out.2.1 _ _) ?_) | (refine wpList_box_new rfl 237 _ rfl (sCells key nonce (64 * (ctr : Int))) rfl ?_; intro w3 b3 s3 l3) | (refine wpList_alloc_new rfl 237 rfl 45 _ zeroStrm ?_; intro w4 b4 s4 l4) | (refine wpList_store_blk rfl 237 237 _ _ rfl _ rfl _ (sCells key nonce (64 * (ctr : Int))) rfl b4 (by rw [sCells_length _ _ _ HS.out.1 HS.out.2.1]; rfl) (by rw [sCells_length _ _ _ HS.out.1 HS.out.2.1]; exact sizeStrm) (sCells_one _ _ _) ?_; intro w5 b5 s5 k5))
 change wpList _ _ _ _ _ _
 refine wpList_build rfl 237 _ rfl #[(0, .agg (u8s key).toArray), (1, .agg (u8s nonce).toArray), (2, .int .u64 (64 * (ctr : Int)))] (by simp [Act.eval]) _ (build_s key nonce HS.out.1 HS.out.2.1 _ _) ?_
 go_wp2_with (first | (refine wpList_box_new rfl 237 _ rfl (sCells key nonce (64 * (ctr : Int))) rfl ?_; intro w3 b3 s3 l3))
 go_ret
 refine ⟨w2.heap.size, by simp [s1, s2], by omega, ⟨by simpa using b3, HS.out.1, HS.out.2.1, HS.out.2.2.1, HS.out.2.2.2, by omega⟩, below_chain (below_chain l1 l2 (by omega)) l3 (by omega)⟩
theorem StAt.place {w : World} {g : Nat} {key nonce : List Int} {P : Nat} (h : StAt w g key nonce P) : w.cell? ⟨g, 44, none⟩ = some (.int .u64 P) := by
 rw [h.blk.cell, sCells, List.getElem?_append_right (by rw [u8s_length, h.k32]; decide), u8s_length, h.k32, List.getElem?_append_right (by rw [u8s_length, h.n12]; decide), u8s_length, h.n12]; rfl
theorem StAt.frozen {w : World} {g : Nat} {key nonce : List Int} {P : Nat} (h : StAt w g key nonce P) (j : Nat) : w.frozen? ⟨g, j, none⟩ = false := h.blk.frozen j
theorem StAt.lt {w : World} {g : Nat} {key nonce : List Int} {P : Nat} (h : StAt w g key nonce P) : g < w.heap.size := h.blk.lt
theorem StAt.later {w w' : World} {g : Nat} {key nonce : List Int} {P : Nat} (h : StAt w g key nonce P) {B : Nat} (hb : Below B w w') (hB : g < B) : StAt w' g key nonce P := ⟨h.blk.later hb hB, h.k32, h.n12, h.kb, h.nb, h.top⟩
theorem StAt.kept {S : Nat → Prop} {w w' : World} {g : Nat} {key nonce : List Int} {P : Nat} (h : StAt w g key nonce P) (hk : Kept S w w') (hS : ¬ S g) : StAt w' g key nonce P := ⟨h.blk.kept hk hS, h.k32, h.n12, h.kb, h.nb, h.top⟩
theorem StAt.move {w : World} {g : Nat} {key nonce : List Int} {P : Nat} (h : StAt w g key nonce P) (P' : Nat) (ht : P' ≤ 274877906944) : StAt (w.setCell ⟨g, 44, none⟩ (.int .u64 P')) g key nonce P' := by
 refine ⟨?_, h.k32, h.n12, h.kb, h.nb, ht⟩
 have h1 := h.blk.set 44 (.int .u64 P')
 have e : (sCells key nonce P).set 44 (.int .u64 P') = sCells key nonce P' := by
  rw [sCells, List.set_append_right _ _ (by rw [u8s_length, h.k32]; decide), u8s_length, h.k32, List.set_append_right _ _ (by rw [u8s_length, h.n12]; decide), u8s_length, h.n12]; rfl
 rwa [e] at h1
theorem StAt.key {w : World} {g : Nat} {key nonce : List Int} {P : Nat} (h : StAt w g key nonce P) : w.rangeAt g 0 (u8s key) := by
 have := Blk.range (xs := []) (ys := u8s key) (zs := u8s nonce ++ [Value.int .u64 P]) h.blk
 simpa using this
theorem StAt.nonce {w : World} {g : Nat} {key nonce : List Int} {P : Nat} (h : StAt w g key nonce P) : w.rangeAt g 32 (u8s nonce) := by
 have := Blk.range (xs := u8s key) (ys := u8s nonce) (zs := [Value.int .u64 P]) h.blk
 rwa [u8s_length, h.k32] at this
def chk (n : Int) (P : Nat) : Int := if n < 0 then 2 else if 274877906944 < n + P then 50 else 0
theorem check_any (g : Nat) (key nonce : List Int) (P : Nat) (n : Int) (hn : -9223372036854775808 ≤ n ∧ n < 9223372036854775808) (w : World) (h : StAt w g key nonce P) :
  Calls Tryz.prog 157 #[.pointer (some ⟨g, 0, none⟩), .int .i64 n] w fun e w' => e = .returned (.int .i64 (chk n P)) ∧ w = w' := by
 have c1 := h.place
 have ht := h.top
 clear h
 unfold chk
 by_cases h0 : n < 0
 ·rw [if_pos h0]
  go_enter Tryz.func157, Tryz.ntmps157
  go_wp2
  go_ret
  exact ⟨rfl, rfl⟩
 ·rw [if_neg h0]
  have v1 : IntKind.u64.wrap n = n := by simp only [IntKind.wrap, IntKind.bits, IntKind.signed]; simp; omega
  have v2 : IntKind.u64.wrap (274877906944 - (P : Int)) = 274877906944 - (P : Int) := by simp only [IntKind.wrap, IntKind.bits, IntKind.signed]; simp; omega
  by_cases h1 : 274877906944 < n + P
  ·rw [if_pos h1]
   have i1 : 274877906944 - (P : Int) < n := by omega
   go_enter Tryz.func157, Tryz.ntmps157
   go_wp2
   go_ret
   exact ⟨rfl, rfl⟩
  ·rw [if_neg h1]
   have i1 : ¬ 274877906944 - (P : Int) < n := by omega
   go_enter Tryz.func157, Tryz.ntmps157
   go_wp2
   go_ret
   exact ⟨rfl, rfl⟩
theorem check_nil (n : Int) (w : World) : Calls Tryz.prog 157 #[.pointer none, .int .i64 n] w fun e w' => e = .returned (.int .i64 1) ∧ w = w' := by
 go_enter Tryz.func157, Tryz.ntmps157
 go_wp2
 go_ret
 exact ⟨rfl, rfl⟩
theorem chk_ok {n : Int} {P : Nat} (h0 : 0 ≤ n) (h1 : n + P ≤ 274877906944) : chk n P = 0 := by unfold chk; rw [if_neg (by omega), if_neg (by omega)]
def RowC (w : World) (r cap : Nat) (zs : List Int) : Prop := ∃ rest : List Value, w.heap[r]? = some (.cells (zs.map (Value.int .u8) ++ rest).toArray 5 (0, 0)) ∧ zs.length + rest.length = cap
theorem RowC.row {w : World} {r cap : Nat} {zs : List Int} (h : RowC w r cap zs) : RowAt w r zs := ⟨h.choose, h.choose_spec.1⟩
theorem RowC.cell {w : World} {r cap : Nat} {zs : List Int} (h : RowC w r cap zs) (j : Nat) (hj : j < zs.length) : w.cell? ⟨r, j, none⟩ = some (.int .u8 (zs.getD j 0)) := h.row.cell j hj
theorem RowC.frozen {w : World} {r cap : Nat} {zs : List Int} (h : RowC w r cap zs) (j : Nat) : w.frozen? ⟨r, j, none⟩ = false := h.row.frozen j
theorem RowC.lt {w : World} {r cap : Nat} {zs : List Int} (h : RowC w r cap zs) : r < w.heap.size := h.row.lt
theorem RowC.set {w : World} {r cap : Nat} {zs : List Int} (h : RowC w r cap zs) (j : Nat) (hj : j < zs.length) (z : Int) : RowC (w.setCell ⟨r, j, none⟩ (.int .u8 z)) r cap (zs.set j z) := by
 obtain ⟨rest, h, hl⟩ := h
 refine ⟨rest, ?_, by rw [List.length_set]; exact hl⟩
 rw [heap_setCell_same w r j _ 5 _ h, List.map_set]
 simp [hj]
theorem RowC.block {w w' : World} {r cap : Nat} {zs : List Int} (h : RowC w r cap zs) (e : w'.heap[r]? = w.heap[r]?) : RowC w' r cap zs := by
 obtain ⟨rest, h, hl⟩ := h
 exact ⟨rest, by rw [e]; exact h, hl⟩
theorem RowC.other {w : World} {r cap : Nat} {zs : List Int} (h : RowC w r cap zs) {p : Addr} (hp : r ≠ p.block) (u : Value) : RowC (w.setCell p u) r cap zs := h.block (Below.heap_setCell _ _ _ _ hp)
theorem RowC.later {w w' : World} {r cap : Nat} {zs : List Int} (h : RowC w r cap zs) {B : Nat} (hb : Below B w w') (hB : w.heap.size ≤ B) : RowC w' r cap zs := h.block (hb.block r (Nat.lt_of_lt_of_le h.lt hB))
theorem RowC.of_own {w : World} {base r n cap : Nat} {zs : List Int} (h : w.ownsRow base 5 1 (.slice (some ⟨r, 0, none⟩) n cap) n (zs.map (Value.int .u8))) : RowC w r cap zs := by
 obtain ⟨hl, h⟩ := h
 rcases h with ⟨h, _⟩ | ⟨r', cap', cur, h, hb, hh, hc, hm, hs, ht⟩
 ·cases h
 ·simp only [Value.slice.injEq, Option.some.injEq, Addr.mk.injEq, and_true, true_and] at h
  obtain ⟨rfl, rfl⟩ := h
  rw [Nat.mul_one] at ht hs
  refine ⟨cur.toList.drop n, ?_, ?_⟩
  ·rw [← ht, List.take_append_drop]; simpa using hh
  ·simp at hl; simp; omega
theorem RowC.own {w : World} {base r n cap : Nat} {zs : List Int} (h : RowC w r cap zs) (hl : zs.length = n) (hb : base ≤ r) (hm : cap ≤ maxLen) : w.ownsRow base 5 1 (.slice (some ⟨r, 0, none⟩) n cap) n (zs.map (Value.int .u8)) := by
 obtain ⟨rest, h, hc⟩ := h
 refine ⟨by simp [hl], .inr ⟨r, cap, _, rfl, hb, h, by omega, hm, by simp; omega, ?_⟩⟩
 rw [Nat.mul_one, List.take_append_of_le_length (by simp [hl]), List.take_of_length_le (by simp [hl])]
theorem lay_any (g r : Nat) (key nonce zs : List Int) (P0 k N m c cap : Nat) (hN : zs.length = N) (hm : m = N - k) (hk : k < N) (hP : P0 + N ≤ 274877906944) (hgr : g ≠ r) (hb : Bytes zs) (hmc : m ≤ c) (w : World)
  (h : StAt w g key nonce (P0 + k)) (hr : RowC w r cap ((over key nonce P0 zs).take k ++ zs.drop k)) :
  Calls Tryz.prog 158 #[.pointer (some ⟨g, 0, none⟩), .slice (some ⟨r, k, none⟩) m c] w fun e w' => ∃ n : Nat, e = .returned (.int .i64 n) ∧ 0 < n ∧ k + n ≤ N ∧ StAt w' g key nonce (P0 + (k + n)) ∧ RowC w' r cap ((over key nonce P0 zs).take (k + n) ++ zs.drop (k + n)) ∧ Kept (fun b => b = g ∨ b = r) w w' := by
 have HH : Hid (StAt w g key nonce (P0 + k)) := h
 have HR : Hid (RowC w r cap ((over key nonce P0 zs).take k ++ zs.drop k)) := hr
 have HN : Hid (zs.length = N ∧ m = N - k ∧ Bytes zs) := ⟨hN, hm, hb⟩
 have c1 := h.place
 obtain ⟨P, hPk⟩ : ∃ P, P = P0 + k := ⟨_, rfl⟩
 rw [← hPk] at HH c1
 have HPk : Hid (P = P0 + k) := hPk
 have hP1 : P < 274877906944 := by omega
 clear h hr hN hm hb hPk
 go_enter Tryz.func158, Tryz.ntmps158
 go_wp2_with fail
 obtain ⟨Q, hQ⟩ : ∃ Q, Q = P / 64 := ⟨_, rfl⟩
 have q1 : (P : Int) / 64 = (Q : Int) := by omega
 have q2 : (P : Int).tdiv 64 = (Q : Int) := by rw [Int.tdiv_eq_ediv_of_nonneg (by omega)]; exact q1
 have q3 : IntKind.u32.wrap (Q : Int) = (Q : Int) := by simp only [IntKind.wrap, IntKind.bits, IntKind.signed]; simp; omega
 have q4 : IntKind.u64.wrap (Q : Int) = (Q : Int) := by simp only [IntKind.wrap, IntKind.bits, IntKind.signed]; simp; omega
 have HQ : Hid (Q = P / 64) := hQ
 clear hQ
 have RS : Hid (∀ W, Below w.heap.size w W → W.rangeAt g 0 (u8s key) ∧ W.rangeAt g 32 (u8s nonce) ∧ W.cell? ⟨g, 44, none⟩ = some (.int .u64 P)) := fun W hW => by
  have hs := HH.out.later hW HH.out.lt
  exact ⟨hs.key, hs.nonce, hs.place⟩
 have HS : Hid (w.drew.rangeAt g 0 (u8s key) ∧ w.drew.rangeAt g 32 (u8s nonce) ∧ w.drew.cell? ⟨g, 44, none⟩ = some (.int .u64 P)) := RS.out _ (below_dn (Below.refl _ _) 1)
 refine wp_region_noPanic (till_region 16 (fun W => W.rangeAt g 0 (u8s key) ∧ W.rangeAt g 32 (u8s nonce) ∧ W.cell? ⟨g, 44, none⟩ = some (.int .u64 P)) (by kernel_rfl) ?_)
 change wpTill _ _ _ _ _ _ _ _ w.drew
 refine tTake 0 (some 9) (.pointer (some ⟨g, 0, none⟩)) rfl rfl (by kernel_rfl) (by kernel_rfl) (by kernel_rfl) (by decide) (fun _ _ _ h => h) (by rfl) (fun _ => by rfl) HS.out ?_
 simp only [Act.put, sqA, sqB, sqC]
 refine tTake 1 (some 10) (.pointer (some ⟨g, 0, none⟩)) rfl rfl (by kernel_rfl) (by kernel_rfl) (by kernel_rfl) (by decide) (fun _ _ _ h => h) (by rfl) (fun _ => by go_simp) HS.out ?_
 simp only [Act.put, sqA, sqB, sqC]
 refine tTake 2 (some 11) (.pointer (some ⟨g, 0, none⟩)) rfl rfl (by kernel_rfl) (by kernel_rfl) (by kernel_rfl) (by decide) (fun _ _ _ h => h) (by rfl) (fun _ => by go_simp) HS.out ?_
 simp only [Act.put, sqA, sqB, sqC]
 refine tLoadMid 3 (some 12) (u8s key) rfl rfl (by kernel_rfl) (by kernel_rfl) (by kernel_rfl) (by decide) (by kernel_rfl) (by kernel_rfl) (fun _ _ _ h => h) (by rfl) 30 (.tmp 11) rfl g 0 rfl _ (fun _ h => h.1) Tryz.underlying30 rfl (by rw [u8s_length, HH.out.k32]; exact sizeKey) HS.out ?_
 simp only [Act.put, sqA, sqB, sqC]
 refine tTake 4 (some 13) (.pointer (some ⟨g, 0, none⟩)) rfl rfl (by kernel_rfl) (by kernel_rfl) (by kernel_rfl) (by decide) (fun _ _ _ h => h) (by rfl) (fun _ => by rfl) HS.out ?_
 simp only [Act.put, sqA, sqB, sqC]
 refine tTake 5 (some 14) (.pointer (some ⟨g, 0, none⟩)) rfl rfl (by kernel_rfl) (by kernel_rfl) (by kernel_rfl) (by decide) (fun _ _ _ h => h) (by rfl) (fun _ => by go_simp) HS.out ?_
 simp only [Act.put, sqA, sqB, sqC]
 refine tTake 6 (some 15) (.pointer (some ⟨g, 44, none⟩)) rfl rfl (by kernel_rfl) (by kernel_rfl) (by kernel_rfl) (by decide) (fun _ _ _ h => h) (by rfl) (fun _ => by go_simp) HS.out ?_
 simp only [Act.put, sqA, sqB, sqC]
 refine tLoad 7 (some 16) (.int .u64 P) rfl rfl (by kernel_rfl) (by kernel_rfl) (by kernel_rfl) (by decide) (by kernel_rfl) (by kernel_rfl) (fun _ _ _ h => h) (by rfl) (fun W' hS' => by obtain ⟨s1, s2, s3⟩ := hS'; go_simp) HS.out ?_
 simp only [Act.put, sqA, sqB, sqC]
 refine tTake 8 (some 17) (.int .u64 Q) rfl rfl (by kernel_rfl) (by kernel_rfl) (by kernel_rfl) (by decide) (fun _ _ _ h => h) (by rfl) (fun _ => by go_simp) HS.out ?_
 simp only [Act.put, sqA, sqB, sqC]
 refine tTake 9 (some 18) (.int .u32 Q) rfl rfl (by kernel_rfl) (by kernel_rfl) (by kernel_rfl) (by decide) (fun _ _ _ h => h) (by rfl) (fun _ => by go_simp) HS.out ?_
 simp only [Act.put, sqA, sqB, sqC]
 refine tTake 10 (some 19) (.pointer (some ⟨g, 0, none⟩)) rfl rfl (by kernel_rfl) (by kernel_rfl) (by kernel_rfl) (by decide) (fun _ _ _ h => h) (by rfl) (fun _ => by rfl) HS.out ?_
 simp only [Act.put, sqA, sqB, sqC]
 refine tTake 11 (some 20) (.pointer (some ⟨g, 0, none⟩)) rfl rfl (by kernel_rfl) (by kernel_rfl) (by kernel_rfl) (by decide) (fun _ _ _ h => h) (by rfl) (fun _ => by go_simp) HS.out ?_
 simp only [Act.put, sqA, sqB, sqC]
 refine tTake 12 (some 21) (.pointer (some ⟨g, 32, none⟩)) rfl rfl (by kernel_rfl) (by kernel_rfl) (by kernel_rfl) (by decide) (fun _ _ _ h => h) (by rfl) (fun _ => by go_simp) HS.out ?_
 simp only [Act.put, sqA, sqB, sqC]
 refine tLoadMid 13 (some 22) (u8s nonce) rfl rfl (by kernel_rfl) (by kernel_rfl) (by kernel_rfl) (by decide) (by kernel_rfl) (by kernel_rfl) (fun _ _ _ h => h) (by rfl) 95 (.tmp 21) rfl g 32 rfl _ (fun _ h => h.2.1) Tryz.underlying95 rfl (by rw [u8s_length, HH.out.n12]; exact sizeNonce) HS.out ?_
 simp only [Act.put, sqA, sqB, sqC]
 refine till_two 14 15 rfl rfl (by decide) (by kernel_rfl) (by kernel_rfl) (by kernel_rfl)
  (fun a a' w' => ∃ B, a' = (a.put (some 23) (.agg (u8s (blkB key (Q : Int) nonce)).toArray)).put (some 5) (.pointer (some ⟨B, 0, none⟩)) ∧ Blk w' B 216 (u8s (List.replicate 64 0)) ∧ w.heap.size ≤ B ∧ Below w.heap.size w w')
  (fun a a' w' => a' = a.put (some 23) (.agg (u8s (blkB key (Q : Int) nonce)).toArray) ∧ Below w.heap.size w w')
  (fun a a' w' => ∃ B, a' = a.put (some 5) (.pointer (some ⟨B, 0, none⟩)) ∧ Blk w' B 216 (u8s (List.replicate 64 0)) ∧ w.heap.size ≤ B ∧ Below w.heap.size w w')
  ?s1 ?sA ?s2 ?t1 ?sB ?t2 ?h
 case s1 =>
  intro K hK
  go_simp
  go_wp2_with (go_at_call 142; refine (block_any key (Q : Int) nonce HH.out.k32 HH.out.n12 HH.out.kb HH.out.nb _).mono ?_; rintro e w1 ⟨rfl, l1⟩)
  exact ⟨rfl, below_ahead (k := 1) l1⟩
 case sA => rintro a' w' ⟨_, hb⟩; exact RS.out _ hb
 case s2 =>
  rintro a' w' ⟨rfl, hb⟩ K hK
  exact step_alloc_new rfl 216 rfl 64 _ zero64b (some 5) rfl (fun w'' b s l => hK _ _ ⟨_, rfl, b, hb.size, below_chain hb l hb.size⟩)
 case t1 =>
  intro K hK
  exact step_alloc_new rfl 216 rfl 64 _ zero64b (some 5) rfl (fun w'' b s l => hK _ _ ⟨_, rfl, b, Nat.le_refl _, below_ahead (k := 1) l⟩)
 case sB => rintro a' w' ⟨_, _, _, _, hb⟩; exact RS.out _ hb
 case t2 =>
  rintro a' w' ⟨B, rfl, hblk, hle, hb⟩ K hK
  simp only [Act.put, sqA, sqB, sqC]
  go_simp
  go_wp2_with (go_at_call 142; refine (block_any key (Q : Int) nonce HH.out.k32 HH.out.n12 HH.out.kb HH.out.nb _).mono ?_; rintro e w1 ⟨rfl, l1⟩)
  exact ⟨B, rfl, hblk.later l1 hblk.lt, hle, below_chain hb l1 hb.size⟩
 case h =>
  rintro a' w2 ⟨B, rfl, hblk, hle, hb⟩
  refine ⟨RS.out _ hb, till_at (by kernel_rfl) ?_⟩
  simp only [Act.put, sqA, sqB, sqC]
  obtain ⟨O, hO⟩ : ∃ x, blkB key (Q : Int) nonce = x := ⟨_, rfl⟩
  have E3 : Hid (O.length = 64 ∧ blkB key (Q : Int) nonce = O) := ⟨by rw [← hO]; exact blkB_length _ _ _, hO⟩
  rw [hO]
  have HT : w2.there B 0 (u8s O).length := hblk.there (by rw [u8s_length, E3.out.1, u8s_length]; decide)
  have u4 : (Tryz.prog.info? 216).map (·.size) = some (u8s O).length := by rw [u8s_length, E3.out.1]; exact size64b
  have HD : Hid (Blk (w2.setCells B 0 (u8s O)) B 216 (u8s O) ∧ Below w.heap.size w (w2.setCells B 0 (u8s O)) ∧ w.heap.size ≤ B) := by
   have k1 : Kept (fun k => k = B) w2 (w2.setCells B 0 (u8s O)) := (Kept.refl (fun k => k = B) _).setCells (S := fun k => k = B) rfl _ _
   refine ⟨?_, below_kept hb k1 hb.size (fun j hj => by omega), hle⟩
   have := Blk.setCells (xs := []) (zs := []) (u8s O) (u8s (List.replicate 64 0)) (by rw [u8s_length, E3.out.1, u8s_length]; rfl) (by simpa using hblk)
   simpa using this
  refine one_step 16 rfl (by kernel_rfl) (fun K h => step_store rfl (by rfl) 216 (.tmp 5) (.tmp 23) rfl B 0 rfl (u8s O) rfl HT u4 (u8s_one _) h) ?_
  obtain ⟨w3, hw3⟩ : ∃ x, w2.setCells B 0 (u8s O) = x := ⟨_, rfl⟩
  rw [hw3] at HD ⊢
  clear hw3 HT u4 hO hblk hle hb RS HS
  refine wpAny_done (by kernel_rfl) (NoPanic.normal ?_) _
  have c3 := (HH.out.later HD.out.2.1 HH.out.lt).place
  obtain ⟨R, hR⟩ : ∃ R, R = P % 64 := ⟨_, rfl⟩
  have r1 : (P : Int) % 64 = (R : Int) := by omega
  have r2 : (P : Int).tmod 64 = (R : Int) := by rw [Int.tmod_eq_emod_of_nonneg (by omega)]; exact r1
  have r3 : R < 64 := by omega
  have HRr : Hid (R = P % 64) := hR
  clear hR
  have r4 : (R : Int) ≤ 64 := by omega
  obtain ⟨L2, hL2⟩ : ∃ L2, L2 = 64 - R := ⟨_, rfl⟩
  have hsl : ∀ W, (Instr.sliceAt 216 (.pointer (some ⟨B, 0, none⟩)) (some (.int .u64 (R : Int))) none none).run Tryz.prog W = .ok (.slice (some ⟨B, R, none⟩) L2 L2) W := fun W => by rw [hL2]; go_simp; omega
  have j2 : L2 + R = 64 := by omega
  clear hL2
  have HF : Hid (Blk w3 B 216 (u8s O) ∧ StAt w3 g key nonce P ∧ RowC w3 r cap ((over key nonce P0 zs).take (k + 0) ++ zs.drop (k + 0)) ∧ Below w.heap.size w w3 ∧ r < B) :=
   ⟨HD.out.1, HH.out.later HD.out.2.1 HH.out.lt, HR.out.later HD.out.2.1 (Nat.le_refl _), HD.out.2.1, by have := HR.out.lt; have := HD.out.2.2; omega⟩
  by_cases hmn : m ≤ L2
  ·have i0 : (m : Int) ≤ (L2 : Int) := by omega
   have i00 : ¬ (L2 : Int) < (m : Int) := by omega
   go_wp2_with fail
   go_loopw [36] (fun x wr => ∃ i : Nat, i ≤ m ∧ x = .int .i64 i ∧ RowC wr r cap ((over key nonce P0 zs).take (k + i) ++ zs.drop (k + i)) ∧ Kept (fun b => b = r) w3 wr) (fun x _ => m - (intOf x).toNat)
   case atStart => exact ⟨0, by omega, rfl, HF.out.2.2.1, Kept.refl _ _⟩
   case round =>
    obtain ⟨i, hi, rfl, hb, hkp⟩ := hrel
    by_cases hlt : i < m
    ·have hkN : k + i < N := by have := HN.out.2.1; omega
     have hlo : (over key nonce P0 zs).length = N := (over_length _ _ _ _).trans HN.out.1
     have cR := hb.cell (k + i) (by rw [half_length _ _ N (k + i) hlo HN.out.1 (by omega)]; exact hkN)
     rw [half_at _ _ N (k + i) hlo HN.out.1 hkN] at cR
     have fR := hb.frozen (k + i)
     have cB := u8s_cell (HF.out.1.kept hkp (by have := HF.out.2.2.2.2; omega)) (R + i) (by have := E3.out.1; omega)
     have HY : Hid ((over key nonce P0 zs).getD (k + i) 0 = bits .xor .u8 (zs.getD (k + i) 0) (O.getD (R + i) 0)) := by
      show _ = _
      rw [over_at _ _ _ _ _ (by rw [HN.out.1]; exact hkN), ks, ← E3.out.2]
      have a1 : (P0 + (k + i)) / 64 = Q := by have := HQ.out; have := HRr.out; have := HPk.out; omega
      have a2 : (P0 + (k + i)) % 64 = R + i := by have := HRr.out; have := HPk.out; omega
      rw [a1, a2]
     obtain ⟨x, hx⟩ : ∃ x, zs.getD (k + i) 0 = x := ⟨_, rfl⟩
     obtain ⟨y, hy⟩ : ∃ y, O.getD (R + i) 0 = y := ⟨_, rfl⟩
     rw [hx] at cR HY
     rw [hy] at cB HY
     have i1 : (i : Int) < m := by omega
     have i2 : (i : Int) < m := by omega
     have i3 : (i : Int) < L2 := by omega
     have X0 : Hid (RowC wr r cap ((over key nonce P0 zs).take (k + i) ++ zs.drop (k + i)) ∧ (over key nonce P0 zs).length = N ∧ k + i < N) := ⟨hb, hlo, hkN⟩
     clear hb hx hy hlo hkN
     go_wp2_with fail
     go_region
     go_wp2_with fail
     have R1 := X0.out.1.set (k + i) (by rw [half_length _ _ N (k + i) X0.out.2.1 HN.out.1 (by have := X0.out.2.2; omega)]; exact X0.out.2.2) ((over key nonce P0 zs).getD (k + i) 0)
     rw [half_set _ _ N (k + i) X0.out.2.1 HN.out.1 X0.out.2.2, HY.out] at R1
     exact ⟨⟨i + 1, by omega, by go_num, R1, (hkp.setCell rfl _).drew⟩, by simp [intOf]; omega⟩
    ·obtain rfl : i = m := by omega
     have hst : StAt wr g key nonce P := HF.out.2.1.kept hkp hgr
     have c4 := hst.place
     have f4 := hst.frozen 44
     have X0 : Hid (RowC wr r cap ((over key nonce P0 zs).take (k + i) ++ zs.drop (k + i)) ∧ StAt wr g key nonce P ∧ Kept (fun b => b = r) w3 wr) := ⟨hb, hst, hkp⟩
     clear hb hkp hst
     have hq : P + i ≤ 274877906944 := by have := HPk.out; have := HN.out.2.1; omega
     go_wp2_with fail
     go_ret
     have mv := X0.out.2.1.move (P + i) hq
     have hf := HF.out.2.2.2.1
     have k1 := (X0.out.2.2.mono (T := fun b => b = g ∨ b = r) (fun _ h => .inr h)).setCell (p := ⟨g, 44, none⟩) (.inl rfl) (.int .u64 ((P + i : Nat) : Int))
     refine ⟨i, rfl, by have := HN.out.2.1; omega, by have := HN.out.2.1; omega, ?_, ?_, ?_⟩
     ·rw [← Nat.add_assoc, ← HPk.out]; simpa using mv
     ·exact X0.out.1.other (fun e => hgr e.symm) _
     ·exact (Kept.new _ hf).trans (by simpa using k1)
  ·have i0 : (L2 : Int) < (m : Int) := by omega
   go_wp2_with fail
   go_loopw [36] (fun x wr => ∃ i : Nat, i ≤ L2 ∧ x = .int .i64 i ∧ RowC wr r cap ((over key nonce P0 zs).take (k + i) ++ zs.drop (k + i)) ∧ Kept (fun b => b = r) w3 wr) (fun x _ => L2 - (intOf x).toNat)
   case atStart => exact ⟨0, by omega, rfl, HF.out.2.2.1, Kept.refl _ _⟩
   case round =>
    obtain ⟨i, hi, rfl, hb, hkp⟩ := hrel
    by_cases hlt : i < L2
    ·have hkN : k + i < N := by have := HN.out.2.1; omega
     have hlo : (over key nonce P0 zs).length = N := (over_length _ _ _ _).trans HN.out.1
     have cR := hb.cell (k + i) (by rw [half_length _ _ N (k + i) hlo HN.out.1 (by omega)]; exact hkN)
     rw [half_at _ _ N (k + i) hlo HN.out.1 hkN] at cR
     have fR := hb.frozen (k + i)
     have cB := u8s_cell (HF.out.1.kept hkp (by have := HF.out.2.2.2.2; omega)) (R + i) (by have := E3.out.1; omega)
     have HY : Hid ((over key nonce P0 zs).getD (k + i) 0 = bits .xor .u8 (zs.getD (k + i) 0) (O.getD (R + i) 0)) := by
      show _ = _
      rw [over_at _ _ _ _ _ (by rw [HN.out.1]; exact hkN), ks, ← E3.out.2]
      have a1 : (P0 + (k + i)) / 64 = Q := by have := HQ.out; have := HRr.out; have := HPk.out; omega
      have a2 : (P0 + (k + i)) % 64 = R + i := by have := HRr.out; have := HPk.out; omega
      rw [a1, a2]
     obtain ⟨x, hx⟩ : ∃ x, zs.getD (k + i) 0 = x := ⟨_, rfl⟩
     obtain ⟨y, hy⟩ : ∃ y, O.getD (R + i) 0 = y := ⟨_, rfl⟩
     rw [hx] at cR HY
     rw [hy] at cB HY
     have i1 : (i : Int) < L2 := by omega
     have i2 : (i : Int) < m := by omega
     have i3 : (i : Int) < L2 := by omega
     have X0 : Hid (RowC wr r cap ((over key nonce P0 zs).take (k + i) ++ zs.drop (k + i)) ∧ (over key nonce P0 zs).length = N ∧ k + i < N) := ⟨hb, hlo, hkN⟩
     clear hb hx hy hlo hkN
     go_wp2_with fail
     go_region
     go_wp2_with fail
     have R1 := X0.out.1.set (k + i) (by rw [half_length _ _ N (k + i) X0.out.2.1 HN.out.1 (by have := X0.out.2.2; omega)]; exact X0.out.2.2) ((over key nonce P0 zs).getD (k + i) 0)
     rw [half_set _ _ N (k + i) X0.out.2.1 HN.out.1 X0.out.2.2, HY.out] at R1
     exact ⟨⟨i + 1, by omega, by go_num, R1, (hkp.setCell rfl _).drew⟩, by simp [intOf]; omega⟩
    ·obtain rfl : i = L2 := by omega
     have hst : StAt wr g key nonce P := HF.out.2.1.kept hkp hgr
     have c4 := hst.place
     have f4 := hst.frozen 44
     have X0 : Hid (RowC wr r cap ((over key nonce P0 zs).take (k + i) ++ zs.drop (k + i)) ∧ StAt wr g key nonce P ∧ Kept (fun b => b = r) w3 wr) := ⟨hb, hst, hkp⟩
     clear hb hkp hst
     have hq : P + i ≤ 274877906944 := by have := HPk.out; have := HN.out.2.1; omega
     go_wp2_with fail
     go_ret
     have mv := X0.out.2.1.move (P + i) hq
     have hf := HF.out.2.2.2.1
     have k1 := (X0.out.2.2.mono (T := fun b => b = g ∨ b = r) (fun _ h => .inr h)).setCell (p := ⟨g, 44, none⟩) (.inl rfl) (.int .u64 ((P + i : Nat) : Int))
     refine ⟨i, rfl, by have := HN.out.2.1; omega, by have := HN.out.2.1; omega, ?_, ?_, ?_⟩
     ·rw [← Nat.add_assoc, ← HPk.out]; simpa using mv
     ·exact X0.out.1.other (fun e => hgr e.symm) _
     ·exact (Kept.new _ hf).trans (by simpa using k1)
theorem sxor_any (g : Nat) (key nonce : List Int) (P n c : Nat) (ao : Option Addr) (zs : List Int) (hc : n + P ≤ 274877906944) (w : World) (h : StAt w g key nonce P) (hx : Seen w ao n zs) :
  Calls Tryz.prog 148 #[.pointer (some ⟨g, 0, none⟩), .slice ao n c] w fun e w' => ∃ v, e = .returned (.tuple #[v, .int .i64 0]) ∧ w'.ownsRow w.heap.size 5 1 v n ((over key nonce P zs).map (Value.int .u8)) ∧ StAt w' g key nonce (P + n) ∧ Kept (fun b => b = g) w w' := by
 have hk := check_any g key nonce P n (by omega) w h
 rw [chk_ok (by omega) (by omega)] at hk
 have HX : Hid (Seen w ao n zs ∧ StAt w g key nonce P) := ⟨hx, h⟩
 clear h hx
 go_enter Tryz.func148, Tryz.ntmps148
 go_wp2_with (first | (go_at_call 157; refine hk.mono ?_; rintro e w' ⟨rfl, rfl⟩) | (go_at_call 55; refine (clone_any ao n c zs _ HX.out.1).mono ?_; rintro e w1 ⟨v, rfl, o1, l1⟩; rcases own_len HX.out.1.len o1 with ⟨rfl, hn0⟩ | ⟨r, cap, rfl, r1, g1, c1, m1⟩))
 ·subst hn0
  have hz : zs = [] := List.length_eq_zero_iff.1 HX.out.1.len
  subst hz
  go_loopw [8] (fun v wr => v = .slice none 0 0 ∧ wr = w1) (fun _ _ => 0)
  case atStart => exact ⟨rfl, rfl⟩
  case round =>
   obtain ⟨rfl, rfl⟩ := hrel
   have HL : Hid (Below w.heap.size w wr) := l1
   clear l1 o1
   go_wp2_with fail
   go_ret2
   exact ⟨_, rfl, World.ownsRow_nil _ _ _ _, HX.out.2.later HL.out HX.out.2.lt, Kept.new _ HL.out⟩
 ·have HL : Hid (Below w.heap.size w w1 ∧ RowC w1 r cap zs ∧ StAt w1 g key nonce P ∧ g ≠ r ∧ w.heap.size ≤ r ∧ cap ≤ maxLen) := ⟨l1, RowC.of_own o1, HX.out.2.later l1 HX.out.2.lt, by have := HX.out.2.lt; omega, g1, m1⟩
  have HN : Hid (zs.length = n ∧ Bytes zs) := ⟨HX.out.1.len, HX.out.1.bytes⟩
  clear o1 l1 r1 g1 m1
  go_loopw [8] (fun v wr => ∃ (k M C : Nat) (ro : Option Addr), k + M = n ∧ M ≤ C ∧ v = .slice ro M C ∧ (0 < M → ro = some ⟨r, k, none⟩) ∧ RowC wr r cap ((over key nonce P zs).take k ++ zs.drop k) ∧ StAt wr g key nonce (P + k) ∧ Kept (fun b => b = g ∨ b = r) w1 wr) (fun v _ => match v with | .slice _ m _ => m | _ => 0)
  case atStart => exact ⟨0, n, cap, some ⟨r, 0, none⟩, by omega, c1, rfl, fun _ => rfl, by simpa using HL.out.2.1, HL.out.2.2.1, Kept.refl _ _⟩
  case round =>
   obtain ⟨k, M, C, ro, hkM, hMC, rfl, hro, hrow, hst, hkp⟩ := hrel
   by_cases hM : 0 < M
   ·obtain rfl := hro hM
    have X0 : Hid (RowC wr r cap ((over key nonce P zs).take k ++ zs.drop k) ∧ StAt wr g key nonce (P + k) ∧ Kept (fun b => b = g ∨ b = r) w1 wr) := ⟨hrow, hst, hkp⟩
    clear hrow hst hkp hro
    have i1 : (0 : Int) < (M : Int) := by omega
    have hly := lay_any g r key nonce zs P k n M C cap HN.out.1 (by omega) (by omega) (by omega) HL.out.2.2.2.1 HN.out.2 hMC wr X0.out.2.1 X0.out.1
    go_wp2_with (go_at_call 158; refine hly.mono ?_; rintro e w2 ⟨i, rfl, hi0, hik, st2, row2, k2⟩; have hsl := sl_l (some ⟨r, k, none⟩) M C i (by omega); have X2 : Hid (RowC w2 r cap ((over key nonce P zs).take (k + i) ++ zs.drop (k + i)) ∧ StAt w2 g key nonce (P + (k + i)) ∧ Kept (fun b => b = g ∨ b = r) w1 w2) := ⟨row2, st2, X0.out.2.2.trans k2⟩; clear row2 st2 k2)
    refine ⟨⟨k + i, M - i, C - i, subA (some ⟨r, k, none⟩) i C, by omega, by omega, rfl, fun h => ?_, X2.out⟩, by simp; omega⟩
    unfold subA
    rw [if_neg (by omega)]
    exact congrArg some (add_mid r k i)
   ·obtain rfl : M = 0 := by omega
    obtain rfl : k = n := by omega
    have hlo : (over key nonce P zs).length = k := (over_length _ _ _ _).trans HN.out.1
    rw [List.take_of_length_le (by omega), List.drop_eq_nil_of_le (by have := HN.out.1; omega), List.append_nil] at hrow
    have X0 : Hid (RowC wr r cap (over key nonce P zs) ∧ StAt wr g key nonce (P + k) ∧ Kept (fun b => b = g ∨ b = r) w1 wr ∧ (over key nonce P zs).length = k) := ⟨hrow, hst, hkp, hlo⟩
    clear hrow hst hkp hro hlo
    go_wp2_with fail
    go_ret2
    refine ⟨_, rfl, X0.out.1.own X0.out.2.2.2 HL.out.2.2.2.2.1 HL.out.2.2.2.2.2, X0.out.2.1, ?_⟩
    have kk := X0.out.2.2.1
    have hb := HL.out.1
    exact ⟨by rw [kk.os, hb.os], by rw [kk.tape, hb.tape], by rw [kk.output, hb.output], Nat.le_trans hb.size kk.size, fun b hlt hne => by
     rw [kk.block b (Nat.lt_of_lt_of_le hlt hb.size) (by have := HL.out.2.2.2.2.1; omega), hb.block b hlt]⟩
theorem xor_any (key nonce : List Int) (ctr n c : Nat) (ao : Option Addr) (zs : List Int) (hk : key.length = 32) (hno : nonce.length = 12) (hkb : Bytes key) (hnb : Bytes nonce) (hct : ctr < 4294967296) (hc : n + 64 * ctr ≤ 274877906944) (w : World) (hx : Seen w ao n zs) :
  Calls Tryz.prog 141 #[.agg (u8s key).toArray, .agg (u8s nonce).toArray, .int .u32 ctr, .slice ao n c] w fun e w' => ∃ v, e = .returned (.tuple #[v, .int .i64 0]) ∧ w'.ownsRow w.heap.size 5 1 v n ((over key nonce (64 * ctr) zs).map (Value.int .u8)) ∧ Below w.heap.size w w' := by
 have HX : Hid (Seen w ao n zs) := hx
 clear hx
 have HS : Hid (key.length = 32 ∧ nonce.length = 12 ∧ Bytes key ∧ Bytes nonce) := ⟨hk, hno, hkb, hnb⟩
 clear hk hno hkb hnb
 go_enter Tryz.func141, Tryz.ntmps141
 go_wp2_with (first | (refine wpList_box_new rfl 30 _ rfl (u8s key) rfl ?_; intro w1 b1 s1 l1) | (refine wpList_box_new rfl 95 _ rfl (u8s nonce) rfl ?_; intro w2 b2 s2 l2) | (refine wpList_load_blk rfl 30 _ rfl _ rfl (u8s key) _ (by first | exact b1.later l2 (by omega)) Tryz.underlying30 rfl (by rw [u8s_length, HS.out.1]; exact sizeKey) ?_) | (refine wpList_load_blk rfl 95 _ rfl _ rfl (u8s nonce) _ (by first | exact b2 | (rw [← s1]; exact b2)) Tryz.underlying95 rfl (by rw [u8s_length, HS.out.2.1]; exact sizeNonce) ?_) | (go_at_call 147; refine (new_any key ctr nonce HS.out.1 HS.out.2.1 HS.out.2.2.1 HS.out.2.2.2 hct _).mono ?_; rintro e w3 ⟨g, rfl, hg, st3, l3⟩))
 have L3 : Below w.heap.size w w3 := below_chain (below_chain l1 l2 (by omega)) l3 (by omega)
 have hgw : w.heap.size ≤ g := by omega
 clear b1 s1 l1 b2 s2 l2 l3 hg
 refine (sxor_any g key nonce (64 * ctr) n c ao zs hc w3 st3 (HX.out.later L3 (Nat.le_refl _))).mono ?_
 rintro e w4 ⟨v, rfl, o4, st4, k4⟩
 have HO : Hid (w4.ownsRow w.heap.size 5 1 v n ((over key nonce (64 * ctr) zs).map (Value.int .u8)) ∧ Below w.heap.size w w4) := ⟨ownsRow_base o4 L3.size, below_kept L3 k4 L3.size (fun j hj => by omega)⟩
 clear o4 st4 k4 st3 L3
 go_wp2_with fail
 go_ret2
 exact ⟨_, rfl, HO.out⟩
theorem xor8_b (x y : Int) (hx : 0 ≤ x ∧ x < 256) (hy : 0 ≤ y ∧ y < 256) : 0 ≤ bits .xor .u8 x y ∧ bits .xor .u8 x y < 256 := by
 rw [u8_xor x y hx.1 hx.2 hy.1 hy.2]
 have : x.toNat ^^^ y.toNat < 2 ^ 8 := Nat.xor_lt_two_pow (by omega) (by omega)
 omega
theorem xor_back (x k : Int) (hx : 0 ≤ x ∧ x < 256) (hk : 0 ≤ k ∧ k < 256) : bits .xor .u8 (bits .xor .u8 x k) k = x := by
 have h1 : x.toNat ^^^ k.toNat < 2 ^ 8 := Nat.xor_lt_two_pow (by omega) (by omega)
 rw [u8_xor x k hx.1 hx.2 hk.1 hk.2, u8_xor _ k (by omega) (by omega) hk.1 hk.2, Int.toNat_natCast, Nat.xor_assoc, Nat.xor_self, Nat.xor_zero]
 omega
theorem over_bytes (key nonce : List Int) (p : Nat) (zs : List Int) (hb : Bytes zs) : Bytes (over key nonce p zs) := by
 intro z hz
 simp only [over, List.mem_map, List.mem_range] at hz
 obtain ⟨i, hi, rfl⟩ := hz
 exact xor8_b _ _ (hb.at i hi) (ks_byte _ _ _)
theorem over_over (key nonce : List Int) (p : Nat) (zs : List Int) (hb : Bytes zs) : over key nonce p (over key nonce p zs) = zs := by
 apply List.ext_getElem
 ·simp [over_length]
 ·intro i h1 h2
  have e1 := over_at key nonce p (over key nonce p zs) i (by rw [over_length]; exact h2)
  rw [over_at _ _ _ _ _ h2, xor_back _ _ (hb.at i h2) (ks_byte _ _ _)] at e1
  simpa [List.getD, h1, h2] using e1
def u64s (l : List Int) : List Value := l.map (Value.int .u64)
theorem u64s_length (l : List Int) : (u64s l).length = l.length := List.length_map ..
theorem u64s_one (l : List Int) : ∀ v ∈ u64s l, v.oneCell' = true := by
 intro v hv
 obtain ⟨z, _, rfl⟩ := List.mem_map.1 hv
 rfl
def pr (v : Int) : List Int := [v % 18446744073709551616, v / 18446744073709551616]
def nm (v : Int) : List Int := [v % 18446744073709551616, v / 18446744073709551616 % 18446744073709551616, v / 340282366920938463463374607431768211456]
def q4 (v : Int) : List Int := [v % 18446744073709551616, v / 18446744073709551616 % 18446744073709551616, v / 340282366920938463463374607431768211456 % 18446744073709551616, v / 6277101735386680763835789423207666416102355444464034512896]
def fold5 (v : Int) : Int := v % 1361129467683753853853498429727072845824 + 5 * (v / 1361129467683753853853498429727072845824)
abbrev prime : Int := 1361129467683753853853498429727072845819
theorem fold5_bd (v : Int) (h0 : 0 ≤ v) (h1 : v < 57896044618658097711785492504343953926634992332820282019728792003956564819968) : 0 ≤ fold5 v ∧ fold5 v < 1701411834604692317316873037158841057280 := by unfold fold5; omega
theorem and3 (x : Int) (h0 : 0 ≤ x) (h1 : x < 18446744073709551616) : bits .and .u64 x 3 = x % 4 := by
 rw [u64_and _ _ h0 h1 (by decide) (by decide)]
 obtain ⟨a, rfl⟩ := Int.eq_ofNat_of_zero_le h0
 have : a &&& 3 = a % 4 := Nat.and_two_pow_sub_one_eq_mod a 2
 simp only [Int.toNat_natCast, Int.reduceToNat, this]; omega
theorem andNot3 (x : Int) (h0 : 0 ≤ x) (h1 : x < 18446744073709551616) : bits .andNot .u64 x 3 = x - x % 4 := by
 rw [u64_andNot _ _ h0 h1 (by decide) (by decide)]
 obtain ⟨a, rfl⟩ := Int.eq_ofNat_of_zero_le h0
 simp only [Int.toNat_natCast, Int.reduceToNat, Nat.reduceSub]
 have e : a &&& 18446744073709551612 = a - a % 4 := by
  apply Nat.eq_of_testBit_eq
  intro i
  have e1 : a - a % 4 = 2 ^ 2 * (a / 4) := by omega
  rw [e1, Nat.testBit_and, Nat.testBit_two_pow_mul]
  have e2 : (18446744073709551612 : Nat) = 2 ^ 2 * (2 ^ 62 - 1) := by decide
  rw [e2, Nat.testBit_two_pow_mul, Nat.testBit_two_pow_sub_one]
  by_cases hi : 2 ≤ i
  ·have e3 : (a / 4).testBit (i - 2) = a.testBit i := by
    rw [show (4 : Nat) = 2 ^ 2 from rfl, Nat.testBit_div_two_pow]; congr 1; omega
   simp only [hi, decide_true, Bool.true_and, e3, ge_iff_le]
   by_cases h62 : i - 2 < 62
   ·simp [h62]
   ·have : a.testBit i = false := Nat.testBit_lt_two_pow (Nat.lt_of_lt_of_le (by omega : a < 2 ^ 64) (Nat.pow_le_pow_right (by decide) (by omega)))
    simp [this]
  ·simp [hi]
 rw [e]; omega
theorem or_high (x y : Int) (hx : 0 ≤ x ∧ x < 4611686018427387904) (hy : 0 ≤ y ∧ y < 4) : bits .or .u64 x (y * 4611686018427387904) = x + y * 4611686018427387904 := by
 rw [u64_or _ _ hx.1 (by omega) (by omega) (by omega)]
 obtain ⟨a, rfl⟩ := Int.eq_ofNat_of_zero_le hx.1
 obtain ⟨b, rfl⟩ := Int.eq_ofNat_of_zero_le hy.1
 have h := Nat.shiftLeft_add_eq_or_of_lt (i := 62) (b := a) (by omega) b
 have e1 : ((b : Int) * 4611686018427387904).toNat = b <<< 62 := by rw [Nat.shiftLeft_eq]; omega
 rw [e1, Int.toNat_natCast, Nat.or_comm, ← h, Nat.shiftLeft_eq]; omega
theorem times_code (x0 x1 x2 r0 r1 : Int) (h0 : 0 ≤ x0 ∧ x0 < 18446744073709551616) (h1 : 0 ≤ x1 ∧ x1 < 18446744073709551616) (h2 : 0 ≤ x2 ∧ x2 < 8) (g0 : 0 ≤ r0 ∧ r0 < 1152921504606846976) (g1 : 0 ≤ r1 ∧ r1 < 1152921504606846976) :
  ∃ a b c d e f : Int, x0 * r0 = a ∧ x0 * r1 = b ∧ x1 * r0 = c ∧ x1 * r1 = d ∧ x2 * r0 = e ∧ x2 * r1 = f ∧
   (x0 + 18446744073709551616 * x1 + 340282366920938463463374607431768211456 * x2) * (r0 + 18446744073709551616 * r1) = a + 18446744073709551616 * (b + c) + 340282366920938463463374607431768211456 * (d + e) + 6277101735386680763835789423207666416102355444464034512896 * f ∧
   0 ≤ a ∧ a ≤ 21267647932558653966460912964485513216 ∧ 0 ≤ b ∧ b ≤ 21267647932558653966460912964485513216 ∧ 0 ≤ c ∧ c ≤ 21267647932558653966460912964485513216 ∧ 0 ≤ d ∧ d ≤ 21267647932558653966460912964485513216 ∧ 0 ≤ e ∧ e ≤ 8070450532247928832 ∧ 0 ≤ f ∧ f ≤ 8070450532247928832 := by
 have big : ∀ x r : Int, 0 ≤ x ∧ x < 18446744073709551616 → 0 ≤ r ∧ r < 1152921504606846976 → 0 ≤ x * r ∧ x * r ≤ 21267647932558653966460912964485513216 := by
  intro x r hx hr
  refine ⟨Int.mul_nonneg hx.1 hr.1, ?_⟩
  have := Int.mul_le_mul (Int.le_of_lt hx.2) (Int.le_of_lt hr.2) hr.1 (by decide)
  exact Int.le_trans this (by decide)
 have small : ∀ x r : Int, 0 ≤ x ∧ x < 8 → 0 ≤ r ∧ r < 1152921504606846976 → 0 ≤ x * r ∧ x * r ≤ 8070450532247928832 := by
  intro x r hx hr
  refine ⟨Int.mul_nonneg hx.1 hr.1, ?_⟩
  have := Int.mul_le_mul (show x ≤ 7 by omega) (Int.le_of_lt hr.2) hr.1 (by decide)
  exact Int.le_trans this (by decide)
 refine ⟨_, _, _, _, _, _, rfl, rfl, rfl, rfl, rfl, rfl, ?_, (big _ _ h0 g0).1, (big _ _ h0 g0).2, (big _ _ h0 g1).1, (big _ _ h0 g1).2, (big _ _ h1 g0).1, (big _ _ h1 g0).2, (big _ _ h1 g1).1, (big _ _ h1 g1).2, (small _ _ h2 g0).1, (small _ _ h2 g0).2, (small _ _ h2 g1).1, (small _ _ h2 g1).2⟩
 simp only [Int.add_mul, Int.mul_add]
 have e1 : x0 * (18446744073709551616 * r1) = 18446744073709551616 * (x0 * r1) := Int.mul_left_comm ..
 have e2 : 18446744073709551616 * x1 * r0 = 18446744073709551616 * (x1 * r0) := Int.mul_assoc ..
 have e3 : 18446744073709551616 * x1 * (18446744073709551616 * r1) = 340282366920938463463374607431768211456 * (x1 * r1) := by rw [Int.mul_assoc, Int.mul_left_comm x1, ← Int.mul_assoc]; rfl
 have e4 : 340282366920938463463374607431768211456 * x2 * r0 = 340282366920938463463374607431768211456 * (x2 * r0) := Int.mul_assoc ..
 have e5 : 340282366920938463463374607431768211456 * x2 * (18446744073709551616 * r1) = 6277101735386680763835789423207666416102355444464034512896 * (x2 * r1) := by rw [Int.mul_assoc, Int.mul_left_comm x2, ← Int.mul_assoc]; rfl
 rw [e1, e2, e3, e4, e5]; omega
theorem bit_any (x : Int) (hx : Word x) (w : World) :
  Calls Tryz.prog 57 #[.int .u64 x] w fun e w' => e = .returned (.int .u64 (mk (x % 2 == 1))) ∧ w = w' := by
 have H : Hid (IntKind.u64.wrap (wrap64 (-wrap64 (bits .and .u64 x 1))) = mk (x % 2 == 1)) := bit_code x hx
 go_enter Tryz.func57, Tryz.ntmps57
 go_wp2
 go_ret
 exact ⟨ret_int H.out, rfl⟩
theorem ch64_any (m x y : Int) (hm : Word m) (hx : Word x) (hy : Word y) (w : World) :
  Calls Tryz.prog 80 #[.int .u64 m, .int .u64 x, .int .u64 y] w fun e w' => e = .returned (.int .u64 (pk m x y)) ∧ w = w' := by
 have H : Hid (bits .xor .u64 y (bits .and .u64 (bits .xor .u64 x y) m) = pk m x y) := choose_u64 m x y hm hx hy
 go_enter Tryz.func80, Tryz.ntmps80
 go_wp2
 go_ret
 exact ⟨ret_int H.out, rfl⟩
theorem pick_any (m x y : Int) (hm : Word m) (hx : Word x) (hy : Word y) (w : World) :
  Calls Tryz.prog 59 #[.int .u64 m, .int .u64 x, .int .u64 y] w fun e w' => e = .returned (.int .u64 (pk m x y)) ∧ w = w' := by
 go_enter Tryz.func59, Tryz.ntmps59
 go_wp2_with (go_at_call 80; refine (ch64_any _ _ _ hm hx hy _).mono ?_; rintro e w' ⟨rfl, rfl⟩)
 go_ret
 exact ⟨rfl, rfl⟩
theorem add64 (x y c : Int) (hx : Word x) (hy : Word y) (hc0 : 0 ≤ c) (hc : c ≤ 1) (w : World) : (callFunc 171 #[.int .u64 x, .int .u64 y, .int .u64 c]).run Tryz.prog w =
  .ok (.value (.tuple #[.int .u64 ((x + y + c) % 18446744073709551616), .int .u64 ((x + y + c) / 18446744073709551616)])) w := by
 obtain ⟨h1, h2⟩ := hx
 obtain ⟨h3, h4⟩ := hy
 obtain ⟨x, rfl⟩ := Int.eq_ofNat_of_zero_le h1
 obtain ⟨y, rfl⟩ := Int.eq_ofNat_of_zero_le h3
 obtain ⟨c, rfl⟩ := Int.eq_ofNat_of_zero_le hc0
 rw [run_callFunc_extern Tryz.func171 (by kernel_rfl) (by kernel_rfl) (by kernel_rfl) (e := add64Entry) (by kernel_rfl), run_add64 x y c (by omega) (by omega) (by omega) (by omega)]
 simp only [Result.andThen]
theorem add64_0 (x y : Int) (hx : Word x) (hy : Word y) (w : World) : (callFunc 171 #[.int .u64 x, .int .u64 y, .int .u64 0]).run Tryz.prog w =
  .ok (.value (.tuple #[.int .u64 ((x + y) % 18446744073709551616), .int .u64 ((x + y) / 18446744073709551616)])) w := by
 simpa using add64 x y 0 hx hy (Int.le_refl 0) (by decide) w
def bor (x y : Int) : Int := if x < y then 1 else 0
theorem bor_bd (x y : Int) : 0 ≤ bor x y ∧ bor x y ≤ 1 := by unfold bor; split <;> decide
theorem sub64 (x y b : Int) (hx : Word x) (hy : Word y) (hb0 : 0 ≤ b) (hb : b ≤ 1) (w : World) : (callFunc 79 #[.int .u64 x, .int .u64 y, .int .u64 b]).run Tryz.prog w =
  .ok (.value (.tuple #[.int .u64 ((x - y - b) % 18446744073709551616), .int .u64 (bor x (y + b))])) w := by
 obtain ⟨h1, h2⟩ := hx
 obtain ⟨h3, h4⟩ := hy
 obtain ⟨x, rfl⟩ := Int.eq_ofNat_of_zero_le h1
 obtain ⟨y, rfl⟩ := Int.eq_ofNat_of_zero_le h3
 obtain ⟨b, rfl⟩ := Int.eq_ofNat_of_zero_le hb0
 rw [run_callFunc_extern Tryz.func79 (by kernel_rfl) (by kernel_rfl) (by kernel_rfl) (e := sub64Entry) (by kernel_rfl), run_sub64 x y b (by omega)]
 have e1 : (((x + 18446744073709551616 - y - b) % 18446744073709551616 : Nat) : Int) = ((x : Int) - y - b) % 18446744073709551616 := by omega
 have e2 : ((if x < y + b then 1 else 0 : Nat) : Int) = bor x (y + b) := by unfold bor; split <;> split <;> omega
 rw [e1, e2]
 rfl
theorem sub64_0 (x y : Int) (hx : Word x) (hy : Word y) (w : World) : (callFunc 79 #[.int .u64 x, .int .u64 y, .int .u64 0]).run Tryz.prog w =
  .ok (.value (.tuple #[.int .u64 ((x - y) % 18446744073709551616), .int .u64 (bor x y)])) w := by
 simpa using sub64 x y 0 hx hy (Int.le_refl 0) (by decide) w
theorem mul64_nat (x y : Nat) (hx : x < 18446744073709551616) (hy : y < 18446744073709551616) (w : World) :
  Calls Tryz.prog 174 #[.int .u64 x, .int .u64 y] w fun e w' => e = .returned (.tuple #[.int .u64 ((x * y / 18446744073709551616 : Nat) : Int), .int .u64 ((x * y % 18446744073709551616 : Nat) : Int)]) ∧ w' = w := by
 obtain ⟨bd, bt, bw, hhi⟩ := Lib.mul64_hi x y hx hy
 have ba := Lib.half_mul_le (a := x / 4294967296) (b := y / 4294967296) (by omega) (by omega)
 have bb := Lib.half_mul_le (a := x / 4294967296) (b := y % 4294967296) (by omega) (by omega)
 have bc := Lib.half_mul_le (a := x % 4294967296) (b := y / 4294967296) (by omega) (by omega)
 have ba' : x / 4294967296 * (y / 4294967296) < 18446744073709551616 := by omega
 have bb' : x / 4294967296 * (y % 4294967296) < 18446744073709551616 := by omega
 have bc' : x % 4294967296 * (y / 4294967296) < 18446744073709551616 := by omega
 have bh1 : x / 4294967296 * (y / 4294967296) + (x / 4294967296 * (y % 4294967296) + x % 4294967296 * (y % 4294967296) / 4294967296) / 4294967296 < 18446744073709551616 := by omega
 have bh : x / 4294967296 * (y / 4294967296) + (x / 4294967296 * (y % 4294967296) + x % 4294967296 * (y % 4294967296) / 4294967296) / 4294967296 + ((x / 4294967296 * (y % 4294967296) + x % 4294967296 * (y % 4294967296) / 4294967296) % 4294967296 + x % 4294967296 * (y / 4294967296)) / 4294967296 < 18446744073709551616 := by omega
 go_enter Tryz.func174, Tryz.ntmps174
 go_wp2
 simp only [Mul64.maskN x hx, Mul64.maskN y hy, Mul64.divN, Mul64.mulN, Mul64.addN, Mul64.wrapN _ bd, Mul64.wrapN _ bb', Mul64.wrapN _ bt, Mul64.maskN _ bt, Mul64.wrapN _ bc', Mul64.wrapN _ bw, Mul64.wrapN _ ba', Mul64.wrapN _ bh1, Mul64.wrapN _ bh, Mul64.wrapM (x * y)]
 rw [hhi]
 go_ret2
 exact ⟨rfl, rfl⟩
theorem mul64_any (x y : Int) (hx : Word x) (hy : Word y) (w : World) :
  Calls Tryz.prog 174 #[.int .u64 x, .int .u64 y] w fun e w' => e = .returned (.tuple #[.int .u64 (x * y / 18446744073709551616), .int .u64 (x * y % 18446744073709551616)]) ∧ w = w' := by
 obtain ⟨h1, h2⟩ := hx
 obtain ⟨h3, h4⟩ := hy
 obtain ⟨x, rfl⟩ := Int.eq_ofNat_of_zero_le h1
 obtain ⟨y, rfl⟩ := Int.eq_ofNat_of_zero_le h3
 refine (mul64_nat x y (by omega) (by omega) w).mono ?_
 rintro e w' ⟨rfl, rfl⟩
 exact ⟨by simp, rfl⟩
theorem Blk.whole {w : World} {g : Nat} {t : TypeId} {vs : List Value} (h : Blk w g t vs) : w.rangeAt g 0 vs := fun j v hv => by rw [Nat.zero_add, h.cell]; exact hv
theorem zeroPair : (Tryz.prog.info? 244).map (fun i => (i.zero, i.size)) = some (some (.agg (u64s [0, 0]).toArray), 2) := by kernel_rfl
theorem sizePair : (Tryz.prog.info? 244).map (·.size) = some 2 := by kernel_rfl
theorem zeroNumber : (Tryz.prog.info? 247).map (fun i => (i.zero, i.size)) = some (some (.agg (u64s [0, 0, 0]).toArray), 3) := by kernel_rfl
theorem sizeNumber : (Tryz.prog.info? 247).map (·.size) = some 3 := by kernel_rfl
theorem product_any (x y : Int) (hx : Word x) (hy : Word y) (w : World) :
  Calls Tryz.prog 173 #[.int .u64 x, .int .u64 y] w fun e w' => e = .returned (.agg (u64s (pr (x * y))).toArray) ∧ Below w.heap.size w w' := by
 obtain ⟨z, hz⟩ : ∃ z, x * y = z := ⟨_, rfl⟩
 have hm := mul64_any x y hx hy
 rw [hz] at hm ⊢
 clear hz
 go_enter Tryz.func173, Tryz.ntmps173
 go_wp2_with (go_at_call 174; refine (hm _).mono ?_; rintro e w' ⟨rfl, rfl⟩)
 simp [bodyPost, results, Tryz.results173, go_sem, pr, u64s]
 exact (Below.refl _ _).alloc (Nat.le_refl _) _
theorem pplus_any (x y : Int) (hx : 0 ≤ x ∧ x < 340282366920938463463374607431768211456) (hy : 0 ≤ y ∧ y < 340282366920938463463374607431768211456) (w : World) :
  Calls Tryz.prog 166 #[.agg (u64s (pr x)).toArray, .agg (u64s (pr y)).toArray] w fun e w' => e = .returned (.agg (u64s (pr ((x + y) % 340282366920938463463374607431768211456))).toArray) ∧ Below w.heap.size w w' := by
 obtain ⟨x0, hx0⟩ : ∃ z, x % 18446744073709551616 = z := ⟨_, rfl⟩
 obtain ⟨x1, hx1⟩ : ∃ z, x / 18446744073709551616 = z := ⟨_, rfl⟩
 obtain ⟨y0, hy0⟩ : ∃ z, y % 18446744073709551616 = z := ⟨_, rfl⟩
 obtain ⟨y1, hy1⟩ : ∃ z, y / 18446744073709551616 = z := ⟨_, rfl⟩
 have e0 : (x + y) % 340282366920938463463374607431768211456 % 18446744073709551616 = (x0 + y0) % 18446744073709551616 := by omega
 have e1 : (x + y) % 340282366920938463463374607431768211456 / 18446744073709551616 = (x1 + y1 + (x0 + y0) / 18446744073709551616) % 18446744073709551616 := by omega
 simp only [pr, u64s, List.map_cons, List.map_nil, hx0, hx1, hy0, hy1, e0, e1]
 have a0 : Word x0 := ⟨by omega, by omega⟩
 have a1 : Word x1 := ⟨by omega, by omega⟩
 have b0 : Word y0 := ⟨by omega, by omega⟩
 have b1 : Word y1 := ⟨by omega, by omega⟩
 have k0 : 0 ≤ (x0 + y0) / 18446744073709551616 := by omega
 have k1 : (x0 + y0) / 18446744073709551616 ≤ 1 := by omega
 clear hx hy hx0 hx1 hy0 hy1 e0 e1
 go_enter Tryz.func166, Tryz.ntmps166
 go_wp2_with (first | simp only [add64_0 x0 y0 a0 b0] | simp only [add64 x1 y1 _ a1 b1 k0 k1])
 simp [bodyPost, results, Tryz.results166, go_sem]
 exact (((Below.refl _ _).alloc (Nat.le_refl _) _).alloc (by simp) _).alloc (by simp; omega) _
theorem nplus_any (x y : Int) (hx : 0 ≤ x) (hy : 0 ≤ y) (hs : x + y < 6277101735386680763835789423207666416102355444464034512896) (w : World) :
  Calls Tryz.prog 169 #[.agg (u64s (nm x)).toArray, .agg (u64s (nm y)).toArray] w fun e w' => e = .returned (.agg (u64s (nm (x + y))).toArray) ∧ Below w.heap.size w w' := by
 obtain ⟨x0, hx0⟩ : ∃ z, x % 18446744073709551616 = z := ⟨_, rfl⟩
 obtain ⟨x1, hx1⟩ : ∃ z, x / 18446744073709551616 % 18446744073709551616 = z := ⟨_, rfl⟩
 obtain ⟨x2, hx2⟩ : ∃ z, x / 340282366920938463463374607431768211456 = z := ⟨_, rfl⟩
 obtain ⟨y0, hy0⟩ : ∃ z, y % 18446744073709551616 = z := ⟨_, rfl⟩
 obtain ⟨y1, hy1⟩ : ∃ z, y / 18446744073709551616 % 18446744073709551616 = z := ⟨_, rfl⟩
 obtain ⟨y2, hy2⟩ : ∃ z, y / 340282366920938463463374607431768211456 = z := ⟨_, rfl⟩
 have e0 : (x + y) % 18446744073709551616 = (x0 + y0) % 18446744073709551616 := by omega
 have e1 : (x + y) / 18446744073709551616 % 18446744073709551616 = (x1 + y1 + (x0 + y0) / 18446744073709551616) % 18446744073709551616 := by omega
 have e2 : (x + y) / 340282366920938463463374607431768211456 = x2 + y2 + (x1 + y1 + (x0 + y0) / 18446744073709551616) / 18446744073709551616 := by omega
 simp only [nm, u64s, List.map_cons, List.map_nil, hx0, hx1, hx2, hy0, hy1, hy2, e0, e1, e2]
 have a0 : Word x0 := ⟨by omega, by omega⟩
 have a1 : Word x1 := ⟨by omega, by omega⟩
 have b0 : Word y0 := ⟨by omega, by omega⟩
 have b1 : Word y1 := ⟨by omega, by omega⟩
 have k0 : 0 ≤ (x0 + y0) / 18446744073709551616 := by omega
 have k1 : (x0 + y0) / 18446744073709551616 ≤ 1 := by omega
 have c0 : 0 ≤ x2 + y2 := by omega
 have c1 : x2 + y2 + (x1 + y1 + (x0 + y0) / 18446744073709551616) / 18446744073709551616 < 18446744073709551616 := by omega
 have v1 : IntKind.u64.wrap (x2 + y2) = x2 + y2 := by rw [IntKind.wrap_u64]; omega
 have v2 : IntKind.u64.wrap (x2 + y2 + (x1 + y1 + (x0 + y0) / 18446744073709551616) / 18446744073709551616) = x2 + y2 + (x1 + y1 + (x0 + y0) / 18446744073709551616) / 18446744073709551616 := by rw [IntKind.wrap_u64]; omega
 clear hx hy hs hx0 hx1 hx2 hy0 hy1 hy2 e0 e1 e2
 go_enter Tryz.func169, Tryz.ntmps169
 go_wp2_with (first | simp only [add64_0 x0 y0 a0 b0] | simp only [add64 x1 y1 _ a1 b1 k0 k1])
 simp [bodyPost, results, Tryz.results169, go_sem]
 exact (((Below.refl _ _).alloc (Nat.le_refl _) _).alloc (by simp) _).alloc (by simp; omega) _
theorem zeroFour : (Tryz.prog.info? 255).map (fun i => (i.zero, i.size)) = some (some (.agg (u64s [0, 0, 0, 0]).toArray), 4) := by kernel_rfl
theorem sizeFour : (Tryz.prog.info? 255).map (·.size) = some 4 := by kernel_rfl
theorem pr_small (v : Int) (h0 : 0 ≤ v) (h1 : v < 18446744073709551616) : pr v = [v, 0] := by
 unfold pr
 rw [Int.emod_eq_of_lt h0 h1, Int.ediv_eq_zero_of_lt h0 h1]
theorem q4_code (a b c d e f X : Int) (hX : X = a + 18446744073709551616 * (b + c) + 340282366920938463463374607431768211456 * (d + e) + 6277101735386680763835789423207666416102355444464034512896 * f) :
  q4 X = [a % 18446744073709551616, (b + c + a / 18446744073709551616) % 18446744073709551616, (d + e + (b + c + a / 18446744073709551616) / 18446744073709551616) % 18446744073709551616, f + (d + e + (b + c + a / 18446744073709551616) / 18446744073709551616) / 18446744073709551616] := by
 subst hX
 unfold q4
 refine List.cons_eq_cons.2 ⟨by omega, List.cons_eq_cons.2 ⟨by omega, List.cons_eq_cons.2 ⟨by omega, List.cons_eq_cons.2 ⟨by omega, rfl⟩⟩⟩⟩
theorem build_one (z : Int) (w : World) : (Instr.build 244 #[(0, .int .u64 z)]).run Tryz.prog w = .ok (.agg (u64s [z, 0]).toArray) w := by kernel_rfl
theorem build_four (a b c d : Int) (w : World) : (Instr.build 255 #[(0, .int .u64 a), (1, .int .u64 b), (2, .int .u64 c), (3, .int .u64 d)]).run Tryz.prog w = .ok (.agg (u64s [a, b, c, d]).toArray) w := by kernel_rfl
theorem times_any (x r0 r1 : Int) (hx : 0 ≤ x ∧ x < 2722258935367507707706996859454145691648) (g0 : 0 ≤ r0 ∧ r0 < 1152921504606846976) (g1 : 0 ≤ r1 ∧ r1 < 1152921504606846976) (w : World) :
  Calls Tryz.prog 170 #[.agg (u64s (nm x)).toArray, .agg (u64s [r0, r1]).toArray] w fun e w' => e = .returned (.agg (u64s (q4 (x * (r0 + 18446744073709551616 * r1)))).toArray) ∧ Below w.heap.size w w' := by
 obtain ⟨x0, hx0⟩ : ∃ z, x % 18446744073709551616 = z := ⟨_, rfl⟩
 obtain ⟨x1, hx1⟩ : ∃ z, x / 18446744073709551616 % 18446744073709551616 = z := ⟨_, rfl⟩
 obtain ⟨x2, hx2⟩ : ∃ z, x / 340282366920938463463374607431768211456 = z := ⟨_, rfl⟩
 have k0 : Word x0 := ⟨by omega, by omega⟩
 have k1 : Word x1 := ⟨by omega, by omega⟩
 have k2 : 0 ≤ x2 ∧ x2 < 8 := ⟨by omega, by omega⟩
 have hxx : x = x0 + 18446744073709551616 * x1 + 340282366920938463463374607431768211456 * x2 := by omega
 obtain ⟨a, b, c, d, e, f, ha, hb, hc, hd, he, hf, hX, a0, a1, b0, b1, c0, c1, d0, d1, e0, e1, f0, f1⟩ := times_code x0 x1 x2 r0 r1 k0 k1 k2 g0 g1
 rw [← hxx] at hX
 have hq := q4_code a b c d e f _ hX
 have en : nm x = [x0, x1, x2] := by unfold nm; rw [hx0, hx1, hx2]
 rw [hq, en]
 obtain ⟨s, hs⟩ : ∃ z, b + c + a / 18446744073709551616 = z := ⟨_, rfl⟩
 obtain ⟨t, ht⟩ : ∃ z, d + e + s / 18446744073709551616 = z := ⟨_, rfl⟩
 rw [hs, ht]
 have w0 : Word r0 := ⟨g0.1, by omega⟩
 have w1 : Word r1 := ⟨g1.1, by omega⟩
 have w2 : Word x2 := ⟨k2.1, by omega⟩
 have CC : Hid ((∀ w, Calls Tryz.prog 173 #[.int .u64 x0, .int .u64 r0] w fun e w' => e = .returned (.agg (u64s (pr a)).toArray) ∧ Below w.heap.size w w') ∧ (∀ w, Calls Tryz.prog 173 #[.int .u64 x0, .int .u64 r1] w fun e w' => e = .returned (.agg (u64s (pr b)).toArray) ∧ Below w.heap.size w w') ∧ (∀ w, Calls Tryz.prog 173 #[.int .u64 x1, .int .u64 r0] w fun e w' => e = .returned (.agg (u64s (pr c)).toArray) ∧ Below w.heap.size w w') ∧ (∀ w, Calls Tryz.prog 173 #[.int .u64 x1, .int .u64 r1] w fun e w' => e = .returned (.agg (u64s (pr d)).toArray) ∧ Below w.heap.size w w') ∧ (∀ w, Calls Tryz.prog 173 #[.int .u64 x2, .int .u64 r0] w fun z w' => z = .returned (.agg (u64s (pr e)).toArray) ∧ Below w.heap.size w w')) := by
  rw [← ha, ← hb, ← hc, ← hd, ← he]
  exact ⟨product_any _ _ k0 w0, product_any _ _ k0 w1, product_any _ _ k1 w0, product_any _ _ k1 w1, product_any _ _ w2 w0⟩
 have DD : Hid ((∀ w, Calls Tryz.prog 166 #[.agg (u64s (pr b)).toArray, .agg (u64s (pr c)).toArray] w fun e w' => e = .returned (.agg (u64s (pr (b + c))).toArray) ∧ Below w.heap.size w w') ∧ (∀ w, Calls Tryz.prog 166 #[.agg (u64s (pr (b + c))).toArray, .agg (u64s [a / 18446744073709551616, 0]).toArray] w fun e w' => e = .returned (.agg (u64s (pr s)).toArray) ∧ Below w.heap.size w w') ∧ (∀ w, Calls Tryz.prog 166 #[.agg (u64s (pr d)).toArray, .agg (u64s (pr e)).toArray] w fun z w' => z = .returned (.agg (u64s (pr (d + e))).toArray) ∧ Below w.heap.size w w') ∧ (∀ w, Calls Tryz.prog 166 #[.agg (u64s (pr (d + e))).toArray, .agg (u64s [s / 18446744073709551616, 0]).toArray] w fun z w' => z = .returned (.agg (u64s (pr t)).toArray) ∧ Below w.heap.size w w')) := by
  have h1 := pplus_any b c ⟨b0, by omega⟩ ⟨c0, by omega⟩
  have h2 := pplus_any (b + c) (a / 18446744073709551616) ⟨by omega, by omega⟩ ⟨by omega, by omega⟩
  have h3 := pplus_any d e ⟨d0, by omega⟩ ⟨e0, by omega⟩
  have h4 := pplus_any (d + e) (s / 18446744073709551616) ⟨by omega, by omega⟩ ⟨by omega, by omega⟩
  rw [Int.emod_eq_of_lt (by omega) (by omega)] at h1 h2 h3 h4
  rw [pr_small (a / 18446744073709551616) (by omega) (by omega), hs] at h2
  rw [pr_small (s / 18446744073709551616) (by omega) (by omega), ht] at h4
  exact ⟨h1, h2, h3, h4⟩
 have AR : Hid (0 ≤ a ∧ 0 ≤ s ∧ 0 ≤ t ∧ f + t / 18446744073709551616 < 18446744073709551616) := ⟨a0, by omega, by omega, by omega⟩
 have v1 : IntKind.u64.wrap (x2 * r1) = f := by rw [hf, IntKind.wrap_u64]; omega
 have v2 : IntKind.u64.wrap (f + t / 18446744073709551616) = f + t / 18446744073709551616 := by rw [IntKind.wrap_u64]; omega
 clear hx hx0 hx1 hx2 hxx hX hq en ha hb hc hd he hf a0 a1 b0 b1 c0 c1 d0 d1 e0 e1 f0 f1 hs ht k0 k1 k2 w0 w1 w2 g0 g1
 go_enter Tryz.func170, Tryz.ntmps170
 go_wp2_with (first | (refine wpList_box_new rfl 247 _ rfl (u64s [x0, x1, x2]) rfl ?_; intro w1 b1 s1 l1) | (refine wpList_box_new rfl 244 _ rfl (u64s [r0, r1]) rfl ?_; intro w2 b2 s2 l2) | (refine wpList_alloc_new rfl 255 rfl 4 _ zeroFour ?_; intro w3 b3 s3 l3; have cA : w3.cell? ⟨w.heap.size, 0, none⟩ = some (.int .u64 x0) := ((b1.later l2 (by omega)).later l3 (by omega)).cell 0; have cB : w3.cell? ⟨w.heap.size + 1, 0, none⟩ = some (.int .u64 r0) := by { rw [← s1]; exact (b2.later l3 (by omega)).cell 0 }) | (go_at_call 173; refine (CC.out.1 _).mono ?_; rintro e w4 ⟨rfl, l4⟩) | (refine wpList_alloc_new rfl 244 rfl 2 _ zeroPair ?_; intro w5 b5 s5 l5) | (refine wpList_store_blk rfl 244 244 _ _ rfl _ rfl _ (u64s (pr a)) rfl b5 rfl sizePair (u64s_one _) ?_; intro w6 b6 s6 k6))
 simp only [Act.put, sqA, sqB, sqC]
 obtain ⟨G, hG⟩ : ∃ G, w4.heap.size = G := ⟨_, rfl⟩
 rw [hG] at b6 k6 ⊢
 have HB : Hid (Blk w6 w.heap.size 247 (u64s [x0, x1, x2]) ∧ Blk w6 (w.heap.size + 1) 244 (u64s [r0, r1]) ∧ Blk w6 G 244 (u64s (pr a)) ∧ Blk w6 (w.heap.size + 1 + 1) 255 (u64s [0, 0, 0, 0]) ∧ Below w.heap.size w w6 ∧ w.heap.size + 3 ≤ G) := by
  have q4 := l4.size
  rw [s1] at b2
  rw [s2, s1] at b3
  exact ⟨((((b1.later l2 (by omega)).later l3 (by omega)).later l4 (by omega)).later l5 (by omega)).kept k6 (by omega), (((b2.later l3 (by omega)).later l4 (by omega)).later l5 (by omega)).kept k6 (by omega), b6, ((b3.later l4 (by omega)).later l5 (by omega)).kept k6 (by omega), below_kept (below_chain (below_chain (below_chain (below_chain l1 l2 (by omega)) l3 (by omega)) l4 (by omega)) l5 (by omega)) k6 (by omega) (fun j hj => by omega), by omega⟩
 clear b1 s1 l1 b2 s2 l2 b3 s3 l3 l4 b5 s5 l5 b6 s6 k6 hG cA cB
 refine region_inv [.val (.pointer (some ⟨w.heap.size, 0, none⟩)), .val (.int .u64 x0), .val (.pointer (some ⟨(w.heap.size + 1), 1, none⟩)), .val (.int .u64 r1), .val (.agg (u64s (pr b)).toArray), .val (.pointer (some ⟨w.heap.size, 1, none⟩)), .val (.int .u64 x1), .val (.pointer (some ⟨(w.heap.size + 1), 0, none⟩)), .val (.int .u64 r0), .val (.agg (u64s (pr c)).toArray), .val (.agg (u64s (pr (b + c))).toArray), .val (.pointer (some ⟨G, 1, none⟩)), .val (.int .u64 (a / 18446744073709551616)), .val (.agg (u64s [a / 18446744073709551616, 0]).toArray), .val (.agg (u64s (pr s)).toArray), .blk 244 (u64s [0, 0])] (by kernel_rfl) (by kernel_rfl) (by kernel_rfl) ?_ ?_
 ·refine Steps'.cons ?_ (Steps'.cons ?_ (Steps'.cons ?_ (Steps'.cons ?_ (Steps'.cons ?_ (Steps'.cons ?_ (Steps'.cons ?_ (Steps'.cons ?_ (Steps'.cons ?_ (Steps'.cons ?_ (Steps'.cons ?_ (Steps'.cons ?_ (Steps'.cons ?_ (Steps'.cons ?_ (Steps'.cons ?_ (Steps'.cons ?_ (Steps'.one _ _ _ _ _ _ _))))))))))))))))
  ·intro ax wx hb hs hd
   have h2 : ax.tmps.getD 2 undef = (.pointer (some ⟨w.heap.size, 0, none⟩)) := hs 2 (by kernel_rfl)
   refine Does.value (.pointer (some ⟨w.heap.size, 0, none⟩)) ?_ rfl
   go_simp
  ·intro ax wx hb hs hd
   have h13 := sqV (hd 0 13 rfl (by kernel_rfl) (by decide))
   have cx : wx.cell? ⟨w.heap.size, 0, none⟩ = some (.int .u64 x0) := (Blk.later HB.out.1 hb (Blk.lt HB.out.1)).cell 0
   refine Does.value (.int .u64 x0) ?_ rfl
   go_simp
  ·intro ax wx hb hs hd
   have h3 : ax.tmps.getD 3 undef = (.pointer (some ⟨(w.heap.size + 1), 0, none⟩)) := hs 3 (by kernel_rfl)
   refine Does.value (.pointer (some ⟨(w.heap.size + 1), 1, none⟩)) ?_ rfl
   go_simp
  ·intro ax wx hb hs hd
   have h15 := sqV (hd 2 15 rfl (by kernel_rfl) (by decide))
   have cx : wx.cell? ⟨(w.heap.size + 1), 1, none⟩ = some (.int .u64 r1) := (Blk.later HB.out.2.1 hb (Blk.lt HB.out.2.1)).cell 1
   refine Does.value (.int .u64 r1) ?_ rfl
   go_simp
  ·intro ax wx hb hs hd
   have h14 := sqV (hd 1 14 rfl (by kernel_rfl) (by decide))
   have h16 := sqV (hd 3 16 rfl (by kernel_rfl) (by decide))
   refine Does.call 173 #[(.int .u64 x0), (.int .u64 r1)] (by go_simp) ?_
   refine (CC.out.2.1 _).mono ?_
   rintro z w' ⟨rfl, l⟩
   exact ⟨_, rfl, rfl, l⟩
  ·intro ax wx hb hs hd
   have h2 : ax.tmps.getD 2 undef = (.pointer (some ⟨w.heap.size, 0, none⟩)) := hs 2 (by kernel_rfl)
   refine Does.value (.pointer (some ⟨w.heap.size, 1, none⟩)) ?_ rfl
   go_simp
  ·intro ax wx hb hs hd
   have h18 := sqV (hd 5 18 rfl (by kernel_rfl) (by decide))
   have cx : wx.cell? ⟨w.heap.size, 1, none⟩ = some (.int .u64 x1) := (Blk.later HB.out.1 hb (Blk.lt HB.out.1)).cell 1
   refine Does.value (.int .u64 x1) ?_ rfl
   go_simp
  ·intro ax wx hb hs hd
   have h3 : ax.tmps.getD 3 undef = (.pointer (some ⟨(w.heap.size + 1), 0, none⟩)) := hs 3 (by kernel_rfl)
   refine Does.value (.pointer (some ⟨(w.heap.size + 1), 0, none⟩)) ?_ rfl
   go_simp
  ·intro ax wx hb hs hd
   have h20 := sqV (hd 7 20 rfl (by kernel_rfl) (by decide))
   have cx : wx.cell? ⟨(w.heap.size + 1), 0, none⟩ = some (.int .u64 r0) := (Blk.later HB.out.2.1 hb (Blk.lt HB.out.2.1)).cell 0
   refine Does.value (.int .u64 r0) ?_ rfl
   go_simp
  ·intro ax wx hb hs hd
   have h19 := sqV (hd 6 19 rfl (by kernel_rfl) (by decide))
   have h21 := sqV (hd 8 21 rfl (by kernel_rfl) (by decide))
   refine Does.call 173 #[(.int .u64 x1), (.int .u64 r0)] (by go_simp) ?_
   refine (CC.out.2.2.1 _).mono ?_
   rintro z w' ⟨rfl, l⟩
   exact ⟨_, rfl, rfl, l⟩
  ·intro ax wx hb hs hd
   have h17 := sqV (hd 4 17 rfl (by kernel_rfl) (by decide))
   have h22 := sqV (hd 9 22 rfl (by kernel_rfl) (by decide))
   refine Does.call 166 #[(.agg (u64s (pr b)).toArray), (.agg (u64s (pr c)).toArray)] (by go_simp) ?_
   refine (DD.out.1 _).mono ?_
   rintro z w' ⟨rfl, l⟩
   exact ⟨_, rfl, rfl, l⟩
  ·intro ax wx hb hs hd
   have h5 : ax.tmps.getD 5 undef = (.pointer (some ⟨G, 0, none⟩)) := hs 5 (by kernel_rfl)
   refine Does.value (.pointer (some ⟨G, 1, none⟩)) ?_ rfl
   go_simp
  ·intro ax wx hb hs hd
   have h24 := sqV (hd 11 24 rfl (by kernel_rfl) (by decide))
   have cx : wx.cell? ⟨G, 1, none⟩ = some (.int .u64 (a / 18446744073709551616)) := (Blk.later HB.out.2.2.1 hb (Blk.lt HB.out.2.2.1)).cell 1
   refine Does.value (.int .u64 (a / 18446744073709551616)) ?_ rfl
   go_simp
  ·intro ax wx hb hs hd
   have h25 := sqV (hd 12 25 rfl (by kernel_rfl) (by decide))
   exact Does.build 244 _ rfl #[(0, .int .u64 (a / 18446744073709551616))] (by simp only [List.map_toArray, List.map_cons, List.map_nil, Act.eval, h25]) _ (build_one _ _)
  ·intro ax wx hb hs hd
   have h23 := sqV (hd 10 23 rfl (by kernel_rfl) (by decide))
   have h26 := sqV (hd 13 26 rfl (by kernel_rfl) (by decide))
   refine Does.call 166 #[(.agg (u64s (pr (b + c))).toArray), (.agg (u64s [a / 18446744073709551616, 0]).toArray)] (by go_simp) ?_
   refine (DD.out.2.1 _).mono ?_
   rintro z w' ⟨rfl, l⟩
   exact ⟨_, rfl, rfl, l⟩
  ·intro ax wx hb hs hd
   exact Does.alloc 244 rfl 2 _ zeroPair hb.size
 ·intro wx hb
  iterate 15 refine @Ends.val _ _ _ _ _ _ _ _ _ _ rfl ?_
  refine @Ends.blk _ _ _ _ _ _ _ _ _ 244 (u64s [0, 0]) rfl ?_
  intro g15 hg15 bg15
  refine @Ends.one _ _ _ _ _ _ _ ?_
  simp only [Act.put, sqA, sqB, sqC]
  refine last_store 244 (.tmp 6) (.tmp 27) rfl rfl g15 rfl 244 _ (u64s (pr s)) rfl bg15 rfl sizePair (u64s_one _) ?_
  intro w7 b7 s7 k7
  have HC : Hid (Blk w7 w.heap.size 247 (u64s [x0, x1, x2]) ∧ Blk w7 (w.heap.size + 1) 244 (u64s [r0, r1]) ∧ Blk w7 G 244 (u64s (pr a)) ∧ Blk w7 (w.heap.size + 1 + 1) 255 (u64s [0, 0, 0, 0]) ∧ Below w.heap.size w w7 ∧ Blk w7 g15 244 (u64s (pr s)) ∧ w.heap.size + 3 ≤ G ∧ G < g15) := by
   have q1 := HB.out.1.lt
   have q2 := HB.out.2.1.lt
   have q3 := HB.out.2.2.1.lt
   have q4 := HB.out.2.2.2.1.lt
   have q5 := hb.size
   exact ⟨(HB.out.1.later hb q1).kept k7 (by omega), (HB.out.2.1.later hb q2).kept k7 (by omega), (HB.out.2.2.1.later hb q3).kept k7 (by omega), (HB.out.2.2.2.1.later hb q4).kept k7 (by omega), below_kept (below_chain HB.out.2.2.2.2.1 hb (by omega)) k7 (by omega) (fun j hj => by omega), b7, HB.out.2.2.2.2.2, by omega⟩
  clear b7 s7 k7 hb bg15 HB hg15
  go_wp2_with fail
  try simp only [Act.put, sqA, sqB, sqC]
  refine region_inv [.val (.pointer (some ⟨w.heap.size, 1, none⟩)), .val (.int .u64 x1), .val (.pointer (some ⟨(w.heap.size + 1), 1, none⟩)), .val (.int .u64 r1), .val (.agg (u64s (pr d)).toArray), .val (.pointer (some ⟨w.heap.size, 2, none⟩)), .val (.int .u64 x2), .val (.pointer (some ⟨(w.heap.size + 1), 0, none⟩)), .val (.int .u64 r0), .val (.agg (u64s (pr e)).toArray), .val (.agg (u64s (pr (d + e))).toArray), .val (.pointer (some ⟨g15, 1, none⟩)), .val (.int .u64 (s / 18446744073709551616)), .val (.agg (u64s [s / 18446744073709551616, 0]).toArray), .val (.agg (u64s (pr t)).toArray), .blk 244 (u64s [0, 0])] (by kernel_rfl) (by kernel_rfl) (by kernel_rfl) ?_ ?_
  ·refine Steps'.cons ?_ (Steps'.cons ?_ (Steps'.cons ?_ (Steps'.cons ?_ (Steps'.cons ?_ (Steps'.cons ?_ (Steps'.cons ?_ (Steps'.cons ?_ (Steps'.cons ?_ (Steps'.cons ?_ (Steps'.cons ?_ (Steps'.cons ?_ (Steps'.cons ?_ (Steps'.cons ?_ (Steps'.cons ?_ (Steps'.cons ?_ (Steps'.one _ _ _ _ _ _ _))))))))))))))))
   ·intro ax wx hb hs hd
    have h2 : ax.tmps.getD 2 undef = (.pointer (some ⟨w.heap.size, 0, none⟩)) := hs 2 (by kernel_rfl)
    refine Does.value (.pointer (some ⟨w.heap.size, 1, none⟩)) ?_ rfl
    go_simp
   ·intro ax wx hb hs hd
    have h28 := sqV (hd 0 28 rfl (by kernel_rfl) (by decide))
    have cx : wx.cell? ⟨w.heap.size, 1, none⟩ = some (.int .u64 x1) := (Blk.later HC.out.1 hb (Blk.lt HC.out.1)).cell 1
    refine Does.value (.int .u64 x1) ?_ rfl
    go_simp
   ·intro ax wx hb hs hd
    have h3 : ax.tmps.getD 3 undef = (.pointer (some ⟨(w.heap.size + 1), 0, none⟩)) := hs 3 (by kernel_rfl)
    refine Does.value (.pointer (some ⟨(w.heap.size + 1), 1, none⟩)) ?_ rfl
    go_simp
   ·intro ax wx hb hs hd
    have h30 := sqV (hd 2 30 rfl (by kernel_rfl) (by decide))
    have cx : wx.cell? ⟨(w.heap.size + 1), 1, none⟩ = some (.int .u64 r1) := (Blk.later HC.out.2.1 hb (Blk.lt HC.out.2.1)).cell 1
    refine Does.value (.int .u64 r1) ?_ rfl
    go_simp
   ·intro ax wx hb hs hd
    have h29 := sqV (hd 1 29 rfl (by kernel_rfl) (by decide))
    have h31 := sqV (hd 3 31 rfl (by kernel_rfl) (by decide))
    refine Does.call 173 #[(.int .u64 x1), (.int .u64 r1)] (by go_simp) ?_
    refine (CC.out.2.2.2.1 _).mono ?_
    rintro z w' ⟨rfl, l⟩
    exact ⟨_, rfl, rfl, l⟩
   ·intro ax wx hb hs hd
    have h2 : ax.tmps.getD 2 undef = (.pointer (some ⟨w.heap.size, 0, none⟩)) := hs 2 (by kernel_rfl)
    refine Does.value (.pointer (some ⟨w.heap.size, 2, none⟩)) ?_ rfl
    go_simp
   ·intro ax wx hb hs hd
    have h33 := sqV (hd 5 33 rfl (by kernel_rfl) (by decide))
    have cx : wx.cell? ⟨w.heap.size, 2, none⟩ = some (.int .u64 x2) := (Blk.later HC.out.1 hb (Blk.lt HC.out.1)).cell 2
    refine Does.value (.int .u64 x2) ?_ rfl
    go_simp
   ·intro ax wx hb hs hd
    have h3 : ax.tmps.getD 3 undef = (.pointer (some ⟨(w.heap.size + 1), 0, none⟩)) := hs 3 (by kernel_rfl)
    refine Does.value (.pointer (some ⟨(w.heap.size + 1), 0, none⟩)) ?_ rfl
    go_simp
   ·intro ax wx hb hs hd
    have h35 := sqV (hd 7 35 rfl (by kernel_rfl) (by decide))
    have cx : wx.cell? ⟨(w.heap.size + 1), 0, none⟩ = some (.int .u64 r0) := (Blk.later HC.out.2.1 hb (Blk.lt HC.out.2.1)).cell 0
    refine Does.value (.int .u64 r0) ?_ rfl
    go_simp
   ·intro ax wx hb hs hd
    have h34 := sqV (hd 6 34 rfl (by kernel_rfl) (by decide))
    have h36 := sqV (hd 8 36 rfl (by kernel_rfl) (by decide))
    refine Does.call 173 #[(.int .u64 x2), (.int .u64 r0)] (by go_simp) ?_
    refine (CC.out.2.2.2.2 _).mono ?_
    rintro z w' ⟨rfl, l⟩
    exact ⟨_, rfl, rfl, l⟩
   ·intro ax wx hb hs hd
    have h32 := sqV (hd 4 32 rfl (by kernel_rfl) (by decide))
    have h37 := sqV (hd 9 37 rfl (by kernel_rfl) (by decide))
    refine Does.call 166 #[(.agg (u64s (pr d)).toArray), (.agg (u64s (pr e)).toArray)] (by go_simp) ?_
    refine (DD.out.2.2.1 _).mono ?_
    rintro z w' ⟨rfl, l⟩
    exact ⟨_, rfl, rfl, l⟩
   ·intro ax wx hb hs hd
    have h6 : ax.tmps.getD 6 undef = (.pointer (some ⟨g15, 0, none⟩)) := hs 6 (by kernel_rfl)
    refine Does.value (.pointer (some ⟨g15, 1, none⟩)) ?_ rfl
    go_simp
   ·intro ax wx hb hs hd
    have h39 := sqV (hd 11 39 rfl (by kernel_rfl) (by decide))
    have cx : wx.cell? ⟨g15, 1, none⟩ = some (.int .u64 (s / 18446744073709551616)) := (Blk.later HC.out.2.2.2.2.2.1 hb (Blk.lt HC.out.2.2.2.2.2.1)).cell 1
    refine Does.value (.int .u64 (s / 18446744073709551616)) ?_ rfl
    go_simp
   ·intro ax wx hb hs hd
    have h40 := sqV (hd 12 40 rfl (by kernel_rfl) (by decide))
    exact Does.build 244 _ rfl #[(0, .int .u64 (s / 18446744073709551616))] (by simp only [List.map_toArray, List.map_cons, List.map_nil, Act.eval, h40]) _ (build_one _ _)
   ·intro ax wx hb hs hd
    have h38 := sqV (hd 10 38 rfl (by kernel_rfl) (by decide))
    have h41 := sqV (hd 13 41 rfl (by kernel_rfl) (by decide))
    refine Does.call 166 #[(.agg (u64s (pr (d + e))).toArray), (.agg (u64s [s / 18446744073709551616, 0]).toArray)] (by go_simp) ?_
    refine (DD.out.2.2.2 _).mono ?_
    rintro z w' ⟨rfl, l⟩
    exact ⟨_, rfl, rfl, l⟩
   ·intro ax wx hb hs hd
    exact Does.alloc 244 rfl 2 _ zeroPair hb.size
  ·intro wx hb
   iterate 15 refine @Ends.val _ _ _ _ _ _ _ _ _ _ rfl ?_
   refine @Ends.blk _ _ _ _ _ _ _ _ _ 244 (u64s [0, 0]) rfl ?_
   intro g16 hg15 bg15
   refine @Ends.one _ _ _ _ _ _ _ ?_
   simp only [Act.put, sqA, sqB, sqC]
   refine last_store 244 (.tmp 7) (.tmp 42) rfl rfl _ rfl 244 _ (u64s (pr t)) rfl bg15 rfl sizePair (u64s_one _) ?_
   intro w8 b8 s8 k8
   have q1 := HC.out.1.lt
   have q2 := HC.out.2.1.lt
   have q3 := HC.out.2.2.1.lt
   have q4 := HC.out.2.2.2.1.lt
   have q6 := HC.out.2.2.2.2.2.1.lt
   have q5 := hb.size
   have q7 := HC.out.2.2.2.2.2.2
   have m1 := (HC.out.1.later hb q1).kept k8 (by omega)
   have m2 := (HC.out.2.1.later hb q2).kept k8 (by omega)
   have m3 := (HC.out.2.2.1.later hb q3).kept k8 (by omega)
   have m4 := (HC.out.2.2.2.1.later hb q4).kept k8 (by omega)
   have m6 := (HC.out.2.2.2.2.2.1.later hb q6).kept k8 (by omega)
   have HD : Hid (Below w.heap.size w w8 ∧ Blk w8 (w.heap.size + 1 + 1) 255 (u64s [0, 0, 0, 0])) := ⟨below_kept (below_chain HC.out.2.2.2.2.1 hb (by omega)) k8 (by omega) (fun j hj => by omega), m4⟩
   have z1 : w8.cell? ⟨G, 0, none⟩ = some (.int .u64 (a % 18446744073709551616)) := m3.cell 0
   have z2 : w8.cell? ⟨g15, 0, none⟩ = some (.int .u64 (s % 18446744073709551616)) := m6.cell 0
   have z3 : w8.cell? ⟨g16, 0, none⟩ = some (.int .u64 (t % 18446744073709551616)) := b8.cell 0
   have z4 : w8.cell? ⟨g16, 1, none⟩ = some (.int .u64 (t / 18446744073709551616)) := b8.cell 1
   have z5 : w8.cell? ⟨w.heap.size, 2, none⟩ = some (.int .u64 x2) := m1.cell 2
   have z6 : w8.cell? ⟨w.heap.size + 1, 1, none⟩ = some (.int .u64 r1) := m2.cell 1
   clear b8 s8 k8 hb bg15 HC hg15 m1 m2 m3 m4 m6 q1 q2 q3 q4 q5 q6 q7
   go_wp2_with (first | (refine wpList_build rfl 255 _ rfl #[(0, .int .u64 (a % 18446744073709551616)), (1, .int .u64 (s % 18446744073709551616)), (2, .int .u64 (t % 18446744073709551616)), (3, .int .u64 (f + t / 18446744073709551616))] (by simp [Act.eval]) _ (build_four _ _ _ _ _) ?_) | (refine wpList_store_blk rfl 255 255 _ _ rfl _ rfl _ (u64s [a % 18446744073709551616, s % 18446744073709551616, t % 18446744073709551616, f + t / 18446744073709551616]) rfl HD.out.2 rfl sizeFour (u64s_one _) ?_; intro w9 b9 s9 k9))
   exact ret_blk rfl (w.heap.size + 1 + 1) _ _ rfl b9 Tryz.underlying255 rfl sizeFour rfl ⟨rfl, below_kept HD.out.1 k9 HD.out.1.size (fun j hj => by omega)⟩
end Go.Proofs.YtpanagghppdiiaaGreat
