/- Joined by program: what the theorem reaches. -/
import Derived.Laws.CopyOwn
import Derived.Test.YthlbjkfjkggdoaaGreatDoorJA
import Derived.Test.YthlbjkfjkggdoaaGreatDoorJC
namespace Go.Proofs.YthlbjkfjkggdoaaGreatDoor
open Go.RowKit
set_option linter.unusedVariables false
set_option linter.unusedSimpArgs false
set_option maxRecDepth 20000
set_option maxHeartbeats 1000000
def word4 (zs : List Int) (t : Nat) : Int :=
 bits .or .u32 (bits .or .u32 (bits .or .u32 (zs.getD (4 * t) 0 % 4294967296 * 16777216 % 4294967296) (zs.getD (4 * t + 1) 0 % 4294967296 * 65536 % 4294967296)) (zs.getD (4 * t + 2) 0 % 4294967296 * 256 % 4294967296)) (zs.getD (4 * t + 3) 0 % 4294967296)
def w16 (zs : List Int) (k : Nat) : List Int := (List.range k).map (word4 zs)
theorem w16_length (zs : List Int) (k : Nat) : (w16 zs k).length = k := by simp [w16]
theorem w16_succ (zs : List Int) (k : Nat) : w16 zs (k + 1) = w16 zs k ++ [word4 zs k] := by simp [w16, List.range_succ]
def sig0 (x : Int) : Int := bits .xor .u32 (bits .xor .u32 (rotr x 7) (rotr x 18)) (x / 8)
def sig1 (y : Int) : Int := bits .xor .u32 (bits .xor .u32 (rotr y 17) (rotr y 19)) (y / 1024)
def wNext (ws : List Int) (n : Nat) : Int := (ws.getD n 0 + sig0 (ws.getD (n + 1) 0) + ws.getD (n + 9) 0 + sig1 (ws.getD (n + 14) 0)) % 4294967296
def wGrow (zs : List Int) : Nat → List Int
 | 0 => w16 zs 16
 | n + 1 => wGrow zs n ++ [wNext (wGrow zs n) n]
theorem wGrow_length (zs : List Int) (n : Nat) : (wGrow zs n).length = 16 + n := by
 induction n with
 | zero => exact w16_length _ _
 | succ n ih => simp [wGrow, ih]; omega
def sched (zs : List Int) : List Int := wGrow zs 48
theorem sched_length (zs : List Int) : (sched zs).length = 64 := wGrow_length zs 48
def kWords : List Int := [1116352408, 1899447441, 3049323471, 3921009573, 961987163, 1508970993, 2453635748, 2870763221, 3624381080, 310598401, 607225278, 1426881987, 1925078388, 2162078206, 2614888103, 3248222580, 3835390401, 4022224774, 264347078, 604807628, 770255983, 1249150122, 1555081692, 1996064986, 2554220882, 2821834349, 2952996808, 3210313671, 3336571891, 3584528711, 113926993, 338241895, 666307205, 773529912, 1294757372, 1396182291, 1695183700, 1986661051, 2177026350, 2456956037, 2730485921, 2820302411, 3259730800, 3345764771, 3516065817, 3600352804, 4094571909, 275423344, 430227734, 506948616, 659060556, 883997877, 958139571, 1322822218, 1537002063, 1747873779, 1955562222, 2024104815, 2227730452, 2361852424, 2428436474, 2756734187, 3204031479, 3329325298]
structure V8 where
 a : Int
 b : Int
 c : Int
 d : Int
 e : Int
 f : Int
 g : Int
 h : Int
def V8.of (st : List Int) : V8 := ⟨st.getD 0 0, st.getD 1 0, st.getD 2 0, st.getD 3 0, st.getD 4 0, st.getD 5 0, st.getD 6 0, st.getD 7 0⟩
def rndP (v : V8) (k w : Int) : Int := (v.h + bits .xor .u32 (bits .xor .u32 (rotr v.e 6) (rotr v.e 11)) (rotr v.e 25) + bits .xor .u32 (bits .and .u32 v.e v.f) (bits .and .u32 (bits .xor .u32 4294967295 v.e) v.g) + k + w) % 4294967296
def rndQ (v : V8) : Int := (bits .xor .u32 (bits .xor .u32 (rotr v.a 2) (rotr v.a 13)) (rotr v.a 22) + bits .xor .u32 (bits .xor .u32 (bits .and .u32 v.a v.b) (bits .and .u32 v.a v.c)) (bits .and .u32 v.b v.c)) % 4294967296
def rnd (v : V8) (k w : Int) : V8 := ⟨(rndP v k w + rndQ v) % 4294967296, v.a, v.b, v.c, (v.d + rndP v k w) % 4294967296, v.e, v.f, v.g⟩
def rndN (ws : List Int) (v : V8) : Nat → V8
 | 0 => v
 | n + 1 => rnd (rndN ws v n) (kWords.getD n 0) (ws.getD n 0)
def V8.list (v : V8) : List Int := [v.a, v.b, v.c, v.d, v.e, v.f, v.g, v.h]
def mixF (st zs : List Int) : List Int := addW st (rndN (sched zs) (V8.of st) 64).list
theorem mixF_length (st zs : List Int) (hs : st.length = 8) : (mixF st zs).length = 8 := addW_length _ _ 8 hs rfl
theorem zero64w : (Tryz.prog.info? 282).map (fun i => (i.zero, i.size)) = some (some (.agg (u32s (List.replicate 64 0)).toArray), 64) := by kernel_rfl
theorem size64w : (Tryz.prog.info? 282).map (·.size) = some 64 := by kernel_rfl
theorem spread_any (zs : List Int) (hl : zs.length = 64) (w : World) :
  Calls Tryz.prog 258 #[.agg (u8s zs).toArray] w fun e w' => e = .returned (.agg (u32s (sched zs)).toArray) ∧ Below w.heap.size w w' := by
 have HL : Hid (zs.length = 64) := hl
 clear hl
 go_enter Tryz.func258, Tryz.ntmps258
 go_wp2_with (first | (refine wpList_box_new rfl 188 _ rfl (u8s zs) rfl ?_; intro w1 b1 s1 l1) | (refine wpList_alloc_new rfl 282 rfl 64 _ zero64w ?_; intro w2 b2 s2 l2))
 rename_i wa ba sa la K a
 have HB : Hid (Blk w2 w.heap.size 188 (u8s zs) ∧ Blk w2 (w.heap.size + 1) 282 (u32s (List.replicate 64 0)) ∧ Blk w2 (w.heap.size + 2) 282 (u32s (List.replicate 64 0)) ∧ Below w.heap.size w w2) :=
  ⟨(b1.later la (by omega)).later l2 (by omega), by have := ba.later l2 (by omega); rwa [s1] at this, by rwa [show wa.heap.size = w.heap.size + 2 by omega] at b2, ⟨by rw [l2.os, la.os, l1.os], by rw [l2.tape, la.tape, l1.tape], by rw [l2.output, la.output, l1.output], by omega, fun j hj => by rw [l2.block j (by omega), la.block j (by omega), l1.block j hj]⟩⟩
 have sz : w2.heap.size = w.heap.size + 3 := by omega
 clear ba sa la b1 s1 l1 b2 s2 l2
 go_loopw [10] (fun i wr => ∃ k : Nat, k ≤ 16 ∧ i = .int .i64 k ∧ Blk wr (w.heap.size + 2) 282 (u32s (w16 zs k ++ List.replicate (64 - k) 0)) ∧ Kept (fun b => b = w.heap.size + 2) w2 wr) (fun i _ => 16 - (intOf i).toNat)
 case atStart => exact ⟨0, by decide, rfl, HB.out.2.2.1, Kept.refl _ _⟩
 case round =>
  obtain ⟨k, hk, rfl, hb, hkp⟩ := hrel
  by_cases hlt : k < 16
  ·have b1 := HB.out.1.kept hkp (by omega)
   have c0 := u8s_cell b1 (4 * k) (by have := HL.out; omega)
   have c1 := u8s_cell b1 (4 * k + 1) (by have := HL.out; omega)
   have c2 := u8s_cell b1 (4 * k + 2) (by have := HL.out; omega)
   have c3 := u8s_cell b1 (4 * k + 3) (by have := HL.out; omega)
   have cs := u32s_cell hb k (by simp [w16_length]; omega)
   have fs := hb.frozen k
   have i1 : (0 : Int) ≤ (k : Int) := by omega
   have i2 : (k : Int) < 16 := by omega
   have i3 : (4 * (k : Int)).toNat = 4 * k := by omega
   have i4 : (4 * (k : Int) + 1).toNat = 4 * k + 1 := by omega
   have i5 : (4 * (k : Int) + 2).toNat = 4 * k + 2 := by omega
   have i6 : (4 * (k : Int) + 3).toNat = 4 * k + 3 := by omega
   have j1 : 4 * (k : Int) < 64 := by omega
   have j2 : 4 * (k : Int) + 1 < 64 := by omega
   have j3 : 4 * (k : Int) + 2 < 64 := by omega
   have j4 : 4 * (k : Int) + 3 < 64 := by omega
   have j5 : (k : Int) < 64 := by omega
   have X0 : Hid (Blk wr (w.heap.size + 2) 282 (u32s (w16 zs k ++ List.replicate (64 - k) 0))) := hb
   clear hb b1
   go_wp2
   go_region
   go_wp2
   have R1 := X0.out.set k (.int .u32 (word4 zs k))
   rw [u32s_set, show 64 - k = (64 - (k + 1)) + 1 by omega] at R1
   have e := set_next (w16 zs k) (64 - (k + 1)) (word4 zs k) 0
   rw [w16_length] at e
   rw [e, ← w16_succ] at R1
   exact ⟨⟨k + 1, by omega, by go_num, R1, (hkp.setCell rfl _).drew⟩, by simp [intOf]; omega⟩
  ·obtain rfl : k = 16 := by omega
   rw [show ((16 : Nat) : Int) = 16 from rfl]
   have X0 : Hid (Blk wr (w.heap.size + 2) 282 (u32s (wGrow zs 0 ++ List.replicate (48 - 0) 0)) ∧ Kept (fun b => b = w.heap.size + 2) w2 wr) := ⟨hb, hkp⟩
   clear hb hkp
   go_wp2
   obtain ⟨w3, rfl⟩ : ∃ w3, w3 = wr := ⟨_, rfl⟩
   go_loopw [5] (fun i wr => ∃ n : Nat, n ≤ 48 ∧ i = .int .i64 (16 + (n : Int)) ∧ Blk wr (w.heap.size + 2) 282 (u32s (wGrow zs n ++ List.replicate (48 - n) 0)) ∧ Kept (fun b => b = w.heap.size + 2) w2 wr) (fun i _ => 64 - (intOf i).toNat)
   case atStart => exact ⟨0, by decide, rfl, X0.out⟩
   case round =>
    obtain ⟨n, hn, rfl, hb, hkp⟩ := hrel
    by_cases hlt : n < 48
    ·have hlen := wGrow_length zs n
     have hq : (wGrow zs n ++ List.replicate (48 - n) 0).length = 64 := by simp [hlen]; omega
     have c0 := u32s_cell hb n (by omega)
     have c1 := u32s_cell hb (n + 1) (by omega)
     have c2 := u32s_cell hb (n + 9) (by omega)
     have c3 := u32s_cell hb (n + 14) (by omega)
     have cs := u32s_cell hb (16 + n) (by omega)
     rw [getD_front _ _ _ (by omega)] at c0 c1 c2 c3
     obtain ⟨y0, hy0⟩ : ∃ y, (wGrow zs n).getD n 0 = y := ⟨_, rfl⟩
     obtain ⟨y1, hy1⟩ : ∃ y, (wGrow zs n).getD (n + 1) 0 = y := ⟨_, rfl⟩
     obtain ⟨y2, hy2⟩ : ∃ y, (wGrow zs n).getD (n + 9) 0 = y := ⟨_, rfl⟩
     obtain ⟨y3, hy3⟩ : ∃ y, (wGrow zs n).getD (n + 14) 0 = y := ⟨_, rfl⟩
     have HY : Hid (wNext (wGrow zs n) n = (y0 + sig0 y1 + y2 + sig1 y3) % 4294967296) := by
      show _ = _
      rw [wNext, hy0, hy1, hy2, hy3]
     rw [hy0] at c0
     rw [hy1] at c1
     rw [hy2] at c2
     rw [hy3] at c3
     have fs := hb.frozen (16 + n)
     have X1 : Hid (Blk wr (w.heap.size + 2) 282 (u32s (wGrow zs n ++ List.replicate (48 - n) 0))) := hb
     have X2 : Hid ((wGrow zs n).length = 16 + n) := hlen
     clear hb hy0 hy1 hy2 hy3 hlen hq
     have i1 : (16 + (n : Int) - 15).toNat = n + 1 := by omega
     have i2 : (16 + (n : Int) - 2).toNat = n + 14 := by omega
     have i3 : (16 + (n : Int) - 16).toNat = n := by omega
     have i4 : (16 + (n : Int) - 7).toNat = n + 9 := by omega
     have i5 : (16 + (n : Int)).toNat = 16 + n := by omega
     have j0 : 16 + (n : Int) < 64 := by omega
     have j1 : 16 + (n : Int) - 15 < 64 := by omega
     have j2 : 16 + (n : Int) - 2 < 64 := by omega
     have j3 : 16 + (n : Int) - 16 < 64 := by omega
     have j4 : 16 + (n : Int) - 7 < 64 := by omega
     have k0 : 0 ≤ 16 + (n : Int) := by omega
     have k1 : 0 ≤ 16 + (n : Int) - 15 := by omega
     have k2 : 0 ≤ 16 + (n : Int) - 2 := by omega
     have k3 : 0 ≤ 16 + (n : Int) - 16 := by omega
     have k4 : 0 ≤ 16 + (n : Int) - 7 := by omega
     go_wp2
     go_quiet (fail)
     go_wp2_with (go_at_call 259; refine (rot_any _ _ (by simp [Turn]) _).mono ?_; rintro e w' ⟨rfl, rfl⟩)
     go_region
     go_wp2
     go_roundw
     case rel =>
      have R1 := (X1.out.drewN (nq + 1)).set (16 + n) (.int .u32 (wNext (wGrow zs n) n))
      rw [u32s_set, show 48 - n = (48 - (n + 1)) + 1 by omega] at R1
      have e := set_next (wGrow zs n) (48 - (n + 1)) (wNext (wGrow zs n) n) 0
      rw [X2.out] at e
      rw [e, HY.out] at R1
      refine ⟨n + 1, by omega, by go_num, ?_, ((hkp.drewN nq).setCell rfl _).drew⟩
      rw [wGrow, HY.out]
      exact R1
     case measure => simp [intOf]; omega
    ·obtain rfl : n = 48 := by omega
     rw [show 16 + ((48 : Nat) : Int) = 64 from rfl]
     rw [show 48 - 48 = 0 from rfl, List.replicate_zero, List.append_nil] at hb
     have c1 := HB.out.2.1.kept hkp (by omega)
     have hB : Below w.heap.size w wr := ⟨by rw [hkp.os, HB.out.2.2.2.os], by rw [hkp.tape, HB.out.2.2.2.tape], by rw [hkp.output, HB.out.2.2.2.output], by have := hkp.size; omega, fun j hj => by rw [hkp.block j (by omega) (by omega), HB.out.2.2.2.block j hj]⟩
     have X3 : Hid _ := hb
     have X4 : Hid _ := c1
     have X5 : Hid _ := hB
     clear hb c1 hB hkp
     go_wp2_with (first | (refine wpList_load_blk rfl 282 _ rfl (w.heap.size + 2) rfl (u32s (sched zs)) _ X3.out Tryz.underlying282 rfl (by rw [u32s_length, sched_length]; exact size64w) ?_) | (refine wpList_store_blk rfl 282 282 _ _ rfl (w.heap.size + 1) rfl _ (u32s (sched zs)) rfl X4.out (by rw [u32s_length, sched_length, u32s_length, List.length_replicate]) (by rw [u32s_length, sched_length]; exact size64w) (u32s_one _) ?_; intro w5 b5 s5 k5))
     exact ret_blk rfl (w.heap.size + 1) (u32s (sched zs)) _ rfl b5 Tryz.underlying282 rfl (by rw [u32s_length, sched_length]; exact size64w) rfl ⟨rfl, below_kept X5.out k5 (by have := X5.out.size; omega) (fun j hj => by omega)⟩
theorem zero8w : (Tryz.prog.info? 250).map (fun i => (i.zero, i.size)) = some (some (.agg (u32s (List.replicate 8 0)).toArray), 8) := by kernel_rfl
theorem size8w : (Tryz.prog.info? 250).map (·.size) = some 8 := by kernel_rfl
theorem dsize64b : (Tryz.prog.info? 188).map (·.size) = some 64 := by kernel_rfl
def KTab (w : World) : Prop := ∀ i, i < 64 → w.cell? ⟨0, i, none⟩ = some (.int .u32 (kWords.getD i 0))
theorem KTab.lt {w : World} (h : KTab w) : 0 < w.heap.size := World.block_lt_of_cell? w _ (h 0 (by decide))
theorem KTab.below {w w' : World} {B : Nat} (h : KTab w) (hb : Below B w w') (hB : 0 < B) : KTab w' := fun i hi => (hb.cell (p := ⟨0, i, none⟩) hB).trans (h i hi)
theorem KTab.kept {S : Nat → Prop} {w w' : World} (h : KTab w) (hk : Kept S w w') (hS : ¬ S 0) : KTab w' := fun i hi => (hk.cell (p := ⟨0, i, none⟩) h.lt hS).trans (h i hi)
theorem index_eight (v : V8) (i : Nat) (hi : i < 8) (w : World) : (Instr.index 250 (.agg #[.int .u32 v.a, .int .u32 v.b, .int .u32 v.c, .int .u32 v.d, .int .u32 v.e, .int .u32 v.f, .int .u32 v.g, .int .u32 v.h]) (.int .i64 i)).run Tryz.prog w = .ok (.int .u32 (v.list.getD i 0)) w := by
 rcases (by omega : i = 0 ∨ i = 1 ∨ i = 2 ∨ i = 3 ∨ i = 4 ∨ i = 5 ∨ i = 6 ∨ i = 7) with rfl | rfl | rfl | rfl | rfl | rfl | rfl | rfl <;> rfl
theorem mix_any (st zs : List Int) (hs : st.length = 8) (hl : zs.length = 64) (w : World) (hK : KTab w) :
  Calls Tryz.prog 249 #[.agg (u32s st).toArray, .agg (u8s zs).toArray] w fun e w' => e = .returned (.agg (u32s (mixF st zs)).toArray) ∧ Below w.heap.size w w' := by
 have HL : Hid (zs.length = 64) := hl
 have HS : Hid (st.length = 8) := hs
 have HK : Hid (KTab w) := hK
 clear hl hs hK
 go_enter Tryz.func249, Tryz.ntmps249
 go_wp2_with (first | (refine wpList_box_new rfl 250 _ rfl (u32s st) rfl ?_; intro w1 b1 s1 l1) | (refine wpList_box_new rfl 188 _ rfl (u8s zs) rfl ?_; intro w2 b2 s2 l2) | (refine wpList_alloc_new rfl 250 rfl 8 _ zero8w ?_; intro w3 b3 s3 l3) | (refine wpList_load_blk rfl 188 _ rfl _ rfl (u8s zs) _ (by first | exact b2.later l3 (by omega) | (have := b2.later l3 (by omega); rwa [s1] at this)) Tryz.underlying188 rfl (by rw [u8s_length, HL.out]; exact dsize64b) ?_) | (go_at_call 258; refine (spread_any zs HL.out _).mono ?_; rintro e w4 ⟨rfl, l4⟩) | (refine wpList_alloc_new rfl 282 rfl 64 _ zero64w ?_; intro w5 b5 s5 l5) | (refine wpList_store_blk rfl 282 282 _ _ rfl _ rfl _ (u32s (sched zs)) rfl b5 (by rw [u32s_length, sched_length, u32s_length, List.length_replicate]) (by rw [u32s_length, sched_length]; exact size64w) (u32s_one _) ?_; intro w6 b6 s6 k6))
 have HB : Hid (Blk w6 w.heap.size 250 (u32s st) ∧ Blk w6 (w.heap.size + 2) 250 (u32s (List.replicate 8 0)) ∧ Blk w6 w4.heap.size 282 (u32s (sched zs)) ∧ KTab w6 ∧ Below w.heap.size w w6) := by
  have q4 := l4.size
  have q0 := HK.out.lt
  have e2 : w2.heap.size = w.heap.size + 2 := by omega
  rw [e2] at b3
  have B6 : Below w.heap.size w w6 := below_kept (below_chain (below_chain (below_chain (below_chain l1 l2 (by omega)) l3 (by omega)) l4 (by omega)) l5 (by omega)) k6 (by omega) (fun j hj => by omega)
  exact ⟨(((((b1.later l2 (by omega)).later l3 (by omega)).later l4 (by omega)).later l5 (by omega)).kept k6 (by omega)), (((b3.later l4 (by omega)).later l5 (by omega)).kept k6 (by omega)), b6, HK.out.below B6 q0, B6⟩
 have sz : w.heap.size + 3 ≤ w4.heap.size := by have := l4.size; omega
 clear b1 s1 l1 b2 s2 l2 b3 s3 l3 l4 b5 s5 l5 b6 s6 k6
 have c0 := u32s_cell HB.out.1 0 (by have := HS.out; omega)
 have c1 := u32s_cell HB.out.1 1 (by have := HS.out; omega)
 have c2 := u32s_cell HB.out.1 2 (by have := HS.out; omega)
 have c3 := u32s_cell HB.out.1 3 (by have := HS.out; omega)
 have c4 := u32s_cell HB.out.1 4 (by have := HS.out; omega)
 have c5 := u32s_cell HB.out.1 5 (by have := HS.out; omega)
 have c6 := u32s_cell HB.out.1 6 (by have := HS.out; omega)
 have c7 := u32s_cell HB.out.1 7 (by have := HS.out; omega)
 go_wp2
 go_quiet (fail)
 go_wp2
 go_quiet (fail)
 go_wp2
 clear c0 c1 c2 c3 c4 c5 c6 c7
 go_loopw [6, 7, 8, 9, 10, 11, 12, 13, 37] (fun a b c d e f g h i wr => ∃ t : Nat, t ≤ 64 ∧ i = .int .i64 t ∧ a = .int .u32 (rndN (sched zs) (V8.of st) t).a ∧ b = .int .u32 (rndN (sched zs) (V8.of st) t).b ∧ c = .int .u32 (rndN (sched zs) (V8.of st) t).c ∧ d = .int .u32 (rndN (sched zs) (V8.of st) t).d ∧ e = .int .u32 (rndN (sched zs) (V8.of st) t).e ∧ f = .int .u32 (rndN (sched zs) (V8.of st) t).f ∧ g = .int .u32 (rndN (sched zs) (V8.of st) t).g ∧ h = .int .u32 (rndN (sched zs) (V8.of st) t).h ∧ Kept (fun _ => False) w6 wr) (fun _ _ _ _ _ _ _ _ i _ => 64 - (intOf i).toNat)
 case atStart => exact ⟨0, by decide, rfl, rfl, rfl, rfl, rfl, rfl, rfl, rfl, rfl, ((Kept.refl _ _).drewN _).drewN _⟩
 case round =>
  obtain ⟨t, ht, rfl, rfl, rfl, rfl, rfl, rfl, rfl, rfl, rfl, hkp⟩ := hrel
  by_cases hlt : t < 64
  ·have cK := HB.out.2.2.2.1.kept hkp (fun h => h) t hlt
   have cW := u32s_cell (HB.out.2.2.1.kept hkp (fun h => h)) t (by rw [sched_length]; exact hlt)
   have HR : Hid (rndN (sched zs) (V8.of st) (t + 1) = rnd (rndN (sched zs) (V8.of st) t) (kWords.getD t 0) ((sched zs).getD t 0)) := rfl
   obtain ⟨kk, hkk⟩ : ∃ y, kWords.getD t 0 = y := ⟨_, rfl⟩
   obtain ⟨ww, hww⟩ : ∃ y, (sched zs).getD t 0 = y := ⟨_, rfl⟩
   obtain ⟨v, hv⟩ : ∃ y, rndN (sched zs) (V8.of st) t = y := ⟨_, rfl⟩
   rw [hkk] at cK HR
   rw [hww] at cW HR
   rw [hv] at HR ⊢
   clear hkk hww hv
   have i1 : (0 : Int) ≤ (t : Int) := by omega
   have i2 : (t : Int) < 64 := by omega
   go_wp2
   go_quiet (first | (go_at_call 259; exact Calls.quiet_of_same (rot_q _ _ (by simp [Turn]) _)))
   go_wp2_with (go_at_call 259; refine (rot_any _ _ (by simp [Turn]) _).mono ?_; rintro e w' ⟨rfl, rfl⟩)
   exact ⟨⟨t + 1, by omega, by go_num, by rw [HR.out]; rfl, by rw [HR.out]; rfl, by rw [HR.out]; rfl, by rw [HR.out]; rfl, by rw [HR.out]; rfl, by rw [HR.out]; rfl, by rw [HR.out]; rfl, by rw [HR.out]; rfl, hkp.drewN _⟩, by simp [intOf]; omega⟩
  ·obtain rfl : t = 64 := by omega
   rw [show ((64 : Nat) : Int) = 64 from rfl]
   have HM : Hid (mixF st zs = addW st (rndN (sched zs) (V8.of st) 64).list) := rfl
   obtain ⟨v, hv⟩ : ∃ y, rndN (sched zs) (V8.of st) 64 = y := ⟨_, rfl⟩
   rw [hv] at HM ⊢
   clear hv
   have X0 : Hid (Blk wr w.heap.size 250 (u32s st) ∧ Blk wr (w.heap.size + 2) 250 (u32s (List.replicate 8 0)) ∧ Below w.heap.size w wr ∧ w.heap.size + 3 ≤ wr.heap.size) := by
    refine ⟨HB.out.1.kept hkp (fun h => h), HB.out.2.1.kept hkp (fun h => h), below_kept HB.out.2.2.2.2 hkp HB.out.2.2.2.2.size (fun j _ h => h), ?_⟩
    have := hkp.size
    have := HB.out.2.2.1.lt
    omega
   obtain ⟨w7, rfl⟩ : ∃ w3, w3 = wr := ⟨_, rfl⟩
   clear hkp
   go_wp2
   go_loopw [109] (fun i wr => ∃ k : Nat, k ≤ 8 ∧ i = .int .i64 k ∧ Blk wr w.heap.size 250 (u32s ((mixF st zs).take k ++ st.drop k)) ∧ Kept (fun b => b = w.heap.size) w7 wr) (fun i _ => 8 - (intOf i).toNat)
   case atStart => exact ⟨0, by decide, rfl, X0.out.1, Kept.refl _ _⟩
   case round =>
    obtain ⟨k, hk, rfl, hb, hkp⟩ := hrel
    have hm := mixF_length st zs HS.out
    by_cases hlt : k < 8
    ·have cs := u32s_cell hb k (by rw [half_length _ _ 8 k hm HS.out hk]; exact hlt)
     rw [half_at _ _ 8 k hm HS.out hlt] at cs
     have fs := hb.frozen k
     have ix := index_eight v k hlt
     have HA : Hid ((mixF st zs).getD k 0 = (st.getD k 0 + v.list.getD k 0) % 4294967296) := by
      show _ = _
      rw [HM.out]; exact addW_at _ _ 8 k HS.out rfl hlt
     have HE : Hid _ := half_set _ _ 8 k hm HS.out hlt
     obtain ⟨y, hy⟩ : ∃ y, st.getD k 0 = y := ⟨_, rfl⟩
     obtain ⟨z, hz⟩ : ∃ z, v.list.getD k 0 = z := ⟨_, rfl⟩
     rw [hy] at cs HA
     rw [hz] at ix HA
     have X1 : Hid (Blk wr w.heap.size 250 (u32s ((mixF st zs).take k ++ st.drop k))) := hb
     have i1 : (0 : Int) ≤ (k : Int) := by omega
     have i2 : (k : Int) < 8 := by omega
     clear hb hy hz hm
     go_wp2
     have R1 := X1.out.set k (.int .u32 ((y + z) % 4294967296))
     rw [u32s_set, ← HA.out, HE.out, HA.out] at R1
     exact ⟨⟨k + 1, by omega, by go_num, R1, hkp.setCell rfl _⟩, by simp [intOf]; omega⟩
    ·obtain rfl : k = 8 := by omega
     rw [show ((8 : Nat) : Int) = 8 from rfl]
     rw [List.take_of_length_le (by omega), List.drop_eq_nil_of_le (by have := HS.out; omega), List.append_nil] at hb
     have X3 : Hid (Blk wr w.heap.size 250 (u32s (mixF st zs))) := hb
     have X4 : Hid (Blk wr (w.heap.size + 2) 250 (u32s (List.replicate 8 0))) := X0.out.2.1.kept hkp (by omega)
     have X5 : Hid (Below w.heap.size w wr) := below_kept X0.out.2.2.1 hkp X0.out.2.2.1.size (fun j hj => by omega)
     have X6 : Hid ((mixF st zs).length = 8) := hm
     clear hb hkp hm
     go_wp2_with (first | (refine wpList_load_blk rfl 250 _ rfl _ rfl (u32s (mixF st zs)) _ X3.out Tryz.underlying250 rfl (by rw [u32s_length, X6.out]; exact size8w) ?_) | (refine wpList_store_blk rfl 250 250 _ _ rfl _ rfl _ (u32s (mixF st zs)) rfl X4.out (by rw [u32s_length, X6.out, u32s_length, List.length_replicate]) (by rw [u32s_length, X6.out]; exact size8w) (u32s_one _) ?_; intro w9 b9 s9 k9))
     exact ret_blk rfl (w.heap.size + 2) (u32s (mixF st zs)) _ rfl b9 Tryz.underlying250 rfl (by rw [u32s_length, X6.out]; exact size8w) rfl ⟨rfl, below_kept X5.out k9 X5.out.size (fun j hj => by omega)⟩
def zer (n : Nat) : List Int := List.replicate n 0
theorem zer_length (n : Nat) : (zer n).length = n := List.length_replicate
def shaIv : List Int := [0x6a09e667, 0xbb67ae85, 0x3c6ef372, 0xa54ff53a, 0x510e527f, 0x9b05688c, 0x1f83d9ab, 0x5be0cd19]
def hcells (st bl : List Int) (sz : Int) : List Value := u32s st ++ (u8s bl ++ [.int .u64 sz])
theorem hcells_length (st bl : List Int) (sz : Int) (hs : st.length = 8) (hb : bl.length = 64) : (hcells st bl sz).length = 73 := by simp [hcells, u32s_length, u8s_length, hs, hb]
theorem hcells_one (st bl : List Int) (sz : Int) : ∀ v ∈ hcells st bl sz, v.oneCell' = true := by
 intro v hv
 simp only [hcells, List.mem_append, List.mem_singleton] at hv
 rcases hv with h | h | rfl
 ·exact u32s_one _ v h
 ·exact u8s_one _ v h
 ·rfl
structure HashAt (w : World) (g : Nat) (st bl : List Int) (sz : Int) : Prop where
 blk : Blk w g 280 (hcells st bl sz)
 st8 : st.length = 8
 bl64 : bl.length = 64
theorem zeroHash : (Tryz.prog.info? 280).map (fun i => (i.zero, i.size)) = some (some (.agg (hcells (List.replicate 8 0) (zer 64) 0).toArray), 73) := by kernel_rfl
theorem sizeHash : (Tryz.prog.info? 280).map (·.size) = some 73 := by kernel_rfl
theorem buildH (w : World) : (Instr.build 280 #[(0, .agg (u32s shaIv).toArray)]).run Tryz.prog w = .ok (.agg (hcells shaIv (zer 64) 0).toArray) w := by kernel_rfl
theorem build8 (w : World) : (Instr.build 250 #[(0, .int .u32 1779033703), (1, .int .u32 3144134277), (2, .int .u32 1013904242), (3, .int .u32 2773480762), (4, .int .u32 1359893119), (5, .int .u32 2600822924), (6, .int .u32 528734635), (7, .int .u32 1541459225)]).run Tryz.prog w = .ok (.agg (u32s shaIv).toArray) w := by kernel_rfl
abbrev freshV : Value := .agg (hcells shaIv (zer 64) 0).toArray
theorem freshLen : (hcells shaIv (zer 64) 0).length = 73 := by rw [hcells_length _ _ _ rfl (zer_length _)]
theorem fresh_any (w : World) : Calls Tryz.prog 257 #[] w fun e w' => e = .returned freshV ∧ Below w.heap.size w w' := by
 go_enter Tryz.func257, Tryz.ntmps257
 go_wp2_with (first | (refine wpList_alloc_new rfl 280 rfl 73 _ zeroHash ?_; intro w1 b1 s1 l1) | (refine wpList_build rfl 250 _ rfl #[(0, .int .u32 1779033703), (1, .int .u32 3144134277), (2, .int .u32 1013904242), (3, .int .u32 2773480762), (4, .int .u32 1359893119), (5, .int .u32 2600822924), (6, .int .u32 528734635), (7, .int .u32 1541459225)] (by simp only [List.map_toArray, List.map_cons, List.map_nil]; rfl) _ (build8 _) ?_) | (refine wpList_build rfl 280 _ rfl #[(0, .agg (u32s shaIv).toArray)] (by simp only [List.map_toArray, List.map_cons, List.map_nil]; rfl) _ (buildH _) ?_) | (refine wpList_store_blk rfl 280 280 _ _ rfl _ rfl _ (hcells shaIv (zer 64) 0) rfl b1 (by rw [freshLen, hcells_length _ _ _ (by simp) (zer_length _)]) (by rw [freshLen]; exact sizeHash) (hcells_one _ _ _) ?_; intro w2 b2 s2 k2))
 exact ret_blk rfl w.heap.size (hcells shaIv (zer 64) 0) _ rfl b2 Tryz.underlying280 rfl (by rw [freshLen]; exact sizeHash) rfl ⟨rfl, below_kept l1 k2 (by omega) (fun j hj => by omega)⟩
theorem dnew_any (w : World) : Calls Tryz.prog 248 #[] w fun e w' => ∃ g, e = .returned (.pointer (some ⟨g, 0, none⟩)) ∧ w.heap.size ≤ g ∧ HashAt w' g shaIv (zer 64) 0 ∧ Below w.heap.size w w' := by
 go_enter Tryz.func248, Tryz.ntmps248
 go_wp2_with (first | (go_at_call 257; refine (fresh_any _).mono ?_; rintro e w0 ⟨rfl, l0⟩) | (refine wpList_alloc_new rfl 280 rfl 73 _ zeroHash ?_; intro w1 b1 s1 l1) | (refine wpList_store_blk rfl 280 280 _ _ rfl _ rfl _ (hcells shaIv (zer 64) 0) rfl b1 (by rw [freshLen, hcells_length _ _ _ (by simp) (zer_length _)]) (by rw [freshLen]; exact sizeHash) (hcells_one _ _ _) ?_; intro w2 b2 s2 k2))
 have q := l0.size
 go_ret
 exact ⟨_, rfl, q, ⟨b2, rfl, zer_length _⟩, below_kept (below_chain l0 l1 q) k2 (by omega) (fun j hj => by omega)⟩
theorem HashAt.size_cell {w : World} {g : Nat} {st bl : List Int} {sz : Int} (h : HashAt w g st bl sz) : w.cell? ⟨g, 72, none⟩ = some (.int .u64 sz) := by
 rw [h.blk.cell]
 have e1 : (u32s st).length = 8 := by rw [u32s_length, h.st8]
 have e2 : (u8s bl).length = 64 := by rw [u8s_length, h.bl64]
 simp only [hcells]
 rw [List.getElem?_append_right (by omega), List.getElem?_append_right (by omega), e1, e2]; rfl
theorem HashAt.byte_cell {w : World} {g : Nat} {st bl : List Int} {sz : Int} (h : HashAt w g st bl sz) (j : Nat) (hj : j < 64) : w.cell? ⟨g, 8 + j, none⟩ = some (.int .u8 (bl.getD j 0)) := by
 rw [h.blk.cell]
 have e1 : (u32s st).length = 8 := by rw [u32s_length, h.st8]
 have e2 : (u8s bl).length = 64 := by rw [u8s_length, h.bl64]
 have e3 : j < bl.length := by rw [h.bl64]; exact hj
 simp only [hcells]
 rw [List.getElem?_append_right (by omega), e1, Nat.add_sub_cancel_left, List.getElem?_append_left (by omega)]
 simp [u8s, e3, List.getD]
theorem HashAt.lt {w : World} {g : Nat} {st bl : List Int} {sz : Int} (h : HashAt w g st bl sz) : g < w.heap.size := h.blk.lt
theorem HashAt.later {w w' : World} {g : Nat} {st bl : List Int} {sz : Int} (h : HashAt w g st bl sz) {B : Nat} (hb : Below B w w') (hB : g < B) : HashAt w' g st bl sz := ⟨h.blk.later hb hB, h.st8, h.bl64⟩
theorem HashAt.kept {S : Nat → Prop} {w w' : World} {g : Nat} {st bl : List Int} {sz : Int} (h : HashAt w g st bl sz) (hk : Kept S w w') (hS : ¬ S g) : HashAt w' g st bl sz := ⟨h.blk.kept hk hS, h.st8, h.bl64⟩
theorem HashAt.drewN {w : World} {g : Nat} {st bl : List Int} {sz : Int} (h : HashAt w g st bl sz) (k : Nat) : HashAt (w.drewN k) g st bl sz := ⟨h.blk, h.st8, h.bl64⟩
theorem filled_any (g : Nat) (st bl : List Int) (sz : Int) (w : World) (h : HashAt w g st bl sz) (hz : 0 ≤ sz) : Calls Tryz.prog 232 #[.pointer (some ⟨g, 0, none⟩)] w fun e w' => e = .returned (.int .i64 (sz % 64)) ∧ w' = w := by
 have c := h.size_cell
 have q : sz.tmod 64 = sz % 64 := Int.tmod_eq_emod_of_nonneg hz
 have q1 : wrap64 (sz % 64) = sz % 64 := by unfold wrap64; omega
 clear hz
 go_enter Tryz.func232, Tryz.ntmps232
 go_wp2
 go_ret
 exact ⟨rfl, rfl⟩
theorem copy_any (g : Nat) (st bl : List Int) (sz : Int) (w : World) (h : HashAt w g st bl sz) : Calls Tryz.prog 235 #[.pointer (some ⟨g, 0, none⟩)] w fun e w' => ∃ g', e = .returned (.pointer (some ⟨g', 0, none⟩)) ∧ w.heap.size ≤ g' ∧ HashAt w' g' st bl sz ∧ Below w.heap.size w w' := by
 have HH : Hid (HashAt w g st bl sz) := h
 have HC : Hid ((hcells st bl sz).length = 73) := hcells_length _ _ _ h.st8 h.bl64
 clear h
 go_enter Tryz.func235, Tryz.ntmps235
 go_wp2_with (first | (refine wpList_load_blk rfl 280 _ rfl _ rfl (hcells st bl sz) _ HH.out.blk Tryz.underlying280 rfl (by rw [HC.out]; exact sizeHash) ?_) | (refine wpList_alloc_new rfl 280 rfl 73 _ zeroHash ?_; intro w1 b1 s1 l1) | (refine wpList_store_blk rfl 280 280 _ _ rfl _ rfl _ (hcells st bl sz) rfl b1 (by rw [HC.out, hcells_length _ _ _ (by simp) (zer_length _)]) (by rw [HC.out]; exact sizeHash) (hcells_one _ _ _) ?_; intro w2 b2 s2 k2))
 go_ret
 exact ⟨_, rfl, Nat.le_refl _, ⟨b2, HH.out.st8, HH.out.bl64⟩, below_kept l1 k2 (by omega) (fun j hj => by omega)⟩
theorem two_puts {md : Region.Mode} {ops : Array Oper} {Q : Exit → Act → World → Prop} {fuel : Nat} {listed : Array Bool} {a : Act} {w : World} (i j : Nat) {oi oj : Oper} (d1 d2 : Option Tmp) (v1 v2 : Value) (hi : ops[i]? = some oi) (hj : ops[j]? = some oj) (hij : i ≠ j)
  (hr : Region.ready md ops listed = [i, j]) (hr1 : Region.ready md ops (listed.setIfInBounds i true) = [j]) (hr2 : Region.ready md ops (listed.setIfInBounds j true) = [i])
  (s1 : Stp ops Q oi a w (a.put d1 v1) w) (s2 : Stp ops Q oj (a.put d1 v1) w ((a.put d1 v1).put d2 v2) w) (t1 : Stp ops Q oj a w (a.put d2 v2) w) (t2 : Stp ops Q oi (a.put d2 v2) w ((a.put d2 v2).put d1 v1) w)
  (hc : (a.put d2 v2).put d1 v1 = (a.put d1 v1).put d2 v2)
  (h : wpAny Tryz.prog md ops Q fuel ((listed.setIfInBounds i true).setIfInBounds j true) ((a.put d1 v1).put d2 v2) w) : wpAny Tryz.prog md ops Q (fuel + 2) listed a w := by
 rw [hc] at t2
 exact two_steps i j hi hj hij hr hr1 hr2 s1 s2 t1 t2 h
theorem dwpList_store_part {ops : Array Oper} {rest : List Oper} {o : Oper} {a : Act} {Q : Exit → Act → World → Prop} {w : World} (hgd : o.guard = none) (t t' : TypeId) (x y : Operand) (ho : o.op = .store t x y) (g off : Nat) (hx : a.eval x = .pointer (some ⟨g, off, none⟩))
  (xs ys zs us : List Value) (hy : a.eval y = .agg us.toArray) (hb : Blk w g t' (xs ++ (ys ++ zs))) (hoff : xs.length = off) (hl : us.length = ys.length) (hi : (Tryz.prog.info? t).map (·.size) = some us.length) (h1 : ∀ v ∈ us, v.oneCell' = true)
  (h : ∀ w', Blk w' g t' (xs ++ (us ++ zs)) → w'.heap.size = w.heap.size → Kept (fun k => k = g) w w' → wpList Tryz.prog ops Q rest (a.put o.dst undef) w') : wpList Tryz.prog ops Q (o :: rest) a w := by
 subst hoff
 refine wpList_store_mid hgd t x y ho g xs.length us.toArray hx hy (hb.there (by simp; omega)) (by simpa using hi) (all_oneCell_toArray h1) (h _ ?_ ?_ ?_)
 ·exact Blk.setCells us ys hl hb
 ·exact setCells_size ..
 ·exact (Kept.refl _ _).setCells (S := fun k => k = g) rfl _ _
theorem HashAt.range {w : World} {g : Nat} {st bl : List Int} {sz : Int} (h : HashAt w g st bl sz) : w.rangeAt g 8 (u8s bl) := by
 have := Blk.range (xs := u32s st) (ys := u8s bl) (zs := [.int .u64 sz]) h.blk
 rwa [u32s_length, h.st8] at this
theorem HashAt.words {w : World} {g : Nat} {st bl : List Int} {sz : Int} (h : HashAt w g st bl sz) : w.rangeAt g 0 (u32s st) := fun j v hv => by
 have hj : j < (u32s st).length := (List.getElem?_eq_some_iff.1 hv).1
 rw [Nat.zero_add, h.blk.cell, hcells, List.getElem?_append_left hj]; exact hv
theorem HashAt.frozen {w : World} {g : Nat} {st bl : List Int} {sz : Int} (h : HashAt w g st bl sz) (j : Nat) : w.frozen? ⟨g, j, none⟩ = false := h.blk.frozen j
theorem build64 (w : World) : (Instr.build 188 #[]).run Tryz.prog w = .ok (.agg (u8s (zer 64)).toArray) w := by kernel_rfl
theorem absorb_any (g : Nat) (st bl : List Int) (sz : Int) (w : World) (h : HashAt w g st bl sz) (hK : KTab w) (hg : 0 < g) : Calls Tryz.prog 233 #[.pointer (some ⟨g, 0, none⟩)] w fun e w' => e = .returned (.tuple #[]) ∧ HashAt w' g (mixF st bl) (zer 64) sz ∧ Kept (fun k => k = g) w w' := by
 have HH : Hid (HashAt w g st bl sz) := h
 have HK : Hid (KTab w) := hK
 have HL : Hid (bl.length = 64) := h.bl64
 have HS : Hid (st.length = 8) := h.st8
 have u1 := Tryz.underlying188
 have u2 : (Tryz.prog.info? 188).map (·.size) = some (u8s bl).length := by rw [u8s_length, HL.out]; exact dsize64b
 have u3 : (Tryz.prog.info? 250).map (·.size) = some (u32s st).length := by rw [u32s_length, HS.out]; exact size8w
 clear h hK
 go_enter Tryz.func233, Tryz.ntmps233
 go_wp2
 refine wp_region_noPanic (wp_region_any (by kernel_rfl) ?_)
 refine take_op 0 (some 2) (.pointer (some ⟨g, 0, none⟩)) rfl rfl (by kernel_rfl) (by kernel_rfl) (by kernel_rfl) (fun _ _ _ h => h) (by rfl) (fun _ => by rfl) ?_
 refine take_op 1 (some 3) (.pointer (some ⟨g, 0, none⟩)) rfl rfl (by kernel_rfl) (by kernel_rfl) (by kernel_rfl) (fun _ _ _ h => h) (by rfl) (fun _ => by rfl) ?_
 refine take_op 2 (some 4) (.pointer (some ⟨g, 0, none⟩)) rfl rfl (by kernel_rfl) (by kernel_rfl) (by kernel_rfl) (fun _ _ _ h => h) (by rfl) (fun _ => by rfl) ?_
 refine take_op 3 (some 5) (.pointer (some ⟨g, 0, none⟩)) rfl rfl (by kernel_rfl) (by kernel_rfl) (by kernel_rfl) (fun _ _ _ h => h) (by rfl) (fun _ => by rfl) ?_
 refine take_op 5 (some 7) (.pointer (some ⟨g, 0, none⟩)) rfl rfl (by kernel_rfl) (by kernel_rfl) (by kernel_rfl) (fun _ _ _ h => h) (by rfl) (fun _ => by rfl) ?_
 refine take_op 6 (some 8) (.pointer (some ⟨g, 0, none⟩)) rfl rfl (by kernel_rfl) (by kernel_rfl) (by kernel_rfl) (fun _ _ _ h => h) (by rfl) (fun _ => by rfl) ?_
 refine take_op 7 (some 9) (.pointer (some ⟨g, 8, none⟩)) rfl rfl (by kernel_rfl) (by kernel_rfl) (by kernel_rfl) (fun _ _ _ h => h) (by rfl) (fun _ => by rfl) ?_
 simp only [Act.put, sA, sB, sC]
 have rS : w.drew.rangeAt g 0 (u32s st) := HH.out.words
 have rB : w.drew.rangeAt g 8 (u8s bl) := HH.out.range
 obtain ⟨wd, hwd, HD⟩ : ∃ wd, w.drew = wd ∧ Hid (HashAt wd g st bl sz ∧ KTab wd ∧ Kept (fun k => k = g) w wd ∧ g < wd.heap.size) := ⟨_, rfl, ⟨HH.out.drewN 1, HK.out, (Kept.refl _ _).drewN 1, HH.out.lt⟩⟩
 rw [hwd] at rS rB
 rw [show ({ heap := w.heap, tape := w.tape, drawn := w.drawn + 1, os := w.os, output := w.output } : World) = wd from hwd]
 clear hwd HH HK
 refine two_puts 4 8 (some 6) (some 10) (.agg (u32s st).toArray) (.agg (u8s bl).toArray) rfl rfl (by decide) (by kernel_rfl) (by kernel_rfl) (by kernel_rfl) (fun K h => ?s1) (fun K h => ?s2) (fun K h => ?s3) (fun K h => ?s4) rfl ?_
 case s1 => exact step_load (some 6) rfl (by rfl) 250 (.tmp 5) rfl g 0 rfl (u32s st) _ rS Tryz.underlying250 rfl u3 h
 case s2 => exact step_load (some 10) rfl (by rfl) 188 (.tmp 9) rfl g 8 rfl (u8s bl) _ rB Tryz.underlying188 rfl u2 h
 case s3 => exact step_load (some 10) rfl (by rfl) 188 (.tmp 9) rfl g 8 rfl (u8s bl) _ rB Tryz.underlying188 rfl u2 h
 case s4 => exact step_load (some 6) rfl (by rfl) 250 (.tmp 5) rfl g 0 rfl (u32s st) _ rS Tryz.underlying250 rfl u3 h
 simp only [Act.put, sA, sB, sC]
 refine wpAny_ready (rs := [9]) (by kernel_rfl) (by simp) (AllReady.cons rfl (fun K hK => ?_) AllReady.nil)
 go_simp
 go_wp2_with (go_at_call 249; refine (mix_any st bl HS.out HL.out _ HD.out.2.1).mono ?_; rintro e w4 ⟨rfl, l4⟩)
 have H4 : HashAt w4 g st bl sz := HD.out.1.later l4 HD.out.2.2.2
 have HX : Hid (Blk (w4.setCells g 0 (u32s (mixF st bl))) g 280 (hcells (mixF st bl) bl sz) ∧ Kept (fun k => k = g) w (w4.setCells g 0 (u32s (mixF st bl)))) := by
  refine ⟨?_, (HD.out.2.2.1.trans (Kept.new _ l4)).setCells rfl _ _⟩
  exact Blk.setCells (xs := []) (zs := u8s bl ++ [.int .u64 sz]) (u32s (mixF st bl)) (u32s st) (by rw [u32s_length, u32s_length, HS.out, mixF_length _ _ HS.out]) H4.blk
 have HT : w4.there g 0 (u32s (mixF st bl)).length := H4.blk.there (by rw [hcells_length _ _ _ HS.out HL.out, u32s_length, mixF_length _ _ HS.out]; decide)
 have u4 : (Tryz.prog.info? 250).map (·.size) = some (u32s (mixF st bl)).length := by rw [u32s_length, mixF_length _ _ HS.out]; exact size8w
 refine take_op 10 (some 12) (.pointer (some ⟨g, 0, none⟩)) rfl rfl (by kernel_rfl) (by kernel_rfl) (by kernel_rfl) (fun _ _ _ h => h) (by rfl) (fun _ => by rfl) ?_
 refine take_op 11 (some 13) (.pointer (some ⟨g, 0, none⟩)) rfl rfl (by kernel_rfl) (by kernel_rfl) (by kernel_rfl) (fun _ _ _ h => h) (by rfl) (fun _ => by rfl) ?_
 simp only [Act.put, sA, sB, sC]
 refine one_step 12 rfl (by kernel_rfl) (fun K h => step_store rfl (by rfl) 250 (.tmp 13) (.tmp 11) rfl g 0 rfl (u32s (mixF st bl)) rfl HT u4 (u32s_one _) h) ?_
 refine wpAny_done (by kernel_rfl) (NoPanic.normal ?_) _
 obtain ⟨w5, hw5⟩ : ∃ w5, w4.setCells g 0 (u32s (mixF st bl)) = w5 := ⟨_, rfl⟩
 rw [hw5] at HX ⊢
 clear hw5 HT H4 l4 HD rS rB
 go_wp2_with (first | (refine wpList_build rfl 188 _ rfl #[] (by simp) _ (build64 _) ?_) | (refine dwpList_store_part rfl 188 280 _ _ rfl g 8 rfl (u32s (mixF st bl)) (u8s bl) [.int .u64 sz] (u8s (zer 64)) rfl HX.out.1 (by rw [u32s_length, mixF_length _ _ HS.out]) (by rw [u8s_length, u8s_length, zer_length, HL.out]) (by rw [u8s_length, zer_length]; exact dsize64b) (u8s_one _) ?_; intro w6 b6 s6 k6))
 go_end0
 exact ⟨rfl, ⟨b6, mixF_length _ _ HS.out, zer_length _⟩, HX.out.2.trans k6⟩
def byteF (st : List Int) (i : Nat) : Int := st.getD (i / 4) 0 / 2 ^ (24 - 8 * (i % 4)) % 256
def bytesF (st : List Int) (k : Nat) : List Int := (List.range k).map (byteF st)
theorem bytesF_length (st : List Int) (k : Nat) : (bytesF st k).length = k := by simp [bytesF]
theorem bytesF_succ (st : List Int) (k : Nat) : bytesF st (k + 1) = bytesF st k ++ [byteF st k] := by simp [bytesF, List.range_succ]
theorem zeroAH : (Tryz.prog.info? 131).map (fun i => (i.zero, i.size)) = some (some (.agg (u8s (zer 32)).toArray), 32) := by kernel_rfl
theorem sizeAH : (Tryz.prog.info? 131).map (·.size) = some 32 := by kernel_rfl
theorem dbytesOf_any (st : List Int) (hs : st.length = 8) (w : World) :
  Calls Tryz.prog 251 #[.agg (u32s st).toArray] w fun e w' => e = .returned (.agg (u8s (bytesF st 32)).toArray) ∧ Below w.heap.size w w' := by
 have HS : Hid (st.length = 8) := hs
 clear hs
 go_enter Tryz.func251, Tryz.ntmps251
 go_wp2_with (first | (refine wpList_box_new rfl 250 _ rfl (u32s st) rfl ?_; intro w1 b1 s1 l1) | (refine wpList_alloc_new rfl 131 rfl 32 _ zeroAH ?_; intro w2 b2 s2 l2))
 rename_i wa ba sa la K a
 have HB : Hid (Blk w2 w.heap.size 250 (u32s st) ∧ Blk w2 (w.heap.size + 1) 131 (u8s (zer 32)) ∧ Blk w2 (w.heap.size + 2) 131 (u8s (zer 32)) ∧ Below w.heap.size w w2) :=
  ⟨(b1.later la (by omega)).later l2 (by omega), by have := ba.later l2 (by omega); rwa [s1] at this, by rwa [show wa.heap.size = w.heap.size + 2 by omega] at b2, below_chain (below_chain l1 la (by omega)) l2 (by omega)⟩
 have sz : w2.heap.size = w.heap.size + 3 := by omega
 clear ba sa la b1 s1 l1 b2 s2 l2
 go_loopw [5] (fun i wr => ∃ k : Nat, k ≤ 32 ∧ i = .int .i64 k ∧ Blk wr (w.heap.size + 2) 131 (u8s (bytesF st k ++ List.replicate (32 - k) 0)) ∧ Kept (fun b => b = w.heap.size + 2) w2 wr) (fun i _ => 32 - (intOf i).toNat)
 case atStart => exact ⟨0, by decide, rfl, HB.out.2.2.1, Kept.refl _ _⟩
 case round =>
  obtain ⟨k, hk, rfl, hb, hkp⟩ := hrel
  by_cases hlt : k < 32
  ·have c0 := u32s_cell (HB.out.1.kept hkp (by omega)) (k / 4) (by have := HS.out; omega)
   have cs := u8s_cell hb k (by simp [bytesF_length]; omega)
   have fs := hb.frozen k
   have i1 : (0 : Int) ≤ (k : Int) := by omega
   have i2 : (k : Int) < 32 := by omega
   have i3 : (k : Int).tdiv 4 = ((k / 4 : Nat) : Int) := by rw [Int.tdiv_eq_ediv_of_nonneg i1]; omega
   have i4 : (k : Int).tmod 4 = ((k % 4 : Nat) : Int) := by rw [Int.tmod_eq_emod_of_nonneg i1]; omega
   have i5 : ((k / 4 : Nat) : Int) < 8 := by omega
   have i6 : (0 : Int) ≤ 24 - 8 * ((k % 4 : Nat) : Int) := by omega
   have i7 : (24 - 8 * ((k % 4 : Nat) : Int)).toNat = 24 - 8 * (k % 4) := by omega
   obtain ⟨y, hy⟩ : ∃ y, st.getD (k / 4) 0 = y := ⟨_, rfl⟩
   have HY : Hid (byteF st k = y / 2 ^ (24 - 8 * (k % 4)) % 256) := by show _ = _; rw [byteF, hy]
   rw [hy] at c0
   obtain ⟨q, hq⟩ : ∃ q, k / 4 = q := ⟨_, rfl⟩
   obtain ⟨r, hr⟩ : ∃ r, k % 4 = r := ⟨_, rfl⟩
   have HR : Hid (r < 4) := by show r < 4; omega
   rw [hq] at i3 i5 c0
   rw [hr] at i4 i6 i7 HY
   have X0 : Hid (Blk wr (w.heap.size + 2) 131 (u8s (bytesF st k ++ List.replicate (32 - k) 0))) := hb
   clear hb hy hq hr
   go_wp2
   have R1 := X0.out.set k (.int .u8 (byteF st k))
   rw [u8s_set, show 32 - k = (32 - (k + 1)) + 1 by omega] at R1
   have e := set_next (bytesF st k) (32 - (k + 1)) (byteF st k) 0
   rw [bytesF_length] at e
   rw [e, ← bytesF_succ, HY.out] at R1
   exact ⟨⟨k + 1, by omega, by go_num, R1, hkp.setCell rfl _⟩, by simp [intOf]; omega⟩
  ·obtain rfl : k = 32 := by omega
   rw [show ((32 : Nat) : Int) = 32 from rfl]
   rw [show 32 - 32 = 0 from rfl, List.replicate_zero, List.append_nil] at hb
   have X3 : Hid (Blk wr (w.heap.size + 2) 131 (u8s (bytesF st 32))) := hb
   have X4 : Hid (Blk wr (w.heap.size + 1) 131 (u8s (zer 32))) := HB.out.2.1.kept hkp (by omega)
   have X5 : Hid (Below w.heap.size w wr) := below_kept HB.out.2.2.2 hkp (by omega) (fun j hj => by omega)
   clear hb hkp
   go_wp2_with (first | (refine wpList_load_blk rfl 131 _ rfl _ rfl (u8s (bytesF st 32)) _ X3.out Tryz.underlying131 rfl (by rw [u8s_length, bytesF_length]; exact sizeAH) ?_) | (refine wpList_store_blk rfl 131 131 _ _ rfl _ rfl _ (u8s (bytesF st 32)) rfl X4.out (by rw [u8s_length, bytesF_length, u8s_length, zer_length]) (by rw [u8s_length, bytesF_length]; exact sizeAH) (u8s_one _) ?_; intro w5 b5 s5 k5))
   exact ret_blk rfl (w.heap.size + 1) (u8s (bytesF st 32)) _ rfl b5 Tryz.underlying131 rfl (by rw [u8s_length, bytesF_length]; exact sizeAH) rfl ⟨rfl, below_kept X5.out k5 X5.out.size (fun j hj => by omega)⟩
theorem HashAt.set_byte {w : World} {g : Nat} {st bl : List Int} {sz : Int} (h : HashAt w g st bl sz) (j : Nat) (hj : j < 64) (z : Int) : HashAt (w.setCell ⟨g, 8 + j, none⟩ (.int .u8 z)) g st (bl.set j z) sz := by
 refine ⟨?_, h.st8, by rw [List.length_set, h.bl64]⟩
 have := h.blk.set (8 + j) (.int .u8 z)
 have e1 : (u32s st).length = 8 := by rw [u32s_length, h.st8]
 have e2 : (u8s bl).length = 64 := by rw [u8s_length, h.bl64]
 rw [hcells, List.set_append_right _ _ (by omega), e1, Nat.add_sub_cancel_left, List.set_append_left _ _ (by omega), u8s_set] at this
 exact this
theorem filled_at (g : Nat) (st bl : List Int) (sz : Int) (F : Nat) (hF : sz % 64 = F) (w : World) (h : HashAt w g st bl sz) (hz : 0 ≤ sz) : Calls Tryz.prog 232 #[.pointer (some ⟨g, 0, none⟩)] w fun e w' => e = .returned (.int .i64 F) ∧ w = w' := by
 refine (filled_any g st bl sz w h hz).mono ?_
 rintro e w' ⟨rfl, rfl⟩
 exact ⟨by rw [hF], rfl⟩
def be8 (x : Int) : List Int := (List.range 8).map fun j => x / 2 ^ (8 * (7 - j)) % 256
theorem be8_length (x : Int) : (be8 x).length = 8 := by simp [be8]
theorem be8_at (x : Int) (j : Nat) (hj : j < 8) : (be8 x).getD j 0 = x / 2 ^ (8 * (7 - j)) % 256 := by simp [be8, List.getD, hj]
theorem tail_set (bl tl : List Int) (k : Nat) (hb : bl.length = 64) (ht : tl.length = 8) (hk : k < 8) :
  (bl.take (64 - k) ++ tl.drop (8 - k)).set (63 - k) (tl.getD (7 - k) 0) = bl.take (64 - (k + 1)) ++ tl.drop (8 - (k + 1)) := by
 have e : bl.take (64 - k) = bl.take (63 - k) ++ [bl.getD (63 - k) 0] := by
  have h1 : 63 - k < bl.length := by omega
  rw [show 64 - k = (63 - k) + 1 by omega, List.take_succ_eq_append_getElem h1]
  simp [List.getD, h1]
 have e2 : (bl.take (63 - k)).length = 63 - k := by simp; omega
 have h2 : 7 - k < tl.length := by omega
 have e3 : tl.drop (8 - (k + 1)) = tl.getD (7 - k) 0 :: tl.drop (8 - k) := by
  rw [show 8 - (k + 1) = 7 - k by omega, List.drop_eq_getElem_cons h2, show 7 - k + 1 = 8 - k by omega]
  simp [List.getD, h2]
 rw [e, e3, List.append_assoc, List.set_append_right _ _ (by omega), e2, Nat.sub_self, show 64 - (k + 1) = 63 - k by omega]
 rfl
def padF (st bl : List Int) (sz : Int) (F : Nat) : List Int :=
 if 56 ≤ F then mixF (mixF st (bl.set F 128)) ((zer 64).take 56 ++ be8 (IntKind.u64.wrap (8 * sz))) else mixF st ((bl.set F 128).take 56 ++ be8 (IntKind.u64.wrap (8 * sz)))
theorem pad_any (g : Nat) (st bl : List Int) (sz : Int) (F : Nat) (hF : sz % 64 = F) (w : World) (h : HashAt w g st bl sz) (hz : 0 ≤ sz) (hK : KTab w) (hg : 0 < g) :
  Calls Tryz.prog 250 #[.pointer (some ⟨g, 0, none⟩)] w fun e w' => e = .returned (.tuple #[]) ∧ HashAt w' g (padF st bl sz F) (zer 64) sz ∧ Kept (fun k => k = g) w w' := by
 have hF64 : F < 64 := by omega
 have cF := h.byte_cell F hF64
 have fF := h.frozen (8 + F)
 have HH : Hid (HashAt w g st bl sz) := h
 have HZ : Hid (0 ≤ sz) := hz
 have HF : Hid (sz % 64 = F) := hF
 have HK : Hid (KTab w) := hK
 have i1 : (0 : Int) ≤ (F : Int) := by omega
 have i2 : (F : Int) < 64 := by omega
 clear h hz hF hK
 go_enter Tryz.func250, Tryz.ntmps250
 go_wp2
 go_region_held3 (fun _ => True) (trivial) (first | (go_at_call 232; refine (filled_at g st bl sz F HF.out _ (HH.out.drewN 1) HZ.out).mono ?_; rintro e w' ⟨rfl, rfl⟩))
 have H1 : Hid (HashAt ((w.drewN 1).setCell ⟨g, 8 + F, none⟩ (.int .u8 128)) g st (bl.set F 128) sz ∧ KTab ((w.drewN 1).setCell ⟨g, 8 + F, none⟩ (.int .u8 128)) ∧ Kept (fun k => k = g) w ((w.drewN 1).setCell ⟨g, 8 + F, none⟩ (.int .u8 128))) := by
  have k1 : Kept (fun k => k = g) w ((w.drewN 1).setCell ⟨g, 8 + F, none⟩ (.int .u8 128)) := ((Kept.refl _ _).drewN 1).setCell (S := fun k => k = g) rfl _
  exact ⟨(HH.out.drewN 1).set_byte F hF64 128, HK.out.kept k1 (by omega), k1⟩
 obtain ⟨w1, hw1⟩ : ∃ w1, (w.drewN 1).setCell ⟨g, 8 + F, none⟩ (.int .u8 128) = w1 := ⟨_, rfl⟩
 rw [hw1] at H1 ⊢
 clear hw1 cF fF HH
 by_cases h56 : 56 ≤ F
 ·have HQ : Hid (padF st bl sz F = mixF (mixF st (bl.set F 128)) ((zer 64).take 56 ++ be8 (IntKind.u64.wrap (8 * sz)))) := by show _ = _; rw [padF, if_pos h56]
  have i3 : (56 : Int) ≤ (F : Int) := by omega
  go_wp2_with (first | (go_at_call 232; refine (filled_at g st (bl.set F 128) sz F HF.out _ H1.out.1 HZ.out).mono ?_; rintro e w' ⟨rfl, rfl⟩) | (go_at_call 233; refine (absorb_any g st (bl.set F 128) sz _ H1.out.1 H1.out.2.1 hg).mono ?_; rintro e w2 ⟨rfl, h2, k2⟩; have H9 : Hid (HashAt w2 g (mixF st (bl.set F 128)) (zer 64) sz ∧ KTab w2 ∧ Kept (fun k => k = g) w w2) := ⟨h2, H1.out.2.1.kept k2 (by omega), H1.out.2.2.trans k2⟩; have cz := H9.out.1.size_cell; clear h2 k2))
  obtain ⟨st2, bl2, H2, HP⟩ : ∃ st2 bl2, Hid (HashAt w2 g st2 bl2 sz ∧ KTab w2 ∧ Kept (fun k => k = g) w w2) ∧ Hid (padF st bl sz F = mixF st2 (bl2.take 56 ++ be8 (IntKind.u64.wrap (8 * sz)))) := ⟨_, _, H9, HQ⟩
  clear H9 HQ
  obtain ⟨X, hX⟩ : ∃ X, IntKind.u64.wrap (8 * sz) = X := ⟨_, rfl⟩
  rw [hX] at HP
  simp only [hX]
  clear cz hX H1
  go_loopw [20] (fun i wr => ∃ k : Nat, k ≤ 8 ∧ i = .int .i64 k ∧ HashAt wr g st2 (bl2.take (64 - k) ++ (be8 X).drop (8 - k)) sz ∧ Kept (fun b => b = g) w2 wr) (fun i _ => 8 - (intOf i).toNat)
  case atStart => exact ⟨0, by decide, rfl, by rw [List.take_of_length_le (by rw [H2.out.1.bl64]; decide), List.drop_eq_nil_of_le (by rw [be8_length]; decide), List.append_nil]; exact H2.out.1, Kept.refl _ _⟩
  case round =>
   obtain ⟨k, hk, rfl, hb, hkp⟩ := hrel
   by_cases hlt : k < 8
   ·have c := hb.byte_cell (63 - k) (by omega)
    have f := hb.frozen (8 + (63 - k))
    have j1 : (0 : Int) ≤ (k : Int) := by omega
    have j2 : (k : Int) < 8 := by omega
    have j3 : (63 - (k : Int)).toNat = 63 - k := by omega
    have j4 : 0 ≤ 63 - (k : Int) := by omega
    have j5 : 63 - (k : Int) < 64 := by omega
    have j6 : 0 ≤ 8 * (k : Int) := by omega
    have j7 : (8 * (k : Int)).toNat = 8 * k := by omega
    have X1 : Hid (HashAt wr g st2 (bl2.take (64 - k) ++ (be8 X).drop (8 - k)) sz) := hb
    have XE : Hid _ := tail_set bl2 (be8 X) k H2.out.1.bl64 (be8_length X) hlt
    have XV : Hid ((be8 X).getD (7 - k) 0 = X / 2 ^ (8 * k) % 256) := by show _ = _; rw [be8_at X (7 - k) (by omega), show 7 - (7 - k) = k by omega]
    clear hb
    go_wp2
    go_region
    go_wp2
    have R1 := (X1.out.drewN 1).set_byte (63 - k) (by omega) (X / 2 ^ (8 * k) % 256)
    rw [← XV.out, XE.out, XV.out] at R1
    exact ⟨⟨k + 1, by omega, by go_num, R1, (hkp.drewN 1).setCell (S := fun b => b = g) rfl _⟩, by simp [intOf]; omega⟩
   ·obtain rfl : k = 8 := by omega
    rw [show ((8 : Nat) : Int) = 8 from rfl]
    have X3 : Hid (HashAt wr g st2 (bl2.take 56 ++ be8 X) sz ∧ KTab wr ∧ Kept (fun k => k = g) w wr) := ⟨hb, H2.out.2.1.kept hkp (by omega), H2.out.2.2.trans hkp⟩
    clear hb hkp
    go_wp2_with (go_at_call 233; refine (absorb_any g _ _ sz _ X3.out.1 X3.out.2.1 hg).mono ?_; rintro e w5 ⟨rfl, h5, k5⟩)
    go_end0
    exact ⟨rfl, by rw [HP.out]; exact h5, X3.out.2.2.trans k5⟩
 ·have HQ : Hid (padF st bl sz F = mixF st ((bl.set F 128).take 56 ++ be8 (IntKind.u64.wrap (8 * sz)))) := by show _ = _; rw [padF, if_neg h56]
  have i3 : ¬ (56 : Int) ≤ (F : Int) := by omega
  have cz := H1.out.1.size_cell
  go_wp2_with (first | (go_at_call 232; refine (filled_at g st (bl.set F 128) sz F HF.out _ H1.out.1 HZ.out).mono ?_; rintro e w' ⟨rfl, rfl⟩))
  obtain ⟨w2, rfl⟩ : ∃ w2, w2 = w1 := ⟨_, rfl⟩
  obtain ⟨st2, bl2, H2, HP⟩ : ∃ st2 bl2, Hid (HashAt w2 g st2 bl2 sz ∧ KTab w2 ∧ Kept (fun k => k = g) w w2) ∧ Hid (padF st bl sz F = mixF st2 (bl2.take 56 ++ be8 (IntKind.u64.wrap (8 * sz)))) := ⟨_, _, H1, HQ⟩
  clear HQ
  obtain ⟨X, hX⟩ : ∃ X, IntKind.u64.wrap (8 * sz) = X := ⟨_, rfl⟩
  rw [hX] at HP
  simp only [hX]
  clear cz hX H1
  go_loopw [20] (fun i wr => ∃ k : Nat, k ≤ 8 ∧ i = .int .i64 k ∧ HashAt wr g st2 (bl2.take (64 - k) ++ (be8 X).drop (8 - k)) sz ∧ Kept (fun b => b = g) w2 wr) (fun i _ => 8 - (intOf i).toNat)
  case atStart => exact ⟨0, by decide, rfl, by rw [List.take_of_length_le (by rw [H2.out.1.bl64]; decide), List.drop_eq_nil_of_le (by rw [be8_length]; decide), List.append_nil]; exact H2.out.1, Kept.refl _ _⟩
  case round =>
   obtain ⟨k, hk, rfl, hb, hkp⟩ := hrel
   by_cases hlt : k < 8
   ·have c := hb.byte_cell (63 - k) (by omega)
    have f := hb.frozen (8 + (63 - k))
    have j1 : (0 : Int) ≤ (k : Int) := by omega
    have j2 : (k : Int) < 8 := by omega
    have j3 : (63 - (k : Int)).toNat = 63 - k := by omega
    have j4 : 0 ≤ 63 - (k : Int) := by omega
    have j5 : 63 - (k : Int) < 64 := by omega
    have j6 : 0 ≤ 8 * (k : Int) := by omega
    have j7 : (8 * (k : Int)).toNat = 8 * k := by omega
    have X1 : Hid (HashAt wr g st2 (bl2.take (64 - k) ++ (be8 X).drop (8 - k)) sz) := hb
    have XE : Hid _ := tail_set bl2 (be8 X) k H2.out.1.bl64 (be8_length X) hlt
    have XV : Hid ((be8 X).getD (7 - k) 0 = X / 2 ^ (8 * k) % 256) := by show _ = _; rw [be8_at X (7 - k) (by omega), show 7 - (7 - k) = k by omega]
    clear hb
    go_wp2
    go_region
    go_wp2
    have R1 := (X1.out.drewN 1).set_byte (63 - k) (by omega) (X / 2 ^ (8 * k) % 256)
    rw [← XV.out, XE.out, XV.out] at R1
    exact ⟨⟨k + 1, by omega, by go_num, R1, (hkp.drewN 1).setCell (S := fun b => b = g) rfl _⟩, by simp [intOf]; omega⟩
   ·obtain rfl : k = 8 := by omega
    rw [show ((8 : Nat) : Int) = 8 from rfl]
    have X3 : Hid (HashAt wr g st2 (bl2.take 56 ++ be8 X) sz ∧ KTab wr ∧ Kept (fun k => k = g) w wr) := ⟨hb, H2.out.2.1.kept hkp (by omega), H2.out.2.2.trans hkp⟩
    clear hb hkp
    go_wp2_with (go_at_call 233; refine (absorb_any g _ _ sz _ X3.out.1 X3.out.2.1 hg).mono ?_; rintro e w5 ⟨rfl, h5, k5⟩)
    go_end0
    exact ⟨rfl, by rw [HP.out]; exact h5, X3.out.2.2.trans k5⟩
theorem padF_length (st bl : List Int) (sz : Int) (F : Nat) (hs : st.length = 8) : (padF st bl sz F).length = 8 := by
 unfold padF
 split
 ·exact mixF_length _ _ (mixF_length _ _ hs)
 ·exact mixF_length _ _ hs
theorem sum_any (g : Nat) (st bl : List Int) (sz : Int) (F : Nat) (hF : sz % 64 = F) (w : World) (h : HashAt w g st bl sz) (hz : 0 ≤ sz) (hK : KTab w) :
  Calls Tryz.prog 234 #[.pointer (some ⟨g, 0, none⟩)] w fun e w' => e = .returned (.agg (u8s (bytesF (padF st bl sz F) 32)).toArray) ∧ Below w.heap.size w w' := by
 have HH : Hid (HashAt w g st bl sz) := h
 have HC : Hid ((hcells st bl sz).length = 73) := hcells_length _ _ _ h.st8 h.bl64
 have HZ : Hid (0 ≤ sz) := hz
 have HF : Hid (sz % 64 = F) := hF
 have HK : Hid (KTab w) := hK
 have HP : Hid ((padF st bl sz F).length = 8) := padF_length _ _ _ _ h.st8
 clear h hz hF hK
 go_enter Tryz.func234, Tryz.ntmps234
 go_wp2_with (first | (refine wpList_alloc_new rfl 131 rfl 32 _ zeroAH ?_; intro w1 b1 s1 l1) | (refine wpList_load_blk rfl 280 _ rfl _ rfl (hcells st bl sz) _ (HH.out.later l1 HH.out.lt).blk Tryz.underlying280 rfl (by rw [HC.out]; exact sizeHash) ?_) | (refine wpList_alloc_new rfl 280 rfl 73 _ zeroHash ?_; intro w2 b2 s2 l2) | (refine wpList_store_blk rfl 280 280 _ _ rfl _ rfl _ (hcells st bl sz) rfl b2 (by rw [HC.out, hcells_length _ _ _ (by simp) (zer_length _)]) (by rw [HC.out]; exact sizeHash) (hcells_one _ _ _) ?_; intro w3 b3 s3 k3; have H3 : Hid (HashAt w3 w1.heap.size st bl sz ∧ KTab w3 ∧ 0 < w1.heap.size) := ⟨⟨b3, HH.out.st8, HH.out.bl64⟩, ((HK.out.below l1 HK.out.lt).below l2 (by have := HK.out.lt; omega)).kept k3 (by have := HK.out.lt; omega), by omega⟩) | (go_at_call 250; refine (pad_any _ st bl sz F HF.out _ (by first | exact H3.out.1 | (rw [← s1]; exact H3.out.1)) HZ.out H3.out.2.1 (by omega)).mono ?_; rintro e w4 ⟨rfl, h4, k4⟩) | (refine wpList_load_mid rfl 250 _ rfl _ 0 rfl (u32s (padF st bl sz F)) _ h4.words Tryz.underlying250 rfl (by rw [u32s_length, HP.out]; exact size8w) ?_) | (go_at_call 251; refine (dbytesOf_any _ HP.out _).mono ?_; rintro e w5 ⟨rfl, l5⟩; have B5 : Hid (Blk w5 w.heap.size 131 (u8s (zer 32)) ∧ Below w.heap.size w w5) := ⟨((((b1.later l2 (by omega)).kept k3 (by omega)).kept k4 (by omega)).later l5 (by have := k4.size; omega)), below_chain (below_kept (below_kept (below_chain l1 l2 (by omega)) k3 (by omega) (fun j hj => by omega)) k4 (by omega) (fun j hj => by omega)) l5 (by have := k4.size; omega)⟩) | (refine wpList_store_blk rfl 131 131 _ _ rfl _ rfl _ (u8s (bytesF (padF st bl sz F) 32)) rfl B5.out.1 (by rw [u8s_length, bytesF_length, u8s_length, zer_length]) (by rw [u8s_length, bytesF_length]; exact sizeAH) (u8s_one _) ?_; intro w6 b6 s6 k6))
 exact ret_blk rfl w.heap.size (u8s (bytesF (padF st bl sz F) 32)) _ rfl b6 Tryz.underlying131 rfl (by rw [u8s_length, bytesF_length]; exact sizeAH) rfl ⟨rfl, below_kept B5.out.2 k6 B5.out.2.size (fun j hj => by omega)⟩
def comp (m : List Int) : Nat → List Int
 | 0 => shaIv
 | n + 1 => mixF (comp m n) ((m.drop (64 * n)).take 64)
theorem comp_length (m : List Int) (n : Nat) : (comp m n).length = 8 := by
 induction n with
 | zero => rfl
 | succ n ih => exact mixF_length _ _ ih
theorem comp_app (m zs : List Int) (n : Nat) (h : 64 * n ≤ m.length) : comp (m ++ zs) n = comp m n := by
 induction n with
 | zero => rfl
 | succ n ih =>
  rw [comp, comp, ih (by omega), List.drop_append_of_le_length (by omega), List.take_append_of_le_length (by rw [List.length_drop]; omega)]
def dopenB (m : List Int) : List Int := m.drop (64 * (m.length / 64)) ++ zer (64 - m.length % 64)
structure Holds (w : World) (g : Nat) (m : List Int) : Prop where
 hash : HashAt w g (comp m (m.length / 64)) (dopenB m) m.length
theorem Holds.kept {S : Nat → Prop} {w w' : World} {g : Nat} {m : List Int} (h : Holds w g m) (hk : Kept S w w') (hS : ¬ S g) : Holds w' g m := ⟨h.hash.kept hk hS⟩
theorem Holds.later {w w' : World} {g : Nat} {m : List Int} (h : Holds w g m) {B : Nat} (hb : Below B w w') (hB : g < B) : Holds w' g m := ⟨h.hash.later hb hB⟩
theorem Holds.lt {w : World} {g : Nat} {m : List Int} (h : Holds w g m) : g < w.heap.size := h.hash.lt
def sha (m : List Int) : List Int := bytesF (padF (comp m (m.length / 64)) (dopenB m) m.length (m.length % 64)) 32
theorem sha_length (m : List Int) : (sha m).length = 32 := bytesF_length _ _
theorem zer_add (a b : Nat) : zer (a + b) = zer a ++ zer b := by rw [zer, zer, zer, List.replicate_append_replicate]
theorem open_part (m p : List Int) (h : m.length % 64 + p.length < 64) : comp (m ++ p) ((m ++ p).length / 64) = comp m (m.length / 64) ∧ dopenB (m ++ p) = m.drop (64 * (m.length / 64)) ++ (p ++ zer (64 - m.length % 64 - p.length)) := by
 have e : (m ++ p).length / 64 = m.length / 64 := by rw [List.length_append]; omega
 refine ⟨?_, ?_⟩
 ·rw [e, comp_app _ _ _ (by omega)]
 ·rw [dopenB, e, List.drop_append_of_le_length (by omega), List.append_assoc]
  congr 3
  rw [List.length_append]; omega
theorem open_full (m p : List Int) (h : m.length % 64 + p.length = 64) : comp (m ++ p) ((m ++ p).length / 64) = mixF (comp m (m.length / 64)) (m.drop (64 * (m.length / 64)) ++ p) ∧ dopenB (m ++ p) = zer 64 := by
 have e : (m ++ p).length / 64 = m.length / 64 + 1 := by rw [List.length_append]; omega
 have e2 : (m ++ p).length % 64 = 0 := by rw [List.length_append]; omega
 refine ⟨?_, ?_⟩
 ·rw [e, comp, comp_app _ _ _ (by omega), List.drop_append_of_le_length (by omega), List.take_of_length_le (by simp; omega)]
 ·rw [dopenB, e, e2, List.drop_eq_nil_of_le (by rw [List.length_append]; omega), List.nil_append]
theorem dopen_split (m : List Int) (t : Nat) (h : m.length % 64 + t ≤ 64) : dopenB m = m.drop (64 * (m.length / 64)) ++ (zer t ++ zer (64 - m.length % 64 - t)) := by
 rw [dopenB, ← zer_add]; congr 2; omega
theorem rest_length (m : List Int) : (m.drop (64 * (m.length / 64))).length = m.length % 64 := by simp; omega
theorem step_copy_blk {ops : Array Oper} {o : Oper} {a : Act} {w : World} {K : Act → World → Prop} {Q : Exit → Act → World → Prop} {E : Prop} (hgd : o.guard = none) (d s : Operand)
  (ho : o.op = .call { callee := .builtin .copy, args := #[d, s], argTypes := #[32, 32] }) (g off dLen dCap : Nat) (ad : Addr) (sLen sCap : Nat) (hd : a.eval d = .slice (some ⟨g, off, none⟩) dLen dCap) (hs : a.eval s = .slice (some ad) sLen sCap)
  (t : TypeId) (xs ys zs us : List Value) (hb : Blk w g t (xs ++ (ys ++ zs))) (hoff : xs.length = off) (hl : us.length = ys.length) (hn : us.length = Nat.min sLen dLen) (hsrc : ∀ j v, us[j]? = some v → w.cell? (ad.add j) = some v) (h1 : ∀ v ∈ us, v.oneCell' = true)
  (dst : Option Tmp) (hdst : o.dst = dst) (h : ∀ w', Blk w' g t (xs ++ (us ++ zs)) → Kept (fun k => k = g) w w' → K (a.put dst (goInt us.length)) w') :
  if Region.wanted o (yielded ops a.tmps) = true then Oper.wp Tryz.prog o a w K Q else E := by
 subst hdst
 have hw : Region.wanted o (yielded ops a.tmps) = true := by simp [Region.wanted, hgd]
 rw [if_pos hw]
 have hrun := run_copy_row (P := Tryz.prog) w 32 32 o.type 5 g off dLen dCap ad sLen sCap (xs ++ (ys ++ zs)).toArray t us Tryz.underlying32 sizeByte hb hn hsrc (by simp; omega) h1
 have e : ((xs ++ (ys ++ zs)).toArray.toList.take off ++ us ++ (xs ++ (ys ++ zs)).toArray.toList.drop (off + us.length)) = xs ++ (us ++ zs) := by
  subst hoff
  simp [hl, List.drop_append, List.take_append]
 rw [e] at hrun
 unfold Oper.wp
 simp [execOp, ho, resolve, invoke, builtin, hd, hs, hrun, Result.andThen]
 exact h _ (setRow_heap w g _ _ t _ hb) ⟨rfl, rfl, rfl, by simp [World.setRow], fun k _ hk => setRow_other w g k _ hk⟩
theorem HashAt.set_size {w : World} {g : Nat} {st bl : List Int} {sz : Int} (h : HashAt w g st bl sz) (z : Int) : HashAt (w.setCell ⟨g, 72, none⟩ (.int .u64 z)) g st bl z := by
 refine ⟨?_, h.st8, h.bl64⟩
 have := h.blk.set 72 (.int .u64 z)
 have e1 : (u32s st).length = 8 := by rw [u32s_length, h.st8]
 have e2 : (u8s bl).length = 64 := by rw [u8s_length, h.bl64]
 rw [hcells, List.set_append_right _ _ (by omega), e1, List.set_append_right _ _ (by omega), e2] at this
 exact this
theorem dwrite_any (g : Nat) (m : List Int) (ao : Option Addr) (n c : Nat) (zs : List Int) (w : World) (h : Holds w g m) (hx : Seen w ao n zs) (hc : n ≤ c) (hne : ∀ b o, 0 < n → ao = some ⟨b, o, none⟩ → b ≠ g) (hK : KTab w) (hg : 0 < g) (hm : m.length + n < 9223372036854775808) :
  Calls Tryz.prog 206 #[.pointer (some ⟨g, 0, none⟩), .slice ao n c] w fun e w' => e = .returned (.tuple #[.int .i64 n, .nilIface]) ∧ Holds w' g (m ++ zs) ∧ Kept (fun k => k = g) w w' := by
 obtain ⟨b0, o0, hbo⟩ : ∃ b o, 0 < n → ao = some ⟨b, o, none⟩ ∧ b ≠ g ∧ b < w.heap.size ∧ ∀ i, i < n → w.cell? ⟨b, o + i, none⟩ = some (.int .u8 (zs.getD i 0)) := by
  rcases Nat.eq_zero_or_pos n with h0 | h0
  ·exact ⟨0, 0, fun h => by omega⟩
  ·obtain ⟨b, o, e, hl, hcs⟩ := hx.cells h0
   exact ⟨b, o, fun _ => ⟨e, hne b o h0 e, hl, hcs⟩⟩
 have HL : Hid (zs.length = n) := hx.len
 have HB : Hid (0 < n → ao = some ⟨b0, o0, none⟩ ∧ b0 ≠ g ∧ b0 < w.heap.size ∧ ∀ i, i < n → w.cell? ⟨b0, o0 + i, none⟩ = some (.int .u8 (zs.getD i 0))) := hbo
 have HH : Hid (Holds w g m ∧ KTab w) := ⟨h, hK⟩
 have HM : Hid (m.length + n < 9223372036854775808) := hm
 have ht := hx.top
 clear hbo hne h hK hm hx
 go_enter Tryz.func206, Tryz.ntmps206
 go_wp2
 go_loopw [6] (fun v wr => ∃ (j cc : Nat) (r : Option Addr), j ≤ n ∧ n - j ≤ cc ∧ v = .slice r (n - j) cc ∧ (j < n → r = some ⟨b0, o0 + j, none⟩) ∧ Holds wr g (m ++ zs.take j) ∧ Kept (fun k => k = g) w wr) (fun v _ => match v with | .slice _ l _ => l | _ => 0)
 case atStart => exact ⟨0, c, ao, by omega, by omega, rfl, fun hn => (HB.out hn).1, by simpa using HH.out.1, Kept.refl _ _⟩
 case round =>
  obtain ⟨j, cc, r, hj, hcc, rfl, hr, hh, hkp⟩ := hrel
  obtain ⟨M, hM⟩ : ∃ M, m ++ zs.take j = M := ⟨_, rfl⟩
  rw [hM] at hh
  by_cases hlt : j < n
  ·obtain rfl := hr hlt
   have HN := HB.out (by omega)
   have hML : M.length = m.length + j := by rw [← hM]; simp; have := HL.out; omega
   obtain ⟨F, hF⟩ : ∃ F, M.length % 64 = F := ⟨_, rfl⟩
   obtain ⟨t, hT⟩ : ∃ t, Nat.min (n - j) (64 - F) = t := ⟨_, rfl⟩
   have hF64 : F < 64 := by omega
   have hT1 : t ≤ n - j := by rw [← hT]; exact Nat.min_le_left _ _
   have hT2 : t ≤ 64 - F := by rw [← hT]; exact Nat.min_le_right _ _
   have hT0 : 0 < t := by rw [← hT]; exact Nat.lt_min.2 ⟨by omega, by omega⟩
   obtain ⟨P, hP⟩ : ∃ P, (zs.drop j).take t = P := ⟨_, rfl⟩
   have hPL : P.length = t := by rw [← hP]; simp; have := HL.out; omega
   have hPs : ∀ i v, (u8s P)[i]? = some v → wr.cell? ((⟨b0, o0 + j, none⟩ : Addr).add i) = some v := by
    intro i v hv
    have hi : i < P.length := by have := (List.getElem?_eq_some_iff.1 hv).1; rwa [u8s_length] at this
    rw [add_mid, hkp.cell (p := ⟨b0, o0 + j + i, none⟩) HN.2.2.1 HN.2.1, Nat.add_assoc, HN.2.2.2 (j + i) (by omega), ← hv]
    have h2 : j + i < zs.length := by have := HL.out; omega
    rw [← hP]
    simp [u8s, List.getElem?_take, List.getElem?_drop, List.getD, h2, show i < t by omega]
   have HMP : Hid (m ++ zs.take (j + t) = M ++ P) := by
    show _ = _
    rw [← hM, ← hP, List.append_assoc, List.take_add]
   have HML : Hid (M.length = m.length + j) := hML
   have HF : Hid (((M.length : Nat) : Int) % 64 = F ∧ M.length % 64 = F) := ⟨by omega, hF⟩
   have HG : Hid (Blk wr g 280 ((u32s (comp M (M.length / 64)) ++ u8s (M.drop (64 * (M.length / 64)))) ++ (u8s (zer t) ++ (u8s (zer (64 - F - t)) ++ [.int .u64 M.length]))) ∧ (u32s (comp M (M.length / 64)) ++ u8s (M.drop (64 * (M.length / 64)))).length = 8 + F) := by
    refine ⟨?_, ?_⟩
    ·have h1 := hh.hash.blk
     rw [dopen_split M t (by omega), hF] at h1
     simpa [hcells, u8s, List.append_assoc] using h1
    ·rw [List.length_append, u32s_length, u8s_length, comp_length, rest_length, hF]
   have HH2 : Hid (Holds wr g M) := hh
   have HK2 : Hid (KTab wr ∧ Kept (fun k => k = g) w wr) := ⟨HH.out.2.kept hkp (by omega), hkp⟩
   have i1 : (0 : Int) ≤ (F : Int) := by omega
   have i2 : (F : Int) ≤ 64 := by omega
   have i3 : (64 : Int) - (F : Int) = ((64 - F : Nat) : Int) := by omega
   have i4 : (0 : Int) < ((n - j : Nat) : Int) := by omega
   have i5 : ¬ (64 = F) := by omega
   have hu : (u8s P).length = t := by rw [u8s_length, hPL]
   clear hh hkp hM hML hP hr HN
   go_wp2
   go_region_held3 (fun _ => True) (trivial) (first | (go_at_call 232; refine (filled_at g _ _ _ F HF.out.1 _ (HH2.out.hash.drewN 1) (by omega)).mono ?_; rintro e w' ⟨rfl, rfl⟩) | (refine step_copy_blk (by rfl) (.tmp 20) (.tmp 21) (by rfl) g (8 + F) (64 - F) (64 - F) ⟨b0, o0 + j, none⟩ (n - j) cc (by rfl) (by rfl) 280 _ _ _ (u8s P) HG.out.1 HG.out.2 (by rw [u8s_length, u8s_length, zer_length, hPL]) (by rw [u8s_length, hPL, hT]) hPs (u8s_one _) (some 22) rfl ?_; intro w4 b4 k4))
   have H4 : Hid (HashAt w4 g (comp M (M.length / 64)) (M.drop (64 * (M.length / 64)) ++ (P ++ zer (64 - F - t))) M.length ∧ KTab w4 ∧ Kept (fun k => k = g) w w4) := by
    have k5 : Kept (fun k => k = g) w w4 := (HK2.out.2.drewN 1).trans k4
    refine ⟨⟨?_, comp_length _ _, ?_⟩, HH.out.2.kept k5 (by omega), k5⟩
    ·simpa [hcells, u8s, List.append_assoc] using b4
    ·rw [List.length_append, List.length_append, rest_length, hPL, zer_length, HF.out.2]; omega
   have cz := H4.out.1.size_cell
   have fz := H4.out.1.frozen 72
   have e1 : IntKind.u64.wrap ((M.length : Int) + (t : Int)) = (M.length : Int) + (t : Int) := by
    rw [IntKind.wrap_u64]
    have := HM.out
    have := HML.out
    omega
   have j1 : (0 : Int) ≤ (t : Int) := by omega
   have j2 : (t : Int) ≤ ((n - j : Nat) : Int) := by omega
   clear b4 k4 HG hPs
   go_wp2_with fail
   all_goals
    have H5 : Hid (HashAt (w4.setCell ⟨g, 72, none⟩ (.int .u64 ((M.length : Int) + (t : Int)))) g (comp M (M.length / 64)) (M.drop (64 * (M.length / 64)) ++ (P ++ zer (64 - F - t))) ((M.length : Int) + (t : Int)) ∧ KTab (w4.setCell ⟨g, 72, none⟩ (.int .u64 ((M.length : Int) + (t : Int)))) ∧ Kept (fun k => k = g) w (w4.setCell ⟨g, 72, none⟩ (.int .u64 ((M.length : Int) + (t : Int))))) := by
     have k5 : Kept (fun k => k = g) w (w4.setCell ⟨g, 72, none⟩ (.int .u64 ((M.length : Int) + (t : Int)))) := H4.out.2.2.setCell (S := fun k => k = g) rfl _
     exact ⟨H4.out.1.set_size _, HH.out.2.kept k5 (by omega), k5⟩
    obtain ⟨w5, hw5⟩ : ∃ w5, w4.setCell ⟨g, 72, none⟩ (.int .u64 ((M.length : Int) + (t : Int))) = w5 := ⟨_, rfl⟩
    rw [hw5] at H5 ⊢
    clear hw5 cz fz H4 e1
    have HZ : Hid ((0 : Int) ≤ (M.length : Int) + (t : Int)) := by show (0 : Int) ≤ _; omega
    have HE : Hid (((M ++ P).length : Int) = (M.length : Int) + (t : Int)) := by show _ = _; rw [List.length_append, hPL]; omega
    by_cases hfull : F + t = 64
    ·have HQ : Hid (((M.length : Int) + (t : Int)) % 64 = ((0 : Nat) : Int)) := by show _ = _; have := HF.out.1; omega
     go_wp2_with (first | (go_at_call 232; refine (filled_at g _ _ _ 0 HQ.out _ H5.out.1 HZ.out).mono ?_; rintro e w' ⟨rfl, rfl⟩) | (go_at_call 233; refine (absorb_any g _ _ _ _ H5.out.1 H5.out.2.1 hg).mono ?_; rintro e w6 ⟨rfl, h6, k6⟩))
     have H6 : Holds w6 g (M ++ P) := by
      have q := open_full M P (by rw [hPL]; omega)
      refine ⟨?_⟩
      rw [q.1, q.2, HE.out]
      rw [show 64 - F - t = 0 by omega, show zer 0 = [] from rfl, List.append_nil] at h6
      exact h6
     have K6 : Kept (fun k => k = g) w w6 := H5.out.2.2.trans k6
     clear h6 k6
     first
      | exact ⟨⟨j + t, 0, some ⟨b0, o0 + j, none⟩, by omega, by omega, by rw [Nat.sub_sub], fun h => by omega, by rw [HMP.out]; exact H6, K6⟩, by show n - j - t < n - j; omega⟩
      | exact ⟨⟨j + t, cc - t, some ⟨b0, o0 + j + t, none⟩, by omega, by omega, by rw [Nat.sub_sub], fun h => by rw [Nat.add_assoc], by rw [HMP.out]; exact H6, K6⟩, by show n - j - t < n - j; omega⟩
    ·have HQ : Hid (((M.length : Int) + (t : Int)) % 64 = ((F + t : Nat) : Int)) := by show _ = _; have := HF.out.1; omega
     have q1 : (((F + t : Nat) : Int) == 0) = false := by simp; omega
     have q2 : (((F : Int) + (t : Int)) == 0) = false := by simp; omega
     go_wp2_with (first | (go_at_call 232; refine (filled_at g _ _ _ (F + t) HQ.out _ H5.out.1 HZ.out).mono ?_; rintro e w' ⟨rfl, rfl⟩))
     have H6 : Holds w5 g (M ++ P) := by
      have q := open_part M P (by rw [hPL]; have := HF.out.2; omega)
      refine ⟨?_⟩
      rw [q.1, q.2, HE.out, HF.out.2, hPL]
      exact H5.out.1
     have K6 : Kept (fun k => k = g) w w5 := H5.out.2.2
     first
      | exact ⟨⟨j + t, 0, some ⟨b0, o0 + j, none⟩, by omega, by omega, by rw [Nat.sub_sub], fun h => by omega, by rw [HMP.out]; exact H6, K6⟩, by show n - j - t < n - j; omega⟩
      | exact ⟨⟨j + t, cc - t, some ⟨b0, o0 + j + t, none⟩, by omega, by omega, by rw [Nat.sub_sub], fun h => by rw [Nat.add_assoc], by rw [HMP.out]; exact H6, K6⟩, by show n - j - t < n - j; omega⟩
  ·obtain rfl : j = n := by omega
   have X3 : Hid (Holds wr g (m ++ zs) ∧ Kept (fun k => k = g) w wr) := by
    rw [← hM, List.take_of_length_le (by have := HL.out; omega)] at hh
    exact ⟨hh, hkp⟩
   rw [Nat.sub_self]
   clear hh hkp hM hr
   go_wp2
   go_ret2
   exact ⟨rfl, X3.out⟩
theorem holds_new {w : World} {g : Nat} (h : HashAt w g shaIv (zer 64) 0) : Holds w g [] := ⟨h⟩
theorem sum_holds (g : Nat) (m : List Int) (w : World) (h : Holds w g m) (hK : KTab w) :
  Calls Tryz.prog 234 #[.pointer (some ⟨g, 0, none⟩)] w fun e w' => e = .returned (.agg (u8s (sha m)).toArray) ∧ Below w.heap.size w w' :=
 sum_any g _ _ _ (m.length % 64) (by omega) w h.hash (by omega) hK
theorem new_holds (w : World) : Calls Tryz.prog 248 #[] w fun e w' => ∃ g, e = .returned (.pointer (some ⟨g, 0, none⟩)) ∧ w.heap.size ≤ g ∧ Holds w' g [] ∧ Below w.heap.size w w' :=
 (dnew_any w).mono fun _ _ ⟨g, e, h1, h2, h3⟩ => ⟨g, e, h1, holds_new h2, h3⟩
theorem dsum_any (ao : Option Addr) (n c : Nat) (pss : List (List Int)) (w : World) (hx : SeenP w ao n pss) (hn : n ≤ 140737488355328) (hm : pss.flatten.length < 9223372036854775808) (hK : KTab w) :
  Calls Tryz.prog 247 #[.slice ao n c] w fun e w' => e = .returned (.agg (u8s (sha pss.flatten)).toArray) ∧ Below w.heap.size w w' := by
 have HX : Hid (SeenP w ao n pss) := hx
 have HM : Hid (pss.flatten.length < 9223372036854775808) := hm
 have HK : Hid (KTab w) := hK
 have HN : Hid (pss.length = n) := hx.len
 clear hx hm hK
 go_enter Tryz.func247, Tryz.ntmps247
 go_wp2_with (first | (refine wpList_alloc_new rfl 131 rfl 32 _ zeroAH ?_; intro w1 b1 s1 l1) | (go_at_call 257; refine (fresh_any _).mono ?_; rintro e w2 ⟨rfl, l2⟩) | (refine wpList_alloc_new rfl 280 rfl 73 _ zeroHash ?_; intro w3 b3 s3 l3) | (refine wpList_store_blk rfl 280 280 _ _ rfl _ rfl _ (hcells shaIv (zer 64) 0) rfl b3 (by rw [freshLen, hcells_length _ _ _ (by simp) (zer_length _)]) (by rw [freshLen]; exact sizeHash) (hcells_one _ _ _) ?_; intro w4 b4 s4 k4))
 have q2 := l2.size
 have q0 := HK.out.lt
 have HB : Hid (Blk w4 w.heap.size 131 (u8s (zer 32)) ∧ Holds w4 w2.heap.size [] ∧ Below w.heap.size w w4 ∧ KTab w4 ∧ w.heap.size < w2.heap.size ∧ 0 < w2.heap.size) := by
  have B4 : Below w.heap.size w w4 := below_kept (below_chain (below_chain l1 l2 (by omega)) l3 (by omega)) k4 (by omega) (fun j hj => by omega)
  exact ⟨((b1.later l2 (by omega)).later l3 (by omega)).kept k4 (by omega), holds_new ⟨b4, rfl, zer_length _⟩, B4, HK.out.below B4 q0, by omega, by omega⟩
 clear b1 l1 b3 s3 l3 b4 s4 k4 l2 q2 q0 s1
 go_loopw [9] (fun i wr => ∃ k : Nat, k ≤ n ∧ i = .int .i64 k ∧ Holds wr w2.heap.size (pss.take k).flatten ∧ Kept (fun b => b = w2.heap.size) w4 wr) (fun i _ => n - (intOf i).toNat)
 case atStart => exact ⟨0, Nat.zero_le _, rfl, HB.out.2.1, Kept.refl _ _⟩
 case round =>
  obtain ⟨k, hk, rfl, hh, hkp⟩ := hrel
  by_cases hlt : k < n
  ·obtain ⟨b, o, so, cs, rfl, hb, hc, hs, hl⟩ := HX.out.cells k hlt
   obtain ⟨B1, B2, B3, B4, B5, B6⟩ := HB.out
   have c1 : wr.cell? ⟨b, o + k, none⟩ = some (.slice so (pss.getD k []).length cs) := (hkp.cell (p := ⟨b, o + k, none⟩) (Nat.lt_of_lt_of_le hb B3.size) (by show ¬ b = _; omega)).trans ((B3.cell (p := ⟨b, o + k, none⟩) hb).trans hc)
   have S1 : Hid (Seen wr so (pss.getD k []).length (pss.getD k [])) := (hs.later B3 (Nat.le_refl _)).kept hkp (fun b' o' h0 e => by
    have := hs.old (Nat.le_refl _) b' o' h0 e
    omega)
   have N1 : Hid (∀ b' o', 0 < (pss.getD k []).length → so = some ⟨b', o', none⟩ → b' ≠ w2.heap.size) := fun b' o' h0 e => by
    have := hs.old (Nat.le_refl _) b' o' h0 e
    omega
   have L1 : Hid ((pss.getD k []).length ≤ cs) := hl
   have M1 : Hid ((pss.take k).flatten.length + (pss.getD k []).length < 9223372036854775808) := by
    have e := flat_succ pss k (by have := HN.out; omega)
    have h2 := flat_le pss (k + 1)
    rw [e, List.length_append] at h2
    have := HM.out
    show _ < _
    omega
   have E1 : Hid _ := flat_succ pss k (by have := HN.out; omega)
   have HH : Hid (Holds wr w2.heap.size (pss.take k).flatten ∧ KTab wr ∧ Kept (fun b => b = w2.heap.size) w4 wr) := ⟨hh, B4.kept hkp (by omega), hkp⟩
   have G0 : Hid (0 < w2.heap.size) := B6
   have i1 : (0 : Int) ≤ (k : Int) := by omega
   have i2 : (k : Int) < (n : Int) := by omega
   clear B1 B2 B3 B4 B5 B6 hs hl hc hh hkp
   obtain ⟨p, hp⟩ : ∃ p, pss.getD k [] = p := ⟨_, rfl⟩
   rw [hp] at c1 S1 N1 L1 M1 E1
   clear hp
   go_wp2_with (go_at_call 206; refine (dwrite_any _ _ so p.length cs p _ HH.out.1 S1.out L1.out N1.out HH.out.2.1 G0.out M1.out).mono ?_; rintro e w5 ⟨rfl, h5, k5⟩)
   exact ⟨⟨k + 1, by omega, by go_num, by rw [E1.out]; exact h5, HH.out.2.2.trans k5⟩, by simp [intOf]; omega⟩
  ·obtain rfl : k = n := by omega
   obtain ⟨B1, B2, B3, B4, B5, B6⟩ := HB.out
   rw [List.take_of_length_le (by have := HN.out; omega)] at hh
   have X1 : Hid (Holds wr w2.heap.size pss.flatten ∧ KTab wr ∧ Blk wr w.heap.size 131 (u8s (zer 32)) ∧ Below w.heap.size w wr ∧ w.heap.size < wr.heap.size) := ⟨hh, B4.kept hkp (by omega), B1.kept hkp (by omega), below_kept B3 hkp B3.size (fun j hj => by omega), by have := hh.lt; omega⟩
   clear B1 B2 B3 B4 B5 B6 hh hkp
   go_wp2_with (first | (go_at_call 234; refine (sum_holds _ pss.flatten _ X1.out.1 X1.out.2.1).mono ?_; rintro e w5 ⟨rfl, l5⟩; have X5 : Hid (Blk w5 w.heap.size 131 (u8s (zer 32)) ∧ Below w.heap.size w w5) := ⟨X1.out.2.2.1.later l5 X1.out.2.2.2.2, below_chain X1.out.2.2.2.1 l5 (Nat.le_of_lt X1.out.2.2.2.2)⟩) | (refine wpList_store_blk rfl 131 131 _ _ rfl _ rfl _ (u8s (sha pss.flatten)) rfl X5.out.1 (by rw [u8s_length, sha_length, u8s_length, zer_length]) (by rw [u8s_length, sha_length]; exact sizeAH) (u8s_one _) ?_; intro w6 b6 s6 k6))
   exact ret_blk rfl w.heap.size (u8s (sha pss.flatten)) _ rfl b6 Tryz.underlying131 rfl (by rw [u8s_length, sha_length]; exact sizeAH) rfl ⟨rfl, below_kept X5.out.2 k6 X5.out.2.size (fun j hj => by omega)⟩
theorem bytesF_bytes (st : List Int) (k : Nat) : Bytes (bytesF st k) := by
  intro z hz
  simp only [bytesF, List.mem_map] at hz
  obtain ⟨i, _, rfl⟩ := hz
  unfold byteF
  omega
theorem sha_bytes (m : List Int) : Bytes (sha m) := bytesF_bytes _ _
theorem zer_bytes (n : Nat) : Bytes (zer n) := by
  intro z hz
  obtain rfl := List.eq_of_mem_replicate hz
  omega
def keyS (key : List Int) : List Int := if 64 < key.length then sha key else key
theorem keyS_le (key : List Int) : (keyS key).length ≤ 64 := by
  unfold keyS; split
  · rw [sha_length]; decide
  · omega
theorem keyS_bytes (key : List Int) (h : Bytes key) : Bytes (keyS key) := by
  unfold keyS; split
  · exact sha_bytes _
  · exact h
def frm (key : List Int) : List Int := keyS key ++ zer (64 - (keyS key).length)
theorem frm_length (key : List Int) : (frm key).length = 64 := by
  have := keyS_le key
  simp [frm, zer_length]; omega
theorem frm_bytes (key : List Int) (h : Bytes key) : Bytes (frm key) := bytes_app (keyS_bytes key h) (zer_bytes _)
def turn (c : Int) (l : List Int) : List Int := l.map fun z => bits .xor .u8 z c
theorem turn_length (c : Int) (l : List Int) : (turn c l).length = l.length := by simp [turn]
theorem turn_frm (c : Int) (key : List Int) : (turn c (frm key)).length = 64 := by rw [turn_length, frm_length]
theorem xor8_in (a b : Int) : 0 ≤ bits .xor .u8 a b ∧ bits .xor .u8 a b < 256 := by
  show 0 ≤ IntKind.u8.wrap _ ∧ IntKind.u8.wrap _ < 256
  simp only [IntKind.wrap, IntKind.bits, IntKind.signed]
  simp
  omega
theorem turn_bytes (c : Int) (l : List Int) : Bytes (turn c l) := by
  intro z hz
  simp only [turn, List.mem_map] at hz
  obtain ⟨i, _, rfl⟩ := hz
  exact xor8_in _ _
def mac (key text : List Int) : List Int := sha (turn 92 (frm key) ++ sha (turn 54 (frm key) ++ text))
theorem mac_length (key text : List Int) : (mac key text).length = 32 := sha_length _
theorem mac_bytes (key text : List Int) : Bytes (mac key text) := sha_bytes _
def expT (prk info : List Int) : Nat → List Int
  | 0 => []
  | i + 1 => mac prk (expT prk info i ++ (info ++ [((i : Int) + 1) % 256]))
def expA (prk info : List Int) : Nat → List Int
  | 0 => []
  | i + 1 => expA prk info i ++ expT prk info (i + 1)
theorem expT_length (prk info : List Int) (i : Nat) : (expT prk info (i + 1)).length = 32 := mac_length _ _
theorem expA_length (prk info : List Int) (k : Nat) : (expA prk info k).length = 32 * k := by
  induction k with
  | zero => rfl
  | succ k ih => rw [expA, List.length_append, ih, expT_length]; omega
theorem expT_bytes (prk info : List Int) (i : Nat) : Bytes (expT prk info i) := by
  cases i with
  | zero => intro z hz; cases hz
  | succ i => exact mac_bytes _ _
theorem expA_bytes (prk info : List Int) (k : Nat) : Bytes (expA prk info k) := by
  induction k with
  | zero => intro z hz; cases hz
  | succ k ih => exact bytes_app ih (expT_bytes _ _ _)
theorem expA_take (prk info : List Int) (a b n : Nat) (hab : a ≤ b) (hn : n ≤ 32 * a) : (expA prk info b).take n = (expA prk info a).take n := by
  induction b with
  | zero => obtain rfl : a = 0 := by omega
            rfl
  | succ b ih =>
    rcases Nat.lt_or_ge b a with h | h
    · obtain rfl : a = b + 1 := by omega
      rfl
    · rw [expA, List.take_append_of_le_length (by rw [expA_length]; omega), ih h]
def exps (prk info : List Int) (n : Nat) : List Int := (expA prk info ((n + 31) / 32)).take n
theorem exps_length (prk info : List Int) (n : Nat) : (exps prk info n).length = n := by
  rw [exps, List.length_take, expA_length]; omega
theorem exps_bytes (prk info : List Int) (n : Nat) : Bytes (exps prk info n) := bytes_take (expA_bytes _ _ _) _
end Go.Proofs.YthlbjkfjkggdoaaGreatDoor
