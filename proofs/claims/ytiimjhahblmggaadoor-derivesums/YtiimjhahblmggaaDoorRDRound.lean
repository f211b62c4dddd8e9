/- The document's digest (trystref03): Round. -/
import Derived.Test.YtiimjhahblmggaaDoorRDRot
namespace Go.Proofs.YtiimjhahblmggaaDoor
open Go.RowKit
set_option linter.unusedVariables false
set_option linter.unusedSimpArgs false

/-- The sixty-four bytes from a place on. -/
def blockAt (zs : List Int) (k : Nat) : List Int := (zs.drop k).take 64
theorem blockAt_at (zs : List Int) (k j : Nat) (hj : j < 64) : (blockAt zs k).getD j 0 = zs.getD (k + j) 0 := by
  simp [blockAt, List.getD, List.getElem?_take, List.getElem?_drop, hj]
theorem word4_block (zs : List Int) (k t : Nat) (ht : t < 16) : word4 (blockAt zs k) t = bits .or .u32 (bits .or .u32 (bits .or .u32 (zs.getD (k + 4 * t) 0 % 4294967296 * 16777216 % 4294967296) (zs.getD (k + 4 * t + 1) 0 % 4294967296 * 65536 % 4294967296)) (zs.getD (k + 4 * t + 2) 0 % 4294967296 * 256 % 4294967296)) (zs.getD (k + 4 * t + 3) 0 % 4294967296) := by
  rw [word4, blockAt_at _ _ _ (by omega), blockAt_at _ _ _ (by omega), blockAt_at _ _ _ (by omega), blockAt_at _ _ _ (by omega)]
  rfl
theorem rrot_d (x k : Int) (hk : Turn k) (w : World) : Calls Tryd.prog 52 #[.int .u32 x, .int .i64 k] w fun e w' => e = .returned (.int .u32 (rotr x k)) ∧ ∃ q, w' = w.drewN q := rrot_any x k hk w
theorem word_at (ao : Option Addr) (n c : Nat) (zs : List Int) (k t : Nat) (ht : t < 16) (hi : k + 64 ≤ n) (w : World) (hx : Seen w ao n zs) (I : Int) (hI : I = (k : Int) + 4 * (t : Int)) :
    Calls Tryd.prog 51 #[.slice ao n c, .int .i64 I] w fun e w' => e = .returned (.int .u32 (word4 (blockAt zs k) t)) ∧ ∃ q, w' = w.drewN q := by
  have e : I = ((k + 4 * t : Nat) : Int) := by omega
  rw [word4_block zs k t ht, e]
  exact word_any ao n c zs (k + 4 * t) (by omega) w hx
set_option maxRecDepth 20000 in
theorem build8_any (a b c d e f g h : Int) (w : World) : (Instr.build 79 #[(0, .int .u32 a), (1, .int .u32 b), (2, .int .u32 c), (3, .int .u32 d), (4, .int .u32 e), (5, .int .u32 f), (6, .int .u32 g), (7, .int .u32 h)]).run Tryd.prog w = .ok (.agg (u32s [a, b, c, d, e, f, g, h]).toArray) w := by kernel_rfl
set_option maxRecDepth 20000 in
set_option maxHeartbeats 2000000 in
theorem rround_any (st : List Int) (hs : st.length = 8) (ao : Option Addr) (n c : Nat) (zs : List Int) (k : Nat) (hat : k + 64 ≤ n) (w : World) (hx : Seen w ao n zs) :
    Calls Tryd.prog 43 #[.agg (u32s st).toArray, .slice ao n c, .int .i64 k] w fun e w' => e = .returned (.agg (u32s (mixF st (blockAt zs k))).toArray) ∧ Below w.heap.size w w' := by
  have HS : Hid (st.length = 8) := hs
  have HX : Hid (Seen w ao n zs) := hx
  have t1 := hx.top
  obtain ⟨B, hB⟩ : ∃ B, blockAt zs k = B := ⟨_, rfl⟩
  have HBB : Hid (blockAt zs k = B) := hB
  rw [hB]
  clear hs hx hB
  go_enter Tryd.func43, Tryd.ntmps43
  go_wp2_with (first | (refine wpList_box_new rfl 79 _ rfl (u32s st) rfl ?_; intro w1 b1 s1 l1) | (refine wpList_alloc_new rfl 79 rfl 8 _ zero8w ?_; intro w2 b2 s2 l2) | (refine wpList_alloc_new rfl 91 rfl 64 _ zero64w ?_; intro w3 b3 s3 l3))
  have HB : Hid (Blk w3 w.heap.size 79 (u32s st) ∧ Blk w3 (w.heap.size + 1) 79 (u32s (List.replicate 8 0)) ∧ Blk w3 (w.heap.size + 2) 91 (u32s (List.replicate 64 0)) ∧ Below w.heap.size w w3) :=
    ⟨(b1.later l2 (by omega)).later l3 (by omega), by have := b2.later l3 (by omega); rwa [s1] at this, by rwa [show w2.heap.size = w.heap.size + 2 by omega] at b3, below_chain (below_chain l1 l2 (by omega)) l3 (by omega)⟩
  have sz : w3.heap.size = w.heap.size + 3 := by omega
  clear b1 s1 l1 b2 s2 l2 b3 s3 l3
  go_loopw [8] (fun i wr => ∃ t : Nat, t ≤ 16 ∧ i = .int .i64 t ∧ Blk wr (w.heap.size + 2) 91 (u32s (w16 B t ++ List.replicate (64 - t) 0)) ∧ Kept (fun b => b = w.heap.size + 2) w3 wr) (fun i _ => 16 - (intOf i).toNat)
  case atStart => exact ⟨0, by decide, rfl, HB.out.2.2.1, Kept.refl _ _⟩
  case round =>
    obtain ⟨t, ht, rfl, hb, hkp⟩ := hrel
    by_cases hlt : t < 16
    · have cs := u32s_cell hb t (by simp [w16_length]; omega)
      have fs := hb.frozen t
      have i1 : (0 : Int) ≤ (t : Int) := by omega
      have i2 : (t : Int) < 16 := by omega
      have j5 : (t : Int) < 64 := by omega
      have X0 : Hid (Blk wr (w.heap.size + 2) 91 (u32s (w16 B t ++ List.replicate (64 - t) 0)) ∧ Kept (fun b => b = w.heap.size + 2) w3 wr) := ⟨hb, hkp⟩
      have S1 : Hid (Seen wr ao n zs) := (HX.out.later HB.out.2.2.2 (Nat.le_refl _)).kept hkp (fun b o h0 e => by have := HX.out.old (Nat.le_refl _) b o h0 e; omega)
      clear hb hkp
      go_wp2_with fail
      refine (word_at ao n c zs k t hlt hat wr S1.out _ (by omega)).mono ?_
      rintro e w4 ⟨rfl, q, rfl⟩
      rw [HBB.out]
      go_wp2
      have R1 := (X0.out.1.drewN q).set t (.int .u32 (word4 B t))
      rw [u32s_set, show 64 - t = (64 - (t + 1)) + 1 by omega] at R1
      have e := set_next (w16 B t) (64 - (t + 1)) (word4 B t) 0
      rw [w16_length] at e
      rw [e, ← w16_succ] at R1
      exact ⟨⟨t + 1, by omega, by go_num, R1, (X0.out.2.drewN q).setCell (S := fun b => b = w.heap.size + 2) rfl _⟩, by simp [intOf]; omega⟩
    · obtain rfl : t = 16 := by omega
      rw [show ((16 : Nat) : Int) = 16 from rfl]
      have X0 : Hid (Blk wr (w.heap.size + 2) 91 (u32s (wGrow B 0 ++ List.replicate (48 - 0) 0)) ∧ Kept (fun b => b = w.heap.size + 2) w3 wr) := ⟨hb, hkp⟩
      clear hb hkp
      obtain ⟨w5, rfl⟩ : ∃ w5, w5 = wr := ⟨_, rfl⟩
      go_wp2
      go_loopw [9] (fun i wr => ∃ n : Nat, n ≤ 48 ∧ i = .int .i64 (16 + (n : Int)) ∧ Blk wr (w.heap.size + 2) 91 (u32s (wGrow B n ++ List.replicate (48 - n) 0)) ∧ Kept (fun b => b = w.heap.size + 2) w3 wr) (fun i _ => 64 - (intOf i).toNat)
      case atStart => exact ⟨0, by decide, rfl, X0.out⟩
      case round =>
        obtain ⟨m, hn, rfl, hb, hkp⟩ := hrel
        by_cases hlt : m < 48
        · have hlen := wGrow_length B m
          have hq : (wGrow B m ++ List.replicate (48 - m) 0).length = 64 := by simp [hlen]; omega
          have c0 := u32s_cell hb m (by omega)
          have c1 := u32s_cell hb (m + 1) (by omega)
          have c2 := u32s_cell hb (m + 9) (by omega)
          have c3 := u32s_cell hb (m + 14) (by omega)
          have cs := u32s_cell hb (16 + m) (by omega)
          rw [getD_front _ _ _ (by omega)] at c0 c1 c2 c3
          obtain ⟨y0, hy0⟩ : ∃ y, (wGrow B m).getD m 0 = y := ⟨_, rfl⟩
          obtain ⟨y1, hy1⟩ : ∃ y, (wGrow B m).getD (m + 1) 0 = y := ⟨_, rfl⟩
          obtain ⟨y2, hy2⟩ : ∃ y, (wGrow B m).getD (m + 9) 0 = y := ⟨_, rfl⟩
          obtain ⟨y3, hy3⟩ : ∃ y, (wGrow B m).getD (m + 14) 0 = y := ⟨_, rfl⟩
          have HY : Hid (wNext (wGrow B m) m = (y0 + sig0 y1 + y2 + sig1 y3) % 4294967296) := by
            show _ = _
            rw [wNext, hy0, hy1, hy2, hy3]
          rw [hy0] at c0
          rw [hy1] at c1
          rw [hy2] at c2
          rw [hy3] at c3
          have fs := hb.frozen (16 + m)
          have X1 : Hid (Blk wr (w.heap.size + 2) 91 (u32s (wGrow B m ++ List.replicate (48 - m) 0))) := hb
          have X2 : Hid ((wGrow B m).length = 16 + m) := hlen
          have X3 : Hid (Kept (fun b => b = w.heap.size + 2) w3 wr) := hkp
          clear hb hy0 hy1 hy2 hy3 hlen hq hkp
          have i1 : (16 + (m : Int) - 15).toNat = m + 1 := by omega
          have i2 : (16 + (m : Int) - 2).toNat = m + 14 := by omega
          have i3 : (16 + (m : Int) - 16).toNat = m := by omega
          have i4 : (16 + (m : Int) - 7).toNat = m + 9 := by omega
          have i5 : (16 + (m : Int)).toNat = 16 + m := by omega
          have j0 : 16 + (m : Int) < 64 := by omega
          have j1 : 16 + (m : Int) - 15 < 64 := by omega
          have j2 : 16 + (m : Int) - 2 < 64 := by omega
          have j3 : 16 + (m : Int) - 16 < 64 := by omega
          have j4 : 16 + (m : Int) - 7 < 64 := by omega
          have k0 : 0 ≤ 16 + (m : Int) := by omega
          have k1 : 0 ≤ 16 + (m : Int) - 15 := by omega
          have k2 : 0 ≤ 16 + (m : Int) - 2 := by omega
          have k3 : 0 ≤ 16 + (m : Int) - 16 := by omega
          have k4 : 0 ≤ 16 + (m : Int) - 7 := by omega
          go_wp2_with (go_at_call 52; refine (rrot_d _ _ (by simp [Turn]) _).mono ?_; rintro e w' ⟨rfl, q, rfl⟩)
          go_region
          go_wp2
          have R1 := X1.out.set (16 + m) (.int .u32 (wNext (wGrow B m) m))
          rw [u32s_set, show 48 - m = (48 - (m + 1)) + 1 by omega] at R1
          have e := set_next (wGrow B m) (48 - (m + 1)) (wNext (wGrow B m) m) 0
          rw [X2.out] at e
          rw [e, HY.out] at R1
          refine ⟨⟨m + 1, by omega, by go_num, ?_, (X3.out.drewN _).setCell (S := fun b => b = w.heap.size + 2) rfl _⟩, by simp [intOf]; omega⟩
          rw [wGrow, HY.out]
          exact R1
        · obtain rfl : m = 48 := by omega
          rw [show 16 + ((48 : Nat) : Int) = 64 from rfl]
          rw [show 48 - 48 = 0 from rfl, List.replicate_zero, List.append_nil] at hb
          have X3 : Hid (Blk wr (w.heap.size + 2) 91 (u32s (sched B)) ∧ Blk wr w.heap.size 79 (u32s st) ∧ Blk wr (w.heap.size + 1) 79 (u32s (List.replicate 8 0)) ∧ Below w.heap.size w wr ∧ w.heap.size + 3 ≤ wr.heap.size) :=
            ⟨hb, HB.out.1.kept hkp (by omega), HB.out.2.1.kept hkp (by omega), below_kept HB.out.2.2.2 hkp (by omega) (fun j hj => by omega), by have := hkp.size; omega⟩
          obtain ⟨w6, rfl⟩ : ∃ w6, w6 = wr := ⟨_, rfl⟩
          clear hb hkp
          have u3 : (Tryd.prog.info? 79).map (·.size) = some (u32s st).length := by rw [u32s_length, HS.out]; exact size8w
          go_wp2_with (first | (go_at_call 53; refine (keys_any _).mono ?_; rintro e w7 ⟨rfl, l7⟩) | (refine wpList_alloc_new rfl 91 rfl 64 _ zero64w ?_; intro w8 b8 s8 l8) | (refine wpList_store_blk rfl 91 91 _ _ rfl _ rfl _ (u32s kWords) rfl b8 (by rw [kLen, u32s_length, List.length_replicate]) (by rw [kLen]; exact size64w) (u32s_one _) ?_; intro w9 b9 s9 k9; have z7 := l7.size; have X9 : Hid (Blk w9 w.heap.size 79 (u32s st)) := (((X3.out.2.1.later l7 (by have := X3.out.2.2.2.2; omega)).later l8 (by have := X3.out.2.2.2.2; omega)).kept k9 (by have := X3.out.2.2.2.2; omega))) | (refine wpList_load_blk rfl 79 _ rfl _ rfl (u32s st) _ X9.out Tryd.underlying79 rfl u3 ?_) | (refine wpList_alloc_new rfl 79 rfl 8 _ zero8w ?_; intro wA bA sA lA) | (refine wpList_store_blk rfl 79 79 _ _ rfl _ rfl _ (u32s st) rfl bA (by rw [u32s_length, HS.out, u32s_length, List.length_replicate]) u3 (u32s_one _) ?_; intro wB bB sB kB))
          have XB : Hid (Blk wB w.heap.size 79 (u32s st) ∧ Blk wB (w.heap.size + 1) 79 (u32s (List.replicate 8 0)) ∧ Blk wB (w.heap.size + 2) 91 (u32s (sched B)) ∧ Blk wB w7.heap.size 91 (u32s kWords) ∧ Blk wB (w7.heap.size + 1) 79 (u32s st) ∧ Below w.heap.size w wB ∧ w.heap.size + 3 ≤ w7.heap.size) := by
            have q := X3.out.2.2.2.2
            have e9 : w9.heap.size = w7.heap.size + 1 := by omega
            rw [e9] at bB kB bA lA
            refine ⟨(X9.out.later lA (by omega)).kept kB (by omega), ((((X3.out.2.2.1.later l7 (by omega)).later l8 (by omega)).kept k9 (by omega)).later lA (by omega)).kept kB (by omega), ((((X3.out.1.later l7 (by omega)).later l8 (by omega)).kept k9 (by omega)).later lA (by omega)).kept kB (by omega), ((b9.later lA (by omega)).kept kB (by omega)), bB, ?_, by omega⟩
            exact below_kept (below_chain (below_kept (below_chain (below_chain X3.out.2.2.2.1 l7 (by omega)) l8 (by omega)) k9 (by omega) (fun j hj => by omega)) lA (by omega)) kB (by omega) (fun j hj => by omega)
          clear X9 l7 b8 s8 l8 b9 s9 k9 bA sA lA bB sB kB z7
          go_loopw [16] (fun i wr => ∃ t : Nat, t ≤ 64 ∧ i = .int .i64 t ∧ Blk wr (w7.heap.size + 1) 79 (u32s (rndN (sched B) (V8.of st) t).list) ∧ Kept (fun b => b = w7.heap.size + 1) wB wr) (fun i _ => 64 - (intOf i).toNat)
          case atStart =>
            have e0 : (V8.of st).list = st := by
              match st, HS.out with
              | [a, b, c, d, e, f, g, i], _ => rfl
            exact ⟨0, by decide, rfl, by rw [rndN, e0]; exact XB.out.2.2.2.2.1, Kept.refl _ _⟩
          case round =>
            obtain ⟨t, ht, rfl, hb, hkp⟩ := hrel
            have qq := XB.out.2.2.2.2.2.2
            by_cases hlt : t < 64
            · have cK := u32s_cell (XB.out.2.2.2.1.kept hkp (by omega)) t (by have := kLen; rw [u32s_length] at this; omega)
              have cW := u32s_cell (XB.out.2.2.1.kept hkp (by omega)) t (by rw [sched_length]; exact hlt)
              have HR : Hid (rndN (sched B) (V8.of st) (t + 1) = rnd (rndN (sched B) (V8.of st) t) (kWords.getD t 0) ((sched B).getD t 0)) := rfl
              obtain ⟨kk, hkk⟩ : ∃ y, kWords.getD t 0 = y := ⟨_, rfl⟩
              obtain ⟨ww, hww⟩ : ∃ y, (sched B).getD t 0 = y := ⟨_, rfl⟩
              obtain ⟨v, hv⟩ : ∃ y, rndN (sched B) (V8.of st) t = y := ⟨_, rfl⟩
              rw [hkk] at cK HR
              rw [hww] at cW HR
              rw [hv] at HR hb
              have d0 : wr.cell? ⟨w7.heap.size + 1, 0, none⟩ = some (.int .u32 v.a) := u32s_cell hb 0 (show 0 < 8 by decide)
              have d1 : wr.cell? ⟨w7.heap.size + 1, 1, none⟩ = some (.int .u32 v.b) := u32s_cell hb 1 (show 1 < 8 by decide)
              have d2 : wr.cell? ⟨w7.heap.size + 1, 2, none⟩ = some (.int .u32 v.c) := u32s_cell hb 2 (show 2 < 8 by decide)
              have d3 : wr.cell? ⟨w7.heap.size + 1, 3, none⟩ = some (.int .u32 v.d) := u32s_cell hb 3 (show 3 < 8 by decide)
              have d4 : wr.cell? ⟨w7.heap.size + 1, 4, none⟩ = some (.int .u32 v.e) := u32s_cell hb 4 (show 4 < 8 by decide)
              have d5 : wr.cell? ⟨w7.heap.size + 1, 5, none⟩ = some (.int .u32 v.f) := u32s_cell hb 5 (show 5 < 8 by decide)
              have d6 : wr.cell? ⟨w7.heap.size + 1, 6, none⟩ = some (.int .u32 v.g) := u32s_cell hb 6 (show 6 < 8 by decide)
              have d7 : wr.cell? ⟨w7.heap.size + 1, 7, none⟩ = some (.int .u32 v.h) := u32s_cell hb 7 (show 7 < 8 by decide)
              have X1 : Hid (Blk wr (w7.heap.size + 1) 79 (u32s v.list) ∧ Kept (fun b => b = w7.heap.size + 1) wB wr) := ⟨hb, hkp⟩
              have i1 : (0 : Int) ≤ (t : Int) := by omega
              have i2 : (t : Int) < 64 := by omega
              clear hkk hww hv hb hkp
              go_wp2
              go_quiet (fail)
              go_wp2
              have X2 : Hid (Blk (wr.drewN nq) (w7.heap.size + 1) 79 (u32s v.list) ∧ Kept (fun b => b = w7.heap.size + 1) wB (wr.drewN nq)) := ⟨X1.out.1.drewN nq, X1.out.2.drewN nq⟩
              have e3 : (wr.drewN nq).cell? ⟨w7.heap.size + 1, 3, none⟩ = some (.int .u32 v.d) := d3
              have e7 : (wr.drewN nq).cell? ⟨w7.heap.size + 1, 7, none⟩ = some (.int .u32 v.h) := d7
              have eK : (wr.drewN nq).cell? ⟨w7.heap.size, t, none⟩ = some (.int .u32 kk) := cK
              have eW : (wr.drewN nq).cell? ⟨w.heap.size + 2, t, none⟩ = some (.int .u32 ww) := cW
              obtain ⟨wq, hwq⟩ : ∃ wq, wr.drewN nq = wq := ⟨_, rfl⟩
              rw [hwq] at X2 e3 e7 eK eW ⊢
              clear hwq d0 d1 d2 d3 d4 d5 d6 d7 cK cW X1
              go_quiet (first | (go_at_call 52; exact Calls.quiet_of (rrot_d _ _ (by simp [Turn]) _)))
              go_wp2_with (first | (go_at_call 52; refine (rrot_d _ _ (by simp [Turn]) _).mono ?_; rintro e w' ⟨rfl, q, rfl⟩) | (refine wpList_build rfl 79 _ rfl #[(0, .int .u32 (rnd v kk ww).a), (1, .int .u32 (rnd v kk ww).b), (2, .int .u32 (rnd v kk ww).c), (3, .int .u32 (rnd v kk ww).d), (4, .int .u32 (rnd v kk ww).e), (5, .int .u32 (rnd v kk ww).f), (6, .int .u32 (rnd v kk ww).g), (7, .int .u32 (rnd v kk ww).h)] (by simp only [List.map_toArray, List.map_cons, List.map_nil]; rfl) _ (build8_any _ _ _ _ _ _ _ _ _) ?_) | (refine wpList_store_blk rfl 79 79 _ _ rfl _ rfl _ (u32s (rnd v kk ww).list) rfl (X2.out.1.drewN _) rfl size8w (u32s_one _) ?_; intro wC bC sC kC))
              exact ⟨⟨t + 1, by omega, by go_num, by rw [HR.out]; exact bC, (X2.out.2.drewN _).trans kC⟩, by simp [intOf]; omega⟩
            · obtain rfl : t = 64 := by omega
              rw [show ((64 : Nat) : Int) = 64 from rfl]
              have HM : Hid (mixF st B = addW st (rndN (sched B) (V8.of st) 64).list) := rfl
              obtain ⟨v, hv⟩ : ∃ y, rndN (sched B) (V8.of st) 64 = y := ⟨_, rfl⟩
              rw [hv] at HM hb
              have XD : Hid (Blk wr w.heap.size 79 (u32s st) ∧ Blk wr (w.heap.size + 1) 79 (u32s (List.replicate 8 0)) ∧ Blk wr (w7.heap.size + 1) 79 (u32s v.list) ∧ Below w.heap.size w wr) :=
                ⟨XB.out.1.kept hkp (by omega), XB.out.2.1.kept hkp (by omega), hb, below_kept XB.out.2.2.2.2.2.1 hkp XB.out.2.2.2.2.2.1.size (fun j hj => by omega)⟩
              obtain ⟨wD, rfl⟩ : ∃ wD, wD = wr := ⟨_, rfl⟩
              clear hv hb hkp
              go_wp2
              go_loopw [25] (fun i wr => ∃ j : Nat, j ≤ 8 ∧ i = .int .i64 j ∧ Blk wr w.heap.size 79 (u32s ((mixF st B).take j ++ st.drop j)) ∧ Kept (fun b => b = w.heap.size) wD wr) (fun i _ => 8 - (intOf i).toNat)
              case atStart => exact ⟨0, by decide, rfl, XD.out.1, Kept.refl _ _⟩
              case round =>
                obtain ⟨j, hj, rfl, hb, hkp⟩ := hrel
                have hm := mixF_length st B HS.out
                by_cases hlt : j < 8
                · have cs := u32s_cell hb j (by rw [half_length _ _ 8 j hm HS.out hj]; exact hlt)
                  rw [half_at _ _ 8 j hm HS.out hlt] at cs
                  have fs := hb.frozen j
                  have cv := u32s_cell (XD.out.2.2.1.kept hkp (by omega)) j (show j < 8 from hlt)
                  have HA : Hid ((mixF st B).getD j 0 = (st.getD j 0 + v.list.getD j 0) % 4294967296) := by
                    show _ = _
                    rw [HM.out]; exact addW_at _ _ 8 j HS.out rfl hlt
                  have HE : Hid _ := half_set _ _ 8 j hm HS.out hlt
                  obtain ⟨y, hy⟩ : ∃ y, st.getD j 0 = y := ⟨_, rfl⟩
                  obtain ⟨z, hz⟩ : ∃ z, v.list.getD j 0 = z := ⟨_, rfl⟩
                  rw [hy] at cs HA
                  rw [hz] at cv HA
                  have X1 : Hid (Blk wr w.heap.size 79 (u32s ((mixF st B).take j ++ st.drop j)) ∧ Kept (fun b => b = w.heap.size) wD wr) := ⟨hb, hkp⟩
                  have i1 : (0 : Int) ≤ (j : Int) := by omega
                  have i2 : (j : Int) < 8 := by omega
                  clear hb hy hz hm hkp
                  go_wp2
                  go_region
                  go_wp2
                  have R1 := X1.out.1.set j (.int .u32 ((y + z) % 4294967296))
                  rw [u32s_set, ← HA.out, HE.out, HA.out] at R1
                  exact ⟨⟨j + 1, by omega, by go_num, R1, (X1.out.2.setCell (S := fun b => b = w.heap.size) rfl _).drew⟩, by simp [intOf]; omega⟩
                · obtain rfl : j = 8 := by omega
                  rw [show ((8 : Nat) : Int) = 8 from rfl]
                  rw [List.take_of_length_le (by omega), List.drop_eq_nil_of_le (by have := HS.out; omega), List.append_nil] at hb
                  have X4 : Hid (Blk wr w.heap.size 79 (u32s (mixF st B)) ∧ Blk wr (w.heap.size + 1) 79 (u32s (List.replicate 8 0)) ∧ Below w.heap.size w wr ∧ (mixF st B).length = 8) := ⟨hb, XD.out.2.1.kept hkp (by omega), below_kept XD.out.2.2.2 hkp XD.out.2.2.2.size (fun j hj => by omega), hm⟩
                  clear hb hkp hm
                  go_wp2_with (first | (refine wpList_load_blk rfl 79 _ rfl _ rfl (u32s (mixF st B)) _ X4.out.1 Tryd.underlying79 rfl (by rw [u32s_length, X4.out.2.2.2]; exact size8w) ?_) | (refine wpList_store_blk rfl 79 79 _ _ rfl _ rfl _ (u32s (mixF st B)) rfl X4.out.2.1 (by rw [u32s_length, X4.out.2.2.2, u32s_length, List.length_replicate]) (by rw [u32s_length, X4.out.2.2.2]; exact size8w) (u32s_one _) ?_; intro wE bE sE kE))
                  exact ret_blk rfl (w.heap.size + 1) (u32s (mixF st B)) _ rfl bE Tryd.underlying79 rfl (by rw [u32s_length, X4.out.2.2.2]; exact size8w) rfl ⟨rfl, below_kept X4.out.2.2.1 kE X4.out.2.2.1.size (fun j hj => by omega)⟩
end Go.Proofs.YtiimjhahblmggaaDoor
