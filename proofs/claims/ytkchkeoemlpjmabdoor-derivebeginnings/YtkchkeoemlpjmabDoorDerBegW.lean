/- The walk of DeriveBeginnings. -/
import Derived.Test.YtkchkeoemlpjmabDoorVWorks
import Derived.Test.YtkchkeoemlpjmabDoorVKeys
import Derived.Test.YtkchkeoemlpjmabDoorRSame
import Derived.Test.YtkchkeoemlpjmabDoorDHeld
namespace Go.Proofs.YtkchkeoemlpjmabDoor.deriveBeginnings
open Go.RowKit
set_option linter.unusedVariables false
set_option linter.unusedSimpArgs false

theorem rem_nat (z : Int) (D : Nat) (hD : 0 < D) (hD2 : D ≤ 1048576) : ∃ r : Nat, Value.int .u64 ((IntKind.u64.wrap z).tmod (D : Int)) = Value.int .u64 (r : Int) ∧ r < D ∧ Value.int .i64 (wrap64 (r : Int)) = Value.int .i64 (r : Int) := by
  have h1 : 0 ≤ IntKind.u64.wrap z := by rw [IntKind.wrap_u64]; omega
  have h2 := Int.emod_nonneg (IntKind.u64.wrap z) (show (D : Int) ≠ 0 by omega)
  have h3 := Int.emod_lt_of_pos (IntKind.u64.wrap z) (show (0 : Int) < (D : Int) by omega)
  obtain ⟨x, hx⟩ : ∃ x, IntKind.u64.wrap z % (D : Int) = x := ⟨_, rfl⟩
  rw [hx] at h2 h3
  have e : (IntKind.u64.wrap z).tmod (D : Int) = x := by rw [Int.tmod_eq_emod_of_nonneg h1]; exact hx
  clear hx h1
  have e2 : ((x.toNat : Nat) : Int) = x := by clear e; omega
  refine ⟨x.toNat, by rw [e, e2], by clear e; omega, ?_⟩
  rw [show wrap64 ((x.toNat : Nat) : Int) = ((x.toNat : Nat) : Int) by clear e; unfold wrap64; omega]

set_option maxRecDepth 20000 in
set_option maxHeartbeats 4000000 in
theorem walk (so : Option Addr) (sn sc : Nat) (salt : List Int) (xo : Option Addr) (xn xc : Nat) (sec : List Int) (io : Option Addr) (im ic : Nat) (info : List Int) (N less : Int) (w : World) (hs : Seen w so sn salt) (hsc : sn ≤ sc) (hx : Seen w xo xn sec) (hxc : xn ≤ xc) (hi : Seen w io im info) (hic : im ≤ ic) (hK : KTab w) :
    Calls Tryd.prog 5 #[.agg #[.slice so sn sc, .slice xo xn xc, .slice io im ic, .int .i64 N], .int .i64 less] w fun e w' => e = .returned (.bool true) ∧ Below w.heap.size w w' := by
  have HX : Hid (Seen w so sn salt ∧ sn ≤ sc ∧ Seen w xo xn sec ∧ xn ≤ xc ∧ KTab w ∧ Seen w io im info ∧ im ≤ ic) := ⟨hs, hsc, hx, hxc, hK, hi, hic⟩
  have q0 := hK.lt
  clear hs hsc hx hxc hK hi hic
  obtain ⟨n, hr1, hn, hf1⟩ := rem_nat N 8161 (by decide) (by decide)
  obtain ⟨m, hr2, hm, hf2⟩ := rem_nat less (n + 1) (by omega) (by omega)
  have f0 : Value.int .u64 (IntKind.u64.wrap ((n : Int) + 1)) = Value.int .u64 ((n : Int) + 1) := by rw [show IntKind.u64.wrap ((n : Int) + 1) = (n : Int) + 1 by clear hr1 hr2 hf1 hf2; rw [IntKind.wrap_u64]; omega]
  rw [show ((8161 : Nat) : Int) = 8161 from rfl] at hr1
  rw [show ((n + 1 : Nat) : Int) = (n : Int) + 1 by clear hr1 hr2 hf1 hf2 f0; omega] at hr2
  obtain ⟨h, hh, hhn⟩ : ∃ h : Nat, (n : Int).tdiv 32 = (h : Int) ∧ 32 * h ≤ n := ⟨n / 32, by rw [Int.tdiv_eq_ediv_of_nonneg (by clear hr1 hr2 hf1 hf2 f0; omega)]; clear hr1 hr2 hf1 hf2 f0; omega, by clear hr1 hr2 hf1 hf2 f0; omega⟩
  have SA : Hid (∀ {W : World} {R : Nat}, Blk W R 5 (u8s (exps (mac salt sec) info n)) → Seen W (some ⟨R, 0, none⟩) m (exps (mac salt sec) info m)) := fun {W R} b => by
    have q := (seen_blk b (exps_bytes _ _ _) (by rw [exps_length]; omega))
    rw [exps_length] at q
    have q2 := q.sub 0 m (n + 1) (Nat.zero_le _) (by omega) (by omega)
    rw [Nat.sub_zero, List.drop_zero, exps_take _ _ _ _ (by omega), show subA (some ⟨R, 0, none⟩) 0 (n + 1) = some ⟨R, 0, none⟩ by unfold subA; rw [if_neg (by omega)]; simp [add_mid]] at q2
    exact q2
  have SB : Hid (∀ {W : World} {R : Nat}, Blk W R 5 (u8s (exps (mac salt sec) info m)) → Seen W (some ⟨R, 0, none⟩) m (exps (mac salt sec) info m)) := fun {W R} b => by
    have q := (seen_blk b (exps_bytes _ _ _) (by rw [exps_length]; omega))
    rw [exps_length] at q
    exact q
  have HEQ : Hid (∀ t, t < 32 * h → (exps (mac salt sec) info (32 * h)).getD t 0 = (exps (mac salt sec) info n).getD t 0) := fun t ht => by
    rw [← exps_take _ _ _ _ hhn]
    simp [List.getD, List.getElem?_take, ht]
  go_enter Tryd.func5, Tryd.ntmps5
  go_wp2_with (first | (refine wpList_box_new rfl 43 _ rfl [.slice so sn sc, .slice xo xn xc, .slice io im ic, .int .i64 N] rfl ?_; intro w1 b1 s1 l1; have Z1 : Hid (w1.heap.size = w.heap.size + 1) := s1; clear s1; have HG : Hid (∀ W, Below w1.heap.size w1 W → (Seen W so sn salt ∧ Seen W xo xn sec ∧ Seen W io im info ∧ KTab W ∧ Below w.heap.size w W) ∧ W.cell? ⟨w.heap.size, 0, none⟩ = some (.slice so sn sc) ∧ W.cell? ⟨w.heap.size, 1, none⟩ = some (.slice xo xn xc) ∧ W.cell? ⟨w.heap.size, 2, none⟩ = some (.slice io im ic)) := (fun W hW => by have := Z1.out; have BW := below_chain l1 hW (by omega); have bb := b1.later hW (by omega); exact ⟨⟨HX.out.1.later BW (Nat.le_refl _), HX.out.2.2.1.later BW (Nat.le_refl _), HX.out.2.2.2.2.2.1.later BW (Nat.le_refl _), HX.out.2.2.2.2.1.below BW q0, BW⟩, bb.cell 0, bb.cell 1, bb.cell 2⟩); have d0 := (HG.out w1 (Below.refl _ _)).2.1; have d1 := (HG.out w1 (Below.refl _ _)).2.2.1; have d2 := (HG.out w1 (Below.refl _ _)).2.2.2; have d3 : w1.cell? ⟨w.heap.size, 3, none⟩ = some (.int .i64 N) := b1.cell 3; clear b1 l1) | ((with_reducible show Calls _ _ _ w1 _); go_at_call 15; refine (derive_any so sn sc salt xo xn xc sec io im ic info n (by omega) _ (HG.out w1 (Below.refl _ _)).1.1 HX.out.2.1 (HG.out w1 (Below.refl _ _)).1.2.1 HX.out.2.2.2.1 (HG.out w1 (Below.refl _ _)).1.2.2.1 HX.out.2.2.2.2.2.2 (HG.out w1 (Below.refl _ _)).1.2.2.2.1).mono ?_; rintro e w2 ⟨R, rfl, hR, bR, l2⟩; have L2 : Hid (Below w1.heap.size w1 w2 ∧ Blk w2 R 5 (u8s (exps (mac salt sec) info n)) ∧ w1.heap.size ≤ R) := ⟨l2, bR, hR⟩; clear bR hR l2; have e0 := (HG.out w2 L2.out.1).2.1; have e1 := (HG.out w2 L2.out.1).2.2.1; have e2 := (HG.out w2 L2.out.1).2.2.2) | (go_at_call 15; refine (derive_any so sn sc salt xo xn xc sec io im ic info m (by omega) _ (HG.out w2 L2.out.1).1.1 HX.out.2.1 (HG.out w2 L2.out.1).1.2.1 HX.out.2.2.2.1 (HG.out w2 L2.out.1).1.2.2.1 HX.out.2.2.2.2.2.2 (HG.out w2 L2.out.1).1.2.2.2.1).mono ?_; rintro e w3 ⟨R', rfl, hR', bR', l3⟩; have L3 : Hid (Below w1.heap.size w1 w3 ∧ Blk w3 R 5 (u8s (exps (mac salt sec) info n)) ∧ Blk w3 R' 5 (u8s (exps (mac salt sec) info m))) := ⟨below_chain L2.out.1 l3 L2.out.1.size, L2.out.2.1.later l3 L2.out.2.1.lt, bR'⟩; clear bR' hR' l3) | (go_at_call 16; refine (rsame_yes (some ⟨R, 0, none⟩) (some ⟨R', 0, none⟩) m n m (exps (mac salt sec) info m) _ (SA.out L3.out.2.1) (SB.out L3.out.2.2)).mono ?_; rintro e w4 ⟨rfl, qq, hw4⟩; have L4 : Hid (Below w1.heap.size w1 w4 ∧ Blk w4 R 5 (u8s (exps (mac salt sec) info n))) := (by rw [hw4]; exact ⟨below_dn L3.out.1 qq, L3.out.2.1⟩); clear hw4; have f0' := (HG.out w4 L4.out.1).2.1; have f1' := (HG.out w4 L4.out.1).2.2.1; have f2' := (HG.out w4 L4.out.1).2.2.2) | (go_at_call 17; refine (keys_any so sn sc salt xo xn xc sec io im ic info h (by omega) _ (HG.out w4 L4.out.1).1.1 HX.out.2.1 (HG.out w4 L4.out.1).1.2.1 HX.out.2.2.2.1 (HG.out w4 L4.out.1).1.2.2.1 HX.out.2.2.2.2.2.2 (HG.out w4 L4.out.1).1.2.2.2.1).mono ?_; rintro e w5 ⟨K, rfl, hK, bK, l5⟩; have L5 : Hid (Below w1.heap.size w1 w5 ∧ Blk w5 R 5 (u8s (exps (mac salt sec) info n)) ∧ Blk w5 K 51 (u8s (exps (mac salt sec) info (32 * h)))) := ⟨below_chain L4.out.1 l5 L4.out.1.size, L4.out.2.later l5 L4.out.2.lt, bK⟩; clear bK hK l5))
  have HC : Hid (∀ t, t < 32 * h → w5.cell? ⟨K, t, none⟩ = some (.int .u8 ((exps (mac salt sec) info n).getD t 0)) ∧ w5.cell? ⟨R, t, none⟩ = some (.int .u8 ((exps (mac salt sec) info n).getD t 0))) := fun t ht => ⟨by rw [← HEQ.out t ht]; exact u8s_cell L5.out.2.2 t (by rw [exps_length]; exact ht), u8s_cell L5.out.2.1 t (by rw [exps_length]; omega)⟩
  have HW : Hid (Below w.heap.size w w5 ∧ KTab w5) := ⟨(HG.out w5 L5.out.1).1.2.2.2.2, (HG.out w5 L5.out.1).1.2.2.2.1⟩
  have hh255 : h ≤ 255 := by omega
  clear hr1 hr2 hf1 hf2 f0 hh d0 d1 d2 d3 e0 e1 e2 f0' f1' f2'
  go_loopw [13] (fun i wr => ∃ (k q : Nat), k ≤ h ∧ i = .int .i64 k ∧ wr = w5.drewN q) (fun i _ => h - (intOf i).toNat)
  case atStart => exact ⟨0, 0, Nat.zero_le _, rfl, rfl⟩
  case round =>
    obtain ⟨k, q, hk, rfl, hwr⟩ := hrel
    by_cases hlt : k < h
    · have HQ : Hid (wr = w5.drewN q) := hwr
      have i1 : (0 : Int) ≤ (k : Int) := by omega
      have i2 : (k : Int) < (h : Int) := by omega
      clear hwr
      obtain ⟨w6, rfl⟩ : ∃ w6, w6 = wr := ⟨_, rfl⟩
      go_wp2
      go_loopw [14] (fun j wr => ∃ (t q : Nat), t ≤ 32 ∧ j = .int .i64 t ∧ wr = w5.drewN q) (fun j _ => 32 - (intOf j).toNat)
      case atStart => exact ⟨0, q, by decide, rfl, HQ.out⟩
      case round =>
        obtain ⟨t, q', ht, rfl, hwr⟩ := hrel
        by_cases hlt2 : t < 32
        · have HQ' : Hid (wr = w5.drewN q') := hwr
          have c := HC.out (32 * k + t) (by omega)
          have c1 : wr.cell? ⟨K, 32 * k + t, none⟩ = some (.int .u8 ((exps (mac salt sec) info n).getD (32 * k + t) 0)) := by rw [hwr]; exact c.1
          have c2 : wr.cell? ⟨R, 32 * k + t, none⟩ = some (.int .u8 ((exps (mac salt sec) info n).getD (32 * k + t) 0)) := by rw [hwr]; exact c.2
          obtain ⟨y, hy⟩ : ∃ y, (exps (mac salt sec) info n).getD (32 * k + t) 0 = y := ⟨_, rfl⟩
          rw [hy] at c1 c2
          have j1 : (0 : Int) ≤ (t : Int) := by omega
          have j2 : (t : Int) < 32 := by omega
          have j3 : (32 * (k : Int) + (t : Int)) < (n : Int) := by omega
          have j4 : (32 * (k : Int) + (t : Int)).toNat = 32 * k + t := by omega
          have c1' : wr.cell? ⟨K, k * 32 + t, none⟩ = some (.int .u8 y) := by rw [Nat.mul_comm k 32]; exact c1
          clear hwr c hy
          go_wp2
          go_quiet (fail)
          go_wp2
          exact ⟨⟨t + 1, q' + nq, by omega, by go_num, by rw [HQ'.out, World.drewN_drewN]⟩, by simp [intOf]; omega⟩
        · obtain rfl : t = 32 := by omega
          have HQ' : Hid (wr = w5.drewN q') := hwr
          rw [show ((32 : Nat) : Int) = 32 from rfl]
          clear hwr
          go_wp2
          exact ⟨⟨k + 1, q', by omega, by go_num, HQ'.out⟩, by simp [intOf]; omega⟩
    · obtain rfl : k = h := by omega
      have HQ : Hid (KTab wr ∧ Below w.heap.size w wr) := by rw [hwr]; exact ⟨HW.out.2.below (below_dn (Below.refl _ _) q) HW.out.2.lt, below_dn HW.out.1 q⟩
      clear hwr
      go_wp2_with (go_at_call 14; refine (works_any _ HQ.out.1).mono ?_; rintro e w7 ⟨rfl, l7⟩)
      go_ret
      exact ⟨rfl, below_chain HQ.out.2 l7 HQ.out.2.size⟩
end Go.Proofs.YtkchkeoemlpjmabDoor.deriveBeginnings
