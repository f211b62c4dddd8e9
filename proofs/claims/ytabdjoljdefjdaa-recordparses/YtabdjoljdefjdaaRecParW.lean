/- The walk of RecordParses. -/
import Derived.Test.YtabdjoljdefjdaaRcSt
import Derived.Test.YtabdjoljdefjdaaRcRParse
namespace Go.Proofs.Ytabdjoljdefjdaa.recordParses
open Go.RowKit
set_option linter.unusedVariables false
set_option linter.unusedSimpArgs false

theorem Out.wide {W : World} {lo hi lo' hi' n cap : Nat} {vo : Option Addr} {L : List Int} (h : Out W lo hi vo n cap L) (h1 : lo' ≤ lo) (h2 : hi ≤ hi') : Out W lo' hi' vo n cap L := ⟨h.own, h.seen, fun b o e => ⟨Nat.le_trans h1 (h.place b o e).1, Nat.lt_of_lt_of_le (h.place b o e).2 h2⟩, h.nil⟩
set_option maxRecDepth 20000 in
set_option maxHeartbeats 16000000 in
theorem walk (ao : Option Addr) (n c : Nat) (bs : List Int) (w : World) (hx : Seen w ao n bs) (hm : n ≤ 140737488351232) (fa : ao = none → c = 0) (hc : n ≤ c) :
    Calls Try.prog 4 #[.slice ao n c] w fun e w' => e = .returned (.bool true) ∧ Below w.heap.size w w' := by
  have HX : Hid (Seen w ao n bs ∧ n ≤ 140737488351232 ∧ bs.length = n ∧ Bytes bs) := ⟨hx, hm, hx.len, hx.bytes⟩
  clear hx fa hc
  go_enter Try.func4, Try.ntmps4
  go_wp2_with fail
  refine (spare_big ao n c bs w HX.out.1 HX.out.2.1).mono ?_
  rintro e w2 ⟨rfl, b2, s2, l2⟩
  obtain ⟨g, eg⟩ : ∃ g, w.heap.size = g := ⟨_, rfl⟩
  have A2 : Hid (Ld w w2 g bs) := ⟨eg ▸ b2, l2, by omega⟩
  have zg : Hid (w.heap.size = g) := eg
  rw [eg]
  clear b2 s2 l2 eg
  go_wp2_with fail
  go_loopw [4] (fun i wr => ∃ (k : Nat) (us : List Int), k ≤ 2 ∧ i = .int .i64 k ∧ us.length = n ∧ Bytes us ∧ Ld w wr g us ∧ (k = 0 → us = bs)) (fun i _ => 2 - (intOf i).toNat)
  case atStart => exact ⟨0, bs, by decide, rfl, HX.out.2.2.1, HX.out.2.2.2, A2.out, fun _ => rfl⟩
  case round =>
    obtain ⟨k, us, hk, rfl, hul, hub, hld, hfirst⟩ := hrel
    obtain ⟨w0, rfl⟩ : ∃ w0, w0 = wr := ⟨_, rfl⟩
    by_cases hlt : k < 2
    · obtain ⟨X, eX⟩ : ∃ X, psX us = X := ⟨_, rfl⟩
      obtain ⟨P, eP⟩ : ∃ P, psP us = P := ⟨_, rfl⟩
      obtain ⟨N, eN⟩ : ∃ N, psN us n = N := ⟨_, rfl⟩
      have HU : Hid (us.length = n ∧ Bytes us ∧ psX us = X ∧ psP us = P ∧ psN us n = N ∧ HdOk X ∧ P.length = N ∧ Bytes P ∧ N ≤ n) := ⟨hul, hub, eX, eP, eN, eX ▸ ps_ok hub, by rw [← eP, ← eN]; exact ps_len hul, eP ▸ ps_bytes hub, eN ▸ ps_le us n⟩
      have HF : Hid (k = 0 → us = bs) := hfirst
      have NX := neq_self X HU.out.2.2.2.2.2.1.len
      have A0 : Hid (Ld w w0 g us) := hld
      have A0g : Hid (g < w0.heap.size) := hld.s.lt
      have i1 : (k : Int) < 2 := by omega
      clear hul hub hld hfirst eX eP eN
      go_wp2_with fail
      refine (copyB_any _ n (n + 80) us w0 (A0.out.seen HU.out.1 HU.out.2.1 HX.out.2.1)).mono ?_
      rintro e w3 ⟨v3, rfl, o3, l3⟩
      obtain ⟨q5, c5, rfl, O5⟩ := out_of HU.out.1 HU.out.2.1 (by have := HX.out.2.1; omega) o3
      have f5 : Hid (n ≤ c5) := by rcases own_len HU.out.1 o3 with ⟨e, e0⟩ | ⟨g', cap, e, _, _, h, _⟩ <;> cases e <;> first | exact Nat.le_refl _ | (show n ≤ c5; assumption) | (show n ≤ c5; omega)
      have A3 : Hid (Ld w w3 g us ∧ Out w3 w0.heap.size w3.heap.size q5 n c5 us ∧ w0.heap.size ≤ w3.heap.size) := ⟨A0.out.later l3, O5, l3.size⟩
      clear o3 O5 l3 A0
      go_wp2_with fail
      refine (rparse_one q5 n c5 us f5.out w3 A3.out.2.1.seen).mono ?_
      rintro e w4 ⟨v4, rfl, o4, l4⟩
      rw [HU.out.2.2.1]
      rw [HU.out.2.2.2.1, HU.out.2.2.2.2.1] at o4
      obtain ⟨q7, c7, rfl, S7, -, -, -⟩ := isO_sl HU.out.2.2.2.2.2.2.1 HU.out.2.2.2.2.2.2.2.1 (by have := HX.out.2.1; have := HU.out.2.2.2.2.2.2.2.2; omega) o4
      have A4 : Hid (Ld w w4 g us ∧ Out w4 w0.heap.size w3.heap.size q5 n c5 us ∧ w0.heap.size ≤ w4.heap.size ∧ Seen w4 q7 N P ∧ w3.heap.size ≤ w4.heap.size) := ⟨A3.out.1.later l4, A3.out.2.1.later l4, Nat.le_trans A3.out.2.2 l4.size, S7, l4.size⟩
      clear o4 l4 S7 A3
      cases hR : isR us with
      | true =>
        have eE : Hid (psE us = 0) := by show _ = _; rw [psE, hR]; rfl
        clear hR
        go_wp2_with (first | (refine wpList_alloc_new rfl 26 rfl 20 _ hzero ?_; intro w5 bw5 sw5 lw5) | (refine wpList_store_blk rfl 26 26 _ _ rfl _ rfl _ (hdC X) rfl bw5 (by rw [hdC_length HU.out.2.2.2.2.2.1.len]; rfl) (hsizeC HU.out.2.2.2.2.2.1.len) (hdC_one _) ?_; intro w6 bw6 sw6 kw6; have Lw6 : Below w4.heap.size w4 w6 := below_kept lw5 kw6 (by omega) (fun j hj => by omega); have A6 : Hid (Ld w w6 g us ∧ Out w6 w0.heap.size w3.heap.size q5 n c5 us ∧ w0.heap.size ≤ w6.heap.size ∧ Seen w6 q7 N P ∧ w3.heap.size ≤ w6.heap.size ∧ Blk w6 w4.heap.size 26 (hdC X) ∧ w4.heap.size ≤ w6.heap.size) := ⟨A4.out.1.later Lw6, A4.out.2.1.later Lw6, Nat.le_trans A4.out.2.2.1 Lw6.size, A4.out.2.2.2.1.later Lw6 (Nat.le_refl _), Nat.le_trans A4.out.2.2.2.2 Lw6.size, bw6, Lw6.size⟩; clear bw5 sw5 lw5 bw6 sw6 kw6 Lw6 A4))
        have y0 : Hid (w0.heap.size ≤ w6.heap.size ∧ w3.heap.size ≤ w6.heap.size) := ⟨A6.out.2.2.1, A6.out.2.2.2.2.1⟩
        refine (parse_one _ n (n + 80) us (by omega) w6 (A6.out.1.seen HU.out.1 HU.out.2.1 HX.out.2.1)).mono ?_
        rintro e w7 ⟨v7, rfl, o7, l7⟩
        rw [HU.out.2.2.1, eE.out]
        rw [HU.out.2.2.2.1, HU.out.2.2.2.2.1] at o7
        obtain ⟨o1, c1, rfl, O7⟩ := out_of HU.out.2.2.2.2.2.2.1 HU.out.2.2.2.2.2.2.2.1 (by have := HX.out.2.1; have := HU.out.2.2.2.2.2.2.2.2; omega) o7
        have A7 : Hid (Ld w w7 g us ∧ Out w7 w0.heap.size w3.heap.size q5 n c5 us ∧ w0.heap.size ≤ w7.heap.size ∧ Seen w7 q7 N P ∧ w3.heap.size ≤ w7.heap.size ∧ Blk w7 w4.heap.size 26 (hdC X) ∧ w4.heap.size ≤ w7.heap.size ∧ Out w7 w6.heap.size w7.heap.size o1 N c1 P ∧ w6.heap.size ≤ w7.heap.size) := ⟨A6.out.1.later l7, A6.out.2.1.later l7, Nat.le_trans A6.out.2.2.1 l7.size, A6.out.2.2.2.1.later l7 (Nat.le_refl _), Nat.le_trans A6.out.2.2.2.2.1 l7.size, A6.out.2.2.2.2.2.1.later l7 A6.out.2.2.2.2.2.1.lt, Nat.le_trans A6.out.2.2.2.2.2.2 l7.size, O7, l7.size⟩
        have y1 : Hid (w6.heap.size ≤ w7.heap.size) := l7.size
        clear o7 l7 O7 A6
        go_wp2_with (first | (refine wpList_alloc_new rfl 26 rfl 20 _ hzero ?_; intro w8 bw8 sw8 lw8) | (refine wpList_store_blk rfl 26 26 _ _ rfl _ rfl _ (hdC X) rfl bw8 (by rw [hdC_length HU.out.2.2.2.2.2.1.len]; rfl) (hsizeC HU.out.2.2.2.2.2.1.len) (hdC_one _) ?_; intro w9 bw9 sw9 kw9; have Lw9 : Below w7.heap.size w7 w9 := below_kept lw8 kw9 (by omega) (fun j hj => by omega); have A9 : Hid (Ld w w9 g us ∧ Out w9 w0.heap.size w3.heap.size q5 n c5 us ∧ w0.heap.size ≤ w9.heap.size ∧ Seen w9 q7 N P ∧ w3.heap.size ≤ w9.heap.size ∧ Blk w9 w4.heap.size 26 (hdC X) ∧ w4.heap.size ≤ w9.heap.size ∧ Out w9 w6.heap.size w7.heap.size o1 N c1 P ∧ w6.heap.size ≤ w9.heap.size ∧ Blk w9 w7.heap.size 26 (hdC X) ∧ w7.heap.size ≤ w9.heap.size) := ⟨A7.out.1.later Lw9, A7.out.2.1.later Lw9, Nat.le_trans A7.out.2.2.1 Lw9.size, A7.out.2.2.2.1.later Lw9 (Nat.le_refl _), Nat.le_trans A7.out.2.2.2.2.1 Lw9.size, A7.out.2.2.2.2.2.1.later Lw9 A7.out.2.2.2.2.2.1.lt, Nat.le_trans A7.out.2.2.2.2.2.2.1 Lw9.size, A7.out.2.2.2.2.2.2.2.1.later Lw9, Nat.le_trans A7.out.2.2.2.2.2.2.2.2 Lw9.size, bw9, Lw9.size⟩; clear bw8 sw8 lw8 bw9 sw9 kw9 Lw9 A7))
        refine (parse_one _ n (n + 80) us (by omega) w9 (A9.out.1.seen HU.out.1 HU.out.2.1 HX.out.2.1)).mono ?_
        rintro e w10 ⟨v10, rfl, o10, l10⟩
        rw [HU.out.2.2.1, eE.out]
        rw [HU.out.2.2.2.1, HU.out.2.2.2.2.1] at o10
        obtain ⟨o2, c2, rfl, O10⟩ := out_of HU.out.2.2.2.2.2.2.1 HU.out.2.2.2.2.2.2.2.1 (by have := HX.out.2.1; have := HU.out.2.2.2.2.2.2.2.2; omega) o10
        have A10 : Hid (Ld w w10 g us ∧ Out w10 w0.heap.size w3.heap.size q5 n c5 us ∧ w0.heap.size ≤ w10.heap.size ∧ Seen w10 q7 N P ∧ w3.heap.size ≤ w10.heap.size ∧ Blk w10 w4.heap.size 26 (hdC X) ∧ w4.heap.size ≤ w10.heap.size ∧ Out w10 w6.heap.size w7.heap.size o1 N c1 P ∧ w6.heap.size ≤ w10.heap.size ∧ Blk w10 w7.heap.size 26 (hdC X) ∧ Out w10 w7.heap.size w10.heap.size o2 N c2 P ∧ w7.heap.size ≤ w10.heap.size) := ⟨A9.out.1.later l10, A9.out.2.1.later l10, Nat.le_trans A9.out.2.2.1 l10.size, A9.out.2.2.2.1.later l10 (Nat.le_refl _), Nat.le_trans A9.out.2.2.2.2.1 l10.size, A9.out.2.2.2.2.2.1.later l10 A9.out.2.2.2.2.2.1.lt, Nat.le_trans A9.out.2.2.2.2.2.2.1 l10.size, A9.out.2.2.2.2.2.2.2.1.later l10, Nat.le_trans A9.out.2.2.2.2.2.2.2.2.1 l10.size, A9.out.2.2.2.2.2.2.2.2.2.1.later l10 A9.out.2.2.2.2.2.2.2.2.2.1.lt, Out.wide O10 A9.out.2.2.2.2.2.2.2.2.2.2 (Nat.le_refl _), Nat.le_trans A9.out.2.2.2.2.2.2.2.2.2.2 l10.size⟩
        have y2 : Hid (w7.heap.size ≤ w10.heap.size) := A10.out.2.2.2.2.2.2.2.2.2.2.2
        have ZZ : Hid (w6.heap.size ≤ w7.heap.size ∧ w7.heap.size ≤ w10.heap.size ∧ w0.heap.size ≤ w6.heap.size ∧ w3.heap.size ≤ w6.heap.size) := ⟨y1.out, y2.out, y0.out.1, y0.out.2⟩
        clear o10 l10 O10 A9
        go_wp2_with (first | (refine wpList_alloc_new rfl 26 rfl 20 _ hzero ?_; intro w11 bw11 sw11 lw11) | (refine wpList_store_blk rfl 26 26 _ _ rfl _ rfl _ (hdC X) rfl bw11 (by rw [hdC_length HU.out.2.2.2.2.2.1.len]; rfl) (hsizeC HU.out.2.2.2.2.2.1.len) (hdC_one _) ?_; intro w12 bw12 sw12 kw12; have Lw12 : Below w10.heap.size w10 w12 := below_kept lw11 kw12 (by omega) (fun j hj => by omega); have A12 : Hid (Ld w w12 g us ∧ Out w12 w0.heap.size w3.heap.size q5 n c5 us ∧ w0.heap.size ≤ w12.heap.size ∧ Seen w12 q7 N P ∧ w3.heap.size ≤ w12.heap.size ∧ Blk w12 w4.heap.size 26 (hdC X) ∧ w4.heap.size ≤ w12.heap.size ∧ Out w12 w6.heap.size w7.heap.size o1 N c1 P ∧ w6.heap.size ≤ w12.heap.size ∧ Blk w12 w7.heap.size 26 (hdC X) ∧ Out w12 w7.heap.size w10.heap.size o2 N c2 P ∧ w7.heap.size ≤ w12.heap.size ∧ Blk w12 w10.heap.size 26 (hdC X) ∧ w10.heap.size ≤ w12.heap.size) := ⟨A10.out.1.later Lw12, A10.out.2.1.later Lw12, Nat.le_trans A10.out.2.2.1 Lw12.size, A10.out.2.2.2.1.later Lw12 (Nat.le_refl _), Nat.le_trans A10.out.2.2.2.2.1 Lw12.size, A10.out.2.2.2.2.2.1.later Lw12 A10.out.2.2.2.2.2.1.lt, Nat.le_trans A10.out.2.2.2.2.2.2.1 Lw12.size, A10.out.2.2.2.2.2.2.2.1.later Lw12, Nat.le_trans A10.out.2.2.2.2.2.2.2.2.1 Lw12.size, A10.out.2.2.2.2.2.2.2.2.2.1.later Lw12 A10.out.2.2.2.2.2.2.2.2.2.1.lt, A10.out.2.2.2.2.2.2.2.2.2.2.1.later Lw12, Nat.le_trans A10.out.2.2.2.2.2.2.2.2.2.2.2 Lw12.size, bw12, Lw12.size⟩; clear bw11 sw11 lw11 bw12 sw12 kw12 Lw12 A10) | ((with_reducible show wpList _ _ _ (({ dst := some 42, op := _, type := _, pos := _, after := _, guard := _ } : Oper) :: _) _ _); refine wpList_load_g (by rfl) 26 (.tmp 9) rfl _ rfl (hdC X) _ A12.out.2.2.2.2.2.2.2.2.2.1 Try.underlying26 rfl (hsizeC HU.out.2.2.2.2.2.1.len) ?_) | ((with_reducible show wpList _ _ _ (({ dst := some 43, op := _, type := _, pos := _, after := _, guard := _ } : Oper) :: _) _ _); refine wpList_load_g (by rfl) 26 (.tmp 6) rfl _ rfl (hdC X) _ A12.out.2.2.2.2.2.1 Try.underlying26 rfl (hsizeC HU.out.2.2.2.2.2.1.len) ?_) | ((with_reducible show wpList _ _ _ (({ dst := some 46, op := _, type := _, pos := _, after := _, guard := _ } : Oper) :: _) _ _); refine wpList_load_g (by rfl) 26 (.tmp 12) rfl _ rfl (hdC X) _ A12.out.2.2.2.2.2.2.2.2.2.2.2.2.1 Try.underlying26 rfl (hsizeC HU.out.2.2.2.2.2.1.len) ?_) | ((with_reducible show wpList _ _ _ (({ dst := some 47, op := _, type := _, pos := _, after := _, guard := _ } : Oper) :: _) _ _); refine wpList_load_g (by rfl) 26 (.tmp 6) rfl _ rfl (hdC X) _ A12.out.2.2.2.2.2.1 Try.underlying26 rfl (hsizeC HU.out.2.2.2.2.2.1.len) ?_))
        refine (reqb_any o1 q7 N N c1 c7 P P w12 A12.out.2.2.2.2.2.2.2.1.seen A12.out.2.2.2.1).mono ?_
        rintro e _ ⟨rfl, qa, rfl⟩
        rw [decide_eq_true (rfl : P = P)]
        obtain ⟨x1, hx1⟩ : ∃ u, w12.drewN qa = u := ⟨_, rfl⟩
        rw [hx1]
        have lx1 : Below w12.heap.size w12 x1 := hx1 ▸ below_dn (Below.refl _ _) qa
        have B1 : Hid (Ld w x1 g us ∧ Out x1 w0.heap.size w3.heap.size q5 n c5 us ∧ w0.heap.size ≤ x1.heap.size ∧ Seen x1 q7 N P ∧ w3.heap.size ≤ x1.heap.size ∧ Blk x1 w4.heap.size 26 (hdC X) ∧ w4.heap.size ≤ x1.heap.size ∧ Out x1 w6.heap.size w7.heap.size o1 N c1 P ∧ w6.heap.size ≤ x1.heap.size ∧ Blk x1 w7.heap.size 26 (hdC X) ∧ Out x1 w7.heap.size w10.heap.size o2 N c2 P ∧ w7.heap.size ≤ x1.heap.size ∧ Blk x1 w10.heap.size 26 (hdC X) ∧ w10.heap.size ≤ x1.heap.size) := ⟨A12.out.1.later lx1, A12.out.2.1.later lx1, Nat.le_trans A12.out.2.2.1 lx1.size, A12.out.2.2.2.1.later lx1 (Nat.le_refl _), Nat.le_trans A12.out.2.2.2.2.1 lx1.size, A12.out.2.2.2.2.2.1.later lx1 A12.out.2.2.2.2.2.1.lt, Nat.le_trans A12.out.2.2.2.2.2.2.1 lx1.size, A12.out.2.2.2.2.2.2.2.1.later lx1, Nat.le_trans A12.out.2.2.2.2.2.2.2.2.1 lx1.size, A12.out.2.2.2.2.2.2.2.2.2.1.later lx1 A12.out.2.2.2.2.2.2.2.2.2.1.lt, A12.out.2.2.2.2.2.2.2.2.2.2.1.later lx1, Nat.le_trans A12.out.2.2.2.2.2.2.2.2.2.2.2.1 lx1.size, A12.out.2.2.2.2.2.2.2.2.2.2.2.2.1.later lx1 A12.out.2.2.2.2.2.2.2.2.2.2.2.2.1.lt, Nat.le_trans A12.out.2.2.2.2.2.2.2.2.2.2.2.2.2 lx1.size⟩
        clear hx1 lx1 A12
        go_wp2_with fail
        refine (reqb_any o2 q7 N N c2 c7 P P x1 B1.out.2.2.2.2.2.2.2.2.2.2.1.seen B1.out.2.2.2.1).mono ?_
        rintro e _ ⟨rfl, qb, rfl⟩
        rw [decide_eq_true (rfl : P = P)]
        obtain ⟨x2, hx2⟩ : ∃ u, x1.drewN qb = u := ⟨_, rfl⟩
        rw [hx2]
        have lx2 : Below x1.heap.size x1 x2 := hx2 ▸ below_dn (Below.refl _ _) qb
        have B2 : Hid (Ld w x2 g us ∧ Out x2 w0.heap.size w3.heap.size q5 n c5 us ∧ w0.heap.size ≤ x2.heap.size ∧ Seen x2 q7 N P ∧ w3.heap.size ≤ x2.heap.size ∧ Blk x2 w4.heap.size 26 (hdC X) ∧ w4.heap.size ≤ x2.heap.size ∧ Out x2 w6.heap.size w7.heap.size o1 N c1 P ∧ w6.heap.size ≤ x2.heap.size ∧ Blk x2 w7.heap.size 26 (hdC X) ∧ Out x2 w7.heap.size w10.heap.size o2 N c2 P ∧ w7.heap.size ≤ x2.heap.size ∧ Blk x2 w10.heap.size 26 (hdC X) ∧ w10.heap.size ≤ x2.heap.size) := ⟨B1.out.1.later lx2, B1.out.2.1.later lx2, Nat.le_trans B1.out.2.2.1 lx2.size, B1.out.2.2.2.1.later lx2 (Nat.le_refl _), Nat.le_trans B1.out.2.2.2.2.1 lx2.size, B1.out.2.2.2.2.2.1.later lx2 B1.out.2.2.2.2.2.1.lt, Nat.le_trans B1.out.2.2.2.2.2.2.1 lx2.size, B1.out.2.2.2.2.2.2.2.1.later lx2, Nat.le_trans B1.out.2.2.2.2.2.2.2.2.1 lx2.size, B1.out.2.2.2.2.2.2.2.2.2.1.later lx2 B1.out.2.2.2.2.2.2.2.2.2.1.lt, B1.out.2.2.2.2.2.2.2.2.2.2.1.later lx2, Nat.le_trans B1.out.2.2.2.2.2.2.2.2.2.2.2.1 lx2.size, B1.out.2.2.2.2.2.2.2.2.2.2.2.2.1.later lx2 B1.out.2.2.2.2.2.2.2.2.2.2.2.2.1.lt, Nat.le_trans B1.out.2.2.2.2.2.2.2.2.2.2.2.2.2 lx2.size⟩
        clear hx2 lx2 B1
        go_wp2_with fail
        have LT := lot2 B2.out.2.2.2.2.2.2.2.1 B2.out.2.2.2.2.2.2.2.2.2.2.1 ZZ.out.1 ZZ.out.2.1 B2.out.2.2.2.2.2.2.2.2.2.2.2.2.2
        have B7 : Below x2.heap.size x2 (x2.alloc (.cells #[.slice o1 N c1, .slice o2 N c2] 27)) := (Below.refl _ _).alloc (Nat.le_refl _) _
        refine (rapart_any x2.heap.size 2 2 _ _ _ _ _ _ LT.1 (by decide) (fun j hj => by have := HX.out.2.1; have := HU.out.2.2.2.2.2.2.2.2; rcases (by omega : j = 0 ∨ j = 1) with rfl | rfl <;> simp <;> omega)).mono ?_
        rintro e x3 ⟨rfl, k8⟩
        have B3 : Hid (Ld w x3 g us ∧ Seen x3 q5 n us) := ⟨(B2.out.1.later B7).kept k8 (fun j hj => by have p := LT.2 j hj; have e1 := ZZ.out; have e2 := zg.out; have e3 := A0g.out; exact ⟨by omega, by omega⟩), ((B2.out.2.1.later B7).kept k8 (fun y h1 h2 hj => by have p := LT.2 y hj; have e1 := ZZ.out; omega)).seen⟩
        clear LT B7 k8 B2
        go_wp2_with fail
        refine (reqb_any _ q5 n n (n + 80) c5 us us x3 (B3.out.1.seen HU.out.1 HU.out.2.1 HX.out.2.1) B3.out.2).mono ?_
        rintro e _ ⟨rfl, qc, rfl⟩
        rw [decide_eq_true (rfl : us = us)]
        obtain ⟨x4, hx4⟩ : ∃ u, x3.drewN qc = u := ⟨_, rfl⟩
        rw [hx4]
        have B4 : Hid (Ld w x4 g us) := hx4 ▸ B3.out.1.drewN qc
        clear hx4 B3
        rcases (by omega : k = 0 ∨ k = 1) with rfl | rfl
        · have eb := HF.out rfl
          subst eb
          go_wp2_with fail
          refine (kept_big g ao n c us x4 B4.out.s (HX.out.1.later B4.out.bel (Nat.le_refl _)) HX.out.2.1).mono ?_
          rintro e _ ⟨rfl, qd, rfl⟩
          obtain ⟨x5, hx5⟩ : ∃ u, x4.drewN qd = u := ⟨_, rfl⟩
          rw [hx5]
          have B5 : Hid (Ld w x5 g us) := hx5 ▸ B4.out.drewN qd
          clear hx5 B4
          go_wp2_with fail
          refine (parse_one _ n (n + 80) us (by omega) x5 (B5.out.seen HU.out.1 HU.out.2.1 HX.out.2.1)).mono ?_
          rintro e x6 ⟨v6, rfl, o6, l6⟩
          have B6 : Hid (Ld w x6 g us) := B5.out.later l6
          clear o6 l6 B5
          go_wp2_with fail
          go_loopw [15] (fun i wr => ∃ (j : Nat) (ys : List Int), j ≤ n ∧ i = .int .i64 j ∧ ys.length = n ∧ Bytes ys ∧ Ld w wr g ys) (fun i _ => n - (intOf i).toNat)
          case atStart => exact ⟨0, us, Nat.zero_le _, rfl, HU.out.1, HU.out.2.1, B6.out⟩
          case round =>
            obtain ⟨j, ys, hj, rfl, hyl, hyb, hsl⟩ := hrel
            by_cases hjn : j < n
            · have c1 := u8s_cell hsl.s j (by rw [spared_length]; omega)
              rw [spared_front ys j (by omega)] at c1
              have f1 := hsl.s.frozen j
              have bz := hyb.at j (by omega)
              obtain ⟨Y, hY⟩ : ∃ Y, ys.getD j 0 = Y := ⟨_, rfl⟩
              rw [hY] at c1 bz
              have j1 : (0 : Int) ≤ (j : Int) := by omega
              have j2 : (j : Int) < (n : Int) := by omega
              have j3 : (j : Int) < (n : Int) + 80 := by omega
              obtain ⟨r, hr, r0⟩ : ∃ r : Int, (j : Int).tmod 2 = r ∧ (r = 0 ∨ r = 1) := ⟨_, rfl, by rw [Int.tmod_eq_emod_of_nonneg (by omega)]; omega⟩
              have X1 : Hid (Ld w wr g ys ∧ ys.length = n ∧ Bytes ys) := ⟨hsl, hyl, hyb⟩
              have X2 : Hid (0 ≤ bits .xor .u8 Y (1 + r) ∧ bits .xor .u8 Y (1 + r) < 256) := xor8_bdR _ _ bz ⟨by omega, by omega⟩
              clear hY hsl hyb hyl bz
              go_wp2_with fail
              exact ⟨⟨j + 1, ys.set j (bits .xor .u8 Y (1 + r)), by omega, by go_num, by rw [List.length_set]; exact X1.out.2.1, bytes_setR X1.out.2.2 j _ X2.out, X1.out.1.set j _ (by have := X1.out.2.1; omega)⟩, by simp [intOf]; omega⟩
            · have j2 : ¬ (j : Int) < (n : Int) := by omega
              have X1 : Hid (Ld w wr g ys ∧ ys.length = n ∧ Bytes ys) := ⟨hsl, hyl, hyb⟩
              clear hsl hyl hyb
              go_wp2_with fail
              exact ⟨⟨1, ys, by decide, by go_num, X1.out.2.1, X1.out.2.2, X1.out.1, fun h => by omega⟩, by simp [intOf]⟩
        · obtain ⟨x5, hx5⟩ : ∃ u, x4 = u := ⟨_, rfl⟩
          rw [hx5]
          have B5 : Hid (Ld w x5 g us) := hx5 ▸ B4.out
          clear hx5 B4
          go_wp2_with fail
          refine (parse_one _ n (n + 80) us (by omega) x5 (B5.out.seen HU.out.1 HU.out.2.1 HX.out.2.1)).mono ?_
          rintro e x6 ⟨v6, rfl, o6, l6⟩
          have B6 : Hid (Ld w x6 g us) := B5.out.later l6
          clear o6 l6 B5
          go_wp2_with fail
          go_loopw [15] (fun i wr => ∃ (j : Nat) (ys : List Int), j ≤ n ∧ i = .int .i64 j ∧ ys.length = n ∧ Bytes ys ∧ Ld w wr g ys) (fun i _ => n - (intOf i).toNat)
          case atStart => exact ⟨0, us, Nat.zero_le _, rfl, HU.out.1, HU.out.2.1, B6.out⟩
          case round =>
            obtain ⟨j, ys, hj, rfl, hyl, hyb, hsl⟩ := hrel
            by_cases hjn : j < n
            · have c1 := u8s_cell hsl.s j (by rw [spared_length]; omega)
              rw [spared_front ys j (by omega)] at c1
              have f1 := hsl.s.frozen j
              have bz := hyb.at j (by omega)
              obtain ⟨Y, hY⟩ : ∃ Y, ys.getD j 0 = Y := ⟨_, rfl⟩
              rw [hY] at c1 bz
              have j1 : (0 : Int) ≤ (j : Int) := by omega
              have j2 : (j : Int) < (n : Int) := by omega
              have j3 : (j : Int) < (n : Int) + 80 := by omega
              obtain ⟨r, hr, r0⟩ : ∃ r : Int, (j : Int).tmod 2 = r ∧ (r = 0 ∨ r = 1) := ⟨_, rfl, by rw [Int.tmod_eq_emod_of_nonneg (by omega)]; omega⟩
              have X1 : Hid (Ld w wr g ys ∧ ys.length = n ∧ Bytes ys) := ⟨hsl, hyl, hyb⟩
              have X2 : Hid (0 ≤ bits .xor .u8 Y (1 + r) ∧ bits .xor .u8 Y (1 + r) < 256) := xor8_bdR _ _ bz ⟨by omega, by omega⟩
              clear hY hsl hyb hyl bz
              go_wp2_with fail
              exact ⟨⟨j + 1, ys.set j (bits .xor .u8 Y (1 + r)), by omega, by go_num, by rw [List.length_set]; exact X1.out.2.1, bytes_setR X1.out.2.2 j _ X2.out, X1.out.1.set j _ (by have := X1.out.2.1; omega)⟩, by simp [intOf]; omega⟩
            · have j2 : ¬ (j : Int) < (n : Int) := by omega
              have X1 : Hid (Ld w wr g ys ∧ ys.length = n ∧ Bytes ys) := ⟨hsl, hyl, hyb⟩
              clear hsl hyl hyb
              go_wp2_with fail
              exact ⟨⟨2, ys, by decide, by go_num, X1.out.2.1, X1.out.2.2, X1.out.1, fun h => by omega⟩, by simp [intOf]⟩
      | false =>
        have eE : Hid (psE us = 140) := by show _ = _; rw [psE, hR]; rfl
        clear hR
        go_wp2_with (first | (refine wpList_alloc_new rfl 26 rfl 20 _ hzero ?_; intro w5 bw5 sw5 lw5) | (refine wpList_store_blk rfl 26 26 _ _ rfl _ rfl _ (hdC X) rfl bw5 (by rw [hdC_length HU.out.2.2.2.2.2.1.len]; rfl) (hsizeC HU.out.2.2.2.2.2.1.len) (hdC_one _) ?_; intro w6 bw6 sw6 kw6; have Lw6 : Below w4.heap.size w4 w6 := below_kept lw5 kw6 (by omega) (fun j hj => by omega); have A6 : Hid (Ld w w6 g us ∧ Out w6 w0.heap.size w3.heap.size q5 n c5 us ∧ w0.heap.size ≤ w6.heap.size ∧ Seen w6 q7 N P ∧ w3.heap.size ≤ w6.heap.size ∧ Blk w6 w4.heap.size 26 (hdC X) ∧ w4.heap.size ≤ w6.heap.size) := ⟨A4.out.1.later Lw6, A4.out.2.1.later Lw6, Nat.le_trans A4.out.2.2.1 Lw6.size, A4.out.2.2.2.1.later Lw6 (Nat.le_refl _), Nat.le_trans A4.out.2.2.2.2 Lw6.size, bw6, Lw6.size⟩; clear bw5 sw5 lw5 bw6 sw6 kw6 Lw6 A4))
        have y0 : Hid (w0.heap.size ≤ w6.heap.size ∧ w3.heap.size ≤ w6.heap.size) := ⟨A6.out.2.2.1, A6.out.2.2.2.2.1⟩
        refine (parse_one _ n (n + 80) us (by omega) w6 (A6.out.1.seen HU.out.1 HU.out.2.1 HX.out.2.1)).mono ?_
        rintro e w7 ⟨v7, rfl, o7, l7⟩
        rw [HU.out.2.2.1, eE.out]
        rw [HU.out.2.2.2.1, HU.out.2.2.2.2.1] at o7
        obtain ⟨o1, c1, rfl, O7⟩ := out_of HU.out.2.2.2.2.2.2.1 HU.out.2.2.2.2.2.2.2.1 (by have := HX.out.2.1; have := HU.out.2.2.2.2.2.2.2.2; omega) o7
        have A7 : Hid (Ld w w7 g us ∧ Out w7 w0.heap.size w3.heap.size q5 n c5 us ∧ w0.heap.size ≤ w7.heap.size ∧ Seen w7 q7 N P ∧ w3.heap.size ≤ w7.heap.size ∧ Blk w7 w4.heap.size 26 (hdC X) ∧ w4.heap.size ≤ w7.heap.size ∧ Out w7 w6.heap.size w7.heap.size o1 N c1 P ∧ w6.heap.size ≤ w7.heap.size) := ⟨A6.out.1.later l7, A6.out.2.1.later l7, Nat.le_trans A6.out.2.2.1 l7.size, A6.out.2.2.2.1.later l7 (Nat.le_refl _), Nat.le_trans A6.out.2.2.2.2.1 l7.size, A6.out.2.2.2.2.2.1.later l7 A6.out.2.2.2.2.2.1.lt, Nat.le_trans A6.out.2.2.2.2.2.2 l7.size, O7, l7.size⟩
        have y1 : Hid (w6.heap.size ≤ w7.heap.size) := l7.size
        clear o7 l7 O7 A6
        go_wp2_with (first | (refine wpList_alloc_new rfl 26 rfl 20 _ hzero ?_; intro w8 bw8 sw8 lw8) | (refine wpList_store_blk rfl 26 26 _ _ rfl _ rfl _ (hdC X) rfl bw8 (by rw [hdC_length HU.out.2.2.2.2.2.1.len]; rfl) (hsizeC HU.out.2.2.2.2.2.1.len) (hdC_one _) ?_; intro w9 bw9 sw9 kw9; have Lw9 : Below w7.heap.size w7 w9 := below_kept lw8 kw9 (by omega) (fun j hj => by omega); have A9 : Hid (Ld w w9 g us ∧ Out w9 w0.heap.size w3.heap.size q5 n c5 us ∧ w0.heap.size ≤ w9.heap.size ∧ Seen w9 q7 N P ∧ w3.heap.size ≤ w9.heap.size ∧ Blk w9 w4.heap.size 26 (hdC X) ∧ w4.heap.size ≤ w9.heap.size ∧ Out w9 w6.heap.size w7.heap.size o1 N c1 P ∧ w6.heap.size ≤ w9.heap.size ∧ Blk w9 w7.heap.size 26 (hdC X) ∧ w7.heap.size ≤ w9.heap.size) := ⟨A7.out.1.later Lw9, A7.out.2.1.later Lw9, Nat.le_trans A7.out.2.2.1 Lw9.size, A7.out.2.2.2.1.later Lw9 (Nat.le_refl _), Nat.le_trans A7.out.2.2.2.2.1 Lw9.size, A7.out.2.2.2.2.2.1.later Lw9 A7.out.2.2.2.2.2.1.lt, Nat.le_trans A7.out.2.2.2.2.2.2.1 Lw9.size, A7.out.2.2.2.2.2.2.2.1.later Lw9, Nat.le_trans A7.out.2.2.2.2.2.2.2.2 Lw9.size, bw9, Lw9.size⟩; clear bw8 sw8 lw8 bw9 sw9 kw9 Lw9 A7))
        refine (parse_one _ n (n + 80) us (by omega) w9 (A9.out.1.seen HU.out.1 HU.out.2.1 HX.out.2.1)).mono ?_
        rintro e w10 ⟨v10, rfl, o10, l10⟩
        rw [HU.out.2.2.1, eE.out]
        rw [HU.out.2.2.2.1, HU.out.2.2.2.2.1] at o10
        obtain ⟨o2, c2, rfl, O10⟩ := out_of HU.out.2.2.2.2.2.2.1 HU.out.2.2.2.2.2.2.2.1 (by have := HX.out.2.1; have := HU.out.2.2.2.2.2.2.2.2; omega) o10
        have A10 : Hid (Ld w w10 g us ∧ Out w10 w0.heap.size w3.heap.size q5 n c5 us ∧ w0.heap.size ≤ w10.heap.size ∧ Seen w10 q7 N P ∧ w3.heap.size ≤ w10.heap.size ∧ Blk w10 w4.heap.size 26 (hdC X) ∧ w4.heap.size ≤ w10.heap.size ∧ Out w10 w6.heap.size w7.heap.size o1 N c1 P ∧ w6.heap.size ≤ w10.heap.size ∧ Blk w10 w7.heap.size 26 (hdC X) ∧ Out w10 w7.heap.size w10.heap.size o2 N c2 P ∧ w7.heap.size ≤ w10.heap.size) := ⟨A9.out.1.later l10, A9.out.2.1.later l10, Nat.le_trans A9.out.2.2.1 l10.size, A9.out.2.2.2.1.later l10 (Nat.le_refl _), Nat.le_trans A9.out.2.2.2.2.1 l10.size, A9.out.2.2.2.2.2.1.later l10 A9.out.2.2.2.2.2.1.lt, Nat.le_trans A9.out.2.2.2.2.2.2.1 l10.size, A9.out.2.2.2.2.2.2.2.1.later l10, Nat.le_trans A9.out.2.2.2.2.2.2.2.2.1 l10.size, A9.out.2.2.2.2.2.2.2.2.2.1.later l10 A9.out.2.2.2.2.2.2.2.2.2.1.lt, Out.wide O10 A9.out.2.2.2.2.2.2.2.2.2.2 (Nat.le_refl _), Nat.le_trans A9.out.2.2.2.2.2.2.2.2.2.2 l10.size⟩
        have y2 : Hid (w7.heap.size ≤ w10.heap.size) := A10.out.2.2.2.2.2.2.2.2.2.2.2
        have ZZ : Hid (w6.heap.size ≤ w7.heap.size ∧ w7.heap.size ≤ w10.heap.size ∧ w0.heap.size ≤ w6.heap.size ∧ w3.heap.size ≤ w6.heap.size) := ⟨y1.out, y2.out, y0.out.1, y0.out.2⟩
        clear o10 l10 O10 A9
        go_wp2_with (first | (refine wpList_alloc_new rfl 26 rfl 20 _ hzero ?_; intro w11 bw11 sw11 lw11) | (refine wpList_store_blk rfl 26 26 _ _ rfl _ rfl _ (hdC X) rfl bw11 (by rw [hdC_length HU.out.2.2.2.2.2.1.len]; rfl) (hsizeC HU.out.2.2.2.2.2.1.len) (hdC_one _) ?_; intro w12 bw12 sw12 kw12; have Lw12 : Below w10.heap.size w10 w12 := below_kept lw11 kw12 (by omega) (fun j hj => by omega); have A12 : Hid (Ld w w12 g us ∧ Out w12 w0.heap.size w3.heap.size q5 n c5 us ∧ w0.heap.size ≤ w12.heap.size ∧ Seen w12 q7 N P ∧ w3.heap.size ≤ w12.heap.size ∧ Blk w12 w4.heap.size 26 (hdC X) ∧ w4.heap.size ≤ w12.heap.size ∧ Out w12 w6.heap.size w7.heap.size o1 N c1 P ∧ w6.heap.size ≤ w12.heap.size ∧ Blk w12 w7.heap.size 26 (hdC X) ∧ Out w12 w7.heap.size w10.heap.size o2 N c2 P ∧ w7.heap.size ≤ w12.heap.size ∧ Blk w12 w10.heap.size 26 (hdC X) ∧ w10.heap.size ≤ w12.heap.size) := ⟨A10.out.1.later Lw12, A10.out.2.1.later Lw12, Nat.le_trans A10.out.2.2.1 Lw12.size, A10.out.2.2.2.1.later Lw12 (Nat.le_refl _), Nat.le_trans A10.out.2.2.2.2.1 Lw12.size, A10.out.2.2.2.2.2.1.later Lw12 A10.out.2.2.2.2.2.1.lt, Nat.le_trans A10.out.2.2.2.2.2.2.1 Lw12.size, A10.out.2.2.2.2.2.2.2.1.later Lw12, Nat.le_trans A10.out.2.2.2.2.2.2.2.2.1 Lw12.size, A10.out.2.2.2.2.2.2.2.2.2.1.later Lw12 A10.out.2.2.2.2.2.2.2.2.2.1.lt, A10.out.2.2.2.2.2.2.2.2.2.2.1.later Lw12, Nat.le_trans A10.out.2.2.2.2.2.2.2.2.2.2.2 Lw12.size, bw12, Lw12.size⟩; clear bw11 sw11 lw11 bw12 sw12 kw12 Lw12 A10) | ((with_reducible show wpList _ _ _ (({ dst := some 42, op := _, type := _, pos := _, after := _, guard := _ } : Oper) :: _) _ _); refine wpList_load_g (by rfl) 26 (.tmp 9) rfl _ rfl (hdC X) _ A12.out.2.2.2.2.2.2.2.2.2.1 Try.underlying26 rfl (hsizeC HU.out.2.2.2.2.2.1.len) ?_) | ((with_reducible show wpList _ _ _ (({ dst := some 43, op := _, type := _, pos := _, after := _, guard := _ } : Oper) :: _) _ _); refine wpList_load_g (by rfl) 26 (.tmp 6) rfl _ rfl (hdC X) _ A12.out.2.2.2.2.2.1 Try.underlying26 rfl (hsizeC HU.out.2.2.2.2.2.1.len) ?_) | ((with_reducible show wpList _ _ _ (({ dst := some 46, op := _, type := _, pos := _, after := _, guard := _ } : Oper) :: _) _ _); refine wpList_load_g (by rfl) 26 (.tmp 12) rfl _ rfl (hdC X) _ A12.out.2.2.2.2.2.2.2.2.2.2.2.2.1 Try.underlying26 rfl (hsizeC HU.out.2.2.2.2.2.1.len) ?_) | ((with_reducible show wpList _ _ _ (({ dst := some 47, op := _, type := _, pos := _, after := _, guard := _ } : Oper) :: _) _ _); refine wpList_load_g (by rfl) 26 (.tmp 6) rfl _ rfl (hdC X) _ A12.out.2.2.2.2.2.1 Try.underlying26 rfl (hsizeC HU.out.2.2.2.2.2.1.len) ?_))
        refine (reqb_any o1 q7 N N c1 c7 P P w12 A12.out.2.2.2.2.2.2.2.1.seen A12.out.2.2.2.1).mono ?_
        rintro e _ ⟨rfl, qa, rfl⟩
        rw [decide_eq_true (rfl : P = P)]
        obtain ⟨x1, hx1⟩ : ∃ u, w12.drewN qa = u := ⟨_, rfl⟩
        rw [hx1]
        have lx1 : Below w12.heap.size w12 x1 := hx1 ▸ below_dn (Below.refl _ _) qa
        have B1 : Hid (Ld w x1 g us ∧ Out x1 w0.heap.size w3.heap.size q5 n c5 us ∧ w0.heap.size ≤ x1.heap.size ∧ Seen x1 q7 N P ∧ w3.heap.size ≤ x1.heap.size ∧ Blk x1 w4.heap.size 26 (hdC X) ∧ w4.heap.size ≤ x1.heap.size ∧ Out x1 w6.heap.size w7.heap.size o1 N c1 P ∧ w6.heap.size ≤ x1.heap.size ∧ Blk x1 w7.heap.size 26 (hdC X) ∧ Out x1 w7.heap.size w10.heap.size o2 N c2 P ∧ w7.heap.size ≤ x1.heap.size ∧ Blk x1 w10.heap.size 26 (hdC X) ∧ w10.heap.size ≤ x1.heap.size) := ⟨A12.out.1.later lx1, A12.out.2.1.later lx1, Nat.le_trans A12.out.2.2.1 lx1.size, A12.out.2.2.2.1.later lx1 (Nat.le_refl _), Nat.le_trans A12.out.2.2.2.2.1 lx1.size, A12.out.2.2.2.2.2.1.later lx1 A12.out.2.2.2.2.2.1.lt, Nat.le_trans A12.out.2.2.2.2.2.2.1 lx1.size, A12.out.2.2.2.2.2.2.2.1.later lx1, Nat.le_trans A12.out.2.2.2.2.2.2.2.2.1 lx1.size, A12.out.2.2.2.2.2.2.2.2.2.1.later lx1 A12.out.2.2.2.2.2.2.2.2.2.1.lt, A12.out.2.2.2.2.2.2.2.2.2.2.1.later lx1, Nat.le_trans A12.out.2.2.2.2.2.2.2.2.2.2.2.1 lx1.size, A12.out.2.2.2.2.2.2.2.2.2.2.2.2.1.later lx1 A12.out.2.2.2.2.2.2.2.2.2.2.2.2.1.lt, Nat.le_trans A12.out.2.2.2.2.2.2.2.2.2.2.2.2.2 lx1.size⟩
        clear hx1 lx1 A12
        go_wp2_with fail
        refine (reqb_any o2 q7 N N c2 c7 P P x1 B1.out.2.2.2.2.2.2.2.2.2.2.1.seen B1.out.2.2.2.1).mono ?_
        rintro e _ ⟨rfl, qb, rfl⟩
        rw [decide_eq_true (rfl : P = P)]
        obtain ⟨x2, hx2⟩ : ∃ u, x1.drewN qb = u := ⟨_, rfl⟩
        rw [hx2]
        have lx2 : Below x1.heap.size x1 x2 := hx2 ▸ below_dn (Below.refl _ _) qb
        have B2 : Hid (Ld w x2 g us ∧ Out x2 w0.heap.size w3.heap.size q5 n c5 us ∧ w0.heap.size ≤ x2.heap.size ∧ Seen x2 q7 N P ∧ w3.heap.size ≤ x2.heap.size ∧ Blk x2 w4.heap.size 26 (hdC X) ∧ w4.heap.size ≤ x2.heap.size ∧ Out x2 w6.heap.size w7.heap.size o1 N c1 P ∧ w6.heap.size ≤ x2.heap.size ∧ Blk x2 w7.heap.size 26 (hdC X) ∧ Out x2 w7.heap.size w10.heap.size o2 N c2 P ∧ w7.heap.size ≤ x2.heap.size ∧ Blk x2 w10.heap.size 26 (hdC X) ∧ w10.heap.size ≤ x2.heap.size) := ⟨B1.out.1.later lx2, B1.out.2.1.later lx2, Nat.le_trans B1.out.2.2.1 lx2.size, B1.out.2.2.2.1.later lx2 (Nat.le_refl _), Nat.le_trans B1.out.2.2.2.2.1 lx2.size, B1.out.2.2.2.2.2.1.later lx2 B1.out.2.2.2.2.2.1.lt, Nat.le_trans B1.out.2.2.2.2.2.2.1 lx2.size, B1.out.2.2.2.2.2.2.2.1.later lx2, Nat.le_trans B1.out.2.2.2.2.2.2.2.2.1 lx2.size, B1.out.2.2.2.2.2.2.2.2.2.1.later lx2 B1.out.2.2.2.2.2.2.2.2.2.1.lt, B1.out.2.2.2.2.2.2.2.2.2.2.1.later lx2, Nat.le_trans B1.out.2.2.2.2.2.2.2.2.2.2.2.1 lx2.size, B1.out.2.2.2.2.2.2.2.2.2.2.2.2.1.later lx2 B1.out.2.2.2.2.2.2.2.2.2.2.2.2.1.lt, Nat.le_trans B1.out.2.2.2.2.2.2.2.2.2.2.2.2.2 lx2.size⟩
        clear hx2 lx2 B1
        go_wp2_with fail
        have LT := lot2 B2.out.2.2.2.2.2.2.2.1 B2.out.2.2.2.2.2.2.2.2.2.2.1 ZZ.out.1 ZZ.out.2.1 B2.out.2.2.2.2.2.2.2.2.2.2.2.2.2
        have B7 : Below x2.heap.size x2 (x2.alloc (.cells #[.slice o1 N c1, .slice o2 N c2] 27)) := (Below.refl _ _).alloc (Nat.le_refl _) _
        refine (rapart_any x2.heap.size 2 2 _ _ _ _ _ _ LT.1 (by decide) (fun j hj => by have := HX.out.2.1; have := HU.out.2.2.2.2.2.2.2.2; rcases (by omega : j = 0 ∨ j = 1) with rfl | rfl <;> simp <;> omega)).mono ?_
        rintro e x3 ⟨rfl, k8⟩
        have B3 : Hid (Ld w x3 g us ∧ Seen x3 q5 n us) := ⟨(B2.out.1.later B7).kept k8 (fun j hj => by have p := LT.2 j hj; have e1 := ZZ.out; have e2 := zg.out; have e3 := A0g.out; exact ⟨by omega, by omega⟩), ((B2.out.2.1.later B7).kept k8 (fun y h1 h2 hj => by have p := LT.2 y hj; have e1 := ZZ.out; omega)).seen⟩
        clear LT B7 k8 B2
        go_wp2_with fail
        refine (reqb_any _ q5 n n (n + 80) c5 us us x3 (B3.out.1.seen HU.out.1 HU.out.2.1 HX.out.2.1) B3.out.2).mono ?_
        rintro e _ ⟨rfl, qc, rfl⟩
        rw [decide_eq_true (rfl : us = us)]
        obtain ⟨x4, hx4⟩ : ∃ u, x3.drewN qc = u := ⟨_, rfl⟩
        rw [hx4]
        have B4 : Hid (Ld w x4 g us) := hx4 ▸ B3.out.1.drewN qc
        clear hx4 B3
        rcases (by omega : k = 0 ∨ k = 1) with rfl | rfl
        · have eb := HF.out rfl
          subst eb
          go_wp2_with fail
          refine (kept_big g ao n c us x4 B4.out.s (HX.out.1.later B4.out.bel (Nat.le_refl _)) HX.out.2.1).mono ?_
          rintro e _ ⟨rfl, qd, rfl⟩
          obtain ⟨x5, hx5⟩ : ∃ u, x4.drewN qd = u := ⟨_, rfl⟩
          rw [hx5]
          have B5 : Hid (Ld w x5 g us) := hx5 ▸ B4.out.drewN qd
          clear hx5 B4
          go_wp2_with fail
          refine (parse_one _ n (n + 80) us (by omega) x5 (B5.out.seen HU.out.1 HU.out.2.1 HX.out.2.1)).mono ?_
          rintro e x6 ⟨v6, rfl, o6, l6⟩
          have B6 : Hid (Ld w x6 g us) := B5.out.later l6
          clear o6 l6 B5
          go_wp2_with fail
          go_loopw [15] (fun i wr => ∃ (j : Nat) (ys : List Int), j ≤ n ∧ i = .int .i64 j ∧ ys.length = n ∧ Bytes ys ∧ Ld w wr g ys) (fun i _ => n - (intOf i).toNat)
          case atStart => exact ⟨0, us, Nat.zero_le _, rfl, HU.out.1, HU.out.2.1, B6.out⟩
          case round =>
            obtain ⟨j, ys, hj, rfl, hyl, hyb, hsl⟩ := hrel
            by_cases hjn : j < n
            · have c1 := u8s_cell hsl.s j (by rw [spared_length]; omega)
              rw [spared_front ys j (by omega)] at c1
              have f1 := hsl.s.frozen j
              have bz := hyb.at j (by omega)
              obtain ⟨Y, hY⟩ : ∃ Y, ys.getD j 0 = Y := ⟨_, rfl⟩
              rw [hY] at c1 bz
              have j1 : (0 : Int) ≤ (j : Int) := by omega
              have j2 : (j : Int) < (n : Int) := by omega
              have j3 : (j : Int) < (n : Int) + 80 := by omega
              obtain ⟨r, hr, r0⟩ : ∃ r : Int, (j : Int).tmod 2 = r ∧ (r = 0 ∨ r = 1) := ⟨_, rfl, by rw [Int.tmod_eq_emod_of_nonneg (by omega)]; omega⟩
              have X1 : Hid (Ld w wr g ys ∧ ys.length = n ∧ Bytes ys) := ⟨hsl, hyl, hyb⟩
              have X2 : Hid (0 ≤ bits .xor .u8 Y (1 + r) ∧ bits .xor .u8 Y (1 + r) < 256) := xor8_bdR _ _ bz ⟨by omega, by omega⟩
              clear hY hsl hyb hyl bz
              go_wp2_with fail
              exact ⟨⟨j + 1, ys.set j (bits .xor .u8 Y (1 + r)), by omega, by go_num, by rw [List.length_set]; exact X1.out.2.1, bytes_setR X1.out.2.2 j _ X2.out, X1.out.1.set j _ (by have := X1.out.2.1; omega)⟩, by simp [intOf]; omega⟩
            · have j2 : ¬ (j : Int) < (n : Int) := by omega
              have X1 : Hid (Ld w wr g ys ∧ ys.length = n ∧ Bytes ys) := ⟨hsl, hyl, hyb⟩
              clear hsl hyl hyb
              go_wp2_with fail
              exact ⟨⟨1, ys, by decide, by go_num, X1.out.2.1, X1.out.2.2, X1.out.1, fun h => by omega⟩, by simp [intOf]⟩
        · obtain ⟨x5, hx5⟩ : ∃ u, x4 = u := ⟨_, rfl⟩
          rw [hx5]
          have B5 : Hid (Ld w x5 g us) := hx5 ▸ B4.out
          clear hx5 B4
          go_wp2_with fail
          refine (parse_one _ n (n + 80) us (by omega) x5 (B5.out.seen HU.out.1 HU.out.2.1 HX.out.2.1)).mono ?_
          rintro e x6 ⟨v6, rfl, o6, l6⟩
          have B6 : Hid (Ld w x6 g us) := B5.out.later l6
          clear o6 l6 B5
          go_wp2_with fail
          go_loopw [15] (fun i wr => ∃ (j : Nat) (ys : List Int), j ≤ n ∧ i = .int .i64 j ∧ ys.length = n ∧ Bytes ys ∧ Ld w wr g ys) (fun i _ => n - (intOf i).toNat)
          case atStart => exact ⟨0, us, Nat.zero_le _, rfl, HU.out.1, HU.out.2.1, B6.out⟩
          case round =>
            obtain ⟨j, ys, hj, rfl, hyl, hyb, hsl⟩ := hrel
            by_cases hjn : j < n
            · have c1 := u8s_cell hsl.s j (by rw [spared_length]; omega)
              rw [spared_front ys j (by omega)] at c1
              have f1 := hsl.s.frozen j
              have bz := hyb.at j (by omega)
              obtain ⟨Y, hY⟩ : ∃ Y, ys.getD j 0 = Y := ⟨_, rfl⟩
              rw [hY] at c1 bz
              have j1 : (0 : Int) ≤ (j : Int) := by omega
              have j2 : (j : Int) < (n : Int) := by omega
              have j3 : (j : Int) < (n : Int) + 80 := by omega
              obtain ⟨r, hr, r0⟩ : ∃ r : Int, (j : Int).tmod 2 = r ∧ (r = 0 ∨ r = 1) := ⟨_, rfl, by rw [Int.tmod_eq_emod_of_nonneg (by omega)]; omega⟩
              have X1 : Hid (Ld w wr g ys ∧ ys.length = n ∧ Bytes ys) := ⟨hsl, hyl, hyb⟩
              have X2 : Hid (0 ≤ bits .xor .u8 Y (1 + r) ∧ bits .xor .u8 Y (1 + r) < 256) := xor8_bdR _ _ bz ⟨by omega, by omega⟩
              clear hY hsl hyb hyl bz
              go_wp2_with fail
              exact ⟨⟨j + 1, ys.set j (bits .xor .u8 Y (1 + r)), by omega, by go_num, by rw [List.length_set]; exact X1.out.2.1, bytes_setR X1.out.2.2 j _ X2.out, X1.out.1.set j _ (by have := X1.out.2.1; omega)⟩, by simp [intOf]; omega⟩
            · have j2 : ¬ (j : Int) < (n : Int) := by omega
              have X1 : Hid (Ld w wr g ys ∧ ys.length = n ∧ Bytes ys) := ⟨hsl, hyl, hyb⟩
              clear hsl hyl hyb
              go_wp2_with fail
              exact ⟨⟨2, ys, by decide, by go_num, X1.out.2.1, X1.out.2.2, X1.out.1, fun h => by omega⟩, by simp [intOf]⟩
    · have A0 : Hid (Ld w w0 g us) := hld
      have i1 : ¬ (k : Int) < 2 := by omega
      clear hld hul hub hfirst
      go_wp2
      go_ret
      exact ⟨rfl, A0.out.bel⟩
end Go.Proofs.Ytabdjoljdefjdaa.recordParses
