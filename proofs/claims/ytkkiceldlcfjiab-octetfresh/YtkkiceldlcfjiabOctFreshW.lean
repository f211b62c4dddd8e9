/- The walk of OctetFresh. -/
import Derived.Test.YtkkiceldlcfjiabOWrite
import Derived.Test.YtkkiceldlcfjiabOUnhex
import Derived.Test.YtkkiceldlcfjiabOApartW
import Derived.Deep.CutRange
namespace Go.Proofs.Ytkkiceldlcfjiab
open Go.RowKit
set_option linter.unusedVariables false
set_option linter.unusedSimpArgs false

theorem Seen.pre {w : World} {ao : Option Addr} {n : Nat} {zs : List Int} (h : Seen w ao n zs) (m : Nat) (hm : m ≤ n) : Seen w ao m (zs.take m) :=
  ⟨by rw [List.length_take, h.len]; omega, by have := h.top; omega, bytes_take h.bytes m, fun h0 => by
    obtain ⟨b, o, e, hlt, hc⟩ := h.cells (by omega)
    refine ⟨b, o, e, hlt, fun i hi => ?_⟩
    rw [hc i (by omega)]
    simp [List.getD, hi]⟩
/-- What is left of a slice from k on. -/
theorem Seen.suf {w : World} {ao : Option Addr} {m c : Nat} {ys : List Int} (h : Seen w ao m ys) (hc : ao = none → c = 0) (hmc : m ≤ c) (k : Nat) (hk : k ≤ m) :
    ∃ so, (∀ wx, (Instr.slice 26 (.slice ao m c) (some (.int .i64 k)) none none).run Try.prog wx = .ok (.slice so (m - k) (c - k)) wx) ∧ Seen w so (m - k) (ys.drop k) := by
  have ht : Try.prog.underlying 26 = some (.slice (Try.prog.elem 26)) := by kernel_rfl
  have hz : ∀ wx, (sizeOf (Try.prog.elem 26)).run Try.prog wx = .ok 1 wx := fun wx => by kernel_rfl
  have run : ∀ wx, (Instr.slice 26 (.slice ao m c) (some (.int .i64 k)) none none).run Try.prog wx = .ok (sliced ao k m c 1) wx := fun wx => by
    rw [run_slice_l wx 26 ao m c ht .i64 k (by omega) (by omega), hz]
    simp [Result.andThen]
  by_cases hck : c = k
  · have hm : m - k = 0 := by omega
    refine ⟨ao, fun wx => ?_, ?_⟩
    · rw [run wx, sliced, if_pos hck]
    · rw [hm, List.drop_of_length_le (by have := h.len; omega)]
      exact Seen.empty _ _
  · cases ao with
    | none =>
      have h1 := (seen_nil h).1
      have h2 := hc rfl
      omega
    | some ad =>
      refine ⟨some (ad.add k), fun wx => ?_, ?_⟩
      · rw [run wx, sliced, if_neg hck, Nat.mul_one]; rfl
      · refine ⟨by rw [List.length_drop, h.len], by have := h.top; omega, bytes_drop h.bytes k, fun h0 => ?_⟩
        obtain ⟨b, o, e, hlt, hcl⟩ := h.cells (by omega)
        simp only [Option.some.injEq] at e
        subst e
        refine ⟨b, o + k, by rw [add_at], hlt, fun i hi => ?_⟩
        rw [Nat.add_assoc, hcl (k + i) (by omega)]
        simp [List.getD]
theorem sl_pre {ao : Option Addr} {m c : Nat} (hmc : m ≤ c) (k : Nat) (hk : k ≤ m) : ∀ wx, (Instr.slice 26 (.slice ao m c) none (some (.int .i64 k)) none).run Try.prog wx = .ok (.slice ao k c) wx := fun wx => by
  have ht : Try.prog.underlying 26 = some (.slice (Try.prog.elem 26)) := by kernel_rfl
  have hz : ∀ wx, (sizeOf (Try.prog.elem 26)).run Try.prog wx = .ok 1 wx := fun wx => by kernel_rfl
  rw [run_slice_h wx 26 ao m c ht .i64 k (by omega) (by omega), hz]
  cases ao <;> simp [Result.andThen, sliced, Addr.add]
set_option maxHeartbeats 1000000 in
set_option maxRecDepth 20000 in
theorem fresh_walk (ao : Option Addr) (n c : Nat) (zs : List Int) (nn : Int) (w : World) (hx : Seen w ao n zs) (hn : n ≤ 140737488351232) (hc : ao = none → c = 0) (hnc : n ≤ c) (hcm : c ≤ maxLen) (hnn : -9223372036854775808 ≤ nn ∧ nn ≤ 9223372036854775807) :
    Calls Try.prog 5 #[.slice ao n c, .int .i64 nn] w fun en w' => en = .returned (.bool true) ∧ Below w.heap.size w w' := by
  obtain ⟨m, hm⟩ : ∃ m, m = min n 80 := ⟨_, rfl⟩
  obtain ⟨R, hR⟩ : ∃ R, Int.tmod nn ((m : Int) + 1) = R := ⟨_, rfl⟩
  have hRb : -(m : Int) ≤ R ∧ R ≤ (m : Int) := by
    have h1 := Int.tmod_lt_of_pos nn (show (0 : Int) < (m : Int) + 1 by omega)
    have h2 := Int.lt_tmod_of_pos nn (show (0 : Int) < (m : Int) + 1 by omega)
    omega
  obtain ⟨k, hk⟩ : ∃ k : Nat, (k : Int) = if R < 0 then R + m + 1 else R := ⟨(if R < 0 then R + m + 1 else R).toNat, by split <;> omega⟩
  have hkm : k ≤ m := by split at hk <;> omega
  have HMN : Hid (m = min n 80) := hm
  have hmn : m ≤ n := by omega
  have hm80 : m ≤ 80 := by omega
  unfold maxLen at hcm
  clear hm
  go_enter Try.func5, Try.ntmps5
  go_wp2_with fail
  refine (awake_any w).mono ?_
  rintro en w1 ⟨rfl, b1⟩
  go_upto_if 29 with fail
  go_cut [0] from 25 to 43 (fun s0 wc => s0 = .slice ao m c ∧ w1 = wc)
  case first =>
    by_cases h80 : 80 < n
    · obtain rfl : m = 80 := by have := HMN.out; omega
      have i1 : (80 : Int) < (n : Int) := by omega
      have i2 : (80 : Int) ≤ (c : Int) := by omega
      obtain ⟨b, o, rfl, _, _⟩ := hx.cells (by omega)
      have hc0 : ¬ c = 0 := by omega
      go_wp2_with fail
      go_meet
      exact ⟨rfl, rfl⟩
    · obtain rfl : m = n := by have := HMN.out; omega
      have i1 : ¬ (80 : Int) < (m : Int) := by omega
      go_wp2_with fail
      go_meet
      exact ⟨rfl, rfl⟩
  case rest =>
  obtain ⟨rfl, rfl⟩ := hcut
  go_upto_if 38 with fail
  go_cut [1] from 25 to 43 (fun s1 wc => s1 = .int .i64 (k : Int) ∧ w1 = wc)
  case first =>
    by_cases h0 : R < 0
    · rw [if_pos h0] at hk
      have hk' : R + (m : Int) + 1 = (k : Int) := hk.symm
      clear hk
      go_wp2_with fail
      go_meet
      exact ⟨rfl, rfl⟩
    · rw [if_neg h0] at hk
      obtain rfl := hk
      go_wp2_with fail
      go_meet
      exact ⟨rfl, rfl⟩
  case rest =>
  obtain ⟨rfl, rfl⟩ := hcut
  clear hR hRb hk R
  have hy := hx.pre m hmn
  generalize zs.take m = ys at hy
  clear hx
  have HY : Hid (ys.length = m ∧ Bytes ys) := ⟨hy.len, hy.bytes⟩
  have HSY : Hid (Seen w ao m ys) := hy
  have HCN : Hid (ao = none → c = 0) := hc
  have B1 : Hid (Below w.heap.size w w1) := b1
  have hy1 := hy.later b1 (Nat.le_refl _)
  have z1 := b1.size
  clear hy b1 hc
  go_wp2_with fail
  refine (lent_any ao m c ys w1 hy1 HCN.out (by omega)).mono ?_
  rintro en w2 ⟨g, cap, rfl, row2, lg, lcap, lmax, b2⟩
  have z2 := b2.size
  have gz := row2.lt
  have ROW : Hid (RowAt w2 g (ys ++ marks)) := row2
  have B2 : Hid (Below w1.heap.size w1 w2) := b2
  have s2 := Seen.lent row2 HY.out.1 HY.out.2 (by omega)
  clear hy1 row2 b2
  go_wp2_with fail
  refine (newReader_any (some ⟨g, 0, none⟩) m cap ys w2 s2).mono ?_
  rintro en w3 ⟨r1, ao1, c1, rfl, rd1, lr1, lo1, b3⟩
  have z3 := b3.size
  have B3 : Hid (Below w2.heap.size w2 w3) := b3
  have RD1 : Hid (Rd w3 r1 ao1 c1 ys 0 0) := rd1
  have LO1 : Hid (∀ g, ao1 = some ⟨g, 0, none⟩ → w2.heap.size ≤ g) := lo1
  have lr1' := rd1.lt
  have s3 := s2.later b3 (Nat.le_refl _)
  clear s2 b3 rd1 lo1
  go_wp2_with fail
  refine (newReader_any (some ⟨g, 0, none⟩) m cap ys w3 s3).mono ?_
  rintro en w4 ⟨r2, ao2, c2, rfl, rd2, lr2, lo2, b4⟩
  have z4 := b4.size
  have B4 : Hid (Below w3.heap.size w3 w4) := b4
  have RD2 : Hid (Rd w4 r2 ao2 c2 ys 0 0) := rd2
  have LO2 : Hid (∀ g, ao2 = some ⟨g, 0, none⟩ → w3.heap.size ≤ g) := lo2
  have lr2' := rd2.lt
  have s4 := s3.later b4 (Nat.le_refl _)
  clear s3 b4 rd2 lo2
  go_wp2_with fail
  refine (newWriter_any m (by omega) w4).mono ?_
  rintro en w5 ⟨s1, rfl, wr1, ls1, b5⟩
  have z5 := b5.size
  have B5 : Hid (Below w4.heap.size w4 w5) := b5
  have WR1 : Hid (Wr w5 s1 (.slice none 0 0) m [] 0) := wr1
  have ls1' := wr1.lt
  have s5 := s4.later b5 (Nat.le_refl _)
  clear s4 b5 wr1
  go_wp2_with fail
  refine (newWriter_any m (by omega) w5).mono ?_
  rintro en w6 ⟨s2, rfl, wr2, ls2, b6⟩
  have z6 := b6.size
  have B6 : Hid (Below w5.heap.size w5 w6) := b6
  have WR2 : Hid (Wr w6 s2 (.slice none 0 0) m [] 0) := wr2
  have ls2' := wr2.lt
  have s6 := s5.later b6 (Nat.le_refl _)
  clear s5 b6 wr2
  have hwb : wbL m [] 0 ys = ys ∧ wbE m [] 0 ys = 0 := by
    have h1 : ¬ m < ys.length := by have := HY.out.1; omega
    simp [wbL, wbE, h1]
  have hb1 := wbytes_any s1 (.slice none 0 0) m [] 0 (some ⟨g, 0, none⟩) m cap ys w6 (WR1.out.later B6.out (Nat.le_refl _)) s6 (fun h => by cases h)
  rw [hwb.1, hwb.2] at hb1
  go_wp2_with fail
  refine hb1.mono ?_
  rintro en w7 ⟨rfl, v1, wr1, kp7, lv1⟩
  have z7 := kp7.size
  have B7 : Hid (Below s1 w6 w7) := kp7.below (by omega) (fun x hx => by 
    rcases hx with rfl | hx
    · exact Nat.le_refl _
    · cases hx)
  have LV1 : Hid (∀ g, v1.ownBlock = some g → w6.heap.size ≤ g) := fun g hg => by
    rcases lv1 g hg with h | h
    · cases h
    · exact h
  have WR1' : Hid (Wr w7 s1 v1 m ys 0) := wr1
  have WR2' : Hid (Wr w7 s2 (.slice none 0 0) m [] 0) := WR2.out.kept kp7 (fun h => by
    rcases h with h | h
    · omega
    · cases h) (fun g hg => by cases hg)
  have s7 := s6.kept kp7 (fun b o _ e h => by
    simp only [Option.some.injEq, Addr.mk.injEq] at e
    rcases h with h | h
    · omega
    · cases h)
  clear s6 kp7 wr1 lv1 hb1
  have hb2 := wbytes_any s2 (.slice none 0 0) m [] 0 (some ⟨g, 0, none⟩) m cap ys w7 WR2'.out s7 (fun h => by cases h)
  rw [hwb.1, hwb.2] at hb2
  go_wp2_with fail
  refine hb2.mono ?_
  rintro en w8 ⟨rfl, v2, wr2, kp8, lv2⟩
  have z8 := kp8.size
  have B8 : Hid (Below s2 w7 w8) := kp8.below (by omega) (fun x hx => by
    rcases hx with rfl | hx
    · exact Nat.le_refl _
    · cases hx)
  have LV2 : Hid (∀ g, v2.ownBlock = some g → w7.heap.size ≤ g) := fun g hg => by
    rcases lv2 g hg with h | h
    · cases h
    · exact h
  have W1 : Hid (Wr w8 s1 v1 m ys 0) := WR1'.out.kept kp8 (fun h => by
    rcases h with h | h
    · omega
    · cases h) (fun g hg h => by
    have := LV1.out g hg
    rcases h with h | h
    · omega
    · cases h)
  have W2 : Hid (Wr w8 s2 v2 m ys 0) := wr2
  have D8 : Hid (Below w2.heap.size w2 w8) := by
    have h3 := B3.out
    have h4 := h3.trans (B4.out.mono z3)
    have h5 := h4.trans (B5.out.mono (by omega))
    have h6 := h5.trans (B6.out.mono (by omega))
    have h7 := h6.trans (B7.out.mono (by omega))
    exact h7.trans (B8.out.mono (by omega))
  have R1 : Hid (Rd w8 r1 ao1 c1 ys 0 0) := by
    have h4 := RD1.out.later B4.out (Nat.le_refl _)
    have h5 := h4.later B5.out (Nat.le_refl _)
    have h6 := h5.later B6.out (Nat.le_refl _)
    have hl : ∀ g, ao1 = some ⟨g, 0, none⟩ → g < w3.heap.size := fun g hg => by
      have := RD1.out.own
      rw [hg] at this
      exact (this.lt g rfl).2
    have h7 := h6.kept (S := fun x => s1 ≤ x) ⟨B7.out.os, B7.out.tape, B7.out.output, B7.out.size, fun x _ hx => B7.out.block x (by omega)⟩ (by omega) (fun g hg h => by have := hl g hg; omega)
    exact h7.kept (S := fun x => s2 ≤ x) ⟨B8.out.os, B8.out.tape, B8.out.output, B8.out.size, fun x _ hx => B8.out.block x (by omega)⟩ (by omega) (fun g hg h => by have := hl g hg; omega)
  have R2 : Hid (Rd w8 r2 ao2 c2 ys 0 0) := by
    have h5 := RD2.out.later B5.out (Nat.le_refl _)
    have h6 := h5.later B6.out (Nat.le_refl _)
    have hl : ∀ g, ao2 = some ⟨g, 0, none⟩ → g < w4.heap.size := fun g hg => by
      have := RD2.out.own
      rw [hg] at this
      exact (this.lt g rfl).2
    have h7 := h6.kept (S := fun x => s1 ≤ x) ⟨B7.out.os, B7.out.tape, B7.out.output, B7.out.size, fun x _ hx => B7.out.block x (by omega)⟩ (by omega) (fun g hg h => by have := hl g hg; omega)
    exact h7.kept (S := fun x => s2 ≤ x) ⟨B8.out.os, B8.out.tape, B8.out.output, B8.out.size, fun x _ hx => B8.out.block x (by omega)⟩ (by omega) (fun g hg h => by have := hl g hg; omega)
  have LA1 : Hid (∀ g, ao1 = some ⟨g, 0, none⟩ → w2.heap.size ≤ g ∧ g < w8.heap.size) := fun g hg => ⟨LO1.out g hg, by
    have := R1.out.own
    rw [hg] at this
    exact (this.lt g rfl).2⟩
  have LA2 : Hid (∀ g, ao2 = some ⟨g, 0, none⟩ → w2.heap.size ≤ g ∧ g < w8.heap.size) := fun g hg => ⟨by have := LO2.out g hg; omega, by
    have := R2.out.own
    rw [hg] at this
    exact (this.lt g rfl).2⟩
  have NE12 : Hid (r1 ≠ r2 ∧ r1 ≠ s1 ∧ r1 ≠ s2 ∧ r2 ≠ s1 ∧ r2 ≠ s2 ∧ w2.heap.size ≤ r1 ∧ w2.heap.size ≤ r2 ∧ w2.heap.size ≤ s1 ∧ w2.heap.size ≤ s2 ∧ r1 < w8.heap.size ∧ r2 < w8.heap.size ∧ s1 < w8.heap.size ∧ s2 < w8.heap.size) := ⟨by omega, by omega, by omega, by omega, by omega, by omega, by omega, by omega, by omega, by omega, by omega, by omega, by omega⟩
  have NA : Hid ((∀ g, ao1 = some ⟨g, 0, none⟩ → g ≠ r2 ∧ g ≠ r1) ∧ (∀ g, ao2 = some ⟨g, 0, none⟩ → g ≠ r1 ∧ g ≠ r2) ∧ (∀ g, v1.ownBlock = some g → g ≠ r1 ∧ g ≠ r2) ∧ (∀ g, v2.ownBlock = some g → g ≠ r1 ∧ g ≠ r2)) := ⟨fun g hg => ⟨by
    have h := RD1.out.own
    rw [hg] at h
    have := (h.lt g rfl).2
    omega, R1.out.ne g hg⟩, fun g hg => ⟨by have := LO2.out g hg; omega, R2.out.ne g hg⟩, fun g hg => by have := LV1.out g hg; omega, fun g hg => by have := LV2.out g hg; omega⟩
  have LW : Hid ((∀ g, v1.ownBlock = some g → g < w8.heap.size) ∧ (∀ g, v2.ownBlock = some g → g < w8.heap.size)) := ⟨fun g hg => (W1.out.own.lt g hg).2, fun g hg => (W2.out.own.lt g hg).2⟩
  clear s7 kp8 wr2 lv2 hb2 hwb WR1 WR2 WR1' WR2' RD1 RD2 LO1 LO2 LV1 LV2 B3 B4 B5 B6 B7 B8
  have hdl : dnL m ys 0 = ys ∧ dnE m ys 0 = 0 := by
    have h1 : ¬ ys.length < m := by have := HY.out.1; omega
    simp [dnL, dnE, h1]
  have hd1 := done_any s1 v1 m ys 0 w8 W1.out
  rw [hdl.1, hdl.2, HY.out.1] at hd1
  go_wp2_with fail
  refine hd1.mono ?_
  rintro en w9 ⟨u9, rfl, o9, b9⟩
  obtain ⟨x9, c9, rfl⟩ := own_form o9
  have z9 := b9.size
  have O9 : Hid (w9.ownsRow w8.heap.size 5 1 (.slice x9 m c9) m (ys.map (Value.int .u8))) := o9
  have hd2 := done_any s1 v1 m ys 0 w9 (W1.out.later b9 (Nat.le_refl _))
  rw [hdl.1, hdl.2, HY.out.1] at hd2
  have B9 : Hid (Below w8.heap.size w8 w9) := b9
  clear o9 hd1 b9
  go_wp2_with fail
  refine hd2.mono ?_
  rintro en wa ⟨ua, rfl, oa, ba⟩
  obtain ⟨xa, ca, rfl⟩ := own_form oa
  have za := ba.size
  have OA : Hid (wa.ownsRow w9.heap.size 5 1 (.slice xa m ca) m (ys.map (Value.int .u8))) := oa
  have BA : Hid (Below w8.heap.size w8 wa) := B9.out.trans (ba.mono z9)
  have BA' : Hid (Below w9.heap.size w9 wa) := ba
  have hd3 := done_any s2 v2 m ys 0 wa (W2.out.later BA.out (Nat.le_refl _))
  rw [hdl.1, hdl.2, HY.out.1] at hd3
  clear oa hd2 ba
  go_wp2_with fail
  refine hd3.mono ?_
  rintro en wb ⟨ub, rfl, ob, bb⟩
  obtain ⟨xb, cb, rfl⟩ := own_form ob
  have zb := bb.size
  have OB : Hid (wb.ownsRow wa.heap.size 5 1 (.slice xb m cb) m (ys.map (Value.int .u8))) := ob
  have BB : Hid (Below w8.heap.size w8 wb) := BA.out.trans (bb.mono (by omega))
  have BB' : Hid (Below wa.heap.size wa wb) := bb
  clear ob hd3 bb hdl
  have hn1 := @nx_ok ys 0 k (by have := HY.out.1; omega)
  have hn2 := @nx_ok ys k (m - k) (by have := HY.out.1; omega)
  rw [List.drop_zero, Nat.zero_add] at hn1
  rw [List.take_of_length_le (by rw [List.length_drop, HY.out.1]; exact Nat.le_refl _)] at hn2
  have hX1 : (ys.take k).length = k := by rw [List.length_take, HY.out.1]; omega
  have hX2 : (ys.drop k).length = m - k := by rw [List.length_drop, HY.out.1]
  have hcst : ((m - k : Nat) : Int) = (m : Int) - (k : Int) := by omega
  have hq1 := rdbytes_any r1 ao1 c1 ys 0 0 (k : Int) (by omega) wb (R1.out.later BB.out (Nat.le_refl _))
  rw [hn1.1, hn1.2.1, hn1.2.2, hX1] at hq1
  have HX12 : Hid ((ys.take k).length = k ∧ (ys.drop k).length = m - k) := ⟨hX1, hX2⟩
  go_wp2_with fail
  refine hq1.mono ?_
  rintro en wc' ⟨xc, cc, rfl, oc, rdc, kc⟩
  have zc := kc.size
  have OC : Hid (wc'.ownsRow wb.heap.size 5 1 (.slice xc k cc) k ((ys.take k).map (Value.int .u8))) := oc
  have KC : Hid (Kept (fun x => x = r1) wb wc') := kc
  have hq2 := rdbytes_any r1 ao1 c1 ys k 0 ((m - k : Nat) : Int) (by omega) wc' rdc
  rw [hn2.1, hn2.2.1, hn2.2.2, hX2, hcst] at hq2
  clear oc rdc kc hq1
  go_wp2_with fail
  refine hq2.mono ?_
  rintro en wd ⟨xd, cd, rfl, od, rdd, kd⟩
  have zd := kd.size
  have OD : Hid (wd.ownsRow wc'.heap.size 5 1 (.slice xd (m - k) cd) (m - k) ((ys.drop k).map (Value.int .u8))) := od
  have KD : Hid (Kept (fun x => x = r1) wc' wd) := kd
  have RE1 : Hid (Rd wd r1 ao1 c1 ys (k + (m - k)) 0) := rdd
  have hrd2 := ((R2.out.later BB.out (Nat.le_refl _)).kept KC.out (fun h => NE12.out.1 h.symm) (fun g hg h => (NA.out.2.1 g hg).1 h)).kept kd (fun h => NE12.out.1 h.symm) (fun g hg h => (NA.out.2.1 g hg).1 h)
  have hq3 := rdbytes_any r2 ao2 c2 ys 0 0 (k : Int) (by omega) wd hrd2
  rw [hn1.1, hn1.2.1, hn1.2.2, hX1] at hq3
  clear od kd hq2 rdd hrd2
  go_wp2_with fail
  refine hq3.mono ?_
  rintro en we ⟨xe, ce, rfl, oe, rde, ke⟩
  have ze := ke.size
  have OE : Hid (we.ownsRow wd.heap.size 5 1 (.slice xe k ce) k ((ys.take k).map (Value.int .u8))) := oe
  have KE : Hid (Kept (fun x => x = r2) wd we) := ke
  have hq4 := rdbytes_any r2 ao2 c2 ys k 0 ((m - k : Nat) : Int) (by omega) we rde
  rw [hn2.1, hn2.2.1, hn2.2.2, hX2, hcst] at hq4
  clear oe ke hq3 rde hn1 hn2 hX1 hX2
  go_wp2_with fail
  refine hq4.mono ?_
  rintro en wf ⟨xf, cf, rfl, of, rdf, kf⟩
  have zf := kf.size
  have OF : Hid (wf.ownsRow we.heap.size 5 1 (.slice xf (m - k) cf) (m - k) ((ys.drop k).map (Value.int .u8))) := of
  have KF : Hid (Kept (fun x => x = r2) we wf) := kf
  have RE2 : Hid (Rd wf r2 ao2 c2 ys (k + (m - k)) 0) := rdf
  have RE1' : Hid (Rd wf r1 ao1 c1 ys (k + (m - k)) 0) := (RE1.out.kept KE.out NE12.out.1 (fun g hg h => (NA.out.1 g hg).1 h)).kept kf NE12.out.1 (fun g hg h => (NA.out.1 g hg).1 h)
  -- all that matters of w8 on, at wf
  have KW : Hid (Kept (fun x => x = r1 ∨ x = r2) w8 wf) := by
    have h1 : Kept (fun x => x = r1 ∨ x = r2) w8 wb := kept_of_below BB.out (Nat.le_refl _)
    have h2 := h1.trans (KC.out.mono (fun x hx => .inl hx))
    have h3 := h2.trans (KD.out.mono (fun x hx => .inl hx))
    have h4 := h3.trans (KE.out.mono (fun x hx => .inr hx))
    exact h4.trans (KF.out.mono (fun x hx => .inr hx))
  have W1f : Hid (Wr wf s1 v1 m ys 0) := W1.out.kept KW.out (fun h => by have := NE12.out; omega) (fun g hg h => by have := NA.out.2.2.1 g hg; omega)
  have W2f : Hid (Wr wf s2 v2 m ys 0) := W2.out.kept KW.out (fun h => by have := NE12.out; omega) (fun g hg h => by have := NA.out.2.2.2 g hg; omega)
  have Df : Hid (Below w2.heap.size w2 wf) := D8.out.trans (KW.out.below (by omega) (fun x hx => by have := NE12.out; omega))
  have nr : ∀ x, w8.heap.size ≤ x → ¬ (x = r1) ∧ ¬ (x = r2) := fun x hx => by have := NE12.out; omega
  have L9 := own_kept (own_kept (own_kept (own_kept (ownsRow_below (ownsRow_below O9.out BA'.out) BB'.out) KC.out (fun x hx => (nr x (O9.out.lt x hx).1).1)) KD.out (fun x hx => (nr x (O9.out.lt x hx).1).1)) KE.out (fun x hx => (nr x (O9.out.lt x hx).1).2)) KF.out (fun x hx => (nr x (O9.out.lt x hx).1).2)
  have LA := own_kept (own_kept (own_kept (own_kept (ownsRow_below OA.out BB'.out) KC.out (fun x hx => (nr x (by have := (OA.out.lt x hx).1; omega)).1)) KD.out (fun x hx => (nr x (by have := (OA.out.lt x hx).1; omega)).1)) KE.out (fun x hx => (nr x (by have := (OA.out.lt x hx).1; omega)).2)) KF.out (fun x hx => (nr x (by have := (OA.out.lt x hx).1; omega)).2)
  have LB := own_kept (own_kept (own_kept (own_kept OB.out KC.out (fun x hx => (nr x (by have := (OB.out.lt x hx).1; omega)).1)) KD.out (fun x hx => (nr x (by have := (OB.out.lt x hx).1; omega)).1)) KE.out (fun x hx => (nr x (by have := (OB.out.lt x hx).1; omega)).2)) KF.out (fun x hx => (nr x (by have := (OB.out.lt x hx).1; omega)).2)
  have LC := own_kept (own_kept (own_kept OC.out KD.out (fun x hx => (nr x (by have := (OC.out.lt x hx).1; omega)).1)) KE.out (fun x hx => (nr x (by have := (OC.out.lt x hx).1; omega)).2)) KF.out (fun x hx => (nr x (by have := (OC.out.lt x hx).1; omega)).2)
  have LD := own_kept (own_kept OD.out KE.out (fun x hx => (nr x (by have := (OD.out.lt x hx).1; omega)).2)) KF.out (fun x hx => (nr x (by have := (OD.out.lt x hx).1; omega)).2)
  have LE := own_kept OE.out KF.out (fun x hx => (nr x (by have := (OE.out.lt x hx).1; omega)).2)
  have OWN : Hid (wf.ownsRow 0 5 1 (.slice xc k cc) k ((ys.take k).map (Value.int .u8)) ∧ wf.ownsRow 0 5 1 (.slice xd (m - k) cd) (m - k) ((ys.drop k).map (Value.int .u8)) ∧ wf.ownsRow 0 5 1 (.slice xe k ce) k ((ys.take k).map (Value.int .u8)) ∧ wf.ownsRow 0 5 1 (.slice xf (m - k) cf) (m - k) ((ys.drop k).map (Value.int .u8)) ∧
      wf.ownsRow 0 5 1 (.slice x9 m c9) m (ys.map (Value.int .u8)) ∧ wf.ownsRow 0 5 1 (.slice xa m ca) m (ys.map (Value.int .u8)) ∧ wf.ownsRow 0 5 1 (.slice xb m cb) m (ys.map (Value.int .u8))) :=
    ⟨ownsRow_base LC (Nat.zero_le _), ownsRow_base LD (Nat.zero_le _), ownsRow_base LE (Nat.zero_le _), ownsRow_base OF.out (Nat.zero_le _), ownsRow_base L9 (Nat.zero_le _), ownsRow_base LA (Nat.zero_le _), ownsRow_base LB (Nat.zero_le _)⟩
  have blk : ∀ {ww : World} {bs : Nat} {xo : Option Addr} {l cx : Nat} {vs : List Value}, ww.ownsRow bs 5 1 (.slice xo l cx) l vs → ∀ y, xo = some ⟨y, 0, none⟩ → bs ≤ y ∧ y < ww.heap.size := fun {ww bs xo l cx vs} h y hy => by
    subst hy
    exact h.lt y rfl
  have BLK : Hid ((∀ y, xc = some ⟨y, 0, none⟩ → wb.heap.size ≤ y ∧ y < wc'.heap.size) ∧ (∀ y, xd = some ⟨y, 0, none⟩ → wc'.heap.size ≤ y ∧ y < wd.heap.size) ∧ (∀ y, xe = some ⟨y, 0, none⟩ → wd.heap.size ≤ y ∧ y < we.heap.size) ∧ (∀ y, xf = some ⟨y, 0, none⟩ → we.heap.size ≤ y ∧ y < wf.heap.size) ∧
      (∀ y, x9 = some ⟨y, 0, none⟩ → w8.heap.size ≤ y ∧ y < w9.heap.size) ∧ (∀ y, xa = some ⟨y, 0, none⟩ → w9.heap.size ≤ y ∧ y < wa.heap.size) ∧ (∀ y, xb = some ⟨y, 0, none⟩ → wa.heap.size ≤ y ∧ y < wb.heap.size)) :=
    ⟨blk OC.out, blk OD.out, blk OE.out, blk OF.out, blk O9.out, blk OA.out, blk OB.out⟩
  clear of kf hq4 rdf L9 LA LB LC LD LE blk nr R1 R2 W1 W2 RE1 OC OD OE OF O9 OA OB KC KD KE KF B9 BA BA' BB BB' D8
  have hsl1 := sl_pre (ao := ao) (m := m) (c := c) (by omega) k hkm
  obtain ⟨so, hsl2, hss⟩ := HSY.out.suf HCN.out (by omega) k hkm
  have HSS : Hid (Seen w so (m - k) (ys.drop k)) := hss
  clear hss
  go_wp2
  go_region_held3 (fun _ => True) (trivial) (first | fail)
  obtain ⟨W, hW⟩ : ∃ W, ((wf.alloc (.cells #[.slice xc k k, .slice xd (m - k) (m - k), .slice xe k k, .slice xf (m - k) (m - k), .slice x9 m c9, .slice xa m ca, .slice xb m cb] 26)).alloc (.cells #[.slice ao k c, .slice so (m - k) (c - k), .slice ao k c, .slice so (m - k) (c - k), .slice ao m c, .slice ao m c, .slice ao m c] 26)).drew = W := ⟨_, rfl⟩
  rw [hW]
  have BW : Below wf.heap.size wf W := by rw [← hW]; exact (((Below.refl _ _).alloc (Nat.le_refl _) _).alloc (by simp) _).drew
  have cA : ∀ t, W.cell? ⟨wf.heap.size, t, none⟩ = [Value.slice xc k k, .slice xd (m - k) (m - k), .slice xe k k, .slice xf (m - k) (m - k), .slice x9 m c9, .slice xa m ca, .slice xb m cb][t]? := fun t => by
    have h : W.heap[wf.heap.size]? = some (.cells #[.slice xc k k, .slice xd (m - k) (m - k), .slice xe k k, .slice xf (m - k) (m - k), .slice x9 m c9, .slice xa m ca, .slice xb m cb] 26 (0, 0)) := by
      rw [← hW]
      exact (Below.heap_alloc (wf.alloc _) _ wf.heap.size (by simp)).trans (heap_alloc_new wf _)
    rw [cell_of_row _ _ t _ 26 (0, 0) h]
    simp
  have cB : ∀ t, W.cell? ⟨wf.heap.size + 1, t, none⟩ = [Value.slice ao k c, .slice so (m - k) (c - k), .slice ao k c, .slice so (m - k) (c - k), .slice ao m c, .slice ao m c, .slice ao m c][t]? := fun t => by
    have h : W.heap[wf.heap.size + 1]? = some (.cells #[.slice ao k c, .slice so (m - k) (c - k), .slice ao k c, .slice so (m - k) (c - k), .slice ao m c, .slice ao m c, .slice ao m c] 26 (0, 0)) := by
      rw [← hW]
      have := heap_alloc_new (wf.alloc (.cells #[.slice xc k k, .slice xd (m - k) (m - k), .slice xe k k, .slice xf (m - k) (m - k), .slice x9 m c9, .slice xa m ca, .slice xb m cb] 26)) (.cells #[.slice ao k c, .slice so (m - k) (c - k), .slice ao k c, .slice so (m - k) (c - k), .slice ao m c, .slice ao m c, .slice ao m c] 26)
      have hs : (wf.alloc (.cells #[.slice xc k k, .slice xd (m - k) (m - k), .slice xe k k, .slice xf (m - k) (m - k), .slice x9 m c9, .slice xa m ca, .slice xb m cb] 26)).heap.size = wf.heap.size + 1 := by simp
      rw [hs] at this
      exact this
    rw [cell_of_row _ _ t _ 26 (0, 0) h]
    simp
  have zW : wf.heap.size + 2 ≤ W.heap.size := by rw [← hW]; simp
  have BwW : Below w.heap.size w W := ((B1.out.trans (B2.out.mono z1)).trans (Df.out.mono (by omega))).trans (BW.mono (by have := B1.out.size; omega))
  have sO : ∀ {xo : Option Addr} {l cx : Nat} {xs : List Int}, xs.length = l → Bytes xs → l ≤ 140737488355328 → wf.ownsRow 0 5 1 (.slice xo l cx) l (xs.map (Value.int .u8)) → Seen W xo l xs := fun {xo l cx xs} h1 h2 h3 ho => by
    obtain ⟨vo', cv', e', s', _⟩ := own_seen h1 h2 h3 ho
    simp only [Value.slice.injEq] at e'
    rw [e'.1]
    exact s'.later BW (Nat.le_refl _)
  have s0 := sO HX12.out.1 (bytes_take HY.out.2 k) (by omega) OWN.out.1
  have s1' := sO HX12.out.2 (bytes_drop HY.out.2 k) (by omega) OWN.out.2.1
  have s2' := sO HX12.out.1 (bytes_take HY.out.2 k) (by omega) OWN.out.2.2.1
  have s3' := sO HX12.out.2 (bytes_drop HY.out.2 k) (by omega) OWN.out.2.2.2.1
  have s4' := sO HY.out.1 HY.out.2 (by omega) OWN.out.2.2.2.2.1
  have s5' := sO HY.out.1 HY.out.2 (by omega) OWN.out.2.2.2.2.2.1
  have s6' := sO HY.out.1 HY.out.2 (by omega) OWN.out.2.2.2.2.2.2
  have t0 := (HSY.out.pre k hkm).later BwW (Nat.le_refl _)
  have t1 := HSS.out.later BwW (Nat.le_refl _)
  have t2 := HSY.out.later BwW (Nat.le_refl _)
  have PAIR : Hid (∀ t, t < 7 → ∃ v1 L d1 v2 d2 xs, W.cell? ⟨wf.heap.size, t, none⟩ = some (.slice v1 L d1) ∧ W.cell? ⟨wf.heap.size + 1, t, none⟩ = some (.slice v2 L d2) ∧ Seen W v1 L xs ∧ Seen W v2 L xs) := fun t ht => by
    rcases (by omega : t = 0 ∨ t = 1 ∨ t = 2 ∨ t = 3 ∨ t = 4 ∨ t = 5 ∨ t = 6) with rfl | rfl | rfl | rfl | rfl | rfl | rfl
    · exact ⟨_, _, _, _, _, _, cA 0, cB 0, s0, t0⟩
    · exact ⟨_, _, _, _, _, _, cA 1, cB 1, s1', t1⟩
    · exact ⟨_, _, _, _, _, _, cA 2, cB 2, s2', t0⟩
    · exact ⟨_, _, _, _, _, _, cA 3, cB 3, s3', t1⟩
    · exact ⟨_, _, _, _, _, _, cA 4, cB 4, s4', t2⟩
    · exact ⟨_, _, _, _, _, _, cA 5, cB 5, s5', t2⟩
    · exact ⟨_, _, _, _, _, _, cA 6, cB 6, s6', t2⟩
  have LOT : Hid (Lot W wf.heap.size 7 (fun j => [xc, xd, xe, xf, x9, xa, xb].getD j none) (fun j => [k, m - k, k, m - k, m, m, m].getD j 0) (fun j => [k, m - k, k, m - k, c9, ca, cb].getD j 0) (fun j => [cc, cd, ce, cf, c9, ca, cb].getD j 0) (fun j => [ys.take k, ys.drop k, ys.take k, ys.drop k, ys, ys, ys].getD j [])) := by
    have lw : ∀ {v : Value} {n : Nat} {xs : List Value}, wf.ownsRow 0 5 1 v n xs → W.ownsRow 0 5 1 v n xs := fun h => ownsRow_below h BW
    have hb := BLK.out
    refine ⟨by omega, fun j hj => ?_, fun j hj => ?_, fun j hj => ?_, fun j j' y hj hj' e e' => ?_, fun j y hj e => ?_⟩
    · rcases (by omega : j = 0 ∨ j = 1 ∨ j = 2 ∨ j = 3 ∨ j = 4 ∨ j = 5 ∨ j = 6) with rfl | rfl | rfl | rfl | rfl | rfl | rfl <;> exact cA _
    · rcases (by omega : j = 0 ∨ j = 1 ∨ j = 2 ∨ j = 3 ∨ j = 4 ∨ j = 5 ∨ j = 6) with rfl | rfl | rfl | rfl | rfl | rfl | rfl
      · exact lw OWN.out.1
      · exact lw OWN.out.2.1
      · exact lw OWN.out.2.2.1
      · exact lw OWN.out.2.2.2.1
      · exact lw OWN.out.2.2.2.2.1
      · exact lw OWN.out.2.2.2.2.2.1
      · exact lw OWN.out.2.2.2.2.2.2
    · rcases (by omega : j = 0 ∨ j = 1 ∨ j = 2 ∨ j = 3 ∨ j = 4 ∨ j = 5 ∨ j = 6) with rfl | rfl | rfl | rfl | rfl | rfl | rfl
      · exact .inr rfl
      · exact .inr rfl
      · exact .inr rfl
      · exact .inr rfl
      · exact .inl rfl
      · exact .inl rfl
      · exact .inl rfl
    · have lo : ∀ j, j < 7 → [xc, xd, xe, xf, x9, xa, xb].getD j none = some ⟨y, 0, none⟩ → [wb.heap.size, wc'.heap.size, wd.heap.size, we.heap.size, w8.heap.size, w9.heap.size, wa.heap.size].getD j 0 ≤ y ∧ y < [wc'.heap.size, wd.heap.size, we.heap.size, wf.heap.size, w9.heap.size, wa.heap.size, wb.heap.size].getD j 0 := fun j hj e => by
        rcases (by omega : j = 0 ∨ j = 1 ∨ j = 2 ∨ j = 3 ∨ j = 4 ∨ j = 5 ∨ j = 6) with rfl | rfl | rfl | rfl | rfl | rfl | rfl
        · exact hb.1 y e
        · exact hb.2.1 y e
        · exact hb.2.2.1 y e
        · exact hb.2.2.2.1 y e
        · exact hb.2.2.2.2.1 y e
        · exact hb.2.2.2.2.2.1 y e
        · exact hb.2.2.2.2.2.2 y e
      have h1 := lo j hj e
      have h2 := lo j' hj' e'
      rcases (by omega : j = 0 ∨ j = 1 ∨ j = 2 ∨ j = 3 ∨ j = 4 ∨ j = 5 ∨ j = 6) with rfl | rfl | rfl | rfl | rfl | rfl | rfl <;> rcases (by omega : j' = 0 ∨ j' = 1 ∨ j' = 2 ∨ j' = 3 ∨ j' = 4 ∨ j' = 5 ∨ j' = 6) with rfl | rfl | rfl | rfl | rfl | rfl | rfl <;> first | rfl | (exfalso; simp only [List.getD_cons_zero, List.getD_cons_succ] at h1 h2; omega)
    · rcases (by omega : j = 0 ∨ j = 1 ∨ j = 2 ∨ j = 3 ∨ j = 4 ∨ j = 5 ∨ j = 6) with rfl | rfl | rfl | rfl | rfl | rfl | rfl
      · have := hb.1 y e; omega
      · have := hb.2.1 y e; omega
      · have := hb.2.2.1 y e; omega
      · have := hb.2.2.2.1 y e; omega
      · have := hb.2.2.2.2.1 y e; omega
      · have := hb.2.2.2.2.2.1 y e; omega
      · have := hb.2.2.2.2.2.2 y e; omega
  have BWh : Hid (Below wf.heap.size wf W ∧ Below w.heap.size w W) := ⟨BW, BwW⟩
  clear hW cA cB BW BwW sO s0 s1' s2' s3' s4' s5' s6' t0 t1 t2 hsl1 hsl2
  go_wp2
  go_loopw [20] (fun a wr => ∃ t : Nat, t ≤ 7 ∧ a = .int .i64 t ∧ ∃ q, wr = W.drewN q) (fun a _ => 7 - (intOf a).toNat)
  case atStart => exact ⟨0, Nat.zero_le _, rfl, 0, rfl⟩
  case round =>
    obtain ⟨t, ht, rfl, q, rfl⟩ := hrel
    by_cases hlt : t < 7
    · obtain ⟨p1, L, d1, p2, d2, xs, q1, q2, sa, sb⟩ := PAIR.out t hlt
      have sa' : ∀ j, Seen (W.drewN j) p1 L xs := fun j => sa.drewN j
      have sb' : ∀ j, Seen (W.drewN j) p2 L xs := fun j => sb.drewN j
      generalize hO : wf.heap.size = O at *
      have i1 : (0 : Int) ≤ (t : Int) := by omega
      have i2 : (t : Int) < 7 := by omega
      clear sa sb hO
      go_wp2
      go_region_held3 (fun w' => w'.cell? ⟨O, t, none⟩ = some (.slice p1 L d1) ∧ w'.cell? ⟨O + 1, t, none⟩ = some (.slice p2 L d2)) (go_keep) (first | (go_at_call 19; refine (same_yes p1 p2 L L d1 d2 xs _ (sa' (q + 1)) (sb' (q + 1))).mono ?_; rintro en _ ⟨rfl, q3, rfl⟩))
      go_wp2
      go_roundw
      case rel => exact ⟨t + 1, by omega, by go_num, _, by first | rfl | (rw [World.drewN_drewN])⟩
      case measure => simp [intOf]; omega
    · obtain rfl : t = 7 := by omega
      have LS : ∀ y, LotS 7 (fun j => [xc, xd, xe, xf, x9, xa, xb].getD j none) y → w8.heap.size ≤ y ∧ y < wf.heap.size := fun y ⟨j, hj, e⟩ => by
        have hb := BLK.out
        rcases (by omega : j = 0 ∨ j = 1 ∨ j = 2 ∨ j = 3 ∨ j = 4 ∨ j = 5 ∨ j = 6) with rfl | rfl | rfl | rfl | rfl | rfl | rfl
        · have := hb.1 y e; omega
        · have := hb.2.1 y e; omega
        · have := hb.2.2.1 y e; omega
        · have := hb.2.2.2.1 y e; omega
        · have := hb.2.2.2.2.1 y e; omega
        · have := hb.2.2.2.2.2.1 y e; omega
        · have := hb.2.2.2.2.2.2 y e; omega
      have hap := apart_any wf.heap.size 7 7 _ _ _ _ _ (W.drewN q) (LOT.out.later (below_dn (Below.refl W.heap.size W) q) (Nat.le_refl _)) (by decide) (fun j hj => by
        rcases (by omega : j = 0 ∨ j = 1 ∨ j = 2 ∨ j = 3 ∨ j = 4 ∨ j = 5 ∨ j = 6) with rfl | rfl | rfl | rfl | rfl | rfl | rfl
        · show k + 100 ≤ _; omega
        · show (m - k) + 100 ≤ _; omega
        · show k + 100 ≤ _; omega
        · show (m - k) + 100 ≤ _; omega
        · show m + 100 ≤ _; omega
        · show m + 100 ≤ _; omega
        · show m + 100 ≤ _; omega)
      have n8 := NE12.out
      have FW : Hid (∀ wx, Kept (LotS 7 (fun j => [xc, xd, xe, xf, x9, xa, xb].getD j none)) (W.drewN q) wx → RowAt wx g (ys ++ marks) ∧ Seen wx ao m ys ∧ Wr wx s1 v1 m ys 0 ∧ Wr wx s2 v2 m ys 0 ∧ Rd wx r1 ao1 c1 ys (k + (m - k)) 0 ∧ Rd wx r2 ao2 c2 ys (k + (m - k)) 0 ∧ Below w.heap.size w wx) := fun wx hK => by
        have hK' : Kept (LotS 7 (fun j => [xc, xd, xe, xf, x9, xa, xb].getD j none)) W wx := ⟨hK.os, hK.tape, hK.output, hK.size, hK.block⟩
        have no : ∀ y, y < w8.heap.size → ¬ LotS 7 (fun j => [xc, xd, xe, xf, x9, xa, xb].getD j none) y := fun y hy h => by have := LS y h; omega
        have b2W : Below w2.heap.size w2 W := Df.out.trans (BWh.out.1.mono (by omega))
        have b2x : Below w2.heap.size w2 wx := b2W.trans (hK'.below (by omega) (fun y hy => by have := LS y hy; omega))
        have bwx : Below w.heap.size w wx := (B1.out.trans (B2.out.mono z1)).trans (b2x.mono (by have := B1.out.size; omega))
        refine ⟨ROW.out.later b2x (Nat.le_refl _), HSY.out.later bwx (Nat.le_refl _), (W1f.out.later BWh.out.1 (Nat.le_refl _)).kept hK' (no s1 (by omega)) (fun y hy => no y (LW.out.1 y hy)), (W2f.out.later BWh.out.1 (Nat.le_refl _)).kept hK' (no s2 (by omega)) (fun y hy => no y (LW.out.2 y hy)),
          (RE1'.out.later BWh.out.1 (Nat.le_refl _)).kept hK' (no r1 (by omega)) (fun y hy => no y (LA1.out y hy).2), (RE2.out.later BWh.out.1 (Nat.le_refl _)).kept hK' (no r2 (by omega)) (fun y hy => no y (LA2.out y hy).2), bwx⟩
      have hdl : dnL m ys 0 = ys ∧ dnE m ys 0 = 0 := by
        have h1 : ¬ ys.length < m := by have := HY.out.1; omega
        simp [dnL, dnE, h1]
      have hkk : k + (m - k) = m := by omega
      have HKK : Hid (k + (m - k) = m) := hkk
      clear LS n8 hkk LOT PAIR OWN BLK
      go_wp2_with fail
      refine hap.mono ?_
      rintro en wh ⟨rfl, kh⟩
      obtain ⟨f1, f2, f3, f4, f5, f6, f7⟩ := FW.out wh kh
      rw [HKK.out] at f5 f6
      have FS : Hid (∀ q, Wr (wh.drewN q) s1 v1 m ys 0 ∧ Wr (wh.drewN q) s2 v2 m ys 0 ∧ Rd (wh.drewN q) r1 ao1 c1 ys m 0 ∧ Rd (wh.drewN q) r2 ao2 c2 ys m 0 ∧ Seen (wh.drewN q) ao m ys ∧ Below w.heap.size w (wh.drewN q)) := fun q => ⟨f3.drewN q, f4.drewN q, f5.drewN q, f6.drewN q, f2.drewN q, below_dn f7 q⟩
      have hst := still_yes g m cap ao c ys wh f1 lcap lmax f2
      clear f1 f2 f3 f4 f5 f6 f7 kh hap FW
      go_wp2_with fail
      refine hst.mono ?_
      rintro en _ ⟨rfl, q2, rfl⟩
      obtain ⟨f3, f4, f5, f6, f2, f7⟩ := FS.out q2
      generalize wh.drewN q2 = wi at *
      have hd1 := done_any s1 v1 m ys 0 wi f3
      rw [hdl.1, hdl.2, HY.out.1] at hd1
      clear hst FS
      go_wp2_with fail
      refine hd1.mono ?_
      rintro en wj ⟨uj, rfl, oj, bj⟩
      obtain ⟨yj, ej, rfl, sj, _⟩ := own_seen HY.out.1 HY.out.2 (by omega) oj
      have hd2 := done_any s2 v2 m ys 0 wj (f4.later bj (Nat.le_refl _))
      rw [hdl.1, hdl.2, HY.out.1] at hd2
      have zj := bj.size
      clear hd1 oj
      go_wp2_with fail
      refine hd2.mono ?_
      rintro en wl ⟨ul, rfl, ol, bl⟩
      obtain ⟨yl, el, rfl, sl, _⟩ := own_seen HY.out.1 HY.out.2 (by omega) ol
      have bil : Below wi.heap.size wi wl := bj.trans (bl.mono zj)
      have g1 := f5.later bil (Nat.le_refl _)
      have g2 := f6.later bil (Nat.le_refl _)
      have g3 := f2.later bil (Nat.le_refl _)
      have g4 := sj.later bl (Nat.le_refl _)
      have GB : Hid (∀ q, Below w.heap.size w (wl.drewN q)) := fun q => below_dn (f7.trans (bil.mono f7.size)) q
      have hs1 := same_yes yj ao m m ej c ys wl g4 g3
      have hs2 := fun q => same_yes yl ao m m el c ys (wl.drewN q) (sl.drewN q) (g3.drewN q)
      have hlf := fun q => left_any r1 ao1 c1 ys m 0 (wl.drewN q) (g1.drewN q)
      have hen := fun q => end_any r2 ao2 c2 ys m 0 (wl.drewN q) (g2.drewN q)
      have e1 : endE m m 0 = 0 := by simp [endE]
      simp only [HY.out.1, e1, Int.sub_self] at hlf hen
      clear hd2 ol bl bj bil f2 f3 f4 f5 f6 f7 sj sl g1 g2 g3 g4 e1 hdl
      go_wp2_with fail
      refine hs1.mono ?_
      rintro en _ ⟨rfl, q4, rfl⟩
      go_wp2_with fail
      refine (hs2 q4).mono ?_
      rintro en _ ⟨rfl, q5, rfl⟩
      rw [World.drewN_drewN]
      go_wp2_with fail
      refine (hlf (q4 + q5)).mono ?_
      rintro en _ ⟨rfl, q6, rfl⟩
      rw [World.drewN_drewN]
      go_wp2_with fail
      refine (hen (q4 + q5 + q6)).mono ?_
      rintro en _ ⟨rfl, q7, rfl⟩
      rw [World.drewN_drewN]
      go_wp2
      go_ret
      exact ⟨rfl, GB.out _⟩
end Go.Proofs.Ytkkiceldlcfjiab
