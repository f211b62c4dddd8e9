/- For every lists of bytes and place, of bulk at most 1048576 together: Row answers the document's list or error, in new memory each time, changes nothing of what was handed in, and keeps nothing of it: trystlaw01.MaskRows returns true. Condition: the bulk. -/
import Derived.Test.YtldfbbgboelngabSpread
import Derived.ProofKit
import Derived.OpenShut
import Derived.ShutString
import Derived.ChangeOld
import Derived.SizedLaws
namespace Go.Proofs.Ytldfbbgboelngab.maskRows
open Go.ChangeShapes Go.WideShapes Go.ChangeAt Go.RowKit
set_option linter.unusedVariables false
set_option linter.unusedSimpArgs false

theorem rrow_to (ao : Option Addr) (n c : Nat) (zss : List (List Int)) (a : Int) (ha : -9223372036854775808 ≤ a ∧ a ≤ 9223372036854775807) (R : List Int) (E : Int) (hR : rowOf zss a = (R, E)) (hb : Bytes R) (ht : R.length ≤ 140737488355328) (w : World) (hx : SeenL w ao n zss) :
    Calls Try.prog 47 #[.slice ao n c, .int .i64 a] w fun e w' => ∃ vo cv, e = .returned (.tuple #[.slice vo R.length cv, .int .i64 E]) ∧ Seen w' vo R.length R ∧ (∀ b o, vo = some ⟨b, o, none⟩ → w.heap.size ≤ b) ∧ Below w.heap.size w w' := by
  refine (rrow_any ao n c zss a ha w hx).mono ?_
  rintro e w' ⟨v, he, ho, hbl⟩
  rw [hR] at he ho
  obtain ⟨vo, cv, rfl, hs, hl⟩ := own_seen rfl hb ht ho
  exact ⟨vo, cv, he, hs, hl, hbl⟩
theorem mrow_to (ao : Option Addr) (n c : Nat) (zss : List (List Int)) (a : Int) (ha : -9223372036854775808 ≤ a ∧ a ≤ 9223372036854775807) (R : List Int) (E : Int) (hR : rowOf zss a = (R, E)) (w : World) (hx : SeenL w ao n zss) :
    Calls Try.prog 22 #[.slice ao n c, .int .i64 a] w fun e w' => ∃ vo, e = .returned (.tuple #[.slice vo R.length R.length, .int .i64 E]) ∧ Fresh w.heap.size w' vo R ∧ Below w.heap.size w w' := by
  refine (mrow_any ao n c zss a ha w hx).mono ?_
  rintro e w' ⟨vo, he, hf, hbl⟩
  rw [hR] at he hf
  exact ⟨vo, he, hf, hbl⟩

set_option maxRecDepth 20000 in
set_option maxHeartbeats 8000000 in
theorem walk (ao : Option Addr) (n c : Nat) (zss : List (List Int)) (a : Int) (w : World) (hx : SeenL w ao n zss) (ht : offs zss n ≤ 134217728) (ha : -9223372036854775808 ≤ a ∧ a ≤ 9223372036854775807) :
    Calls Try.prog 21 #[.slice ao n c, .int .i64 a] w fun e w' => e = .returned (.bool true) ∧ Below w.heap.size w w' := by
  have hBT : ∀ i, i < n → Bytes (zss.getD i []) ∧ lenAt zss i ≤ 134217728 := by
    intro i hi
    obtain ⟨_, _, _, _, _, _, _, hs⟩ := hx.cells i hi
    refine ⟨hs.bytes, ?_⟩
    have h1 := offs_le zss (i + 1) n (by omega) (by rw [hx.len]; exact Nat.le_refl _)
    rw [offs_succ zss i (by rw [hx.len]; exact hi)] at h1
    omega
  have HBT : Hid _ := hBT
  have HN : Hid (zss.length = n ∧ n ≤ 1048576) := ⟨hx.len, hx.top⟩
  have tn : n ≤ 1048576 := hx.top
  obtain ⟨R, E, hR⟩ : ∃ R E, rowOf zss a = (R, E) := ⟨_, _, rfl⟩
  have HR : Hid (rowOf zss a = (R, E)) := hR
  have hRB : Bytes R ∧ R.length ≤ 134217728 := by
    have h := hR
    unfold rowOf at h
    split at h
    · simp at h; rw [h.1]; exact ⟨fun z hz => (by cases hz), (by decide)⟩
    · rename_i h1
      split at h
      · simp only [Prod.mk.injEq] at h
        rw [← h.1]
        have := hBT a.toNat (by have := HN.out.1; omega)
        exact ⟨this.1, this.2⟩
      · simp at h; rw [h.1]; exact ⟨fun z hz => (by cases hz), (by decide)⟩
  have HRB : Hid _ := hRB
  clear hR hBT hRB
  obtain ⟨N, hN⟩ : ∃ N, offs zss n = N := ⟨_, rfl⟩
  have HOF : Hid (offs zss n = N) := hN
  have htN : N ≤ 134217728 := by omega
  go_enter Try.func21, Try.ntmps21
  go_wp2_with fail
  refine (rrows_any ao n c zss w hx (by omega)).mono ?_
  rintro e w1 ⟨v1, rfl, o1, b1⟩
  obtain ⟨fo, cf, g, rfl, hcf, hcm, hfo, hsf⟩ : ∃ fo cf g, v1 = .slice fo N cf ∧ N ≤ cf ∧ cf ≤ maxLen ∧ (0 < n → fo = some ⟨g, 0, none⟩ ∧ w.heap.size ≤ g ∧ RowAt w1 g (flat zss n)) ∧ Seen w1 fo N (flat zss n) := by
    rw [hN] at o1
    have hfb : Bytes (flat zss n) := flat_bytes zss n (by rw [HN.out.1]; exact Nat.le_refl _) (fun i hi => (HBT.out i hi).1)
    rcases own_len (zs := flat zss n) hN o1 with ⟨rfl, h0⟩ | ⟨g, cap, rfl, hr, hg, h1, h2⟩
    · refine ⟨none, 0, 0, by rw [h0], by omega, by unfold maxLen; omega, fun h => ?_, ?_⟩
      · have h1 := offs_le zss 1 n (by omega) (by rw [HN.out.1]; exact Nat.le_refl _)
        rw [offs_succ zss 0 (by have := HN.out.1; omega)] at h1
        omega
      · have : flat zss n = [] := List.length_eq_zero_iff.1 (by show offs zss n = 0; omega)
        rw [this, h0]; exact Seen.empty _ _
    · refine ⟨_, cap, g, rfl, h1, h2, fun _ => ⟨rfl, hg, hr⟩, ?_⟩
      have hfl : (flat zss n).length = N := hN
      have := Seen.of_row (n := N) hr (by omega) (by omega) hfb
      rwa [List.take_of_length_le (by omega)] at this
  have hx1 := hx.since b1
  clear o1
  go_wp2_with fail
  rw [← hN]
  refine (cut_any fo g cf ao n c zss w1 hx1 (by omega) (fun h => (hfo h).1) (by omega) hcm).mono ?_
  rintro e w2 ⟨v2, rfl, o2, b2⟩
  rw [hN]
  have HF : Hid (0 < n → fo = some ⟨g, 0, none⟩ ∧ w.heap.size ≤ g ∧ RowAt w1 g (flat zss n)) := hfo
  obtain ⟨lo, cl, O, rfl, hlo⟩ : ∃ lo cl O, v2 = .slice lo n cl ∧ (0 < n → lo = some ⟨O, 0, none⟩ ∧ w1.heap.size ≤ O ∧ O < w2.heap.size ∧ ∀ j, j < n → w2.cell? ⟨O, j, none⟩ = some (.slice (some ⟨g, offs zss j, none⟩) (lenAt zss j) (cf - offs zss j))) := by
    rcases o2.2 with ⟨rfl, h0⟩ | ⟨O, cl, cur, rfl, hO, hh, r⟩
    · exact ⟨none, 0, 0, by rw [h0], fun h => by omega⟩
    · refine ⟨_, cl, O, rfl, fun _ => ⟨rfl, hO, lt_of_block hh, fun j hj => ?_⟩⟩
      rw [o2.cellAt j (by omega)]
      simp [cuts, hj]
  have HO : Hid _ := hlo
  have z1 := b1.size
  have z2 := b2.size
  have B2 : Hid (Below w.heap.size w w2) := b1.trans (b2.mono z1)
  have hx2 := hx1.since b2
  have SF : Hid (Seen w2 fo N (flat zss n)) := hsf.later b2 (Nat.le_refl _)
  have RG : Hid (0 < n → RowAt w2 g (flat zss n) ∧ g < w1.heap.size) := fun h => ⟨(hfo h).2.2.later b2 (Nat.le_refl _), (hfo h).2.2.lt⟩
  have SPL : Hid (Spread w2 (fun j => (g, offs zss j)) n (lenAt zss) (byteAt zss)) := by
    by_cases h0 : 0 < n
    · obtain ⟨hr, hg1⟩ := RG.out h0
      refine ⟨fun j t hj htt => ⟨hr.lt, ?_, hr.frozen _⟩, fun j t j' t' hj htt hj' ht' _ he => ?_⟩
      · have q1 := offs_le zss (j + 1) n (by omega) (by rw [HN.out.1]; exact Nat.le_refl _)
        rw [offs_succ zss j (by rw [HN.out.1]; exact hj)] at q1
        rw [hr.cell (offs zss j + t) (by show _ < offs zss n; omega), flat_getD zss n (by rw [HN.out.1]; exact Nat.le_refl _) j t hj htt]
        rfl
      · have he' : offs zss j + t = offs zss j' + t' := he
        rcases Nat.lt_trichotomy j j' with h | h | h
        · have q1 := offs_le zss (j + 1) j' (by omega) (by rw [HN.out.1]; omega)
          rw [offs_succ zss j (by rw [HN.out.1]; exact hj)] at q1
          omega
        · subst h; exact ⟨rfl, by omega⟩
        · have q1 := offs_le zss (j' + 1) j (by omega) (by rw [HN.out.1]; omega)
          rw [offs_succ zss j' (by rw [HN.out.1]; exact hj')] at q1
          omega
    · exact ⟨fun j t hj => by omega, fun j t j' t' hj => by omega⟩
  have SL : Hid (SeenLB (fun b => b = O ∨ b = g) w2 lo n zss) := by
    by_cases h0 : 0 < n
    · obtain ⟨e, h1, h2, h3⟩ := hlo h0
      rw [e]
      exact SeenLB.of_spread (V := fun j => (some ⟨g, offs zss j, none⟩, cf - offs zss j)) (A := fun j => (g, offs zss j)) HN.out.1 HN.out.2 h2 (.inl rfl) h3 (fun j _ _ => ⟨rfl, .inr rfl⟩) SPL.out (fun i hi => ⟨(HBT.out i hi).1, by have := (HBT.out i hi).2; omega⟩)
    · exact ⟨HN.out.1, HN.out.2, fun i hi => by omega⟩
  have sl2 := SL.out.plain
  clear o2 b1 b2 hx1 hfo hlo hsf hx
  go_wp2_with fail
  refine (rrow_to ao n c zss a ha R E HR.out HRB.out.1 (by have := HRB.out.2; omega) w2 hx2).mono ?_
  rintro e w3 ⟨wo, cw, rfl, s3, l3, b3⟩
  have z3 := b3.size
  have OLD3 := s3.old (Nat.le_refl _)
  have sl3 := sl2.since b3
  have hx3 := hx2.since b3
  clear sl2 hx2
  go_wp2_with fail
  refine (mrow_to lo n cl zss a ha R E HR.out w3 sl3).mono ?_
  rintro e w4 ⟨p1, rfl, f1, b4⟩
  have z4 := b4.size
  have sl4 := sl3.since b4
  have hx4 := hx3.since b4
  clear sl3 hx3
  go_wp2_with fail
  refine (mrow_to lo n cl zss a ha R E HR.out w4 sl4).mono ?_
  rintro e w5 ⟨p2, rfl, f2, b5⟩
  have z5 := b5.size
  have hx5 := hx4.since b5
  have f15 := f1.later b5 (Nat.le_refl _)
  have s5 := (s3.later b4 (Nat.le_refl _)).later b5 (Nat.le_refl _)
  have SF5 : Hid (Seen w5 fo N (flat zss n)) := ((SF.out.later b3 (Nat.le_refl _)).later b4 (Nat.le_refl _)).later b5 (Nat.le_refl _)
  have G1 : Hid (∀ b o, 0 < R.length → p1 = some ⟨b, o, none⟩ → w3.heap.size ≤ b ∧ b < w4.heap.size) := by
    intro b o h0 e
    obtain ⟨g', e', hg', hr'⟩ := f1.row h0
    rw [e] at e'; simp at e'
    have := hr'.lt
    omega
  have G2 : Hid (∀ b o, 0 < R.length → p2 = some ⟨b, o, none⟩ → w4.heap.size ≤ b ∧ b < w5.heap.size) := by
    intro b o h0 e
    obtain ⟨g', e', hg', hr'⟩ := f2.row h0
    rw [e] at e'; simp at e'
    have := hr'.lt
    omega
  have L3 : Hid (∀ b o, 0 < R.length → wo = some ⟨b, o, none⟩ → w2.heap.size ≤ b ∧ b < w3.heap.size) := fun b o h0 e => ⟨l3 b o e, OLD3 b o h0 e⟩
  clear f1 s3 l3 OLD3 sl4 hx4 SF
  go_wp2_with fail
  refine (rsame_yes _ _ _ _ _ R w5 f15.seen s5).mono ?_
  rintro e _ ⟨rfl, q1, rfl⟩
  go_wp2_with fail
  refine (rsame_yes _ _ _ _ _ R _ (f2.seen.drewN _) (s5.drewN _)).mono ?_
  rintro e _ ⟨rfl, q2, rfl⟩
  go_wp2_with fail
  refine (rrows_any ao n c zss _ (hx5.drewN _) (by have := HOF.out; omega)).mono ?_
  rintro e w6 ⟨v6, rfl, o6, b6⟩
  have b6' : Below w5.heap.size w5 w6 := (below_ahead b6)
  have z6 := b6'.size
  obtain ⟨uo, cu, rfl, su, lu⟩ := own_seen rfl (flat_bytes zss n (by rw [HN.out.1]; exact Nat.le_refl _) (fun i hi => (HBT.out i hi).1)) (by have := HOF.out; show offs zss n ≤ _; omega) o6
  have hoN : (flat zss n).length = N := HOF.out
  rw [hoN] at su
  rw [hoN]
  have sf6 := SF5.out.later b6' (Nat.le_refl _)
  have hx6 := hx5.since b6'
  clear o6 lu hoN
  go_wp2_with fail
  refine (rsame_yes _ _ _ _ _ (flat zss n) w6 sf6 su).mono ?_
  rintro e _ ⟨rfl, q3, rfl⟩
  clear sf6 su SF5 hx5 b6
  go_wp2_with fail
  refine (twins_any ao n c zss _ (hx6.drewN _)).mono ?_
  rintro e w7 ⟨v7, hd, rfl, o7, b7⟩
  have b7' : Below w6.heap.size w6 w7 := (below_ahead b7)
  have z7 := b7'.size
  obtain ⟨to, ct, OT, rfl, hto⟩ : ∃ to ct OT, v7 = .slice to n ct ∧ (0 < n → to = some ⟨OT, 0, none⟩ ∧ w6.heap.size ≤ OT ∧ OT < w7.heap.size ∧ ∀ j, j < n → w7.cell? ⟨OT, j, none⟩ = hd[j]?) := by
    rcases o7.outer.2 with ⟨rfl, h0⟩ | ⟨OT, ct, cur, rfl, hO, hh, r⟩
    · exact ⟨none, 0, 0, by rw [h0], fun h => by omega⟩
    · exact ⟨_, ct, OT, rfl, fun _ => ⟨rfl, hO, lt_of_block hh, fun j hj => o7.outer.cellAt j (by omega)⟩⟩
  obtain ⟨spt, hhd⟩ := o7.out
  have B7 : Hid (Below w2.heap.size w2 w7) := b3.trans ((b4.trans ((b5.trans ((b6'.trans (b7'.mono z6)).mono z5)).mono z4)).mono z3)
  have SPT : Hid (Spread w7 (hdA hd) n (lenAt zss) (byteAt zss)) := spt
  have HHD : Hid _ := hhd
  have HTO : Hid _ := hto
  have SP7 : Hid (Spread w7 (fun j => (g, offs zss j)) n (lenAt zss) (byteAt zss)) := SPL.out.later B7.out (Nat.le_refl _)
  have ZT : Hid (∀ j, j < n → 0 < lenAt zss j → w6.heap.size ≤ (hdA hd j).1 ∧ (hdA hd j).1 < w7.heap.size ∧ (hdA hd j).1 ≠ OT) := by
    intro j hj h0
    obtain ⟨_, h2⟩ := hhd j hj
    obtain ⟨_, a2, a3, a4⟩ := h2 h0
    refine ⟨a2, a3, fun e => a4 ?_⟩
    rw [e, (hto (by omega)).1]
    rfl
  have ZS : Hid (w1.heap.size ≤ w2.heap.size ∧ w2.heap.size ≤ w3.heap.size ∧ w3.heap.size ≤ w4.heap.size ∧ w4.heap.size ≤ w5.heap.size ∧ w5.heap.size ≤ w6.heap.size ∧ w6.heap.size ≤ w7.heap.size ∧ w.heap.size ≤ w1.heap.size) := ⟨z2, z3, z4, z5, z6, z7, z1⟩
  have F17 : Hid (Fresh w3.heap.size w7 p1 R) := (f15.later b6' (Nat.le_refl _)).later b7' (Nat.le_refl _)
  have F27 : Hid (Fresh w4.heap.size w7 p2 R) := (f2.later b6' (Nat.le_refl _)).later b7' (Nat.le_refl _)
  have S37 : Hid (Seen w7 wo R.length R) := (s5.later b6' (Nat.le_refl _)).later b7' (Nat.le_refl _)
  clear o7 spt hhd hto b3 b4 b5 b6' b7 b7' f15 f2 s5 hx6 SPL z1 z2 z3 z4 z5 z6 z7
  obtain ⟨S, hS⟩ : ∃ S : Nat → Prop, S = fun b => (0 < n ∧ b = g) ∨ ∃ j, j < n ∧ 0 < lenAt zss j ∧ b = (hdA hd j).1 := ⟨_, rfl⟩
  have HS : Hid _ := hS
  have QO : Hid (0 < n → ∀ W, Kept S w7 W → ∀ j, j < n → W.cell? ⟨O, j, none⟩ = some (.slice (some ⟨g, offs zss j, none⟩) (lenAt zss j) (cf - offs zss j))) := by
    intro h0 W hk j hj
    obtain ⟨_, o2, o3, o4⟩ := HO.out h0
    have g2 := (RG.out h0).2
    have nO : ¬ S O := by
      rw [hS]
      rintro (h | ⟨j, h1, h2, h3⟩)
      · omega
      · have := ZT.out j h1 h2; have := ZS.out; omega
    exact (hk.cell (p := ⟨O, j, none⟩) (by have := ZS.out; show O < _; omega) nO).trans ((B7.out.cell (p := ⟨O, j, none⟩) o3).trans (o4 j hj))
  have QT : Hid (0 < n → ∀ W, Kept S w7 W → ∀ j, j < n → W.cell? ⟨OT, j, none⟩ = some (.slice (hdV hd j).1 (lenAt zss j) (hdV hd j).2)) := by
    intro h0 W hk j hj
    obtain ⟨_, t2, t3, t4⟩ := HTO.out h0
    have g2 := (RG.out h0).2
    have nT : ¬ S OT := by
      rw [hS]
      rintro (h | ⟨j, h1, h2, h3⟩)
      · have := ZS.out; omega
      · exact (ZT.out j h1 h2).2.2 h3.symm
    exact (hk.cell (p := ⟨OT, j, none⟩) t3 nT).trans ((t4 j hj).trans (HHD.out j hj).1)
  clear hS
  go_wp2
  go_loopw [14, 15] (fun i _ wr => ∃ k : Nat, k ≤ n ∧ i = .int .i64 k ∧ Spread wr (fun j => (g, offs zss j)) n (lenAt zss) (turn (byteAt zss) k 0) ∧ Spread wr (hdA hd) n (lenAt zss) (turn (byteAt zss) k 0) ∧ Kept S w7 wr) (fun i _ _ => n - (intOf i).toNat)
  case atStart => exact ⟨0, Nat.zero_le _, rfl, by rw [turn_zero]; exact SP7.out, by rw [turn_zero]; exact SPT.out, Kept.refl _ _⟩
  case round =>
    obtain ⟨i, hi, rfl, spl, spt, hkept⟩ := hrel
    by_cases hlt : i < n
    · obtain ⟨rfl, o2, o3, o4⟩ := HO.out (by omega)
      obtain ⟨rfl, t2, t3, t4⟩ := HTO.out (by omega)
      obtain ⟨g1, g2⟩ := RG.out (by omega)
      have Q1 : Hid (∀ W, Kept S w7 W → W.cell? ⟨O, i, none⟩ = some (.slice (some ⟨g, offs zss i, none⟩) (lenAt zss i) (cf - offs zss i))) := fun W hk => QO.out (by omega) W hk i hlt
      have Q2 : Hid (∀ W, Kept S w7 W → W.cell? ⟨OT, i, none⟩ = some (.slice (hdV hd i).1 (lenAt zss i) (hdV hd i).2)) := fun W hk => QT.out (by omega) W hk i hlt
      have TB := (HBT.out i hlt).2
      have c1 := Q1.out wr hkept
      have a1 : (0 : Int) ≤ (i : Int) := by omega
      have a2 : (i : Int) < (n : Int) := by omega
      have H1 : Hid _ := spl
      have H2 : Hid _ := spt
      have H3 : Hid _ := hkept
      have NOG : O ≠ g := by omega
      have NTG : OT ≠ g := by have := ZS.out; omega
      clear spl spt hkept o2 o3 o4 t2 t3 t4 g1 g2
      obtain ⟨L, hL⟩ : ∃ L, lenAt zss i = L := ⟨_, rfl⟩
      obtain ⟨OI, hOI⟩ : ∃ OI, offs zss i = OI := ⟨_, rfl⟩
      have HLL : Hid (lenAt zss i = L ∧ offs zss i = OI) := ⟨hL, hOI⟩
      rw [hL, hOI] at c1
      rw [hL] at TB
      clear hL hOI
      go_wp2
      go_loopw [15] (fun t wr => ∃ k : Nat, k ≤ L ∧ t = .int .i64 k ∧ Spread wr (fun j => (g, offs zss j)) n (lenAt zss) (turn (byteAt zss) i k) ∧ Spread wr (hdA hd) n (lenAt zss) (turn (byteAt zss) i k) ∧ Kept S w7 wr) (fun t _ => L - (intOf t).toNat)
      case atStart => exact ⟨0, Nat.zero_le _, rfl, H1.out, H2.out, H3.out⟩
      case round =>
        clear c1 H1 H2 H3
        obtain ⟨k, hk, rfl, spl, spt, hkept⟩ := hrel
        have c1 := Q1.out wr hkept
        have c2 := Q2.out wr hkept
        rw [HLL.out.1, HLL.out.2] at c1
        rw [HLL.out.1] at c2
        by_cases hlk : k < L
        · have hkl : k < lenAt zss i := by rw [HLL.out.1]; exact hlk
          obtain ⟨e1, ht2⟩ := HHD.out i hlt
          obtain ⟨e2, e3, e4, e5⟩ := ht2 (by omega)
          obtain ⟨gt, hgt⟩ : ∃ gt, (hdA hd i).1 = gt := ⟨_, rfl⟩
          obtain ⟨tc, htc⟩ : ∃ tc, (hdV hd i).2 = tc := ⟨_, rfl⟩
          rw [e2, hgt, htc] at c2
          obtain ⟨X, hX⟩ : ∃ X, byteAt zss i k = X := ⟨_, rfl⟩
          obtain ⟨m1, m2, m3⟩ := spl.cells i k hlt hkl
          obtain ⟨n1, n2, n3⟩ := spt.cells i k hlt hkl
          have m2' : wr.cell? ⟨g, OI + k, none⟩ = some (.int .u8 X) := by rw [← HLL.out.2, m2, turn_here, hX]
          have m3' : wr.frozen? ⟨g, OI + k, none⟩ = false := by rw [← HLL.out.2]; exact m3
          have e0 : (hdA hd i).2 + k = k := by show 0 + k = k; omega
          rw [e0, hgt] at n2 n3
          rw [turn_here, hX] at n2
          have nGT : g ≠ gt := by
            rw [← hgt]
            have := (ZT.out i hlt (by omega)).1
            have := ZS.out
            have := (RG.out (by omega)).2
            omega
          have nTT : gt ≠ OT := by rw [← hgt]; exact (ZT.out i hlt (by omega)).2.2
          have nTO : gt ≠ O := by
            rw [← hgt]
            have := (ZT.out i hlt (by omega)).1
            have := ZS.out
            have := (HO.out (by omega)).2.2.1
            omega
          have X5 : Hid (x5 X = bits .xor .u8 X 90) := rfl
          have R0 : Hid (Spread ((wr.setCell ⟨g, OI + k, none⟩ (.int .u8 (x5 X))).setCell ⟨gt, k, none⟩ (.int .u8 (x5 X))) (fun j => (g, offs zss j)) n (lenAt zss) (turn (byteAt zss) i (k + 1)) ∧ Spread ((wr.setCell ⟨g, OI + k, none⟩ (.int .u8 (x5 X))).setCell ⟨gt, k, none⟩ (.int .u8 (x5 X))) (hdA hd) n (lenAt zss) (turn (byteAt zss) i (k + 1)) ∧ Kept S w7 ((wr.setCell ⟨g, OI + k, none⟩ (.int .u8 (x5 X))).setCell ⟨gt, k, none⟩ (.int .u8 (x5 X)))) := by
            refine ⟨?_, ?_, ?_⟩
            · have h1 := (spl.set hlt hkl (x5 X)).congr (f' := turn (byteAt zss) i (k + 1)) (fun j t _ _ => by rw [← hX]; exact turn_put (byteAt zss) i k j t)
              have h2 : Spread (wr.setCell ⟨g, OI + k, none⟩ (.int .u8 (x5 X))) (fun j => (g, offs zss j)) n (lenAt zss) (turn (byteAt zss) i (k + 1)) := by
                rw [← HLL.out.2]; exact h1
              exact h2.other (p := ⟨gt, k, none⟩) (fun j _ _ => nGT) _
            · have h1 := spt.other (p := ⟨g, OI + k, none⟩) (fun j hj h0 => by
                have := (ZT.out j hj h0).1
                have := ZS.out
                have := (RG.out (by omega)).2
                show (hdA hd j).1 ≠ g
                omega) (.int .u8 (x5 X))
              have h2 := (h1.set hlt hkl (x5 X)).congr (f' := turn (byteAt zss) i (k + 1)) (fun j t _ _ => by rw [← hX]; exact turn_put (byteAt zss) i k j t)
              rw [e0, hgt] at h2
              exact h2
            · refine (hkept.setCell (p := ⟨g, OI + k, none⟩) ?_ _).setCell (p := ⟨gt, k, none⟩) ?_ _
              · rw [HS.out]; exact .inl ⟨by omega, rfl⟩
              · rw [HS.out]; exact .inr ⟨i, hlt, by omega, hgt.symm⟩
          rw [X5.out] at R0
          have a3 : (0 : Int) ≤ (k : Int) := by omega
          have a4 : (k : Int) < (L : Int) := by omega
          clear spl spt hkept e0 e1 e2 e3 e4 e5 ht2 hgt htc hX m1 m2 m3 n1 hkl
          go_wp2
          go_region
          all_goals go_wp2
          all_goals go_region
          all_goals go_wp2
          go_roundw
          case rel => exact ⟨k + 1, by omega, by go_num, R0.out.1.drew.drew, R0.out.2.1.drew.drew, R0.out.2.2.drew.drew⟩
          case measure => simp [intOf]; omega
        · have e : k = L := by omega
          subst e
          have R1 : Hid _ := spl.congr (f' := turn (byteAt zss) (i + 1) 0) (fun j t _ htt => by rw [← HLL.out.1]; exact turn_next (byteAt zss) (lenAt zss) i j t htt)
          have R2 : Hid _ := spt.congr (f' := turn (byteAt zss) (i + 1) 0) (fun j t _ htt => by rw [← HLL.out.1]; exact turn_next (byteAt zss) (lenAt zss) i j t htt)
          have R3 : Hid _ := hkept
          clear spl spt hkept c2
          go_wp2
          go_roundw
          case rel => exact ⟨i + 1, by omega, by go_num, R1.out, R2.out, R3.out⟩
          case measure => simp [intOf]; omega
    · have e : i = n := by omega
      subst e
      obtain ⟨w8, hw8⟩ : ∃ x, x = wr := ⟨_, rfl⟩
      subst hw8
      have spl8 : Spread w8 (fun j => (g, offs zss j)) i (lenAt (turned zss)) (byteAt (turned zss)) := by rw [lenAt_turned]; exact spl.congr (turned_all zss i)
      have spt8 : Spread w8 (hdA hd) i (lenAt (turned zss)) (byteAt (turned zss)) := by rw [lenAt_turned]; exact spt.congr (turned_all zss i)
      have TN : (turned zss).length = i := by rw [turned_length]; exact HN.out.1
      have TBB : ∀ j, j < i → Bytes ((turned zss).getD j []) ∧ lenAt (turned zss) j ≤ 140737488355328 := fun j hj => ⟨turned_bytes zss j (HBT.out j hj).1, by rw [turned_len]; have := (HBT.out j hj).2; omega⟩
      have z8 := hkept.size
      have SL8 : SeenLB (fun b => b = O ∨ b = g) w8 lo i (turned zss) := by
        by_cases h0 : 0 < i
        · obtain ⟨e, o2, o3, o4⟩ := HO.out h0
          rw [e]
          refine SeenLB.of_spread (V := fun j => (some ⟨g, offs zss j, none⟩, cf - offs zss j)) (A := fun j => (g, offs zss j)) TN tn (by have := ZS.out; omega) (.inl rfl) (fun j hj => ?_) (fun j _ _ => ⟨rfl, .inr rfl⟩) spl8 TBB
          rw [turned_len]; exact QO.out h0 w8 hkept j hj
        · exact ⟨TN, tn, fun j hj => by omega⟩
      have ST8 : SeenLB (fun b => w6.heap.size ≤ b ∧ b < w7.heap.size) w8 to i (turned zss) := by
        by_cases h0 : 0 < i
        · obtain ⟨e, t2, t3, t4⟩ := HTO.out h0
          rw [e]
          refine SeenLB.of_spread (V := hdV hd) (A := hdA hd) TN tn (by omega) ⟨t2, t3⟩ (fun j hj => ?_) (fun j hj hl => ?_) spt8 TBB
          · rw [turned_len]; exact QT.out h0 w8 hkept j hj
          · rw [turned_len] at hl
            have := ZT.out j hj hl
            exact ⟨((HHD.out j hj).2 hl).1, this.1, this.2.1⟩
        · exact ⟨TN, tn, fun j hj => by omega⟩
      have nS : ∀ b, w1.heap.size ≤ b → b < w6.heap.size → ¬ S b := by
        intro b h1 h2
        rw [HS.out]
        rintro (h | ⟨j, h3, h4, h5⟩)
        · have := (RG.out h.1).2; omega
        · have := ZT.out j h3 h4; omega
      have F18 : Fresh w3.heap.size w8 p1 R := F17.out.kept hkept (fun b o h0 e => by have := G1.out b o h0 e; have := ZS.out; exact nS b (by omega) (by omega))
      have F28 : Fresh w4.heap.size w8 p2 R := F27.out.kept hkept (fun b o h0 e => by have := G2.out b o h0 e; have := ZS.out; exact nS b (by omega) (by omega))
      have S38 : Seen w8 wo R.length R := S37.out.kept hkept (fun b o h0 e => by have := L3.out b o h0 e; have := ZS.out; exact nS b (by omega) (by omega))
      have B8 : Hid (Below w.heap.size w w8) := by
        have zz := ZS.out
        refine (B2.out.trans (B7.out.mono (by omega))).trans (hkept.below (by omega) (fun b hb => ?_))
        rw [HS.out] at hb
        rcases hb with h | ⟨j, h3, h4, h5⟩
        · rw [h.2]; exact (HF.out h.1).2.1
        · have := ZT.out j h3 h4; omega
      obtain ⟨R', hR'⟩ : ∃ R', R' = R.map x5 := ⟨_, rfl⟩
      have HR' : Hid (rowOf (turned zss) a = (R', E)) := by show _ = _; rw [turned_rowOf, HR.out, hR']
      have HRB' : Hid (Bytes R' ∧ R'.length ≤ 134217728) := by
        rw [hR', List.length_map]
        refine ⟨fun z hz => ?_, HRB.out.2⟩
        obtain ⟨y, hy, rfl⟩ := List.mem_map.1 hz
        exact x5_bd y (HRB.out.1 y hy)
      clear spl spt spl8 spt8 hkept hR' SP7 SPT S37 F17 F27 QO QT nS HHD SL TBB TN
      have sl8 := SL8.plain
      have st8 := ST8.plain
      go_wp2_with fail
      refine (rrow_to to i ct (turned zss) a ha R' E HR'.out HRB'.out.1 (by have := HRB'.out.2; omega) w8 st8).mono ?_
      rintro e w9 ⟨no, cn, rfl, s9, l9, b9⟩
      have z9 := b9.size
      have SL9 := SL8.later b9 (Nat.le_refl _)
      have ST9 := ST8.later b9 (Nat.le_refl _)
      have F19 := F18.later b9 (Nat.le_refl _)
      have F29 := F28.later b9 (Nat.le_refl _)
      have S39 := S38.later b9 (Nat.le_refl _)
      have sl9 := SL9.plain
      clear SL8 ST8 F18 F28 S38 sl8 st8 l9
      go_wp2_with fail
      refine (mrow_to lo i cl (turned zss) a ha R' E HR'.out w9 sl9).mono ?_
      rintro e wa ⟨p3, rfl, f3, ba⟩
      have za := ba.size
      have SLa := SL9.later ba (Nat.le_refl _)
      have STa := ST9.later ba (Nat.le_refl _)
      have F1a := F19.later ba (Nat.le_refl _)
      have F2a := F29.later ba (Nat.le_refl _)
      have S3a := S39.later ba (Nat.le_refl _)
      have s9a := s9.later ba (Nat.le_refl _)
      have BA : Hid (Below w.heap.size w wa) := B8.out.trans ((b9.trans (ba.mono z9)).mono B8.out.size)
      clear SL9 ST9 F19 F29 S39 sl9 s9
      go_wp2_with fail
      refine (rsame_yes _ _ _ _ _ R' wa f3.seen s9a).mono ?_
      rintro e _ ⟨rfl, r1, rfl⟩
      go_wp2_with fail
      refine (rsame_yes _ _ _ _ _ R _ (F1a.seen.drewN _) (S3a.drewN _)).mono ?_
      rintro e _ ⟨rfl, r2, rfl⟩
      go_wp2_with fail
      refine (rsame_yes _ _ _ _ _ R _ (F2a.seen.drewN _) (S3a.drewN _)).mono ?_
      rintro e _ ⟨rfl, r3, rfl⟩
      go_wp2_with fail
      refine (samelists_yes _ _ _ _ _ (turned zss) _ (SLa.plain.drewN _) (STa.plain.drewN _)).mono ?_
      rintro e _ ⟨rfl, r4, rfl⟩
      have LOT := lot_three (F1a.drewN (r1 + r2 + r3 + r4)) (F2a.drewN (r1 + r2 + r3 + r4)) (f3.drewN (r1 + r2 + r3 + r4)) (fun b o h0 e => (G1.out b o h0 e).2) (fun b o h0 e => by have := (G2.out b o h0 e).2; have := ZS.out; omega) (by have := ZS.out; omega) (by have := ZS.out; omega)
      have LB : Hid (∀ b, LotS 3 (fun j => if j = 0 then p1 else if j = 1 then p2 else p3) (fun j => if j = 0 then R.length else if j = 1 then R.length else R'.length) b → (w3.heap.size ≤ b ∧ b < w5.heap.size) ∨ w9.heap.size ≤ b) := by
        intro b hb
        rcases three_blocks hb with ⟨h0, e⟩ | ⟨h0, e⟩ | ⟨h0, e⟩
        · have := G1.out b 0 h0 e; have := ZS.out; left; omega
        · have := G2.out b 0 h0 e; have := ZS.out; left; omega
        · obtain ⟨g', e', hg', _⟩ := f3.row h0
          rw [e] at e'; simp at e'
          right; omega
      have hap := apart_any wa.heap.size 3 3 _ _ _ _ LOT (by decide) (fun j hj => by have := HRB.out.2; have := HRB'.out.2; split <;> (try split) <;> omega)
      have HA : Hid (Below w.heap.size w ((wa.drewN (r1 + r2 + r3 + r4)).alloc (.cells #[.slice p1 R.length R.length, .slice p2 R.length R.length, .slice p3 R'.length R'.length] 23))) := (below_dn BA.out _).alloc (by have := BA.out.size; show w.heap.size ≤ wa.heap.size; omega) _
      have hw0 : Below wa.heap.size wa ((wa.drewN (r1 + r2 + r3 + r4)).alloc (.cells #[.slice p1 R.length R.length, .slice p2 R.length R.length, .slice p3 R'.length R'.length] 23)) := (below_dn (Below.refl _ _) _).alloc (Nat.le_refl _) _
      have SLb := SLa.later hw0 (Nat.le_refl _)
      have STb := STa.later hw0 (Nat.le_refl _)
      clear LOT SLa STa F1a F2a S3a s9a f3 hw0 ba b9
      go_wp2_with fail
      refine hap.mono ?_
      rintro e wb ⟨rfl, kb⟩
      have SLc : SeenLB (fun b => b = O ∨ b = g) wb lo i (turned zss) := SLb.kept0 kb (fun h0 b hb hS => by
        have h1 := LB.out b hS
        have h2 := ZS.out
        have h3 := (RG.out h0).2
        have h4 := (HO.out h0).2.2.1
        rcases hb with rfl | rfl <;> omega)
      have STc : SeenLB (fun b => w6.heap.size ≤ b ∧ b < w7.heap.size) wb to i (turned zss) := STb.kept0 kb (fun h0 b hb hS => by
        have h1 := LB.out b hS
        have h2 := ZS.out
        omega)
      have HB : Hid (Below w.heap.size w wb) := HA.out.trans (kb.below HA.out.size (fun b hb => by
        have h1 := LB.out b hb
        have h2 := ZS.out
        have := B8.out.size
        omega))
      clear hap SLb STb kb
      go_wp2_with fail
      refine (samelists_yes _ _ _ _ _ (turned zss) wb SLc.plain STc.plain).mono ?_
      rintro e _ ⟨rfl, r5, rfl⟩
      go_wp2_with fail
      refine (works_any _).mono ?_
      rintro e wz ⟨rfl, bz⟩
      have HZ : Hid (Below w.heap.size w wz) := HB.out.trans (Below.mono (below_ahead bz) HB.out.size)
      clear SLc STc
      go_wp2
      go_ret
      exact ⟨rfl, HZ.out⟩
end Go.Proofs.Ytldfbbgboelngab.maskRows
