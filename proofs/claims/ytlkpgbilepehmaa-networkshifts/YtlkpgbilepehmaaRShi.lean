/- Layer network: the document's Ways and Shift; shifted. -/
import Derived.Test.YtlkpgbilepehmaaNWayI
import Derived.Test.YtlkpgbilepehmaaNShL
import Derived.Test.YtlkpgbilepehmaaNRHop
import Derived.Test.YtlkpgbilepehmaaNRSort
namespace Go.Proofs.Ytlkpgbilepehmaa
open Go.RowKit
set_option linter.unusedVariables false
set_option linter.unusedSimpArgs false

/-- The document's ways: how far a live one has to go; -1 for a dead one. -/
def wayR (live : Nat → Bool) (i : Nat) : Int := if live i then ((dd live i : Nat) : Int) else -1
def wayRs (live : Nat → Bool) (k : Nat) : List Int := (List.range k).map (wayR live)
theorem wayRs_succ (live : Nat → Bool) (k : Nat) : (wayRs live (k + 1)).map (Value.int .i64) = (wayRs live k).map (Value.int .i64) ++ [.int .i64 (wayR live k)] := by simp [wayRs, List.range_succ]
theorem wayRs_length (live : Nat → Bool) (k : Nat) : (wayRs live k).length = k := by simp [wayRs]
set_option maxRecDepth 20000 in
set_option maxHeartbeats 2000000 in
theorem rways_any (ao : Option Addr) (n c : Nat) (live : Nat → Bool) (w : World) (hs : SeenB w ao n live) (hn : n ≤ 65536) :
    Calls Try.prog 54 #[.slice ao n c] w fun e w' => ∃ v, e = .returned v ∧ w'.ownsRow w.heap.size 3 1 v n ((wayRs live n).map (Value.int .i64)) ∧ Below w.heap.size w w' := by
  obtain ⟨i0, hi, hz0, hz1, hz2⟩ := info_parts info_int
  have HS : Hid (SeenB w ao n live) := hs
  clear hs
  go_enter Try.func54, Try.ntmps54
  go_wp2_with (fail)
  go_loopw [3, 4, 5] (fun o d v wr => ∃ k : Nat, v = .int .i64 (k : Int) ∧ k ≤ n ∧ d = .int .i64 ((dd live k : Nat) : Int) ∧ wr.ownsRow w.heap.size 3 1 o k ((wayRs live k).map (Value.int .i64)) ∧ Below w.heap.size w wr) (fun _ _ v _ => n - (intOf v).toNat)
  case atStart => exact ⟨0, rfl, by omega, rfl, World.ownsRow_nil _ _ _ _, Below.refl _ _⟩
  case round =>
    obtain ⟨k, rfl, hk, rfl, hO, hB1⟩ := hrel
    by_cases hlt : k < n
    · obtain ⟨b, o, rfl, hb, hc⟩ := (HS.out.later hB1) (by omega)
      have c1 := hc k hlt
      have hdk := dd_le live k
      have dl : live k = true → dd live (k + 1) = dd live k := fun h => by rw [dd, if_pos h]; rfl
      have dn : live k = false → dd live (k + 1) = dd live k + 1 := fun h => by rw [dd, h]; rfl
      have wl : live k = true → wayR live k = ((dd live k : Nat) : Int) := fun h => by unfold wayR; rw [if_pos h]
      have wn : live k = false → wayR live k = -1 := fun h => by unfold wayR; rw [h]; rfl
      obtain ⟨D, hD⟩ : ∃ D, dd live k = D := ⟨_, rfl⟩
      rw [hD] at hdk dl dn wl ⊢
      have HD : Hid ((live k = true → dd live (k + 1) = D) ∧ (live k = false → dd live (k + 1) = D + 1)) := ⟨dl, dn⟩
      have HW : Hid ((live k = true → wayR live k = (D : Int)) ∧ (live k = false → wayR live k = -1)) := ⟨wl, wn⟩
      have HX : Hid ((wayRs live (k + 1)).map (Value.int .i64) = (wayRs live k).map (Value.int .i64) ++ [.int .i64 (wayR live k)]) := wayRs_succ live k
      have HO : Hid (wr.ownsRow w.heap.size 3 1 u3 k ((wayRs live k).map (Value.int .i64))) := hO
      have HB : Hid (Below w.heap.size w wr) := hB1
      have i1 : (0 : Int) ≤ (k : Int) := by omega
      have i2 : (k : Int) < (n : Int) := by omega
      have hszr := hB1.size
      clear dl dn wl wn hD hO hc hb hB1
      cases hl : live k with
      | true =>
        rw [hl] at c1
        have HL : Hid (live k = true) := hl
        clear hl
        go_wp2_with (at_builtin; refine wpList_append_own _ rfl _ _ 44 rfl w.heap.size 3 i0 _ 1 8 Try.underlying44 hi hz0 hz1 hz2 rfl (by decide) _ _ _ rfl (HO.out.alloc _) ⟨wr.heap.size, 0, none⟩ 1 1 [.int .i64 (D : Int)] rfl rfl (cell_one_newN _ _ _) (by simp [Value.oneCell']) (by simp only [maxLen]; omega) (by omega) (by simp; omega) ?_; intro v1 w1 hO3 hg1 hj; clear hj)
        go_roundw
        case rel => exact ⟨k + 1, by go_num, by omega, by rw [HD.out.1 HL.out], by rw [HX.out, HW.out.1 HL.out]; exact hO3, HB.out.trans (((Below.refl _ wr).alloc hszr _).trans (below_own (HO.out.alloc _) hg1 hO3 (by simp; omega)))⟩
        case measure => simp [intOf]; omega
      | false =>
        rw [hl] at c1
        have HL : Hid (live k = false) := hl
        clear hl
        go_wp2_with (at_builtin; refine wpList_append_own _ rfl _ _ 44 rfl w.heap.size 3 i0 _ 1 8 Try.underlying44 hi hz0 hz1 hz2 rfl (by decide) _ _ _ rfl (HO.out.alloc _) ⟨wr.heap.size, 0, none⟩ 1 1 [.int .i64 (-1)] rfl rfl (cell_one_newN _ _ _) (by simp [Value.oneCell']) (by simp only [maxLen]; omega) (by omega) (by simp; omega) ?_; intro v1 w1 hO3 hg1 hj; clear hj)
        go_roundw
        case rel => exact ⟨k + 1, by go_num, by omega, by rw [HD.out.2 HL.out]; go_num, by rw [HX.out, HW.out.2 HL.out]; exact hO3, HB.out.trans (((Below.refl _ wr).alloc hszr _).trans (below_own (HO.out.alloc _) hg1 hO3 (by simp; omega)))⟩
        case measure => simp [intOf]; omega
    · obtain rfl : k = n := by omega
      clear hlt hk
      go_wp2_with (fail)
      go_ret
      exact ⟨_, rfl, hO, hB1⟩
theorem hops_ownG {w : World} {B : Nat} {v : Value} {l : List (Int × Int)} (h : w.ownsRow B 38 2 v l.length (hopC l)) : ∃ so c, v = .slice so l.length c ∧ GatesAt w so l ∧ ∀ g2, so = some ⟨g2, 0, none⟩ → B ≤ g2 := by
  rcases h.2 with ⟨rfl, hx⟩ | ⟨g, cap, cur, rfl, hB, hh, hc, hm, hs, ht⟩
  · have e : l = [] := List.eq_nil_of_length_eq_zero hx
    subst e
    exact ⟨none, 0, rfl, ⟨fun i x hi => by simp at hi⟩, fun g2 e => by cases e⟩
  · refine ⟨_, cap, rfl, ⟨fun i x hi => ⟨g, rfl, (Array.getElem?_eq_some_iff.1 hh).1, ?_, ?_⟩⟩, fun g2 e => by cases e; exact hB⟩
    all_goals
      have hl := (List.getElem?_eq_some_iff.1 hi).1
      have hq := hopC_atG l i x hi
      rw [cell_of_row w g _ _ 38 (0, 0) hh, ← Array.getElem?_toList]
    · have q : (cur.toList.take (l.length * 2))[i * 2]? = (hopC l)[i * 2]? := by rw [ht]
      rw [List.getElem?_take, if_pos (by omega)] at q
      rw [q, hq.1]
    · have q : (cur.toList.take (l.length * 2))[i * 2 + 1]? = (hopC l)[i * 2 + 1]? := by rw [ht]
      rw [List.getElem?_take, if_pos (by omega)] at q
      rw [q, hq.2]
def ixP (n : Nat) (P : Nat → Nat) : List Int := (List.range n).map fun q => ((P q : Nat) : Int)
theorem ixP_length (n : Nat) (P : Nat → Nat) : (ixP n P).length = n := by simp [ixP]
theorem ixP_get (n : Nat) (P : Nat → Nat) (q : Nat) (hq : q < n) : (ixP n P).getD q 0 = ((P q : Nat) : Int) := by simp [ixP, List.getD, hq]
theorem ixP_sw (n a b : Nat) (P : Nat → Nat) (ha : a < n) (hb : b < n) : ((ixP n P).set a ((P b : Nat) : Int)).set b ((P a : Nat) : Int) = ixP n (swP P a b) := map_sw (fun i => ((i : Nat) : Int)) n a b P ha hb
theorem ixP_succ (k : Nat) : (ixP (k + 1) id).map (Value.int .i64) = (ixP k id).map (Value.int .i64) ++ [.int .i64 (k : Int)] := by simp [ixP, List.range_succ]
/-- What a hop is. -/
theorem hop_form (n : Nat) : ∀ x ∈ hopsL n, ∃ e j : Nat, e ≤ 16 ∧ 2 ^ e + j < n ∧ x = (((2 ^ e + j : Nat) : Int), (j : Int)) := by
  have hk : ∀ e, e ≤ 17 → ∀ x ∈ hopsK n e, ∃ e j : Nat, e ≤ 16 ∧ 2 ^ e + j < n ∧ x = (((2 ^ e + j : Nat) : Int), (j : Int)) := by
    intro e
    induction e with
    | zero => intro _ x hx; simp [hopsK] at hx
    | succ e ih =>
      intro he x hx
      rw [hopsK] at hx
      rcases List.mem_append.1 hx with h | h
      · exact ih (by omega) x h
      · simp only [hopsD, List.mem_map, List.mem_range] at h
        obtain ⟨j, hj, rfl⟩ := h
        exact ⟨e, j, by omega, by omega, rfl⟩
  exact hk 17 (Nat.le_refl _)
theorem foldP_in (live : Nat → Bool) (n : Nat) (gs : List (Int × Int)) (h : ∀ x ∈ gs, ∃ a b : Nat, x = ((a : Int), (b : Int)) ∧ a < n ∧ b < n) : ∀ q, q < n → foldP live gs q < n := by
  have aux : ∀ (gs : List (Int × Int)) (P : Nat → Nat), (∀ x ∈ gs, ∃ a b : Nat, x = ((a : Int), (b : Int)) ∧ a < n ∧ b < n) → (∀ q, q < n → P q < n) → ∀ q, q < n → gs.foldl (hopG live) P q < n := by
    intro gs
    induction gs with
    | nil => intro P _ hP; exact hP
    | cons x r ih =>
      intro P hx hP
      refine ih _ (fun y hy => hx y (List.mem_cons_of_mem _ hy)) fun q hq => ?_
      obtain ⟨a, b, rfl, ha, hb⟩ := hx x (List.mem_cons_self ..)
      unfold hopG
      split
      · unfold swP
        simp only [Int.toNat_natCast]
        split
        · exact hP a ha
        · split
          · exact hP b hb
          · exact hP q hq
      · exact hP q hq
  exact aux gs id h (fun q hq => hq)
/-- Whether a hop is taken, as the document asks it. -/
theorem took (live : Nat → Bool) (i e : Nat) (hi : i < 65536) (he : e ≤ 16) : (0 ≤ wayR live i → ((wayR live i).tdiv ((2 ^ e : Nat) : Int)).tmod 2 = (if (bits .and .i64 ((wayO live i : Nat) : Int) ((2 ^ e : Nat) : Int) != 0) = true then 1 else 0)) ∧ (wayR live i < 0 → (bits .and .i64 ((wayO live i : Nat) : Int) ((2 ^ e : Nat) : Int) != 0) = false) ∧ -1 ≤ wayR live i ∧ wayR live i ≤ 65536 := by
  have hw := wayO_le live i
  have hd := dd_le live i
  have hp : 0 < 2 ^ e := Nat.pow_pos (by decide)
  rw [and_pow _ e (by omega) he]
  cases hl : live i with
  | true =>
    have h1 : wayR live i = ((dd live i : Nat) : Int) := by unfold wayR; rw [if_pos hl]
    have h2 : wayO live i = dd live i := by unfold wayO; rw [if_pos hl]
    rw [h1, h2] at *
    refine ⟨fun _ => ?_, fun h => by omega, by omega, by omega⟩
    have h3 : (((dd live i : Nat) : Int).tdiv ((2 ^ e : Nat) : Int)) = ((dd live i / 2 ^ e : Nat) : Int) := by rw [Int.ofNat_tdiv]
    rw [h3]
    have h4 : (((dd live i / 2 ^ e : Nat) : Int).tmod 2) = ((dd live i / 2 ^ e % 2 : Nat) : Int) := by
      rw [show (2 : Int) = ((2 : Nat) : Int) from rfl, Int.ofNat_tmod]
    rw [h4]
    rcases Nat.mod_two_eq_zero_or_one (dd live i / 2 ^ e) with h | h
    · rw [h]; simp
    · rw [h]
      obtain ⟨M, hM⟩ : ∃ M, 2 ^ e = M := ⟨_, rfl⟩
      rw [hM] at hp ⊢
      have hz : ((if (1 : Nat) = 0 then (0 : Int) else (M : Int)) != 0) = true := by
        rw [if_neg (by decide)]; exact bne_iff_ne.2 (by omega)
      rw [if_pos hz]; rfl
  | false =>
    have h1 : wayR live i = -1 := by unfold wayR; rw [hl]; rfl
    have h2 : wayO live i = 0 := by unfold wayO; rw [hl]; rfl
    rw [h1, h2]
    refine ⟨fun h => by omega, fun _ => by simp, by omega, by omega⟩
set_option maxRecDepth 100000 in
set_option maxHeartbeats 4000000 in
theorem rshift_yes (ao : Option Addr) (n c : Nat) (live : Nat → Bool) (w : World) (hs : SeenB w ao n live) (hn : n ≤ 65536) :
    Calls Try.prog 45 #[.slice ao n c] w fun e w' => ∃ v, e = .returned v ∧ w'.ownsRow w.heap.size 3 1 v n ((ixP n (foldP live (hopsL n))).map (Value.int .i64)) ∧ Below w.heap.size w w' := by
  obtain ⟨i0, hi, hz0, hz1, hz2⟩ := info_parts info_int
  have h1 : ¬ (65536 : Int) < (n : Int) := by omega
  have HS : Hid (SeenB w ao n live) := hs
  have HH : Hid (∀ w, Calls Try.prog 14 #[.int .i64 (n : Int)] w fun e w' => ∃ v, e = .returned v ∧ w'.ownsRow w.heap.size 38 2 v (hopsL n).length (hopC (hopsL n)) ∧ Below w.heap.size w w') := by
    show ∀ w, Calls Try.prog 14 #[.int .i64 (n : Int)] w fun e w' => ∃ v, e = .returned v ∧ w'.ownsRow w.heap.size 38 2 v (hopsL n).length (hopC (hopsL n)) ∧ Below w.heap.size w w'
    intro w
    have := rhops_any (n : Int) w
    have e : hopsOf (n : Int) = hopsL n := by simp [hopsOf]; omega
    rwa [e] at this
  have HF : Hid (∀ x ∈ hopsL n, ∃ e j : Nat, e ≤ 16 ∧ 2 ^ e + j < n ∧ x = (((2 ^ e + j : Nat) : Int), (j : Int))) := hop_form n
  have hgl : (hopsL n).length ≤ 1114112 := by
    have h1 := hopsK_len n 17
    have h3 : 17 * n ≤ 17 * 65536 := Nat.mul_le_mul (Nat.le_refl _) hn
    show (hopsK n 17).length ≤ _
    omega
  obtain ⟨gs, hgs⟩ : ∃ gs, hopsL n = gs := ⟨_, rfl⟩
  rw [hgs] at HH HF hgl ⊢
  clear hgs hs
  go_enter Try.func45, Try.ntmps45
  go_wp2_with (go_at_call 54; refine (rways_any ao n c live w HS.out hn).mono ?_; rintro e w1 ⟨v1, rfl, o1, b1⟩)
  obtain ⟨aw, cw, rfl⟩ := own_sl o1
  have HO1 : Hid (w1.ownsRow w.heap.size 3 1 (.slice aw n cw) n ((wayRs live n).map (Value.int .i64)) ∧ Below w.heap.size w w1) := ⟨o1, b1⟩
  clear o1 b1
  go_loopw [5, 6] (fun o v wr => ∃ k : Nat, v = .int .i64 (k : Int) ∧ k ≤ n ∧ wr.ownsRow w1.heap.size 3 1 o k ((ixP k id).map (Value.int .i64)) ∧ Below w1.heap.size w1 wr) (fun _ v _ => n - (intOf v).toNat)
  case atStart => exact ⟨0, rfl, by omega, World.ownsRow_nil _ _ _ _, Below.refl _ _⟩
  case round =>
    obtain ⟨k, rfl, hk, hO, hB1⟩ := hrel
    by_cases hlt : k < n
    · have HX : Hid ((ixP (k + 1) id).map (Value.int .i64) = (ixP k id).map (Value.int .i64) ++ [.int .i64 (k : Int)]) := ixP_succ k
      have HO : Hid (wr.ownsRow w1.heap.size 3 1 u5 k ((ixP k id).map (Value.int .i64))) := hO
      have HB : Hid (Below w1.heap.size w1 wr) := hB1
      have hszr := hB1.size
      have i1 : (0 : Int) ≤ (k : Int) := by omega
      have i2 : (k : Int) < (n : Int) := by omega
      clear hO hB1
      go_wp2_with (at_builtin; refine wpList_append_own _ rfl _ _ 44 rfl w1.heap.size 3 i0 _ 1 8 Try.underlying44 hi hz0 hz1 hz2 rfl (by decide) _ _ _ rfl (HO.out.alloc _) ⟨wr.heap.size, 0, none⟩ 1 1 [.int .i64 (k : Int)] rfl rfl (cell_one_newN _ _ _) (by simp [Value.oneCell']) (by simp only [maxLen]; omega) (by omega) (by simp; omega) ?_; intro v1 w3 hO3 hg1 hj; clear hj)
      go_roundw
      case rel => exact ⟨k + 1, by go_num, by omega, by rw [HX.out]; exact hO3, HB.out.trans (((Below.refl _ wr).alloc hszr _).trans (below_own (HO.out.alloc _) hg1 hO3 (by simp; omega)))⟩
      case measure => simp [intOf]; omega
    · obtain rfl : k = n := by omega
      clear hlt hk
      obtain ⟨w2, hw2⟩ : ∃ w2, w2 = wr := ⟨_, rfl⟩
      rw [← hw2] at hO hB1 ⊢
      clear hw2
      obtain ⟨aa, ca, rfl⟩ := own_sl hO
      have HO2 : Hid (w2.ownsRow w1.heap.size 3 1 (.slice aa k ca) k ((ixP k id).map (Value.int .i64)) ∧ Below w1.heap.size w1 w2) := ⟨hO, hB1⟩
      clear hO hB1
      go_wp2_with (go_at_call 14; refine (HH.out _).mono ?_; rintro e w3 ⟨v3, rfl, o3, b3⟩; obtain ⟨so, cg, rfl, hs3, hso⟩ := hops_ownG o3; clear o3)
      have HX : Hid (GatesAt w3 so gs ∧ (∀ g2, so = some ⟨g2, 0, none⟩ → w2.heap.size ≤ g2) ∧ Below w2.heap.size w2 w3) := ⟨hs3, hso, b3⟩
      have HW : Hid (w3.ownsRow w.heap.size 3 1 (.slice aw k cw) k ((wayRs live k).map (Value.int .i64)) ∧ w1.heap.size ≤ w3.heap.size ∧ (∀ b, aw = some ⟨b, 0, none⟩ → b < w1.heap.size) ∧ (∀ b, aa = some ⟨b, 0, none⟩ → w1.heap.size ≤ b ∧ b < w2.heap.size) ∧ w.heap.size ≤ w1.heap.size) := by
        have z2 := HO2.out.2.size
        have z3 := b3.size
        refine ⟨ownsRow_below (ownsRow_below HO1.out.1 HO2.out.2) b3, by omega, fun b hb => (HO1.out.1.lt b (by rw [hb]; rfl)).2, fun b hb => HO2.out.1.lt b (by rw [hb]; rfl), HO1.out.2.size⟩
      have hO4 : w3.ownsRow w1.heap.size 3 1 (.slice aa k ca) k ((ixP k (foldP live (gs.take 0))).map (Value.int .i64)) := by
        simpa [foldP] using ownsRow_below HO2.out.1 b3
      have hB4 : Below w1.heap.size w1 w3 := HO2.out.2.trans ⟨b3.os, b3.tape, b3.output, b3.size, fun j hj => b3.block j (by have := HO2.out.2.size; omega)⟩
      clear hs3 hso b3
      go_loopw [8, 9, 10] (fun v _ _ wr => ∃ t : Nat, v = .int .i64 (t : Int) ∧ t ≤ gs.length ∧ wr.ownsRow w1.heap.size 3 1 (.slice aa k ca) k ((ixP k (foldP live (gs.take t))).map (Value.int .i64)) ∧ wr.ownsRow w.heap.size 3 1 (.slice aw k cw) k ((wayRs live k).map (Value.int .i64)) ∧ GatesAt wr so gs ∧ Below w1.heap.size w1 wr) (fun v _ _ _ => gs.length - (intOf v).toNat)
      case atStart => exact ⟨0, rfl, by omega, hO4, HW.out.1, HX.out.1, hB4⟩
      case round =>
        clear hO4 hB4
        obtain ⟨t, rfl, ht, hO5, hW5, hG5, hB5⟩ := hrel
        by_cases hlt : t < gs.length
        · obtain ⟨x, hx⟩ : ∃ x, gs[t]? = some x := ⟨_, List.getElem?_eq_getElem hlt⟩
          obtain ⟨e, j, he, hjk, rfl⟩ := HF.out x (List.mem_of_getElem? hx)
          have hp : 0 < 2 ^ e := Nat.pow_pos (by decide)
          obtain ⟨gg, rfl, hgg, d0, d1⟩ := hG5.at_ t _ hx
          obtain ⟨P, hP⟩ : ∃ P, foldP live (gs.take t) = P := ⟨_, rfl⟩
          have hPin : ∀ q, q < k → P q < k := by
            rw [← hP]
            refine foldP_in live k _ fun y hy => ?_
            obtain ⟨e2, j2, _, h2, rfl⟩ := HF.out y (List.mem_of_mem_take hy)
            have hp2 : 0 < 2 ^ e2 := Nat.pow_pos (by decide)
            exact ⟨2 ^ e2 + j2, j2, rfl, h2, by omega⟩
          have HT := took live (P (2 ^ e + j)) e (by have := hPin (2 ^ e + j) hjk; omega) he
          have hnext : foldP live (gs.take (t + 1)) = hopG live P (((2 ^ e + j : Nat) : Int), (j : Int)) := by
            rw [List.take_add_one, hx]
            show foldP live (gs.take t ++ [_]) = _
            rw [foldP_snoc, hP]
          have hFD0 : ((2 ^ e + j : Nat) : Int) - (j : Int) = ((2 ^ e : Nat) : Int) := by omega
          unfold hopG at hnext
          simp only [Int.toNat_natCast] at hnext
          rw [hFD0] at hnext
          rw [hP] at hO5
          obtain ⟨Fn, hFn⟩ : ∃ Fn, 2 ^ e + j = Fn := ⟨_, rfl⟩
          obtain ⟨Dn, hDn⟩ : ∃ Dn, 2 ^ e = Dn := ⟨_, rfl⟩
          rw [hFn] at hnext HT hjk d0 hFD0
          rw [hDn] at hnext HT hp hFD0
          have hPF := hPin Fn hjk
          obtain ⟨X, hX⟩ : ∃ X, P Fn = X := ⟨_, rfl⟩
          rw [hX] at hnext HT hPF
          obtain ⟨V, hV⟩ : ∃ V, wayR live X = V := ⟨_, rfl⟩
          rw [hV] at HT
          obtain ⟨tk, htk⟩ : ∃ tk, (bits .and .i64 ((wayO live X : Nat) : Int) ((Dn : Nat) : Int) != 0) = tk := ⟨_, rfl⟩
          rw [htk] at HT hnext
          obtain ⟨Q, hQ⟩ : ∃ Q, V.tdiv (Dn : Int) = Q := ⟨_, rfl⟩
          rw [hQ] at HT
          have hQb : 0 ≤ V → 0 ≤ Q ∧ Q ≤ 65536 := fun h => by
            rw [← hQ]
            have h1 := Int.tdiv_nonneg h (by omega : (0 : Int) ≤ (Dn : Int))
            have h2 := Int.tdiv_le_self (b := (Dn : Int)) h
            exact ⟨h1, by have := HT.2.2.2; omega⟩
          obtain ⟨ga, rfl⟩ : ∃ ga, aa = some ⟨ga, 0, none⟩ := by
            rcases hO5.2 with ⟨_, h0⟩ | ⟨g, cap, cur, e, _⟩
            · omega
            · simp only [Value.slice.injEq] at e; exact ⟨g, e.1⟩
          obtain ⟨gw, rfl⟩ : ∃ gw, aw = some ⟨gw, 0, none⟩ := by
            rcases hW5.2 with ⟨_, h0⟩ | ⟨g, cap, cur, e, _⟩
            · omega
            · simp only [Value.slice.injEq] at e; exact ⟨g, e.1⟩
          obtain ⟨cF, fF⟩ := own_at hO5 Fn hjk
          obtain ⟨cJ, fJ⟩ := own_at hO5 j (by omega)
          rw [ixP_get k P Fn hjk, hX] at cF
          rw [ixP_get k P j (by omega)] at cJ
          obtain ⟨Y, hY⟩ : ∃ Y, P j = Y := ⟨_, rfl⟩
          rw [hY] at cJ
          obtain ⟨cW, _⟩ := own_at hW5 X hPF
          rw [show (wayRs live k).getD X 0 = V from by rw [← hV]; simp [wayRs, List.getD, hPF]] at cW
          have hga := HW.out.2.2.2.1 ga rfl
          have hgw := HW.out.2.2.1 gw rfl
          have hgg2 := HX.out.2.1 gg rfl
          have hne : Fn ≠ j := by omega
          have HR : Hid (wr.ownsRow w1.heap.size 3 1 (.slice (some ⟨ga, 0, none⟩) k ca) k ((ixP k P).map (Value.int .i64)) ∧ wr.ownsRow w.heap.size 3 1 (.slice (some ⟨gw, 0, none⟩) k cw) k ((wayRs live k).map (Value.int .i64)) ∧ GatesAt wr (some ⟨gg, 0, none⟩) gs ∧ Below w1.heap.size w1 wr ∧ P Fn = X ∧ P j = Y ∧ Fn ≠ j ∧ Fn < k ∧ j < k ∧ w1.heap.size ≤ ga ∧ gw ≠ ga ∧ gg ≠ ga) := ⟨hO5, hW5, hG5, hB5, hX, hY, hne, hjk, by omega, hga.1, by omega, by omega⟩
          have HN : Hid (foldP live (gs.take (t + 1)) = if tk = true then swP P Fn j else P) := hnext
          dsimp only at d0 d1
          have i1 : (0 : Int) ≤ (t : Int) := by omega
          have i2 : (t : Int) < (gs.length : Int) := by omega
          have i3 : (Fn : Int) < (k : Int) := by omega
          have i4 : (j : Int) < (k : Int) := by omega
          have i5 : (X : Int) < (k : Int) := by omega
          have mz : ((Dn : Int) == 0) = false := by simp; omega
          have hDb : (Dn : Int) ≤ 65536 := by omega
          have ew : IntKind.i64.wrap (Dn : Int) = (Dn : Int) := by simp [IntKind.wrap, IntKind.signed, IntKind.bits]; omega
          have mz2 : ¬ (Dn : Int) = 0 := by omega
          have hwQ : 0 ≤ V → wrap64 Q = Q := fun h => by have := hQb h; simp [wrap64]; omega
          have HTT : Hid ((0 ≤ V → Q.tmod 2 = if tk = true then 1 else 0) ∧ (V < 0 → tk = false) ∧ -1 ≤ V ∧ V ≤ 65536) := HT
          clear hx hP hPin HT hnext hX hV htk hQb hO5 hW5 hG5 hB5 hga hgw hgg2 hY hne hp hFn hDn hPF hlt
          go_wp2_with (fail)
          go_region_with (fail)
          all_goals
            have cFd : wr.drew.cell? ⟨ga, Fn, none⟩ = some (.int .i64 (X : Int)) := cF
            have cJd : wr.drew.cell? ⟨ga, j, none⟩ = some (.int .i64 (Y : Int)) := cJ
            have cWd : wr.drew.cell? ⟨gw, X, none⟩ = some (.int .i64 V) := cW
            have d0d : wr.drew.cell? ⟨gg, t * 2, none⟩ = some (.int .i64 (Fn : Int)) := d0
            have d1d : wr.drew.cell? ⟨gg, t * 2 + 1, none⟩ = some (.int .i64 (j : Int)) := d1
            have fFd : wr.drew.frozen? ⟨ga, Fn, none⟩ = false := fF
            have fJd : wr.drew.frozen? ⟨ga, j, none⟩ = false := fJ
            by_cases hV0 : V < 0
            · have HK : Hid (foldP live (gs.take (t + 1)) = P) := by
                show _ = _
                rw [HN.out, HTT.out.2.1 hV0]; rfl
              have hV1 : ¬ 0 ≤ V := by omega
              clear hwQ
              go_wp2_with (fail)
              go_roundw
              case rel => exact ⟨t + 1, by go_num, by omega, by rw [HK.out]; exact HR.out.1, HR.out.2.1, HR.out.2.2.1.drew, HR.out.2.2.2.1.drew⟩
              case measure => simp [intOf]; omega
            · have hV1 : 0 ≤ V := by omega
              have hq1 := HTT.out.1 hV1
              have hq2 := hwQ hV1
              clear hwQ
              cases tk with
              | false =>
                have hq : Q.tmod 2 = 0 := by simpa using hq1
                clear hq1
                have HK : Hid (foldP live (gs.take (t + 1)) = P) := by show _ = _; rw [HN.out]; rfl
                go_wp2_with (fail)
                go_roundw
                case rel => exact ⟨t + 1, by go_num, by omega, by rw [HK.out]; exact HR.out.1, HR.out.2.1, HR.out.2.2.1.drew, HR.out.2.2.2.1.drew⟩
                case measure => simp [intOf]; omega
              | true =>
                have hq : Q.tmod 2 = 1 := by simpa using hq1
                clear hq1
                have HK : Hid (foldP live (gs.take (t + 1)) = swP P Fn j) := by show _ = _; rw [HN.out]; rfl
                go_wp2_with (fail)
                go_region_with (fail)
                all_goals
                  have hf := HR.out
                  have o6 : (wr.setCell ⟨ga, Fn, none⟩ (.int .i64 (Y : Int))).ownsRow w1.heap.size 3 1 (.slice (some ⟨ga, 0, none⟩) k ca) k (((ixP k P).set Fn (Y : Int)).map (Value.int .i64)) := own_set hf.1 Fn hf.2.2.2.2.2.2.2.1 _
                  have o7 := own_set o6 j hf.2.2.2.2.2.2.2.2.1 (X : Int)
                  obtain ⟨cJ6, fJ6⟩ := own_at o6 j hf.2.2.2.2.2.2.2.2.1
                  have HK2 : Hid (((wr.setCell ⟨ga, Fn, none⟩ (.int .i64 (Y : Int))).drew.drew.setCell ⟨ga, j, none⟩ (.int .i64 (X : Int))).ownsRow w1.heap.size 3 1 (.slice (some ⟨ga, 0, none⟩) k ca) k ((ixP k (foldP live (gs.take (t + 1)))).map (Value.int .i64)) ∧
                      ((wr.setCell ⟨ga, Fn, none⟩ (.int .i64 (Y : Int))).drew.drew.setCell ⟨ga, j, none⟩ (.int .i64 (X : Int))).ownsRow w.heap.size 3 1 (.slice (some ⟨gw, 0, none⟩) k cw) k ((wayRs live k).map (Value.int .i64)) ∧
                      GatesAt ((wr.setCell ⟨ga, Fn, none⟩ (.int .i64 (Y : Int))).drew.drew.setCell ⟨ga, j, none⟩ (.int .i64 (X : Int))) (some ⟨gg, 0, none⟩) gs ∧ Below w1.heap.size w1 ((wr.setCell ⟨ga, Fn, none⟩ (.int .i64 (Y : Int))).drew.drew.setCell ⟨ga, j, none⟩ (.int .i64 (X : Int)))) := by
                    refine ⟨?_, ?_, ?_, ?_⟩
                    · rw [HK.out, ← ixP_sw k Fn j P hf.2.2.2.2.2.2.2.1 hf.2.2.2.2.2.2.2.2.1, hf.2.2.2.2.1, hf.2.2.2.2.2.1]
                      exact o7
                    · have w6 : (wr.setCell ⟨ga, Fn, none⟩ (.int .i64 (Y : Int))).ownsRow w.heap.size 3 1 (.slice (some ⟨gw, 0, none⟩) k cw) k ((wayRs live k).map (Value.int .i64)) := own_block hf.2.1 fun b hb => Below.heap_setCell _ _ _ _ (fun e => hf.2.2.2.2.2.2.2.2.2.2.1 (by have := own_addr hf.2.1 hb; simp at this; rw [this]; exact e))
                      exact own_block w6 fun b hb => Below.heap_setCell _ _ _ _ (fun e => hf.2.2.2.2.2.2.2.2.2.2.1 (by have := own_addr hf.2.1 hb; simp at this; rw [this]; exact e))
                    · exact ((hf.2.2.1.set ga Fn _ (fun g2 e => by cases e; exact hf.2.2.2.2.2.2.2.2.2.2.2)).drew.drew).set ga j _ (fun g2 e => by cases e; exact hf.2.2.2.2.2.2.2.2.2.2.2)
                    · exact ((hf.2.2.2.1.setCell (p := ⟨ga, Fn, none⟩) hf.2.2.2.2.2.2.2.2.2.1 _).drew.drew).setCell (p := ⟨ga, j, none⟩) hf.2.2.2.2.2.2.2.2.2.1 _
                  have d1e : (wr.setCell ⟨ga, Fn, none⟩ (.int .i64 (Y : Int))).drew.drew.cell? ⟨gg, t * 2 + 1, none⟩ = some (.int .i64 (j : Int)) := (World.cell?_of_block (a := ⟨gg, t * 2 + 1, none⟩) (Below.heap_setCell wr ⟨ga, Fn, none⟩ (.int .i64 (Y : Int)) gg hf.2.2.2.2.2.2.2.2.2.2.2)).trans d1
                  have cJe : (wr.setCell ⟨ga, Fn, none⟩ (.int .i64 (Y : Int))).drew.drew.cell? ⟨ga, j, none⟩ = some _ := cJ6
                  have fJe : (wr.setCell ⟨ga, Fn, none⟩ (.int .i64 (Y : Int))).drew.drew.frozen? ⟨ga, j, none⟩ = false := fJ6
                  clear hf o6 o7 cJ6 fJ6 cFd cJd cWd d0d d1d fFd fJd cF cJ cW d0 d1 fF fJ
                  go_wp2_with (fail)
                  go_roundw
                  case rel => exact ⟨t + 1, by go_num, by omega, HK2.out.1, HK2.out.2.1, HK2.out.2.2.1, HK2.out.2.2.2⟩
                  case measure => simp [intOf]; omega
        · obtain rfl : t = gs.length := by omega
          rw [List.take_length] at hO5
          clear hlt ht
          have HE : Hid (wr.ownsRow w.heap.size 3 1 (.slice aa k ca) k ((ixP k (foldP live gs)).map (Value.int .i64)) ∧ Below w.heap.size w wr) := ⟨ownsRow_base hO5 HW.out.2.2.2.2, HO1.out.2.trans ⟨hB5.os, hB5.tape, hB5.output, hB5.size, fun j hj => hB5.block j (by have := HW.out.2.2.2.2; omega)⟩⟩
          clear hO5 hW5 hG5 hB5
          go_wp2_with (fail)
          go_ret
          exact ⟨_, rfl, HE.out.1, HE.out.2⟩
end Go.Proofs.Ytlkpgbilepehmaa
