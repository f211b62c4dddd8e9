/- The walk of SealCovers. -/
import Derived.Test.YtogplebajpdmoaaBL
namespace Go.Proofs.Ytogplebajpdmoaa
open Go.RowKit
set_option linter.unusedVariables false
set_option linter.unusedSimpArgs false

/-- Seal, whatever the lengths. -/
theorem seal_all (key nonce : List Int) (n c m d : Nat) (ao bo : Option Addr) (ms zs : List Int) (hk : key.length = 32) (hno : nonce.length = 12) (hkb : Bytes key) (hnb : Bytes nonce) (w : World) (hx : Seen w ao n ms) (hy : Seen w bo m zs) (hc : n ≤ c) (hd : m ≤ d) :
    Calls Try.prog 19 #[.agg (u8s key).toArray, .agg (u8s nonce).toArray, .slice ao n c, .slice bo m d] w fun e w' => ∃ (vo : Option Addr) (k cp : Nat) (R : List Int) (E : Int), e = .returned (.tuple #[.slice vo k cp, .int .i64 E]) ∧
      ((n ≤ 1048576 ∧ m ≤ 1048576 ∧ k = m + 16 ∧ E = 0 ∧ R = boxL key nonce ms zs) ∨ ((1048576 < n ∨ 1048576 < m) ∧ k = 0 ∧ E = 3 ∧ R = [])) ∧ Seen w' vo k R ∧ Below w.heap.size w w' := by
  by_cases hb : 1048576 < n ∨ 1048576 < m
  · refine (seal_bad key nonce n c m d ao bo hx.top hy.top hb w).mono ?_
    rintro e w1 ⟨rfl, l1⟩
    exact ⟨none, 0, 0, [], 3, rfl, .inr ⟨hb, rfl, rfl, rfl⟩, Seen.empty _ _, l1⟩
  · refine (seal_any key nonce n c m d ao bo ms zs hk hno hkb hnb (by omega) (by omega) w hx hy hc hd).mono ?_
    rintro e w1 ⟨v, rfl, o1, l1⟩
    obtain ⟨vo, cp, rfl, d1, _⟩ := isO_seen o1 (by rw [boxL_length, hy.len]) (boxL_bytes _ _ _ hy.bytes) (by omega)
    exact ⟨vo, m + 16, cp, _, 0, rfl, .inl ⟨by omega, by omega, rfl, rfl, rfl⟩, d1, l1⟩
theorem box_at (key nonce ms zs : List Int) (i : Nat) (hi : i < zs.length) : (boxL key nonce ms zs).getD i 0 = bits .xor .u8 (zs.getD i 0) (ks key nonce (64 + i)) := by
  rw [boxL, List.getD, List.getElem?_append_left (by rw [coverL_length]; exact hi)]
  exact over_at key nonce 64 zs i hi
theorem box_xor (key nonce ms zs ps ys : List Int) (i : Nat) (hi : i < zs.length) (hj : i < ys.length) (hz : Bytes zs) (hy : Bytes ys) : bits .xor .u8 ((boxL key nonce ms zs).getD i 0) ((boxL key nonce ps ys).getD i 0) = bits .xor .u8 (zs.getD i 0) (ys.getD i 0) := by
  rw [box_at _ _ _ _ _ hi, box_at _ _ _ _ _ hj, xor_both _ _ _ (hz.at i hi) (hy.at i hj) (ks_byte _ _ _)]
set_option maxRecDepth 20000 in
set_option maxHeartbeats 4000000 in
theorem sealCovers.walk (key nonce : List Int) (ao : Option Addr) (n c : Nat) (ms : List Int) (bo : Option Addr) (m d : Nat) (zs : List Int) (oo : Option Addr) (no co : Nat) (ys : List Int) (po : Option Addr) (np cp : Nat) (ps : List Int) (w : World) (h : CsIn w key nonce ao n c ms bo m d zs) (hy : Seen w oo no ys) (hoc : no ≤ co) (hp : Seen w po np ps) (hpc : np ≤ cp) :
    Calls Try.prog 8 #[.agg (caseC key nonce ao n c bo m d).toArray, .slice oo no co, .slice po np cp] w fun e w' => e = .returned (.bool true) ∧ Below w.heap.size w w' := by
  have t1 := h.more.top
  have t2 := h.text.top
  have t3 := hy.top
  have t4 := hp.top
  have HI : Hid (CsIn w key nonce ao n c ms bo m d zs ∧ Seen w oo no ys ∧ no ≤ co ∧ Seen w po np ps ∧ np ≤ cp) := ⟨h, hy, hoc, hp, hpc⟩
  clear h hy hoc hp hpc
  go_enter Try.func8, Try.ntmps8
  go_wp2_with (first | (refine wpList_box_new rfl 33 _ rfl (caseC key nonce ao n c bo m d) rfl ?_; intro w1 b1 s1 l1; have H1 : Hid (CsAt w1 w.heap.size key nonce ao n c ms bo m d zs ∧ Below w.heap.size w w1) := ⟨⟨b1, HI.out.1.later l1 (Nat.le_refl _)⟩, l1⟩; have cM1 := H1.out.1.cM; have cT1 := H1.out.1.cT; clear b1 s1 l1) | (refine wpList_load_mid rfl 30 _ rfl w.heap.size 0 rfl (u8s key) _ H1.out.1.key Try.underlying30 rfl H1.out.1.sk ?_) | (refine wpList_load_mid rfl 25 _ rfl w.heap.size 32 rfl (u8s nonce) _ H1.out.1.nonce Try.underlying25 rfl H1.out.1.sn ?_))
  refine (seal_all key nonce n c m d ao bo ms zs HI.out.1.k32 HI.out.1.n12 HI.out.1.kb HI.out.1.nb w1 H1.out.1.is.more H1.out.1.is.text HI.out.1.hc HI.out.1.hd).mono ?_
  rintro e w2 ⟨va, ka, ca, RA, EA, rfl, hA, sA, l2⟩
  have H2 : Hid (CsAt w2 w.heap.size key nonce ao n c ms bo m d zs ∧ Below w.heap.size w w2 ∧ Seen w2 va ka RA) := ⟨H1.out.1.later l2, below_chain H1.out.2 l2 H1.out.2.size, sA⟩
  have cM2 := H2.out.1.cM
  have cT2 := H2.out.1.cT
  have HA : Hid ((n ≤ 1048576 ∧ m ≤ 1048576 ∧ ka = m + 16 ∧ EA = 0 ∧ RA = boxL key nonce ms zs) ∨ ((1048576 < n ∨ 1048576 < m) ∧ ka = 0 ∧ EA = 3 ∧ RA = [])) := hA
  clear cM1 cT1 l2 H1 sA hA
  go_wp2_with (first | (refine wpList_load_mid rfl 30 _ rfl w.heap.size 0 rfl (u8s key) _ H2.out.1.key Try.underlying30 rfl H2.out.1.sk ?_) | (refine wpList_load_mid rfl 25 _ rfl w.heap.size 32 rfl (u8s nonce) _ H2.out.1.nonce Try.underlying25 rfl H2.out.1.sn ?_))
  refine (seal_all key nonce np cp no co po oo ps ys HI.out.1.k32 HI.out.1.n12 HI.out.1.kb HI.out.1.nb w2 (HI.out.2.2.2.1.later H2.out.2.1 (Nat.le_refl _)) (HI.out.2.1.later H2.out.2.1 (Nat.le_refl _)) HI.out.2.2.2.2 HI.out.2.2.1).mono ?_
  rintro e w3 ⟨vb, kb, cb, RB, EB, rfl, hB, sB, l3⟩
  have H3 : Hid (CsAt w3 w.heap.size key nonce ao n c ms bo m d zs ∧ Below w.heap.size w w3 ∧ Seen w3 va ka RA ∧ Seen w3 vb kb RB ∧ Seen w3 oo no ys) := ⟨H2.out.1.later l3, below_chain H2.out.2.1 l3 H2.out.2.1.size, H2.out.2.2.later l3 (Nat.le_refl _), sB, HI.out.2.1.later (below_chain H2.out.2.1 l3 H2.out.2.1.size) (Nat.le_refl _)⟩
  have cM3 := H3.out.1.cM
  have cT3 := H3.out.1.cT
  clear cM2 cT2 l3 H2 sB
  rcases HA.out with ⟨a1, a2, rfl, rfl, eA⟩ | ⟨a1, rfl, rfl, eA⟩
  · rcases hB with ⟨b1, b2, rfl, rfl, eB⟩ | ⟨b1, rfl, rfl, eB⟩
    · have HE : Hid (RA = boxL key nonce ms zs ∧ RB = boxL key nonce ps ys) := ⟨eA, eB⟩
      clear eA eB
      go_wp2_with fail
      go_loopw [12] (fun i wr => ∃ k : Nat, k ≤ m ∧ k ≤ no ∧ i = .int .i64 k ∧ ∃ q, wr = w3.drewN q) (fun i _ => m - (intOf i).toNat)
      case atStart => exact ⟨0, Nat.zero_le _, Nat.zero_le _, rfl, 0, rfl⟩
      case round =>
        obtain ⟨k, hk1, hk2, rfl, q, rfl⟩ := hrel
        obtain ⟨w4, hw4⟩ : ∃ W, w3.drewN q = W := ⟨_, rfl⟩
        have HW : Hid (w3.drewN q = w4) := hw4
        have cT4 : w4.cell? ⟨w.heap.size, 45, none⟩ = some (.slice bo m d) := by rw [← hw4]; exact cT3
        rw [hw4]
        by_cases hlm : k < m
        · have i1 : (k : Int) < (m : Int) := by omega
          by_cases hln : k < no
          · have i2 : (k : Int) < (no : Int) := by omega
            have i3 : (0 : Int) ≤ (k : Int) := by omega
            have i4 : (k : Int) < (m : Int) + 16 := by omega
            have i5 : (k : Int) < (no : Int) + 16 := by omega
            obtain ⟨b1, o1, e1, _, h1⟩ := H3.out.2.2.1.cells (by omega)
            obtain ⟨b2, o2, e2, _, h2⟩ := H3.out.2.2.2.1.cells (by omega)
            obtain ⟨b3, o3, e3, _, h3⟩ := H3.out.1.is.text.cells (by omega)
            obtain ⟨b4, o4, e4, _, h4⟩ := H3.out.2.2.2.2.cells (by omega)
            subst e1 e2 e3 e4
            have c1 : w4.cell? ⟨b1, o1 + k, none⟩ = some (.int .u8 (RA.getD k 0)) := by rw [← hw4]; exact h1 k (by omega)
            have c2 : w4.cell? ⟨b2, o2 + k, none⟩ = some (.int .u8 (RB.getD k 0)) := by rw [← hw4]; exact h2 k (by omega)
            have c3 : w4.cell? ⟨b3, o3 + k, none⟩ = some (.int .u8 (zs.getD k 0)) := by rw [← hw4]; exact h3 k (by omega)
            have c4 : w4.cell? ⟨b4, o4 + k, none⟩ = some (.int .u8 (ys.getD k 0)) := by rw [← hw4]; exact h4 k (by omega)
            have hq := box_xor key nonce ms zs ps ys k (by rw [H3.out.1.is.text.len]; omega) (by rw [H3.out.2.2.2.2.len]; omega) H3.out.1.is.text.bytes H3.out.2.2.2.2.bytes
            rw [← HE.out.1, ← HE.out.2] at hq
            clear h1 h2 h3 h4 hw4
            generalize RA.getD k 0 = A at c1 hq
            generalize RB.getD k 0 = B at c2 hq
            generalize zs.getD k 0 = Z at c3 hq
            generalize ys.getD k 0 = Y at c4 hq
            go_wp2_with fail
            go_quiet (fail)
            go_wp2_with fail
            refine ⟨⟨k + 1, by omega, by omega, by go_num, q + nq, ?_⟩, by simp [intOf]; omega⟩
            rw [← HW.out, World.drewN_drewN]
          · have i2 : ¬ (k : Int) < (no : Int) := by omega
            clear hw4
            go_wp2_with (go_at_call 16; refine (sworks_any _).mono ?_; rintro e w5 ⟨rfl, l5⟩)
            go_ret
            refine ⟨rfl, below_chain (?_ : Below w.heap.size w w4) l5 ?_⟩
            · rw [← HW.out]; exact below_dn H3.out.2.1 q
            · rw [← HW.out]; exact H3.out.2.1.size
        · have i1 : ¬ (k : Int) < (m : Int) := by omega
          clear hw4
          go_wp2_with (go_at_call 16; refine (sworks_any _).mono ?_; rintro e w5 ⟨rfl, l5⟩)
          go_ret
          refine ⟨rfl, below_chain (?_ : Below w.heap.size w w4) l5 ?_⟩
          · rw [← HW.out]; exact below_dn H3.out.2.1 q
          · rw [← HW.out]; exact H3.out.2.1.size
    · have i1 : ¬ (1048576 : Int) < (m : Int) := by omega
      clear eA eB
      by_cases g1 : 1048576 < no
      · have i2 : (1048576 : Int) < (no : Int) := by omega
        go_wp2_with (go_at_call 16; refine (sworks_any _).mono ?_; rintro e w5 ⟨rfl, l5⟩)
        go_ret
        exact ⟨rfl, below_chain H3.out.2.1 l5 H3.out.2.1.size⟩
      · have i2 : ¬ (1048576 : Int) < (no : Int) := by omega
        have i3 : (1048576 : Int) < (np : Int) := by omega
        go_wp2_with (go_at_call 16; refine (sworks_any _).mono ?_; rintro e w5 ⟨rfl, l5⟩)
        go_ret
        exact ⟨rfl, below_chain H3.out.2.1 l5 H3.out.2.1.size⟩
  · have hEB : EB = 0 ∨ EB = 3 := by
      rcases hB with ⟨_, _, _, h, _⟩ | ⟨_, _, h, _⟩
      · exact .inl h
      · exact .inr h
    clear hB eA
    by_cases g0 : 1048576 < m
    · have i1 : (1048576 : Int) < (m : Int) := by omega
      go_wp2_with (go_at_call 16; refine (sworks_any _).mono ?_; rintro e w5 ⟨rfl, l5⟩)
      go_ret
      exact ⟨rfl, below_chain H3.out.2.1 l5 H3.out.2.1.size⟩
    · have i1 : ¬ (1048576 : Int) < (m : Int) := by omega
      by_cases g1 : 1048576 < no
      · have i2 : (1048576 : Int) < (no : Int) := by omega
        go_wp2_with (go_at_call 16; refine (sworks_any _).mono ?_; rintro e w5 ⟨rfl, l5⟩)
        go_ret
        exact ⟨rfl, below_chain H3.out.2.1 l5 H3.out.2.1.size⟩
      · have i2 : ¬ (1048576 : Int) < (no : Int) := by omega
        by_cases g2 : 1048576 < np
        · have i3 : (1048576 : Int) < (np : Int) := by omega
          go_wp2_with (go_at_call 16; refine (sworks_any _).mono ?_; rintro e w5 ⟨rfl, l5⟩)
          go_ret
          exact ⟨rfl, below_chain H3.out.2.1 l5 H3.out.2.1.size⟩
        · have i3 : ¬ (1048576 : Int) < (np : Int) := by omega
          have i4 : (1048576 : Int) < (n : Int) := by omega
          go_wp2_with (go_at_call 16; refine (sworks_any _).mono ?_; rintro e w5 ⟨rfl, l5⟩)
          go_ret
          exact ⟨rfl, below_chain H3.out.2.1 l5 H3.out.2.1.size⟩
end Go.Proofs.Ytogplebajpdmoaa
