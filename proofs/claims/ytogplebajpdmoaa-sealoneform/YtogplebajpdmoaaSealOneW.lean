/- The walk of SealOneForm. -/
import Derived.Test.YtogplebajpdmoaaBL
namespace Go.Proofs.Ytogplebajpdmoaa
open Go.RowKit
set_option linter.unusedVariables false
set_option linter.unusedSimpArgs false

set_option maxRecDepth 20000 in
set_option maxHeartbeats 4000000 in
theorem oneForm_bad (key nonce : List Int) (ao : Option Addr) (n c : Nat) (ms : List Int) (bo : Option Addr) (m d : Nat) (zs : List Int) (w : World) (h : CsIn w key nonce ao n c ms bo m d zs) (E : Int) (hE : boxE n m = E) (hc : (m < 16 ∧ E = 4) ∨ (16 ≤ m ∧ 1048592 < m ∧ E = 3) ∨ (16 ≤ m ∧ m ≤ 1048592 ∧ 1048576 < n ∧ E = 3)) :
    Calls Try.prog 7 #[.agg (caseC key nonce ao n c bo m d).toArray] w fun e w' => e = .returned (.bool true) ∧ Below w.heap.size w w' := by
  have t1 := h.more.top
  have t2 := h.text.top
  have HI : Hid (CsIn w key nonce ao n c ms bo m d zs) := h
  clear h
  have h0 : E ≠ 0 := by omega
  have q1 : (E == 70) = false := by
    rw [beq_eq_false_iff_ne]; omega
  have q2 : (E != 0) = true := by simp [h0]
  go_enter Try.func7, Try.ntmps7
  go_wp2_with (first | (refine wpList_box_new rfl 33 _ rfl (caseC key nonce ao n c bo m d) rfl ?_; intro w1 b1 s1 l1; have H1 : Hid (CsAt w1 w.heap.size key nonce ao n c ms bo m d zs ∧ Below w.heap.size w w1) := ⟨⟨b1, HI.out.later l1 (Nat.le_refl _)⟩, l1⟩; have cM1 := H1.out.1.cM; have cT1 := H1.out.1.cT; clear b1 s1 l1) | (refine wpList_load_mid rfl 30 _ rfl w.heap.size 0 rfl (u8s key) _ H1.out.1.key Try.underlying30 rfl H1.out.1.sk ?_) | (refine wpList_load_mid rfl 25 _ rfl w.heap.size 32 rfl (u8s nonce) _ H1.out.1.nonce Try.underlying25 rfl H1.out.1.sn ?_))
  refine (open_bad key nonce n c m d ao bo t1 t2 E hE h0 w1).mono ?_
  rintro e w2 ⟨rfl, l2⟩
  have H2 : Hid (CsAt w2 w.heap.size key nonce ao n c ms bo m d zs ∧ Below w.heap.size w w2) := ⟨H1.out.1.later l2, below_chain H1.out.2 l2 H1.out.2.size⟩
  have cM2 := H2.out.1.cM
  have cT2 := H2.out.1.cT
  clear cM1 cT1 l2 H1
  go_wp2_with (first | (refine wpList_load_mid rfl 30 _ rfl w.heap.size 0 rfl (u8s key) _ H2.out.1.key Try.underlying30 rfl H2.out.1.sk ?_) | (refine wpList_load_mid rfl 25 _ rfl w.heap.size 32 rfl (u8s nonce) _ H2.out.1.nonce Try.underlying25 rfl H2.out.1.sn ?_))
  refine (peek_bad key nonce n c m d ao bo t1 t2 E hE h0 w2).mono ?_
  rintro e w3 ⟨rfl, l3⟩
  have H3 : Hid (CsAt w3 w.heap.size key nonce ao n c ms bo m d zs ∧ Below w.heap.size w w3) := ⟨H2.out.1.later l3, below_chain H2.out.2 l3 H2.out.2.size⟩
  have cM3 := H3.out.1.cM
  have cT3 := H3.out.1.cT
  clear cM2 cT2 l3 H2
  rcases hc with ⟨h1, rfl⟩ | ⟨h1, h2, rfl⟩ | ⟨h1, h2, h3, rfl⟩
  · have i1 : (m : Int) < 16 := by omega
    go_wp2_with (go_at_call 16; refine (sworks_any _).mono ?_; rintro e w4 ⟨rfl, l4⟩)
    go_ret
    exact ⟨rfl, below_chain H3.out.2 l4 H3.out.2.size⟩
  · have i1 : ¬ (m : Int) < 16 := by omega
    have i2 : (1048592 : Int) < (m : Int) := by omega
    go_wp2_with (go_at_call 16; refine (sworks_any _).mono ?_; rintro e w4 ⟨rfl, l4⟩)
    go_ret
    exact ⟨rfl, below_chain H3.out.2 l4 H3.out.2.size⟩
  · have i1 : ¬ (m : Int) < 16 := by omega
    have i2 : ¬ (1048592 : Int) < (m : Int) := by omega
    have i3 : (1048576 : Int) < (n : Int) := by omega
    go_wp2_with (go_at_call 16; refine (sworks_any _).mono ?_; rintro e w4 ⟨rfl, l4⟩)
    go_ret
    exact ⟨rfl, below_chain H3.out.2 l4 H3.out.2.size⟩
set_option maxRecDepth 20000 in
set_option maxHeartbeats 4000000 in
theorem oneForm_no (key nonce : List Int) (ao : Option Addr) (n c : Nat) (ms : List Int) (bo : Option Addr) (m d : Nat) (zs : List Int) (w : World) (h : CsIn w key nonce ao n c ms bo m d zs) (h16 : 16 ≤ m) (hm : m ≤ 1048592) (hn : n ≤ 1048576) (hO : opensL key nonce ms zs = false) :
    Calls Try.prog 7 #[.agg (caseC key nonce ao n c bo m d).toArray] w fun e w' => e = .returned (.bool true) ∧ Below w.heap.size w w' := by
  have t1 := h.more.top
  have t2 := h.text.top
  have HI : Hid (CsIn w key nonce ao n c ms bo m d zs) := h
  clear h
  obtain ⟨M, rfl⟩ : ∃ M, m = M + 16 := ⟨m - 16, by omega⟩
  have a2 : (M : Int) + 16 - 16 = (M : Int) := by omega
  have HP : Hid (peekL key nonce ms zs = List.replicate M 0) := by
    show _ = _
    rw [peekL, hO, HI.out.text.len, Nat.add_sub_cancel]; simp
  go_enter Try.func7, Try.ntmps7
  go_wp2_with (first | (refine wpList_box_new rfl 33 _ rfl (caseC key nonce ao n c bo (M + 16) d) rfl ?_; intro w1 b1 s1 l1; have H1 : Hid (CsAt w1 w.heap.size key nonce ao n c ms bo (M + 16) d zs ∧ Below w.heap.size w w1) := ⟨⟨b1, HI.out.later l1 (Nat.le_refl _)⟩, l1⟩; have cM1 := H1.out.1.cM; have cT1 := H1.out.1.cT; clear b1 s1 l1) | (refine wpList_load_mid rfl 30 _ rfl w.heap.size 0 rfl (u8s key) _ H1.out.1.key Try.underlying30 rfl H1.out.1.sk ?_) | (refine wpList_load_mid rfl 25 _ rfl w.heap.size 32 rfl (u8s nonce) _ H1.out.1.nonce Try.underlying25 rfl H1.out.1.sn ?_))
  refine (open_no key nonce n c (M + 16) d ao bo ms zs HI.out.k32 HI.out.n12 HI.out.kb HI.out.nb h16 hm hn w1 H1.out.1.is.more H1.out.1.is.text HI.out.hc HI.out.hd hO).mono ?_
  rintro e w2 ⟨rfl, l2⟩
  have H2 : Hid (CsAt w2 w.heap.size key nonce ao n c ms bo (M + 16) d zs ∧ Below w.heap.size w w2) := ⟨H1.out.1.later l2, below_chain H1.out.2 l2 H1.out.2.size⟩
  have cM2 := H2.out.1.cM
  have cT2 := H2.out.1.cT
  clear cM1 cT1 l2 H1
  go_wp2_with (first | (refine wpList_load_mid rfl 30 _ rfl w.heap.size 0 rfl (u8s key) _ H2.out.1.key Try.underlying30 rfl H2.out.1.sk ?_) | (refine wpList_load_mid rfl 25 _ rfl w.heap.size 32 rfl (u8s nonce) _ H2.out.1.nonce Try.underlying25 rfl H2.out.1.sn ?_))
  refine (peek_any key nonce n c (M + 16) d ao bo ms zs HI.out.k32 HI.out.n12 HI.out.kb HI.out.nb h16 hm hn w2 H2.out.1.is.more H2.out.1.is.text HI.out.hc HI.out.hd).mono ?_
  rintro e w3 ⟨v, rfl, o3, l3⟩
  rw [hO, mk_false]
  rw [HP.out, Nat.add_sub_cancel] at o3
  obtain ⟨vo, cap, rfl, d3, hc3, _⟩ := isO_seen o3 (by simp) (rep0_bytes _) (by omega)
  have H3 : Hid (CsAt w3 w.heap.size key nonce ao n c ms bo (M + 16) d zs ∧ Below w.heap.size w w3 ∧ Seen w3 vo M (List.replicate M 0)) := ⟨H2.out.1.later l3, below_chain H2.out.2 l3 H2.out.2.size, d3⟩
  have cM3 := H3.out.1.cM
  have cT3 := H3.out.1.cT
  clear cM2 cT2 l3 H2 o3 d3 hc3
  go_wp2_with fail
  go_loopw [8] (fun i wr => ∃ k : Nat, k ≤ M ∧ i = .int .i64 k ∧ wr = w3) (fun i _ => M - (intOf i).toNat)
  case atStart => exact ⟨0, Nat.zero_le _, rfl, rfl⟩
  case round =>
    obtain ⟨k, hk, rfl, rfl⟩ := hrel
    by_cases hlt : k < M
    · obtain ⟨b, o, rfl, hb, hcs⟩ := H3.out.2.2.cells (by omega)
      have c1 := hcs k hlt
      have e0 : (List.replicate M (0 : Int)).getD k 0 = 0 := by simp [List.getD, hlt]
      rw [e0] at c1
      have i1 : (0 : Int) ≤ (k : Int) := by omega
      have i2 : (k : Int) < (M : Int) := by omega
      clear hcs
      go_wp2_with fail
      exact ⟨⟨k + 1, by omega, by go_num, by first | rfl | trivial⟩, by simp [intOf]; omega⟩
    · obtain rfl : k = M := by omega
      go_wp2_with (go_at_call 16; refine (sworks_any _).mono ?_; rintro e w4 ⟨rfl, l4⟩)
      go_ret
      exact ⟨rfl, below_chain H3.out.2.1 l4 H3.out.2.1.size⟩
set_option maxRecDepth 20000 in
set_option maxHeartbeats 4000000 in
theorem oneForm_yes (key nonce : List Int) (ao : Option Addr) (n c : Nat) (ms : List Int) (bo : Option Addr) (m d : Nat) (zs : List Int) (w : World) (h : CsIn w key nonce ao n c ms bo m d zs) (h16 : 16 ≤ m) (hm : m ≤ 1048592) (hn : n ≤ 1048576) (hO : opensL key nonce ms zs = true) :
    Calls Try.prog 7 #[.agg (caseC key nonce ao n c bo m d).toArray] w fun e w' => e = .returned (.bool true) ∧ Below w.heap.size w w' := by
  have t1 := h.more.top
  have t2 := h.text.top
  have HI : Hid (CsIn w key nonce ao n c ms bo m d zs) := h
  clear h
  obtain ⟨M, rfl⟩ : ∃ M, m = M + 16 := ⟨m - 16, by omega⟩
  obtain ⟨X, hX⟩ : ∃ X, textL key nonce zs = X := ⟨_, rfl⟩
  have HX : Hid (textL key nonce zs = X ∧ X.length = M ∧ Bytes X ∧ peekL key nonce ms zs = X ∧ boxL key nonce ms X = zs ∧ zs.length = M + 16 ∧ Bytes zs) := by
    have hb := HI.out.text.bytes
    have hl := HI.out.text.len
    refine ⟨hX, by rw [← hX, textL_length, hl, Nat.add_sub_cancel], by rw [← hX]; exact textL_bytes _ _ hb, by rw [peekL, if_pos hO, hX], by rw [← hX]; exact box_text _ _ _ hb hO, hl, hb⟩
  clear hX
  go_enter Try.func7, Try.ntmps7
  go_wp2_with (first | (refine wpList_box_new rfl 33 _ rfl (caseC key nonce ao n c bo (M + 16) d) rfl ?_; intro w1 b1 s1 l1; have H1 : Hid (CsAt w1 w.heap.size key nonce ao n c ms bo (M + 16) d zs ∧ Below w.heap.size w w1) := ⟨⟨b1, HI.out.later l1 (Nat.le_refl _)⟩, l1⟩; have cM1 := H1.out.1.cM; have cT1 := H1.out.1.cT; clear b1 s1 l1) | (refine wpList_load_mid rfl 30 _ rfl w.heap.size 0 rfl (u8s key) _ H1.out.1.key Try.underlying30 rfl H1.out.1.sk ?_) | (refine wpList_load_mid rfl 25 _ rfl w.heap.size 32 rfl (u8s nonce) _ H1.out.1.nonce Try.underlying25 rfl H1.out.1.sn ?_))
  refine (open_yes key nonce n c (M + 16) d ao bo ms zs HI.out.k32 HI.out.n12 HI.out.kb HI.out.nb h16 hm hn w1 H1.out.1.is.more H1.out.1.is.text HI.out.hc HI.out.hd hO).mono ?_
  rintro e w2 ⟨v, rfl, o2, l2⟩
  rw [HX.out.1, Nat.add_sub_cancel] at o2
  obtain ⟨v2, c2, rfl, d2, hc2, _⟩ := isO_seen o2 HX.out.2.1 HX.out.2.2.1 (by omega)
  have H2 : Hid (CsAt w2 w.heap.size key nonce ao n c ms bo (M + 16) d zs ∧ Below w.heap.size w w2 ∧ Seen w2 v2 M X ∧ M ≤ c2) := ⟨H1.out.1.later l2, below_chain H1.out.2 l2 H1.out.2.size, d2, hc2⟩
  have cM2 := H2.out.1.cM
  have cT2 := H2.out.1.cT
  clear cM1 cT1 l2 H1 o2 d2 hc2
  go_wp2_with (first | (refine wpList_load_mid rfl 30 _ rfl w.heap.size 0 rfl (u8s key) _ H2.out.1.key Try.underlying30 rfl H2.out.1.sk ?_) | (refine wpList_load_mid rfl 25 _ rfl w.heap.size 32 rfl (u8s nonce) _ H2.out.1.nonce Try.underlying25 rfl H2.out.1.sn ?_))
  refine (peek_any key nonce n c (M + 16) d ao bo ms zs HI.out.k32 HI.out.n12 HI.out.kb HI.out.nb h16 hm hn w2 H2.out.1.is.more H2.out.1.is.text HI.out.hc HI.out.hd).mono ?_
  rintro e w3 ⟨v, rfl, o3, l3⟩
  rw [hO, mk_true]
  rw [HX.out.2.2.2.1, Nat.add_sub_cancel] at o3
  obtain ⟨v3, c3, rfl, d3, hc3, _⟩ := isO_seen o3 HX.out.2.1 HX.out.2.2.1 (by omega)
  have H3 : Hid (CsAt w3 w.heap.size key nonce ao n c ms bo (M + 16) d zs ∧ Below w.heap.size w w3 ∧ Seen w3 v2 M X ∧ M ≤ c2 ∧ Seen w3 v3 M X) := ⟨H2.out.1.later l3, below_chain H2.out.2.1 l3 H2.out.2.1.size, H2.out.2.2.1.later l3 (Nat.le_refl _), H2.out.2.2.2, d3⟩
  have cM3 := H3.out.1.cM
  have cT3 := H3.out.1.cT
  clear cM2 cT2 l3 H2 o3 d3 hc3
  go_wp2_with (first | (refine wpList_load_mid rfl 30 _ rfl w.heap.size 0 rfl (u8s key) _ H3.out.1.key Try.underlying30 rfl H3.out.1.sk ?_) | (refine wpList_load_mid rfl 25 _ rfl w.heap.size 32 rfl (u8s nonce) _ H3.out.1.nonce Try.underlying25 rfl H3.out.1.sn ?_))
  refine (seal_any key nonce n c M c2 ao v2 ms X HI.out.k32 HI.out.n12 HI.out.kb HI.out.nb hn (by omega) w3 H3.out.1.is.more H3.out.2.2.1 HI.out.hc H3.out.2.2.2.1).mono ?_
  rintro e w4 ⟨v, rfl, o4, l4⟩
  rw [HX.out.2.2.2.2.1] at o4
  obtain ⟨v4, c4, rfl, d4, hc4, _⟩ := isO_seen o4 HX.out.2.2.2.2.2.1 HX.out.2.2.2.2.2.2 (by omega)
  have H4 : Hid (CsAt w4 w.heap.size key nonce ao n c ms bo (M + 16) d zs ∧ Below w.heap.size w w4 ∧ Seen w4 v2 M X ∧ Seen w4 v3 M X ∧ Seen w4 v4 (M + 16) zs) := ⟨H3.out.1.later l4, below_chain H3.out.2.1 l4 H3.out.2.1.size, H3.out.2.2.1.later l4 (Nat.le_refl _), H3.out.2.2.2.2.later l4 (Nat.le_refl _), d4⟩
  have cT4 := H4.out.1.cT
  clear cM3 cT3 l4 H3 o4 d4 hc4
  go_wp2_with fail
  refine (eqb_yes v3 v2 M c3 c2 X w4 H4.out.2.2.2.1 H4.out.2.2.1).mono ?_
  rintro e w5 ⟨rfl, q5, rfl⟩
  have cT5 : (w4.drewN q5).cell? ⟨w.heap.size, 45, none⟩ = some (.slice bo (M + 16) d) := cT4
  go_wp2_with fail
  refine (eqb_yes v4 bo (M + 16) c4 d zs _ (H4.out.2.2.2.2.drewN q5) (H4.out.1.is.text.drewN q5)).mono ?_
  rintro e w6 ⟨rfl, q6, rfl⟩
  go_wp2_with (go_at_call 16; refine (sworks_any _).mono ?_; rintro e w7 ⟨rfl, l7⟩)
  go_ret
  exact ⟨rfl, below_chain (below_dn H4.out.2.1 _) l7 H4.out.2.1.size⟩
theorem sealOneForm.walk (key nonce : List Int) (ao : Option Addr) (n c : Nat) (ms : List Int) (bo : Option Addr) (m d : Nat) (zs : List Int) (w : World) (h : CsIn w key nonce ao n c ms bo m d zs) :
    Calls Try.prog 7 #[.agg (caseC key nonce ao n c bo m d).toArray] w fun e w' => e = .returned (.bool true) ∧ Below w.heap.size w w' := by
  by_cases h16 : m < 16
  · exact oneForm_bad key nonce ao n c ms bo m d zs w h 4 (by unfold boxE; rw [if_pos h16]) (.inl ⟨h16, rfl⟩)
  · by_cases hm : 1048592 < m
    · exact oneForm_bad key nonce ao n c ms bo m d zs w h 3 (by unfold boxE; rw [if_neg h16, if_pos (.inr hm)]) (.inr (.inl ⟨by omega, hm, rfl⟩))
    · by_cases hn : 1048576 < n
      · exact oneForm_bad key nonce ao n c ms bo m d zs w h 3 (by unfold boxE; rw [if_neg h16, if_pos (.inl hn)]) (.inr (.inr ⟨by omega, by omega, hn, rfl⟩))
      · cases hO : opensL key nonce ms zs with
        | false => exact oneForm_no key nonce ao n c ms bo m d zs w h (by omega) (by omega) (by omega) hO
        | true => exact oneForm_yes key nonce ao n c ms bo m d zs w h (by omega) (by omega) (by omega) hO
end Go.Proofs.Ytogplebajpdmoaa
