/- The walk of SealBack. -/
import Derived.Test.YtogplebajpdmoaaBL
namespace Go.Proofs.Ytogplebajpdmoaa
open Go.RowKit
set_option linter.unusedVariables false
set_option linter.unusedSimpArgs false

set_option maxRecDepth 20000 in
set_option maxHeartbeats 4000000 in
theorem sealBack.walk (key nonce : List Int) (ao : Option Addr) (n c : Nat) (ms : List Int) (bo : Option Addr) (m d : Nat) (zs : List Int) (w : World) (h : CsIn w key nonce ao n c ms bo m d zs) :
    Calls Try.prog 6 #[.agg (caseC key nonce ao n c bo m d).toArray] w fun e w' => e = .returned (.bool true) ∧ Below w.heap.size w w' := by
  have t1 := h.more.top
  have t2 := h.text.top
  have HI : Hid (CsIn w key nonce ao n c ms bo m d zs) := h
  clear h
  by_cases hbig : 1048576 < n ∨ 1048576 < m
  · go_enter Try.func6, Try.ntmps6
    go_wp2_with (first | (refine wpList_box_new rfl 33 _ rfl (caseC key nonce ao n c bo m d) rfl ?_; intro w1 b1 s1 l1; have H1 : Hid (CsAt w1 w.heap.size key nonce ao n c ms bo m d zs ∧ Below w.heap.size w w1) := ⟨⟨b1, HI.out.later l1 (Nat.le_refl _)⟩, l1⟩; have cM1 := H1.out.1.cM; have cT1 := H1.out.1.cT; clear b1 s1 l1) | (refine wpList_load_mid rfl 30 _ rfl w.heap.size 0 rfl (u8s key) _ H1.out.1.key Try.underlying30 rfl H1.out.1.sk ?_) | (refine wpList_load_mid rfl 25 _ rfl w.heap.size 32 rfl (u8s nonce) _ H1.out.1.nonce Try.underlying25 rfl H1.out.1.sn ?_))
    refine (seal_bad key nonce n c m d ao bo t1 t2 hbig w1).mono ?_
    rintro e w2 ⟨rfl, l2⟩
    have H2 : Hid (CsAt w2 w.heap.size key nonce ao n c ms bo m d zs ∧ Below w.heap.size w w2) := ⟨H1.out.1.later l2, below_chain H1.out.2 l2 H1.out.2.size⟩
    have cM2 := H2.out.1.cM
    have cT2 := H2.out.1.cT
    clear cM1 cT1 l2 H1
    by_cases h1 : 1048576 < n
    · have i1 : (1048576 : Int) < (n : Int) := by omega
      go_wp2_with (go_at_call 16; refine (sworks_any _).mono ?_; rintro e w3 ⟨rfl, l3⟩)
      go_ret
      exact ⟨rfl, below_chain H2.out.2 l3 H2.out.2.size⟩
    · have i1 : ¬ (1048576 : Int) < (n : Int) := by omega
      have i2 : (1048576 : Int) < (m : Int) := by omega
      go_wp2_with (go_at_call 16; refine (sworks_any _).mono ?_; rintro e w3 ⟨rfl, l3⟩)
      go_ret
      exact ⟨rfl, below_chain H2.out.2 l3 H2.out.2.size⟩
  · have i1 : ¬ (1048576 : Int) < (n : Int) := by omega
    have i2 : ¬ (1048576 : Int) < (m : Int) := by omega
    have hn : n ≤ 1048576 := by omega
    have hm : m ≤ 1048576 := by omega
    obtain ⟨X, hX⟩ : ∃ X, boxL key nonce ms zs = X := ⟨_, rfl⟩
    have HX : Hid (boxL key nonce ms zs = X ∧ X.length = m + 16 ∧ Bytes X ∧ opensL key nonce ms X = true ∧ textL key nonce X = zs ∧ zs.length = m ∧ Bytes zs ∧ peekL key nonce ms X = zs) := by
      have hb := HI.out.text.bytes
      have hl := HI.out.text.len
      refine ⟨hX, by rw [← hX, boxL_length, hl], by rw [← hX]; exact boxL_bytes _ _ _ hb, by rw [← hX]; exact opens_box _ _ _, by rw [← hX]; exact text_box _ _ _ hb, hl, hb, ?_⟩
      rw [← hX, peekL, if_pos (opens_box _ _ _)]; exact text_box _ _ _ hb
    clear hX hbig
    go_enter Try.func6, Try.ntmps6
    go_wp2_with (first | (refine wpList_box_new rfl 33 _ rfl (caseC key nonce ao n c bo m d) rfl ?_; intro w1 b1 s1 l1; have H1 : Hid (CsAt w1 w.heap.size key nonce ao n c ms bo m d zs ∧ Below w.heap.size w w1) := ⟨⟨b1, HI.out.later l1 (Nat.le_refl _)⟩, l1⟩; have cM1 := H1.out.1.cM; have cT1 := H1.out.1.cT; clear b1 s1 l1) | (refine wpList_load_mid rfl 30 _ rfl w.heap.size 0 rfl (u8s key) _ H1.out.1.key Try.underlying30 rfl H1.out.1.sk ?_) | (refine wpList_load_mid rfl 25 _ rfl w.heap.size 32 rfl (u8s nonce) _ H1.out.1.nonce Try.underlying25 rfl H1.out.1.sn ?_))
    refine (seal_any key nonce n c m d ao bo ms zs HI.out.k32 HI.out.n12 HI.out.kb HI.out.nb hn hm w1 H1.out.1.is.more H1.out.1.is.text HI.out.hc HI.out.hd).mono ?_
    rintro e w2 ⟨v, rfl, o2, l2⟩
    rw [HX.out.1] at o2
    obtain ⟨vo, cap, rfl, d2, hc2, _⟩ := isO_seen o2 HX.out.2.1 HX.out.2.2.1 (by omega)
    have H2 : Hid (CsAt w2 w.heap.size key nonce ao n c ms bo m d zs ∧ Below w.heap.size w w2 ∧ Seen w2 vo (m + 16) X ∧ m + 16 ≤ cap) := ⟨H1.out.1.later l2, below_chain H1.out.2 l2 H1.out.2.size, d2, hc2⟩
    have cM2 := H2.out.1.cM
    have cT2 := H2.out.1.cT
    clear cM1 cT1 l2 H1 o2 d2 hc2
    go_wp2_with (first | (refine wpList_load_mid rfl 30 _ rfl w.heap.size 0 rfl (u8s key) _ H2.out.1.key Try.underlying30 rfl H2.out.1.sk ?_) | (refine wpList_load_mid rfl 25 _ rfl w.heap.size 32 rfl (u8s nonce) _ H2.out.1.nonce Try.underlying25 rfl H2.out.1.sn ?_))
    refine (open_yes key nonce n c (m + 16) cap ao vo ms X HI.out.k32 HI.out.n12 HI.out.kb HI.out.nb (by omega) (by omega) hn w2 H2.out.1.is.more H2.out.2.2.1 HI.out.hc H2.out.2.2.2 HX.out.2.2.2.1).mono ?_
    rintro e w3 ⟨v, rfl, o3, l3⟩
    rw [HX.out.2.2.2.2.1, Nat.add_sub_cancel] at o3
    obtain ⟨v3, c3, rfl, d3, hc3, _⟩ := isO_seen o3 HX.out.2.2.2.2.2.1 HX.out.2.2.2.2.2.2.1 t2
    have H3 : Hid (CsAt w3 w.heap.size key nonce ao n c ms bo m d zs ∧ Below w.heap.size w w3 ∧ Seen w3 vo (m + 16) X ∧ m + 16 ≤ cap ∧ Seen w3 v3 m zs) := ⟨H2.out.1.later l3, below_chain H2.out.2.1 l3 H2.out.2.1.size, H2.out.2.2.1.later l3 (Nat.le_refl _), H2.out.2.2.2, d3⟩
    have cM3 := H3.out.1.cM
    have cT3 := H3.out.1.cT
    clear cM2 cT2 l3 H2 o3 d3 hc3
    go_wp2_with (first | (refine wpList_load_mid rfl 30 _ rfl w.heap.size 0 rfl (u8s key) _ H3.out.1.key Try.underlying30 rfl H3.out.1.sk ?_) | (refine wpList_load_mid rfl 25 _ rfl w.heap.size 32 rfl (u8s nonce) _ H3.out.1.nonce Try.underlying25 rfl H3.out.1.sn ?_))
    refine (peek_any key nonce n c (m + 16) cap ao vo ms X HI.out.k32 HI.out.n12 HI.out.kb HI.out.nb (by omega) (by omega) hn w3 H3.out.1.is.more H3.out.2.2.1 HI.out.hc H3.out.2.2.2.1).mono ?_
    rintro e w4 ⟨v, rfl, o4, l4⟩
    rw [HX.out.2.2.2.2.2.2.2, Nat.add_sub_cancel] at o4
    rw [HX.out.2.2.2.1, mk_true]
    obtain ⟨v4, c4, rfl, d4, hc4, _⟩ := isO_seen o4 HX.out.2.2.2.2.2.1 HX.out.2.2.2.2.2.2.1 t2
    have H4 : Hid (CsAt w4 w.heap.size key nonce ao n c ms bo m d zs ∧ Below w.heap.size w w4 ∧ Seen w4 v3 m zs ∧ Seen w4 v4 m zs) := ⟨H3.out.1.later l4, below_chain H3.out.2.1 l4 H3.out.2.1.size, H3.out.2.2.2.2.later l4 (Nat.le_refl _), d4⟩
    have cT4 := H4.out.1.cT
    clear cM3 cT3 l4 H3 o4 d4 hc4
    go_wp2_with fail
    refine (eqb_yes v3 bo m c3 d zs w4 H4.out.2.2.1 H4.out.1.is.text).mono ?_
    rintro e w5 ⟨rfl, q5, rfl⟩
    have cT5 : (w4.drewN q5).cell? ⟨w.heap.size, 45, none⟩ = some (.slice bo m d) := cT4
    go_wp2_with fail
    refine (eqb_yes v4 bo m c4 d zs _ (H4.out.2.2.2.drewN q5) (H4.out.1.is.text.drewN q5)).mono ?_
    rintro e w6 ⟨rfl, q6, rfl⟩
    go_wp2_with (go_at_call 16; refine (sworks_any _).mono ?_; rintro e w7 ⟨rfl, l7⟩)
    go_ret
    exact ⟨rfl, below_chain (below_dn H4.out.2.1 _) l7 H4.out.2.1.size⟩
end Go.Proofs.Ytogplebajpdmoaa
