/- The walk of StreamTwice. -/
import Derived.Test.YtnijdlcfoepmbaaSTwice
namespace Go.Proofs.Ytnijdlcfoepmbaa
open Go.RowKit
set_option linter.unusedVariables false
set_option linter.unusedSimpArgs false

def bCells (key nonce : List Int) (ctr : Int) : List Value := u8s key ++ (u8s nonce ++ [Value.int .u32 ctr])
theorem sizeBegin : (Try.prog.info? 35).map (·.size) = some 45 := by kernel_rfl
/-- What is handed in: a key, a nonce and a counter, in block g. -/
structure BgAt (w : World) (g : Nat) (key nonce : List Int) (ctr : Nat) : Prop where
  blk : Blk w g 35 (bCells key nonce ctr)
  k32 : key.length = 32
  n12 : nonce.length = 12
  kb : Bytes key
  nb : Bytes nonce
  top : ctr < 4294967296
theorem BgAt.later {w w' : World} {g : Nat} {key nonce : List Int} {ctr : Nat} (h : BgAt w g key nonce ctr) {B : Nat} (hb : Below B w w') (hB : g < B) : BgAt w' g key nonce ctr := ⟨h.blk.later hb hB, h.k32, h.n12, h.kb, h.nb, h.top⟩
theorem BgAt.ctr {w : World} {g : Nat} {key nonce : List Int} {P : Nat} (h : BgAt w g key nonce P) : w.cell? ⟨g, 44, none⟩ = some (.int .u32 P) := by
  rw [h.blk.cell, bCells, List.getElem?_append_right (by rw [u8s_length, h.k32]; decide), u8s_length, h.k32, List.getElem?_append_right (by rw [u8s_length, h.n12]; decide), u8s_length, h.n12]; rfl
theorem BgAt.key {w : World} {g : Nat} {key nonce : List Int} {P : Nat} (h : BgAt w g key nonce P) : w.rangeAt g 0 (u8s key) := by
  have := Blk.range (xs := []) (ys := u8s key) (zs := u8s nonce ++ [Value.int .u32 P]) h.blk
  simpa using this
theorem BgAt.nonce {w : World} {g : Nat} {key nonce : List Int} {P : Nat} (h : BgAt w g key nonce P) : w.rangeAt g 32 (u8s nonce) := by
  have := Blk.range (xs := u8s key) (ys := u8s nonce) (zs := [Value.int .u32 P]) h.blk
  rwa [u8s_length, h.k32] at this
set_option maxRecDepth 20000 in
set_option maxHeartbeats 4000000 in
theorem streamTwice.walk (key nonce : List Int) (ctr : Nat) (ao : Option Addr) (n c : Nat) (zs : List Int) (bo : Option Addr) (n' c' : Nat) (ys : List Int) (w : World) (hk : key.length = 32) (hno : nonce.length = 12) (hkb : Bytes key) (hnb : Bytes nonce) (hct : ctr < 4294967296)
    (hx : Seen w ao n zs) (hc : ao = none → c = 0) (hy : Seen w bo n' ys) (hc' : bo = none → c' = 0) :
    Calls Try.prog 7 #[.agg (bCells key nonce ctr).toArray, .slice ao n c, .slice bo n' c'] w fun e w' => e = .returned (.bool true) ∧ Below w.heap.size w w' := by
  have HX : Hid (Seen w ao n zs ∧ Seen w bo n' ys) := ⟨hx, hy⟩
  have HK : Hid (key.length = 32 ∧ nonce.length = 12 ∧ Bytes key ∧ Bytes nonce) := ⟨hk, hno, hkb, hnb⟩
  have t1 := hx.top
  have t2 := hy.top
  clear hx hy hk hno hkb hnb
  go_enter Try.func7, Try.ntmps7
  go_wp2_with (first | (refine wpList_box_new rfl 35 _ rfl (bCells key nonce ctr) rfl ?_; intro w1 b1 s1 l1) | (go_at_call 24; refine (awake_any _).mono ?_; rintro e w2 ⟨rfl, l2⟩))
  have BG : Hid (BgAt w1 w.heap.size key nonce ctr) := ⟨b1, HK.out.1, HK.out.2.1, HK.out.2.2.1, HK.out.2.2.2, hct⟩
  have RS : Hid (∀ W, Below w1.heap.size w1 W → W.rangeAt w.heap.size 0 (u8s key) ∧ W.rangeAt w.heap.size 32 (u8s nonce) ∧ W.cell? ⟨w.heap.size, 44, none⟩ = some (.int .u32 ctr)) := fun W hW => by
    have hs := BG.out.later hW (by omega)
    exact ⟨hs.key, hs.nonce, hs.ctr⟩
  have HL1 : Hid (Below w.heap.size w w1 ∧ w1.heap.size = w.heap.size + 1) := ⟨l1, s1⟩
  have L2 : Hid (Below w1.heap.size w1 w2) := l2
  have SX : Hid (∀ W, Below w1.heap.size w1 W → Seen W ao n zs ∧ Seen W bo n' ys) := fun W hW => ⟨(HX.out.1.later HL1.out.1 (Nat.le_refl _)).later hW (Nat.le_refl _), (HX.out.2.later HL1.out.1 (Nat.le_refl _)).later hW (Nat.le_refl _)⟩
  clear b1 s1 l1 l2
  refine wp_region_noPanic (till_region 8 (fun W => W.rangeAt (w.heap.size) 0 (u8s key) ∧ W.rangeAt (w.heap.size) 32 (u8s nonce) ∧ W.cell? ⟨w.heap.size, 44, none⟩ = some (.int .u32 ctr)) (by kernel_rfl) ?_)
  change wpTill _ _ _ _ _ _ _ _ w2.drew
  have SA := RS.out w2.drew (below_dn L2.out 1)
  have HSA : Hid (w2.drew.rangeAt (w.heap.size) 0 (u8s key) ∧ w2.drew.rangeAt (w.heap.size) 32 (u8s nonce) ∧ w2.drew.cell? ⟨w.heap.size, 44, none⟩ = some (.int .u32 ctr)) := SA
  clear SA
  refine tTake 0 (some 17) (.pointer (some ⟨w.heap.size, 0, none⟩)) rfl rfl (by kernel_rfl) (by kernel_rfl) (by kernel_rfl) (by decide) (fun _ _ _ h => h) (by rfl) (fun _ => by go_simp) HSA.out ?_
  simp only [Act.put, List.setIfInBounds_toArray, List.set_cons_zero, List.set_cons_succ]
  refine tLoadMid 1 (some 18) (u8s key) rfl rfl (by kernel_rfl) (by kernel_rfl) (by kernel_rfl) (by decide) (by kernel_rfl) (by kernel_rfl) (fun _ _ _ h => h) (by rfl) 31 (.tmp 17) rfl (w.heap.size) 0 rfl _ (fun _ h => h.1) Try.underlying31 rfl (by rw [u8s_length, HK.out.1]; exact sizeKey) HSA.out ?_
  simp only [Act.put, List.setIfInBounds_toArray, List.set_cons_zero, List.set_cons_succ]
  refine tTake 2 (some 19) (.pointer (some ⟨w.heap.size, 32, none⟩)) rfl rfl (by kernel_rfl) (by kernel_rfl) (by kernel_rfl) (by decide) (fun _ _ _ h => h) (by rfl) (fun _ => by go_simp) HSA.out ?_
  simp only [Act.put, List.setIfInBounds_toArray, List.set_cons_zero, List.set_cons_succ]
  refine tLoadMid 3 (some 20) (u8s nonce) rfl rfl (by kernel_rfl) (by kernel_rfl) (by kernel_rfl) (by decide) (by kernel_rfl) (by kernel_rfl) (fun _ _ _ h => h) (by rfl) 33 (.tmp 19) rfl (w.heap.size) 32 rfl _ (fun _ h => h.2.1) Try.underlying33 rfl (by rw [u8s_length, HK.out.2.1]; exact sizeNonce) HSA.out ?_
  simp only [Act.put, List.setIfInBounds_toArray, List.set_cons_zero, List.set_cons_succ]
  refine tTake 4 (some 21) (.pointer (some ⟨w.heap.size, 44, none⟩)) rfl rfl (by kernel_rfl) (by kernel_rfl) (by kernel_rfl) (by decide) (fun _ _ _ h => h) (by rfl) (fun _ => by go_simp) HSA.out ?_
  simp only [Act.put, List.setIfInBounds_toArray, List.set_cons_zero, List.set_cons_succ]
  refine tLoad 5 (some 22) (.int .u32 ctr) rfl rfl (by kernel_rfl) (by kernel_rfl) (by kernel_rfl) (by decide) (by kernel_rfl) (by kernel_rfl) (fun _ _ _ h => h) (by rfl) (fun W' hS' => by obtain ⟨s1, s2, s3⟩ := hS'; go_simp) HSA.out ?_
  simp only [Act.put, List.setIfInBounds_toArray, List.set_cons_zero, List.set_cons_succ]
  refine tTake 6 (some 23) (.slice ao n c) rfl rfl (by kernel_rfl) (by kernel_rfl) (by kernel_rfl) (by decide) (fun _ _ _ h => h) (by rfl) (fun _ => by rfl) HSA.out ?_
  simp only [Act.put, List.setIfInBounds_toArray, List.set_cons_zero, List.set_cons_succ]
  refine till_ready 7 (by kernel_rfl) rfl (fun K hK => ?_)
  go_simp
  go_wp2_with (go_at_call 23; refine (copied_any ao n c zs _ (SX.out _ (below_dn L2.out 1)).1 hc).mono ?_; rintro e wA ⟨v, rfl, oA, lA⟩; obtain ⟨pA, pcA, rfl, sA, _⟩ := own_seen ((SX.out _ (below_dn L2.out 1)).1).len ((SX.out _ (below_dn L2.out 1)).1).bytes ((SX.out _ (below_dn L2.out 1)).1).top oA)
  have LA : Hid (Below w1.heap.size w1 wA) := below_chain L2.out (below_ahead (k := 1) lA) L2.out.size
  refine ⟨RS.out _ LA.out, till_at (by kernel_rfl) ?_⟩
  refine wpAny_ready (rs := [8]) (by kernel_rfl) (by simp) (AllReady.cons rfl (fun K hK => ?_) AllReady.nil)
  go_simp
  go_wp2_with (go_at_call 19; refine (xor_all key nonce ctr n pcA pA zs HK.out.1 HK.out.2.1 HK.out.2.2.1 HK.out.2.2.2 hct _ sA).mono ?_; rintro e xA ⟨vA, mA, cA, RA, EA, rfl, hA, dA, nA, bA, kA, qA⟩)
  have MA : Hid (Below w1.heap.size w1 xA) := below_chain LA.out qA LA.out.size
  have NA : Hid (Below w2.heap.size w2 xA) := below_chain (below_ahead (k := 1) lA) qA (below_ahead (k := 1) lA).size
  have DA : Hid (Seen xA vA mA RA ∧ (∀ b o, vA = some ⟨b, o, none⟩ → wA.heap.size ≤ b)) := ⟨dA, bA⟩
  have HA : Hid ((n + 64 * ctr ≤ 274877906944 ∧ mA = n ∧ EA = 0 ∧ RA = over key nonce (64 * ctr) zs) ∨ (274877906944 < n + 64 * ctr ∧ mA = 0 ∧ EA = 50 ∧ RA = [])) := hA
  clear dA bA qA sA oA lA LA HSA hA
  refine take_op 9 (some 16) (.tuple #[.slice vA mA cA, .int .i64 EA]) rfl rfl (by kernel_rfl) (by kernel_rfl) (by kernel_rfl) (fun _ _ _ h => h) (by rfl) (fun _ => by rfl) ?_
  simp only [Act.put, List.setIfInBounds_toArray, List.set_cons_zero, List.set_cons_succ]
  refine take_op 10 (some 26) (.slice vA mA cA) rfl rfl (by kernel_rfl) (by kernel_rfl) (by kernel_rfl) (fun _ _ _ h => h) (by rfl) (fun _ => by rfl) ?_
  simp only [Act.put, List.setIfInBounds_toArray, List.set_cons_zero, List.set_cons_succ]
  refine take_op 11 (some 27) (.int .i64 EA) rfl rfl (by kernel_rfl) (by kernel_rfl) (by kernel_rfl) (fun _ _ _ h => h) (by rfl) (fun _ => by rfl) ?_
  simp only [Act.put, List.setIfInBounds_toArray, List.set_cons_zero, List.set_cons_succ]
  refine take_op 12 (some 7) (.slice vA mA cA) rfl rfl (by kernel_rfl) (by kernel_rfl) (by kernel_rfl) (fun _ _ _ h => h) (by rfl) (fun _ => by rfl) ?_
  simp only [Act.put, List.setIfInBounds_toArray, List.set_cons_zero, List.set_cons_succ]
  refine take_op 13 (some 8) (.int .i64 EA) rfl rfl (by kernel_rfl) (by kernel_rfl) (by kernel_rfl) (fun _ _ _ h => h) (by rfl) (fun _ => by rfl) ?_
  simp only [Act.put, List.setIfInBounds_toArray, List.set_cons_zero, List.set_cons_succ]
  refine wpAny_done (by kernel_rfl) (NoPanic.normal ?_) _
  go_wp2_with fail
  refine wp_region_noPanic (till_region 8 (fun W => W.rangeAt (w.heap.size) 0 (u8s key) ∧ W.rangeAt (w.heap.size) 32 (u8s nonce) ∧ W.cell? ⟨w.heap.size, 44, none⟩ = some (.int .u32 ctr)) (by kernel_rfl) ?_)
  change wpTill _ _ _ _ _ _ _ _ xA.drew
  have SB := RS.out xA.drew (below_dn MA.out 1)
  have HSB : Hid (xA.drew.rangeAt (w.heap.size) 0 (u8s key) ∧ xA.drew.rangeAt (w.heap.size) 32 (u8s nonce) ∧ xA.drew.cell? ⟨w.heap.size, 44, none⟩ = some (.int .u32 ctr)) := SB
  clear SB
  refine tTake 0 (some 29) (.pointer (some ⟨w.heap.size, 0, none⟩)) rfl rfl (by kernel_rfl) (by kernel_rfl) (by kernel_rfl) (by decide) (fun _ _ _ h => h) (by rfl) (fun _ => by go_simp) HSB.out ?_
  simp only [Act.put, List.setIfInBounds_toArray, List.set_cons_zero, List.set_cons_succ]
  refine tLoadMid 1 (some 30) (u8s key) rfl rfl (by kernel_rfl) (by kernel_rfl) (by kernel_rfl) (by decide) (by kernel_rfl) (by kernel_rfl) (fun _ _ _ h => h) (by rfl) 31 (.tmp 29) rfl (w.heap.size) 0 rfl _ (fun _ h => h.1) Try.underlying31 rfl (by rw [u8s_length, HK.out.1]; exact sizeKey) HSB.out ?_
  simp only [Act.put, List.setIfInBounds_toArray, List.set_cons_zero, List.set_cons_succ]
  refine tTake 2 (some 31) (.pointer (some ⟨w.heap.size, 32, none⟩)) rfl rfl (by kernel_rfl) (by kernel_rfl) (by kernel_rfl) (by decide) (fun _ _ _ h => h) (by rfl) (fun _ => by go_simp) HSB.out ?_
  simp only [Act.put, List.setIfInBounds_toArray, List.set_cons_zero, List.set_cons_succ]
  refine tLoadMid 3 (some 32) (u8s nonce) rfl rfl (by kernel_rfl) (by kernel_rfl) (by kernel_rfl) (by decide) (by kernel_rfl) (by kernel_rfl) (fun _ _ _ h => h) (by rfl) 33 (.tmp 31) rfl (w.heap.size) 32 rfl _ (fun _ h => h.2.1) Try.underlying33 rfl (by rw [u8s_length, HK.out.2.1]; exact sizeNonce) HSB.out ?_
  simp only [Act.put, List.setIfInBounds_toArray, List.set_cons_zero, List.set_cons_succ]
  refine tTake 4 (some 33) (.pointer (some ⟨w.heap.size, 44, none⟩)) rfl rfl (by kernel_rfl) (by kernel_rfl) (by kernel_rfl) (by decide) (fun _ _ _ h => h) (by rfl) (fun _ => by go_simp) HSB.out ?_
  simp only [Act.put, List.setIfInBounds_toArray, List.set_cons_zero, List.set_cons_succ]
  refine tLoad 5 (some 34) (.int .u32 ctr) rfl rfl (by kernel_rfl) (by kernel_rfl) (by kernel_rfl) (by decide) (by kernel_rfl) (by kernel_rfl) (fun _ _ _ h => h) (by rfl) (fun W' hS' => by obtain ⟨s1, s2, s3⟩ := hS'; go_simp) HSB.out ?_
  simp only [Act.put, List.setIfInBounds_toArray, List.set_cons_zero, List.set_cons_succ]
  refine tTake 6 (some 35) (.slice bo n' c') rfl rfl (by kernel_rfl) (by kernel_rfl) (by kernel_rfl) (by decide) (fun _ _ _ h => h) (by rfl) (fun _ => by rfl) HSB.out ?_
  simp only [Act.put, List.setIfInBounds_toArray, List.set_cons_zero, List.set_cons_succ]
  refine till_ready 7 (by kernel_rfl) rfl (fun K hK => ?_)
  go_simp
  go_wp2_with (go_at_call 23; refine (copied_any bo n' c' ys _ (SX.out _ (below_dn MA.out 1)).2 hc').mono ?_; rintro e wB ⟨v, rfl, oB, lB⟩; obtain ⟨pB, pcB, rfl, sB, _⟩ := own_seen ((SX.out _ (below_dn MA.out 1)).2).len ((SX.out _ (below_dn MA.out 1)).2).bytes ((SX.out _ (below_dn MA.out 1)).2).top oB)
  have LB : Hid (Below w1.heap.size w1 wB) := below_chain MA.out (below_ahead (k := 1) lB) MA.out.size
  refine ⟨RS.out _ LB.out, till_at (by kernel_rfl) ?_⟩
  refine wpAny_ready (rs := [8]) (by kernel_rfl) (by simp) (AllReady.cons rfl (fun K hK => ?_) AllReady.nil)
  go_simp
  go_wp2_with (go_at_call 19; refine (xor_all key nonce ctr n' pcB pB ys HK.out.1 HK.out.2.1 HK.out.2.2.1 HK.out.2.2.2 hct _ sB).mono ?_; rintro e xB ⟨vB, mB, cB, RB, EB, rfl, hB, dB, nB, bB, kB, qB⟩)
  have MB : Hid (Below w1.heap.size w1 xB) := below_chain LB.out qB LB.out.size
  have NB : Hid (Below xA.heap.size xA xB) := below_chain (below_ahead (k := 1) lB) qB (below_ahead (k := 1) lB).size
  have DB : Hid (Seen xB vB mB RB ∧ (∀ b o, vB = some ⟨b, o, none⟩ → wB.heap.size ≤ b)) := ⟨dB, bB⟩
  have HB : Hid ((n' + 64 * ctr ≤ 274877906944 ∧ mB = n' ∧ EB = 0 ∧ RB = over key nonce (64 * ctr) ys) ∨ (274877906944 < n' + 64 * ctr ∧ mB = 0 ∧ EB = 50 ∧ RB = [])) := hB
  clear dB bB qB sB oB lB LB HSB hB
  refine take_op 9 (some 28) (.tuple #[.slice vB mB cB, .int .i64 EB]) rfl rfl (by kernel_rfl) (by kernel_rfl) (by kernel_rfl) (fun _ _ _ h => h) (by rfl) (fun _ => by rfl) ?_
  simp only [Act.put, List.setIfInBounds_toArray, List.set_cons_zero, List.set_cons_succ]
  refine take_op 10 (some 38) (.slice vB mB cB) rfl rfl (by kernel_rfl) (by kernel_rfl) (by kernel_rfl) (fun _ _ _ h => h) (by rfl) (fun _ => by rfl) ?_
  simp only [Act.put, List.setIfInBounds_toArray, List.set_cons_zero, List.set_cons_succ]
  refine take_op 11 (some 39) (.int .i64 EB) rfl rfl (by kernel_rfl) (by kernel_rfl) (by kernel_rfl) (fun _ _ _ h => h) (by rfl) (fun _ => by rfl) ?_
  simp only [Act.put, List.setIfInBounds_toArray, List.set_cons_zero, List.set_cons_succ]
  refine take_op 12 (some 9) (.slice vB mB cB) rfl rfl (by kernel_rfl) (by kernel_rfl) (by kernel_rfl) (fun _ _ _ h => h) (by rfl) (fun _ => by rfl) ?_
  simp only [Act.put, List.setIfInBounds_toArray, List.set_cons_zero, List.set_cons_succ]
  refine take_op 13 (some 10) (.int .i64 EB) rfl rfl (by kernel_rfl) (by kernel_rfl) (by kernel_rfl) (fun _ _ _ h => h) (by rfl) (fun _ => by rfl) ?_
  simp only [Act.put, List.setIfInBounds_toArray, List.set_cons_zero, List.set_cons_succ]
  refine wpAny_done (by kernel_rfl) (NoPanic.normal ?_) _
  have cX := (RS.out _ MB.out).2.2
  rcases HA.out with ⟨hA1, rfl, rfl, hA4⟩ | ⟨hA1, rfl, rfl, hA4⟩
  · have i1 : ¬ 274877906944 - 64 * (ctr : Int) < (mA : Int) := by omega
    have A4 : Hid (RA = over key nonce (64 * ctr) zs) := hA4
    clear hA4 HA
    go_wp2_with (first | (go_at_call 25; refine (left_any ctr hct _).mono ?_; rintro e w' ⟨rfl, rfl⟩))
    clear cX
    refine wp_region_noPanic (till_region 8 (fun W => W.rangeAt (w.heap.size) 0 (u8s key) ∧ W.rangeAt (w.heap.size) 32 (u8s nonce) ∧ W.cell? ⟨w.heap.size, 44, none⟩ = some (.int .u32 ctr)) (by kernel_rfl) ?_)
    change wpTill _ _ _ _ _ _ _ _ xB.drew
    have SC := RS.out xB.drew (below_dn MB.out 1)
    have HSC : Hid (xB.drew.rangeAt (w.heap.size) 0 (u8s key) ∧ xB.drew.rangeAt (w.heap.size) 32 (u8s nonce) ∧ xB.drew.cell? ⟨w.heap.size, 44, none⟩ = some (.int .u32 ctr)) := SC
    clear SC
    refine tTake 0 (some 55) (.pointer (some ⟨w.heap.size, 0, none⟩)) rfl rfl (by kernel_rfl) (by kernel_rfl) (by kernel_rfl) (by decide) (fun _ _ _ h => h) (by rfl) (fun _ => by go_simp) HSC.out ?_
    simp only [Act.put, List.setIfInBounds_toArray, List.set_cons_zero, List.set_cons_succ]
    refine tLoadMid 1 (some 56) (u8s key) rfl rfl (by kernel_rfl) (by kernel_rfl) (by kernel_rfl) (by decide) (by kernel_rfl) (by kernel_rfl) (fun _ _ _ h => h) (by rfl) 31 (.tmp 55) rfl (w.heap.size) 0 rfl _ (fun _ h => h.1) Try.underlying31 rfl (by rw [u8s_length, HK.out.1]; exact sizeKey) HSC.out ?_
    simp only [Act.put, List.setIfInBounds_toArray, List.set_cons_zero, List.set_cons_succ]
    refine tTake 2 (some 57) (.pointer (some ⟨w.heap.size, 32, none⟩)) rfl rfl (by kernel_rfl) (by kernel_rfl) (by kernel_rfl) (by decide) (fun _ _ _ h => h) (by rfl) (fun _ => by go_simp) HSC.out ?_
    simp only [Act.put, List.setIfInBounds_toArray, List.set_cons_zero, List.set_cons_succ]
    refine tLoadMid 3 (some 58) (u8s nonce) rfl rfl (by kernel_rfl) (by kernel_rfl) (by kernel_rfl) (by decide) (by kernel_rfl) (by kernel_rfl) (fun _ _ _ h => h) (by rfl) 33 (.tmp 57) rfl (w.heap.size) 32 rfl _ (fun _ h => h.2.1) Try.underlying33 rfl (by rw [u8s_length, HK.out.2.1]; exact sizeNonce) HSC.out ?_
    simp only [Act.put, List.setIfInBounds_toArray, List.set_cons_zero, List.set_cons_succ]
    refine tTake 4 (some 59) (.pointer (some ⟨w.heap.size, 44, none⟩)) rfl rfl (by kernel_rfl) (by kernel_rfl) (by kernel_rfl) (by decide) (fun _ _ _ h => h) (by rfl) (fun _ => by go_simp) HSC.out ?_
    simp only [Act.put, List.setIfInBounds_toArray, List.set_cons_zero, List.set_cons_succ]
    refine tLoad 5 (some 60) (.int .u32 ctr) rfl rfl (by kernel_rfl) (by kernel_rfl) (by kernel_rfl) (by decide) (by kernel_rfl) (by kernel_rfl) (fun _ _ _ h => h) (by rfl) (fun W' hS' => by obtain ⟨s1, s2, s3⟩ := hS'; go_simp) HSC.out ?_
    simp only [Act.put, List.setIfInBounds_toArray, List.set_cons_zero, List.set_cons_succ]
    refine tTake 6 (some 61) (.slice vA mA cA) rfl rfl (by kernel_rfl) (by kernel_rfl) (by kernel_rfl) (by decide) (fun _ _ _ h => h) (by rfl) (fun _ => by rfl) HSC.out ?_
    simp only [Act.put, List.setIfInBounds_toArray, List.set_cons_zero, List.set_cons_succ]
    refine till_ready 7 (by kernel_rfl) rfl (fun K hK => ?_)
    go_simp
    go_wp2_with (go_at_call 23; refine (copied_any vA mA cA RA _ (DA.out.1.later NB.out (Nat.le_refl _)).drew nA).mono ?_; rintro e wC ⟨v, rfl, oC, lC⟩; obtain ⟨pC, pcC, rfl, sC, _⟩ := own_seen ((DA.out.1.later NB.out (Nat.le_refl _)).drew).len ((DA.out.1.later NB.out (Nat.le_refl _)).drew).bytes ((DA.out.1.later NB.out (Nat.le_refl _)).drew).top oC)
    have LC : Hid (Below w1.heap.size w1 wC) := below_chain MB.out (below_ahead (k := 1) lC) MB.out.size
    refine ⟨RS.out _ LC.out, till_at (by kernel_rfl) ?_⟩
    refine wpAny_ready (rs := [8]) (by kernel_rfl) (by simp) (AllReady.cons rfl (fun K hK => ?_) AllReady.nil)
    go_simp
    go_wp2_with (go_at_call 19; refine (xor_all key nonce ctr mA pcC pC RA HK.out.1 HK.out.2.1 HK.out.2.2.1 HK.out.2.2.2 hct _ sC).mono ?_; rintro e xC ⟨vC, mC, cC, RC, EC, rfl, hC, dC, nC, bC, kC, qC⟩)
    have MC : Hid (Below w1.heap.size w1 xC) := below_chain LC.out qC LC.out.size
    have NC : Hid (Below xB.heap.size xB xC) := below_chain (below_ahead (k := 1) lC) qC (below_ahead (k := 1) lC).size
    have DC : Hid (Seen xC vC mC RC ∧ (∀ b o, vC = some ⟨b, o, none⟩ → wC.heap.size ≤ b)) := ⟨dC, bC⟩
    have HC : Hid ((mA + 64 * ctr ≤ 274877906944 ∧ mC = mA ∧ EC = 0 ∧ RC = over key nonce (64 * ctr) RA) ∨ (274877906944 < mA + 64 * ctr ∧ mC = 0 ∧ EC = 50 ∧ RC = [])) := hC
    clear dC bC qC sC oC lC LC HSC hC
    refine take_op 9 (some 54) (.tuple #[.slice vC mC cC, .int .i64 EC]) rfl rfl (by kernel_rfl) (by kernel_rfl) (by kernel_rfl) (fun _ _ _ h => h) (by rfl) (fun _ => by rfl) ?_
    simp only [Act.put, List.setIfInBounds_toArray, List.set_cons_zero, List.set_cons_succ]
    refine take_op 10 (some 64) (.slice vC mC cC) rfl rfl (by kernel_rfl) (by kernel_rfl) (by kernel_rfl) (fun _ _ _ h => h) (by rfl) (fun _ => by rfl) ?_
    simp only [Act.put, List.setIfInBounds_toArray, List.set_cons_zero, List.set_cons_succ]
    refine take_op 11 (some 65) (.int .i64 EC) rfl rfl (by kernel_rfl) (by kernel_rfl) (by kernel_rfl) (fun _ _ _ h => h) (by rfl) (fun _ => by rfl) ?_
    simp only [Act.put, List.setIfInBounds_toArray, List.set_cons_zero, List.set_cons_succ]
    refine take_op 12 (some 11) (.slice vC mC cC) rfl rfl (by kernel_rfl) (by kernel_rfl) (by kernel_rfl) (fun _ _ _ h => h) (by rfl) (fun _ => by rfl) ?_
    simp only [Act.put, List.setIfInBounds_toArray, List.set_cons_zero, List.set_cons_succ]
    refine take_op 13 (some 12) (.int .i64 EC) rfl rfl (by kernel_rfl) (by kernel_rfl) (by kernel_rfl) (fun _ _ _ h => h) (by rfl) (fun _ => by rfl) ?_
    simp only [Act.put, List.setIfInBounds_toArray, List.set_cons_zero, List.set_cons_succ]
    refine wpAny_done (by kernel_rfl) (NoPanic.normal ?_) _
    rcases HC.out with ⟨hC1, rfl, rfl, hC4⟩ | ⟨hC1, hC2, hC3, hC4⟩
    · have hRC : RC = zs := by rw [hC4, A4.out, over_over _ _ _ _ HX.out.1.bytes]
      subst hRC
      clear hC4 HC
      have cX := (RS.out _ MC.out).2.2
      have SA : Hid (Seen xC ao mC RC ∧ Seen xC bo n' ys) := SX.out _ MC.out
      have SC : Hid (Seen xC vC mC RC) := DC.out.1
      have SV : Hid (Seen xC vA mC RA ∧ Seen xC vB mB RB) := ⟨(DA.out.1.later NB.out (Nat.le_refl _)).later NC.out (Nat.le_refl _), DB.out.1.later NC.out (Nat.le_refl _)⟩
      rcases HB.out with ⟨hB1, rfl, rfl, hB4⟩ | ⟨hB1, rfl, rfl, hB4⟩
      · have i2 : ¬ 274877906944 - 64 * (ctr : Int) < (mB : Int) := by omega
        have B4 : Hid (RB = over key nonce (64 * ctr) ys) := hB4
        clear hB4 HB
        go_wp2_with (first | (go_at_call 20; refine (same_yes vC ao _ _ cC c RC _ SC.out SA.out.1).mono ?_; rintro e w' ⟨rfl, qq, rfl⟩) | (go_at_call 25; refine (left_any ctr hct _).mono ?_; rintro e w' ⟨rfl, rfl⟩))
        go_loopw [13] (fun i wr => ∃ k : Nat, k ≤ mC ∧ i = .int .i64 k ∧ Kept (fun _ => False) xC wr) (fun i _ => mC - (intOf i).toNat)
        case atStart => exact ⟨0, by omega, rfl, (Kept.refl _ _).drewN _⟩
        case round =>
          obtain ⟨k, hk, rfl, hkp⟩ := hrel
          clear cX
          by_cases h1 : k < mC
          · have i3 : (k : Int) < (mC : Int) := by omega
            by_cases h2 : k < mB
            · have i4 : (k : Int) < (mB : Int) := by omega
              have hz := SA.out.1.kept hkp (fun _ _ _ _ h => h)
              have hy := SA.out.2.kept hkp (fun _ _ _ _ h => h)
              have hv := SV.out.1.kept hkp (fun _ _ _ _ h => h)
              have hu := SV.out.2.kept hkp (fun _ _ _ _ h => h)
              have eA : RA.getD k 0 = bits .xor .u8 (RC.getD k 0) (ks key nonce (64 * ctr + k)) := by rw [A4.out, over_at _ _ _ _ _ (by rw [hz.len]; exact h1)]
              have eB : RB.getD k 0 = bits .xor .u8 (ys.getD k 0) (ks key nonce (64 * ctr + k)) := by rw [B4.out, over_at _ _ _ _ _ (by rw [hy.len]; exact h2)]
              have he := xor_both (RC.getD k 0) (ys.getD k 0) (ks key nonce (64 * ctr + k)) (hz.bytes.at k (by rw [hz.len]; exact h1)) (hy.bytes.at k (by rw [hy.len]; exact h2)) (ks_byte _ _ _)
              rw [← eA, ← eB] at he
              obtain ⟨z1, o1, ez, _, cz⟩ := hz.cells (by omega)
              obtain ⟨z2, o2, ey, _, cy⟩ := hy.cells (by omega)
              obtain ⟨z3, o3, ev, _, cv⟩ := hv.cells (by omega)
              obtain ⟨z4, o4, eu, _, cu⟩ := hu.cells (by omega)
              have c1 := cz k h1
              have c2 := cy k h2
              have c3 := cv k h1
              have c4 := cu k h2
              generalize RC.getD k 0 = X at c1 he
              generalize ys.getD k 0 = Y at c2 he
              generalize RA.getD k 0 = A at c3 he
              generalize RB.getD k 0 = B at c4 he
              have HK2 : Hid (Kept (fun _ => False) xC wr) := hkp
              clear hz hy hv hu eA eB cz cy cv cu hkp
              clear SA SC SV DA DB DC SX HX
              subst ez ey ev eu
              go_wp2_with fail
              go_quiet (fail)
              go_wp2_with fail
              exact ⟨⟨k + 1, by omega, by go_num, HK2.out.drewN _⟩, by simp [intOf]; omega⟩
            · have i4 : ¬ (k : Int) < (mB : Int) := by omega
              have HE : Hid (Below w.heap.size w wr) := below_kept (below_chain HL1.out.1 MC.out (by have := HL1.out.2; omega)) hkp (by have := MC.out.size; have := HL1.out.1.size; omega) (fun j hj h => h)
              clear hkp
              go_wp2_with fail
              go_ret
              exact ⟨rfl, HE.out⟩
          · have i3 : ¬ (k : Int) < (mC : Int) := by omega
            have HE : Hid (Below w.heap.size w wr) := below_kept (below_chain HL1.out.1 MC.out (by have := HL1.out.2; omega)) hkp (by have := MC.out.size; have := HL1.out.1.size; omega) (fun j hj h => h)
            clear hkp
            go_wp2_with fail
            go_ret
            exact ⟨rfl, HE.out⟩
      · have i2 : 274877906944 - 64 * (ctr : Int) < (n' : Int) := by omega
        go_wp2_with (first | (go_at_call 20; refine (same_yes vC ao _ _ cC c RC _ SC.out SA.out.1).mono ?_; rintro e w' ⟨rfl, qq, rfl⟩) | (go_at_call 25; refine (left_any ctr hct _).mono ?_; rintro e w' ⟨rfl, rfl⟩))
        go_ret
        exact ⟨rfl, below_dn (below_chain HL1.out.1 MC.out (by have := HL1.out.2; omega)) _⟩
    · exfalso; omega
  · have i1 : 274877906944 - 64 * (ctr : Int) < (n : Int) := by omega
    go_wp2_with (first | (go_at_call 25; refine (left_any ctr hct _).mono ?_; rintro e w' ⟨rfl, rfl⟩))
    go_ret
    exact ⟨rfl, below_chain HL1.out.1 MB.out (by have := HL1.out.2; omega)⟩
end Go.Proofs.Ytnijdlcfoepmbaa
