/- Layer derive: a Mac: New, Write, Sum; Extract. -/
import Derived.Test.YtiimjhahblmggaaDoorVSum
namespace Go.Proofs.YtiimjhahblmggaaDoor
open Go.RowKit
set_option linter.unusedVariables false
set_option linter.unusedSimpArgs false

/-- A Mac at P: both hashes of a key, and what was written. -/
structure MacAt (w : World) (P g g' : Nat) (key text : List Int) : Prop where
  blk : Blk w P 74 [.pointer (some ⟨g, 0, none⟩), .pointer (some ⟨g', 0, none⟩)]
  kd : Keyed w g g' key text
  nP : P ≠ g
  nP' : P ≠ g'
theorem MacAt.now {w w' : World} {P g g' : Nat} {key text : List Int} (k : MacAt w P g g' key text) (hb : Below w.heap.size w w') : MacAt w' P g g' key text := ⟨k.blk.later hb k.blk.lt, k.kd.now hb, k.nP, k.nP'⟩
theorem MacAt.kept {S : Nat → Prop} {w w' : World} {P g g' : Nat} {key text : List Int} (k : MacAt w P g g' key text) (hk : Kept S w w') (hP : ¬ S P) (hg : ¬ S g) (hg' : ¬ S g') : MacAt w' P g g' key text := ⟨k.blk.kept hk hP, k.kd.kept hk hg hg', k.nP, k.nP'⟩
theorem MacAt.drewN {w : World} {P g g' : Nat} {key text : List Int} (k : MacAt w P g g' key text) (q : Nat) : MacAt (w.drewN q) P g g' key text := k.now (below_dn (Below.refl _ _) q)
theorem zeroMac : (Tryd.prog.info? 74).map (fun i => (i.zero, i.size)) = some (some (.agg [Value.pointer none, .pointer none].toArray), 2) := by kernel_rfl
theorem sizeMac : (Tryd.prog.info? 74).map (·.size) = some 2 := by kernel_rfl
theorem one_ptrs (a b : Option Addr) : ∀ v ∈ [Value.pointer a, .pointer b], v.oneCell' = true := by intro v hv; simp at hv; rcases hv with rfl | rfl <;> rfl
set_option maxRecDepth 20000 in
set_option maxHeartbeats 1000000 in
theorem vnew_any (ao : Option Addr) (n c : Nat) (zs : List Int) (w : World) (hx : Seen w ao n zs) (hc : n ≤ c) (hK : KTab w) :
    Calls Tryd.prog 19 #[.slice ao n c] w fun e w' => ∃ P g g', e = .returned (.pointer (some ⟨P, 0, none⟩)) ∧ w.heap.size ≤ P ∧ w.heap.size ≤ g ∧ w.heap.size ≤ g' ∧ MacAt w' P g g' zs [] ∧ Below w.heap.size w w' := by
  have HX : Hid (Seen w ao n zs ∧ KTab w ∧ n ≤ c) := ⟨hx, hK, hc⟩
  clear hx hK hc
  go_enter Tryd.func19, Tryd.ntmps19
  go_wp2_with (first | (go_at_call 34; refine (keyedBy_any ao n c zs _ HX.out.1 HX.out.2.2 HX.out.2.1).mono ?_; rintro e w2 ⟨g, g', rfl, hg, hg', hne, h2, h2', l2⟩))
  go_ret
  have B3 : Below w2.heap.size w2 (w2.alloc (.cells #[.pointer (some ⟨g, 0, none⟩), .pointer (some ⟨g', 0, none⟩)] 74)) := (Below.refl _ _).alloc (Nat.le_refl _) _
  have q1 := h2.lt; have q2 := h2'.lt; have q3 := l2.size
  exact ⟨w2.heap.size, g, g', rfl, q3, hg, hg', ⟨heap_alloc_new w2 _, ⟨hne, by rw [List.append_nil]; exact h2.later B3 q1, h2'.later B3 q2⟩, by omega, by omega⟩, below_chain l2 B3 q3⟩
set_option maxRecDepth 20000 in
set_option maxHeartbeats 1000000 in
theorem mwrite_any (P g g' : Nat) (key text : List Int) (ao : Option Addr) (n c : Nat) (zs : List Int) (w : World) (h : MacAt w P g g' key text) (hx : Seen w ao n zs) (hc : n ≤ c) (hne : ∀ b o, 0 < n → ao = some ⟨b, o, none⟩ → b ≠ g) (hK : KTab w) (hg : 0 < g) (hm : text.length + n < 9223372036854775744) :
    Calls Tryd.prog 20 #[.pointer (some ⟨P, 0, none⟩), .slice ao n c] w fun e w' => e = .returned (.tuple #[.int .i64 n, .nilIface]) ∧ MacAt w' P g g' key (text ++ zs) ∧ Kept (fun k => k = g) w w' := by
  have c0 : w.cell? ⟨P, 0, none⟩ = some (.pointer (some ⟨g, 0, none⟩)) := h.blk.cell 0
  go_enter Tryd.func20, Tryd.ntmps20
  go_wp2_with (go_at_call 35; refine (kwrite g g' key _ ao n c zs _ h.kd hx hc hne hK hg hm).mono ?_; rintro e w5 ⟨rfl, h5, k5⟩)
  go_ret2
  exact ⟨rfl, ⟨h.blk.kept k5 h.nP, h5, h.nP, h.nP'⟩, k5⟩
set_option maxRecDepth 20000 in
set_option maxHeartbeats 1000000 in
theorem msum_any (P g g' : Nat) (key text : List Int) (w : World) (h : MacAt w P g g' key text) (hK : KTab w) :
    Calls Tryd.prog 21 #[.pointer (some ⟨P, 0, none⟩)] w fun e w' => e = .returned (.agg (u8s (mac key text)).toArray) ∧ Below w.heap.size w w' := by
  have HX : Hid (MacAt w P g g' key text ∧ KTab w) := ⟨h, hK⟩
  clear h hK
  go_enter Tryd.func21, Tryd.ntmps21
  go_wp2_with (first | (refine wpList_alloc_new rfl 28 rfl 32 _ zeroAH ?_; intro w1 b1 s1 l1; have G1 : Hid (MacAt w1 P g g' key text ∧ KTab w1 ∧ Blk w1 w.heap.size 28 (u8s (zer 32)) ∧ Below w.heap.size w w1) := ⟨HX.out.1.now l1, HX.out.2.below l1 HX.out.2.lt, b1, l1⟩; clear b1 s1 l1; have d0 : w1.cell? ⟨P, 0, none⟩ = some (.pointer (some ⟨g, 0, none⟩)) := G1.out.1.blk.cell 0; have d1 : w1.cell? ⟨P, 1, none⟩ = some (.pointer (some ⟨g', 0, none⟩)) := G1.out.1.blk.cell 1) | (go_at_call 36; refine (code_any g g' key text _ G1.out.1.kd G1.out.2.1).mono ?_; rintro e w5 ⟨rfl, l5⟩; have X5 : Hid (Blk w5 w.heap.size 28 (u8s (zer 32)) ∧ Below w.heap.size w w5) := ⟨G1.out.2.2.1.later l5 G1.out.2.2.1.lt, below_chain G1.out.2.2.2 l5 G1.out.2.2.2.size⟩; clear l5) | (refine wpList_store_blk rfl 28 28 _ _ rfl _ rfl _ (u8s (mac key text)) rfl X5.out.1 (by rw [u8s_length, mac_length, u8s_length, zer_length]) (by rw [u8s_length, mac_length]; exact sizeAH) (u8s_one _) ?_; intro w6 b6 s6 k6))
  exact ret_blk rfl w.heap.size (u8s (mac key text)) _ rfl b6 Tryd.underlying28 rfl (by rw [u8s_length, mac_length]; exact sizeAH) rfl ⟨rfl, below_kept X5.out.2 k6 X5.out.2.size (fun j hj => by omega)⟩
set_option maxRecDepth 20000 in
set_option maxHeartbeats 1000000 in
theorem extract_any (ko : Option Addr) (kn kc : Nat) (key : List Int) (ao : Option Addr) (n c : Nat) (zs : List Int) (w : World) (hk : Seen w ko kn key) (hkc : kn ≤ kc) (hx : Seen w ao n zs) (hc : n ≤ c) (hK : KTab w) :
    Calls Tryd.prog 14 #[.slice ko kn kc, .slice ao n c] w fun e w' => e = .returned (.agg (u8s (mac key zs)).toArray) ∧ Below w.heap.size w w' := by
  have HX : Hid (Seen w ko kn key ∧ kn ≤ kc ∧ Seen w ao n zs ∧ n ≤ c ∧ KTab w ∧ zs.length < 4611686018427387904) := ⟨hk, hkc, hx, hc, hK, by have := hx.len; have := hx.top; omega⟩
  clear hk hkc hx hc hK
  go_enter Tryd.func14, Tryd.ntmps14
  go_wp2_with (first | (refine wpList_alloc_new rfl 28 rfl 32 _ zeroAH ?_; intro w1 b1 s1 l1; have Z1 : Hid (w1.heap.size = w.heap.size + 1) := s1; clear s1) | (go_at_call 12; refine (vsum_any ko kn kc key _ 1 1 [zs] _ ((HX.out.1.later l1 (Nat.le_refl _)).later ((Below.refl _ _).alloc (Nat.le_refl _) _) (Nat.le_refl _)) HX.out.2.1 (seenP1 w1 ao n c zs (HX.out.2.2.1.later l1 (Nat.le_refl _)) HX.out.2.2.2.1) (by decide) (by rw [show ([zs] : List (List Int)).flatten = zs by simp]; exact HX.out.2.2.2.2.2) (HX.out.2.2.2.2.1.below (l1.alloc (by have := Z1.out; omega) _) HX.out.2.2.2.2.1.lt)).mono ?_; rintro e w2 ⟨rfl, l2⟩; rw [show ([zs] : List (List Int)).flatten = zs by simp]; have G2 : Hid (Blk w2 w.heap.size 28 (u8s (zer 32)) ∧ Below w.heap.size w w2) := (by have := Z1.out; have B1 := (Below.refl w1.heap.size w1).alloc (Nat.le_refl _) (.cells #[.slice ao n c] 22); exact ⟨(b1.later B1 (by omega)).later l2 (by simp; omega), below_chain (below_chain l1 B1 (by omega)) l2 (by simp; omega)⟩)) | (refine wpList_store_blk rfl 28 28 _ _ rfl _ rfl _ (u8s (mac key zs)) rfl G2.out.1 (by rw [u8s_length, mac_length, u8s_length, zer_length]) (by rw [u8s_length, mac_length]; exact sizeAH) (u8s_one _) ?_; intro w6 b6 s6 k6))
  exact ret_blk rfl w.heap.size (u8s (mac key zs)) _ rfl b6 Tryd.underlying28 rfl (by rw [u8s_length, mac_length]; exact sizeAH) rfl ⟨rfl, below_kept G2.out.2 k6 G2.out.2.size (fun j hj => by omega)⟩
end Go.Proofs.YtiimjhahblmggaaDoor
