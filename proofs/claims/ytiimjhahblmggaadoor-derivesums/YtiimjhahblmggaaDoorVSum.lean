/- Layer derive: Sum. -/
import Derived.Test.YtiimjhahblmggaaDoorVCode
namespace Go.Proofs.YtiimjhahblmggaaDoor
open Go.RowKit
set_option linter.unusedVariables false
set_option linter.unusedSimpArgs false

/-- Bytes written behind what was written. -/
theorem kwrite (g g' : Nat) (key text : List Int) (ao : Option Addr) (n c : Nat) (zs : List Int) (w : World) (h : Keyed w g g' key text) (hx : Seen w ao n zs) (hc : n ≤ c) (hne : ∀ b o, 0 < n → ao = some ⟨b, o, none⟩ → b ≠ g) (hK : KTab w) (hg : 0 < g) (hm : text.length + n < 9223372036854775744) :
    Calls Tryd.prog 35 #[.pointer (some ⟨g, 0, none⟩), .slice ao n c] w fun e w' => e = .returned (.tuple #[.int .i64 n, .nilIface]) ∧ Keyed w' g g' key (text ++ zs) ∧ Kept (fun k => k = g) w w' :=
  (write_any g _ ao n c zs w h.inn hx hc hne hK hg (by rw [List.length_append, turn_frm]; omega)).mono fun e w' ⟨h1, h2, h3⟩ => ⟨h1, ⟨h.ne, by rw [← List.append_assoc]; exact h2, h.out.kept h3 (fun e => h.ne e.symm)⟩, h3⟩
set_option maxRecDepth 20000 in
set_option maxHeartbeats 1000000 in
theorem vsum_any (ko : Option Addr) (kn kc : Nat) (key : List Int) (ao : Option Addr) (n c : Nat) (pss : List (List Int)) (w : World) (hk : Seen w ko kn key) (hkc : kn ≤ kc) (hx : SeenP w ao n pss) (hn : n ≤ 140737488355328) (hm : pss.flatten.length < 4611686018427387904) (hK : KTab w) :
    Calls Tryd.prog 12 #[.slice ko kn kc, .slice ao n c] w fun e w' => e = .returned (.agg (u8s (mac key pss.flatten)).toArray) ∧ Below w.heap.size w w' := by
  have HX : Hid (SeenP w ao n pss ∧ Seen w ko kn key ∧ kn ≤ kc) := ⟨hx, hk, hkc⟩
  have HM : Hid (pss.flatten.length < 4611686018427387904) := hm
  have HK : Hid (KTab w) := hK
  have HN : Hid (pss.length = n) := hx.len
  clear hx hm hK hk hkc
  go_enter Tryd.func12, Tryd.ntmps12
  go_wp2_with (first | (refine wpList_alloc_new rfl 28 rfl 32 _ zeroAH ?_; intro w1 b1 s1 l1; have Z1 : Hid (w1.heap.size = w.heap.size + 1) := s1; clear s1) | (go_at_call 34; refine (keyedBy_any ko kn kc key _ (HX.out.2.1.later l1 (Nat.le_refl _)) HX.out.2.2 (HK.out.below l1 HK.out.lt)).mono ?_; rintro e w2 ⟨g, g', rfl, hg, hg', hne, h2, h2', l2⟩) | (refine wpList_alloc_new rfl 70 rfl 2 [.pointer none, .pointer none] zeroKeyed ?_; intro w3 b3 s3 l3; have Z3 : Hid (w3.heap.size = w2.heap.size + 1) := s3; clear s3) | (refine wpList_store_blk rfl 70 70 _ _ rfl _ rfl _ [.pointer (some ⟨g, 0, none⟩), .pointer (some ⟨g', 0, none⟩)] rfl b3 rfl sizeKeyed (by intro v hv; simp at hv; rcases hv with rfl | rfl <;> rfl) ?_; intro w4 b4 s4 k4))
  have HB : Hid (Below w.heap.size w w4 ∧ Blk w4 w.heap.size 28 (u8s (zer 32)) ∧ Blk w4 w2.heap.size 70 [.pointer (some ⟨g, 0, none⟩), .pointer (some ⟨g', 0, none⟩)] ∧ Keyed w4 g g' key [] ∧ w.heap.size < g ∧ w.heap.size < g' ∧ g < w2.heap.size ∧ g' < w2.heap.size) := by
    have := Z1.out; have := Z3.out; have q1 := h2.lt; have q2 := h2'.lt; have q3 := l2.size
    exact ⟨below_kept (below_chain (below_chain l1 l2 (by omega)) l3 (by omega)) k4 (by omega) (fun j hj => by omega), ((b1.later l2 (by omega)).later l3 (by omega)).kept k4 (by omega), b4, ⟨hne, by rw [List.append_nil]; exact (h2.later l3 q1).kept k4 (by omega), (h2'.later l3 q2).kept k4 (by omega)⟩, by omega, by omega, q1, q2⟩
  clear b1 l1 hg hg' hne h2 h2' l2 b3 l3 b4 s4 k4
  go_loopw [12] (fun i wr => ∃ k : Nat, k ≤ n ∧ i = .int .i64 k ∧ Keyed wr g g' key (pss.take k).flatten ∧ Kept (fun b => b = g) w4 wr) (fun i _ => n - (intOf i).toNat)
  case atStart => exact ⟨0, Nat.zero_le _, rfl, HB.out.2.2.2.1, Kept.refl _ _⟩
  case round =>
    obtain ⟨k, hk, rfl, hh, hkp⟩ := hrel
    obtain ⟨B1, B2, B3, B4, B5, B6, B7, B8⟩ := HB.out
    have c0 : wr.cell? ⟨w2.heap.size, 0, none⟩ = some (.pointer (some ⟨g, 0, none⟩)) := (B3.kept hkp (by omega)).cell 0
    have BW : Below w.heap.size w wr := below_kept B1 hkp B1.size (fun j hj => by omega)
    by_cases hlt : k < n
    · obtain ⟨b, o, so, cs, rfl, hb, hc, hs, hl⟩ := HX.out.1.cells k hlt
      have c1 : wr.cell? ⟨b, o + k, none⟩ = some (.slice so (pss.getD k []).length cs) := (BW.cell (p := ⟨b, o + k, none⟩) hb).trans hc
      have S1 : Hid (Seen wr so (pss.getD k []).length (pss.getD k [])) := hs.later BW (Nat.le_refl _)
      have N1 : Hid (∀ b' o', 0 < (pss.getD k []).length → so = some ⟨b', o', none⟩ → b' ≠ g) := fun b' o' h0 e => by
        have := hs.old (Nat.le_refl _) b' o' h0 e
        omega
      have L1 : Hid ((pss.getD k []).length ≤ cs) := hl
      have E1 := flat_succ pss k (by have := HN.out; omega)
      have M1 : Hid ((pss.take k).flatten.length + (pss.getD k []).length < 9223372036854775744) := by
        have h2 := flat_le pss (k + 1)
        rw [E1, List.length_append] at h2
        have := HM.out
        show _ < _
        omega
      have HE : Hid ((pss.take (k + 1)).flatten = (pss.take k).flatten ++ pss.getD k []) := E1
      have HH : Hid (Keyed wr g g' key (pss.take k).flatten ∧ KTab wr ∧ Kept (fun b => b = g) w4 wr ∧ 0 < g) := ⟨hh, HK.out.below BW HK.out.lt, hkp, by omega⟩
      have i1 : (0 : Int) ≤ (k : Int) := by omega
      have i2 : (k : Int) < (n : Int) := by omega
      clear B1 B2 B3 B4 B5 B6 B7 B8 hs hl hc hh hkp BW E1
      obtain ⟨p, hp⟩ : ∃ p, pss.getD k [] = p := ⟨_, rfl⟩
      rw [hp] at c1 S1 N1 L1 M1 HE
      clear hp
      go_wp2_with (go_at_call 35; refine (kwrite g g' key _ so p.length cs p _ HH.out.1 S1.out L1.out N1.out HH.out.2.1 HH.out.2.2.2 M1.out).mono ?_; rintro e w5 ⟨rfl, h5, k5⟩)
      exact ⟨⟨k + 1, by omega, by go_num, by rw [HE.out]; exact h5, HH.out.2.2.1.trans k5⟩, by simp [intOf]; omega⟩
    · obtain rfl : k = n := by omega
      rw [List.take_of_length_le (by have := HN.out; omega)] at hh
      have c2 : wr.cell? ⟨w2.heap.size, 1, none⟩ = some (.pointer (some ⟨g', 0, none⟩)) := (B3.kept hkp (by omega)).cell 1
      have X1 : Hid (Keyed wr g g' key pss.flatten ∧ KTab wr ∧ Blk wr w.heap.size 28 (u8s (zer 32)) ∧ Below w.heap.size w wr ∧ Blk wr w2.heap.size 70 [.pointer (some ⟨g, 0, none⟩), .pointer (some ⟨g', 0, none⟩)]) := ⟨hh, HK.out.below BW HK.out.lt, B2.kept hkp (by omega), BW, B3.kept hkp (by omega)⟩
      clear B1 B2 B3 B4 B5 B6 B7 B8 hh hkp BW c0 c2
      go_wp2_with (first | (refine wpList_load_blk rfl 70 _ rfl _ rfl [.pointer (some ⟨g, 0, none⟩), .pointer (some ⟨g', 0, none⟩)] _ X1.out.2.2.2.2 Tryd.underlying70 rfl sizeKeyed ?_) | (go_at_call 36; refine (code_any g g' key pss.flatten _ X1.out.1 X1.out.2.1).mono ?_; rintro e w5 ⟨rfl, l5⟩; have X5 : Hid (Blk w5 w.heap.size 28 (u8s (zer 32)) ∧ Below w.heap.size w w5) := ⟨X1.out.2.2.1.later l5 X1.out.2.2.1.lt, below_chain X1.out.2.2.2.1 l5 X1.out.2.2.2.1.size⟩; clear l5) | (refine wpList_store_blk rfl 28 28 _ _ rfl _ rfl _ (u8s (mac key pss.flatten)) rfl X5.out.1 (by rw [u8s_length, mac_length, u8s_length, zer_length]) (by rw [u8s_length, mac_length]; exact sizeAH) (u8s_one _) ?_; intro w6 b6 s6 k6))
      exact ret_blk rfl w.heap.size (u8s (mac key pss.flatten)) _ rfl b6 Tryd.underlying28 rfl (by rw [u8s_length, mac_length]; exact sizeAH) rfl ⟨rfl, below_kept X5.out.2 k6 X5.out.2.size (fun j hj => by omega)⟩
end Go.Proofs.YtiimjhahblmggaaDoor
