/- Layer digest: the digest of parts. -/
import Derived.Test.YtiimjhahblmggaaDoorDWrite
namespace Go.Proofs.YtiimjhahblmggaaDoor
open Go.RowKit
set_option linter.unusedVariables false
set_option linter.unusedSimpArgs false

/-- Lists of bytes, as data. -/
structure SeenP (w : World) (ao : Option Addr) (n : Nat) (pss : List (List Int)) : Prop where
  len : pss.length = n
  cells : ∀ i, i < n → ∃ b o so c, ao = some ⟨b, o, none⟩ ∧ b < w.heap.size ∧ w.cell? ⟨b, o + i, none⟩ = some (.slice so (pss.getD i []).length c) ∧ Seen w so (pss.getD i []).length (pss.getD i []) ∧ (pss.getD i []).length ≤ c
theorem SeenP.later {w w' : World} {ao : Option Addr} {n : Nat} {pss : List (List Int)} (h : SeenP w ao n pss) {B : Nat} (hb : Below B w w') (hB : w.heap.size ≤ B) : SeenP w' ao n pss :=
  ⟨h.len, fun i hi => by
    obtain ⟨b, o, so, c, e, hlt, hc, hs, hl⟩ := h.cells i hi
    exact ⟨b, o, so, c, e, Nat.lt_of_lt_of_le hlt hb.size, (hb.cell (p := ⟨b, o + i, none⟩) (Nat.lt_of_lt_of_le hlt hB)).trans hc, hs.later hb hB, hl⟩⟩
theorem flat_succ (pss : List (List Int)) (k : Nat) (hk : k < pss.length) : (pss.take (k + 1)).flatten = (pss.take k).flatten ++ pss.getD k [] := by
  rw [List.take_succ_eq_append_getElem hk, List.flatten_append]
  simp [List.getD, hk]
theorem flat_le (pss : List (List Int)) (k : Nat) : (pss.take k).flatten.length ≤ pss.flatten.length := by
  conv => rhs; rw [← List.take_append_drop k pss, List.flatten_append, List.length_append]
  exact Nat.le_add_right _ _
theorem holds_new {w : World} {g : Nat} (h : HashAt w g iv (zer 64) 0) : Holds w g [] := ⟨h⟩
theorem sum_holds (g : Nat) (m : List Int) (w : World) (h : Holds w g m) (hK : KTab w) :
    Calls Tryd.prog 48 #[.pointer (some ⟨g, 0, none⟩)] w fun e w' => e = .returned (.agg (u8s (sha m)).toArray) ∧ Below w.heap.size w w' :=
  sum_any g _ _ _ (m.length % 64) (by omega) w h.hash (by omega) hK
theorem new_holds (w : World) : Calls Tryd.prog 55 #[] w fun e w' => ∃ g, e = .returned (.pointer (some ⟨g, 0, none⟩)) ∧ w.heap.size ≤ g ∧ Holds w' g [] ∧ Below w.heap.size w w' :=
  (new_any w).mono fun _ _ ⟨g, e, h1, h2, h3⟩ => ⟨g, e, h1, holds_new h2, h3⟩
set_option maxRecDepth 20000 in
set_option maxHeartbeats 1000000 in
theorem dsum_any (ao : Option Addr) (n c : Nat) (pss : List (List Int)) (w : World) (hx : SeenP w ao n pss) (hn : n ≤ 140737488355328) (hm : pss.flatten.length < 9223372036854775808) (hK : KTab w) :
    Calls Tryd.prog 54 #[.slice ao n c] w fun e w' => e = .returned (.agg (u8s (sha pss.flatten)).toArray) ∧ Below w.heap.size w w' := by
  have HX : Hid (SeenP w ao n pss) := hx
  have HM : Hid (pss.flatten.length < 9223372036854775808) := hm
  have HK : Hid (KTab w) := hK
  have HN : Hid (pss.length = n) := hx.len
  clear hx hm hK
  go_enter Tryd.func54, Tryd.ntmps54
  go_wp2_with (first | (refine wpList_alloc_new rfl 28 rfl 32 _ zeroAH ?_; intro w1 b1 s1 l1) | (go_at_call 60; refine (fresh_any _).mono ?_; rintro e w2 ⟨rfl, l2⟩) | (refine wpList_alloc_new rfl 87 rfl 73 _ zeroHash ?_; intro w3 b3 s3 l3) | (refine wpList_store_blk rfl 87 87 _ _ rfl _ rfl _ (hcells iv (zer 64) 0) rfl b3 (by rw [freshLen, hcells_length _ _ _ (by simp) (zer_length _)]) (by rw [freshLen]; exact sizeHash) (hcells_one _ _ _) ?_; intro w4 b4 s4 k4))
  have q2 := l2.size
  have q0 := HK.out.lt
  have HB : Hid (Blk w4 w.heap.size 28 (u8s (zer 32)) ∧ Holds w4 w2.heap.size [] ∧ Below w.heap.size w w4 ∧ KTab w4 ∧ w.heap.size < w2.heap.size ∧ 0 < w2.heap.size) := by
    have B4 : Below w.heap.size w w4 := below_kept (below_chain (below_chain l1 l2 (by omega)) l3 (by omega)) k4 (by omega) (fun j hj => by omega)
    exact ⟨((b1.later l2 (by omega)).later l3 (by omega)).kept k4 (by omega), holds_new ⟨b4, rfl, zer_length _⟩, B4, HK.out.below B4 q0, by omega, by omega⟩
  clear b1 l1 b3 s3 l3 b4 s4 k4 l2 q2 q0 s1
  go_loopw [9] (fun i wr => ∃ k : Nat, k ≤ n ∧ i = .int .i64 k ∧ Holds wr w2.heap.size (pss.take k).flatten ∧ Kept (fun b => b = w2.heap.size) w4 wr) (fun i _ => n - (intOf i).toNat)
  case atStart => exact ⟨0, Nat.zero_le _, rfl, HB.out.2.1, Kept.refl _ _⟩
  case round =>
    obtain ⟨k, hk, rfl, hh, hkp⟩ := hrel
    by_cases hlt : k < n
    · obtain ⟨b, o, so, cs, rfl, hb, hc, hs, hl⟩ := HX.out.cells k hlt
      obtain ⟨B1, B2, B3, B4, B5, B6⟩ := HB.out
      have c1 : wr.cell? ⟨b, o + k, none⟩ = some (.slice so (pss.getD k []).length cs) := (hkp.cell (p := ⟨b, o + k, none⟩) (Nat.lt_of_lt_of_le hb B3.size) (by show ¬ b = _; omega)).trans ((B3.cell (p := ⟨b, o + k, none⟩) hb).trans hc)
      have S1 : Hid (Seen wr so (pss.getD k []).length (pss.getD k [])) := (hs.later B3 (Nat.le_refl _)).kept hkp (fun b' o' h0 e => by
        have := hs.old (Nat.le_refl _) b' o' h0 e
        omega)
      have N1 : Hid (∀ b' o', 0 < (pss.getD k []).length → so = some ⟨b', o', none⟩ → b' ≠ w2.heap.size) := fun b' o' h0 e => by
        have := hs.old (Nat.le_refl _) b' o' h0 e
        omega
      have L1 : Hid ((pss.getD k []).length ≤ cs) := hl
      have M1 : Hid ((pss.take k).flatten.length + (pss.getD k []).length < 9223372036854775808) := by
        have e := flat_succ pss k (by have := HN.out; omega)
        have h2 := flat_le pss (k + 1)
        rw [e, List.length_append] at h2
        have := HM.out
        show _ < _
        omega
      have E1 : Hid _ := flat_succ pss k (by have := HN.out; omega)
      have HH : Hid (Holds wr w2.heap.size (pss.take k).flatten ∧ KTab wr ∧ Kept (fun b => b = w2.heap.size) w4 wr) := ⟨hh, B4.kept hkp (by omega), hkp⟩
      have G0 : Hid (0 < w2.heap.size) := B6
      have i1 : (0 : Int) ≤ (k : Int) := by omega
      have i2 : (k : Int) < (n : Int) := by omega
      clear B1 B2 B3 B4 B5 B6 hs hl hc hh hkp
      obtain ⟨p, hp⟩ : ∃ p, pss.getD k [] = p := ⟨_, rfl⟩
      rw [hp] at c1 S1 N1 L1 M1 E1
      clear hp
      go_wp2_with (go_at_call 35; refine (write_any _ _ so p.length cs p _ HH.out.1 S1.out L1.out N1.out HH.out.2.1 G0.out M1.out).mono ?_; rintro e w5 ⟨rfl, h5, k5⟩)
      exact ⟨⟨k + 1, by omega, by go_num, by rw [E1.out]; exact h5, HH.out.2.2.trans k5⟩, by simp [intOf]; omega⟩
    · obtain rfl : k = n := by omega
      obtain ⟨B1, B2, B3, B4, B5, B6⟩ := HB.out
      rw [List.take_of_length_le (by have := HN.out; omega)] at hh
      have X1 : Hid (Holds wr w2.heap.size pss.flatten ∧ KTab wr ∧ Blk wr w.heap.size 28 (u8s (zer 32)) ∧ Below w.heap.size w wr ∧ w.heap.size < wr.heap.size) := ⟨hh, B4.kept hkp (by omega), B1.kept hkp (by omega), below_kept B3 hkp B3.size (fun j hj => by omega), by have := hh.lt; omega⟩
      clear B1 B2 B3 B4 B5 B6 hh hkp
      go_wp2_with (first | (go_at_call 48; refine (sum_holds _ pss.flatten _ X1.out.1 X1.out.2.1).mono ?_; rintro e w5 ⟨rfl, l5⟩; have X5 : Hid (Blk w5 w.heap.size 28 (u8s (zer 32)) ∧ Below w.heap.size w w5) := ⟨X1.out.2.2.1.later l5 X1.out.2.2.2.2, below_chain X1.out.2.2.2.1 l5 (Nat.le_of_lt X1.out.2.2.2.2)⟩) | (refine wpList_store_blk rfl 28 28 _ _ rfl _ rfl _ (u8s (sha pss.flatten)) rfl X5.out.1 (by rw [u8s_length, sha_length, u8s_length, zer_length]) (by rw [u8s_length, sha_length]; exact sizeAH) (u8s_one _) ?_; intro w6 b6 s6 k6))
      exact ret_blk rfl w.heap.size (u8s (sha pss.flatten)) _ rfl b6 Tryd.underlying28 rfl (by rw [u8s_length, sha_length]; exact sizeAH) rfl ⟨rfl, below_kept X5.out.2 k6 X5.out.2.size (fun j hj => by omega)⟩
end Go.Proofs.YtiimjhahblmggaaDoor
