/- Layer tag: the code of parts. -/
import Derived.Test.YtlaegbabpiepeaaTPSum
import Derived.Test.YtlaegbabpiepeaaTSeenP
namespace Go.Proofs.Ytlaegbabpiepeaa
open Go.RowKit
set_option linter.unusedVariables false
set_option linter.unusedSimpArgs false

/-- The code of bytes under a key. -/
def tagB (key m : List Int) : List Int := codeB (rOf key) (sOf key) m
theorem tagB_length (key m : List Int) : (tagB key m).length = 16 := codeB_length _ _ _
theorem tagB_bytes (key m : List Int) : Bytes (tagB key m) := codeB_bytes _ _ _
/-- A poly of a key that holds the bytes m. -/
def KHolds (w : World) (g : Nat) (key m : List Int) : Prop := PHolds w g (rLow key) (rHigh key) (sOf key) m
theorem psum_key (g : Nat) (key m : List Int) (w : World) (h : KHolds w g key m) : Calls Try.prog 11 #[.pointer (some ⟨g, 0, none⟩)] w fun e w' => e = .returned (.agg (u8s (tagB key m)).toArray) ∧ Below w.heap.size w w' := psum_any g _ _ _ m w h
set_option maxRecDepth 20000 in
set_option maxHeartbeats 1000000 in
theorem tsum_any (key : List Int) (hkl : key.length = 32) (hkb : Bytes key) (ao : Option Addr) (n c : Nat) (pss : List (List Int)) (w : World) (hx : SeenP w ao n pss) (hn : n ≤ 140737488355328) :
    Calls Try.prog 14 #[.agg (u8s key).toArray, .slice ao n c] w fun e w' => e = .returned (.agg (u8s (tagB key pss.flatten)).toArray) ∧ Below w.heap.size w w' := by
  have HX : Hid (SeenP w ao n pss) := hx
  have HN : Hid (pss.length = n) := hx.len
  have HK : Hid (key.length = 32 ∧ Bytes key) := ⟨hkl, hkb⟩
  clear hx hkl hkb
  go_enter Try.func14, Try.ntmps14
  go_wp2_with (first | (refine wpList_box_new rfl 27 _ rfl (u8s key) rfl ?_; intro w1 b1 s1 l1) | (refine wpList_alloc_new rfl 46 rfl 16 _ zeroTag ?_; intro w2 b2 s2 l2) | (refine wpList_load_blk rfl 27 _ rfl _ rfl (u8s key) _ (b1.later l2 (by omega)) Try.underlying27 rfl (by rw [u8s_length, HK.out.1]; exact sizeKey) ?_) | (go_at_call 13; refine (new_any key HK.out.1 HK.out.2 _).mono ?_; rintro e w4 ⟨G, rfl, hG, h4, l4⟩))
  have q2 := l4.size
  have HB : Hid (Blk w4 (w.heap.size + 1) 46 (u8s (zs0 16)) ∧ KHolds w4 G key [] ∧ Below w.heap.size w w4 ∧ w.heap.size + 1 < G) := by
    rw [s1] at b2
    exact ⟨b2.later l4 (by omega), h4, below_chain (below_chain l1 l2 (by omega)) l4 (by omega), by omega⟩
  clear b1 s1 l1 b2 s2 l2 hG h4 l4 q2
  go_loopw [12] (fun i wr => ∃ k : Nat, k ≤ n ∧ i = .int .i64 k ∧ KHolds wr G key (pss.take k).flatten ∧ Kept (fun b => b = G) w4 wr) (fun i _ => n - (intOf i).toNat)
  case atStart => exact ⟨0, Nat.zero_le _, rfl, HB.out.2.1, Kept.refl _ _⟩
  case round =>
    obtain ⟨k, hk, rfl, hh, hkp⟩ := hrel
    by_cases hlt : k < n
    · obtain ⟨b, o, so, cs, rfl, hb, hc, hs, hl⟩ := HX.out.cells k hlt
      obtain ⟨B1, B2, B3, B5⟩ := HB.out
      have c1 : wr.cell? ⟨b, o + k, none⟩ = some (.slice so (pss.getD k []).length cs) := (hkp.cell (p := ⟨b, o + k, none⟩) (Nat.lt_of_lt_of_le hb B3.size) (by show ¬ b = _; omega)).trans ((B3.cell (p := ⟨b, o + k, none⟩) hb).trans hc)
      have S1 : Hid (Seen wr so (pss.getD k []).length (pss.getD k [])) := (hs.later B3 (Nat.le_refl _)).kept hkp (fun b' o' h0 e => by
        have := hs.old (Nat.le_refl _) b' o' h0 e
        omega)
      have N1 : Hid (∀ b' o', 0 < (pss.getD k []).length → so = some ⟨b', o', none⟩ → b' ≠ G) := fun b' o' h0 e => by
        have := hs.old (Nat.le_refl _) b' o' h0 e
        omega
      have L1 : Hid ((pss.getD k []).length ≤ cs) := hl
      have E1 : Hid _ := flat_succ pss k (by have := HN.out; omega)
      have HH : Hid (KHolds wr G key (pss.take k).flatten ∧ Kept (fun b => b = G) w4 wr) := ⟨hh, hkp⟩
      have i1 : (0 : Int) ≤ (k : Int) := by omega
      have i2 : (k : Int) < (n : Int) := by omega
      clear B1 B2 B3 B5 hs hl hc hh hkp
      obtain ⟨p, hp⟩ : ∃ p, pss.getD k [] = p := ⟨_, rfl⟩
      rw [hp] at c1 S1 N1 L1 E1
      clear hp
      go_wp2_with (go_at_call 8; refine (write_any _ _ _ _ _ so p.length cs p _ HH.out.1 S1.out L1.out N1.out).mono ?_; rintro e w5 ⟨rfl, h5, k5⟩)
      exact ⟨⟨k + 1, by omega, by go_num, by rw [E1.out]; exact h5, HH.out.2.trans k5⟩, by simp [intOf]; omega⟩
    · obtain rfl : k = n := by omega
      obtain ⟨B1, B2, B3, B5⟩ := HB.out
      rw [List.take_of_length_le (by have := HN.out; omega)] at hh
      have X1 : Hid (KHolds wr G key pss.flatten ∧ Blk wr (w.heap.size + 1) 46 (u8s (zs0 16)) ∧ Below w.heap.size w wr) := ⟨hh, B1.kept hkp (by omega), below_kept B3 hkp B3.size (fun j hj => by omega)⟩
      clear B1 B2 B3 B5 hh hkp
      go_wp2_with (first | (go_at_call 11; refine (psum_key _ key pss.flatten _ X1.out.1).mono ?_; rintro e w5 ⟨rfl, l5⟩; have X5 : Hid (Blk w5 (w.heap.size + 1) 46 (u8s (zs0 16)) ∧ Below w.heap.size w w5) := ⟨X1.out.2.1.later l5 X1.out.2.1.lt, below_chain X1.out.2.2 l5 X1.out.2.2.size⟩) | (refine wpList_store_blk rfl 46 46 _ _ rfl _ rfl _ (u8s (tagB key pss.flatten)) rfl X5.out.1 (by rw [u8s_length, tagB_length]; rfl) (by rw [u8s_length, tagB_length]; exact sizeTag) (u8s_one _) ?_; intro w6 b6 s6 k6))
      exact ret_blk rfl (w.heap.size + 1) (u8s (tagB key pss.flatten)) _ rfl b6 Try.underlying46 rfl (by rw [u8s_length, tagB_length]; exact sizeTag) rfl ⟨rfl, below_kept X5.out.2 k6 X5.out.2.size (fun j hj => by omega)⟩
end Go.Proofs.Ytlaegbabpiepeaa
