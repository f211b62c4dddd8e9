/- Layer digest: pad. -/
import Derived.Test.YtiimjhahblmggaaDoorDBytes
namespace Go.Proofs.YtiimjhahblmggaaDoor
open Go.RowKit
set_option linter.unusedVariables false
set_option linter.unusedSimpArgs false

theorem HashAt.set_byte {w : World} {g : Nat} {st bl : List Int} {sz : Int} (h : HashAt w g st bl sz) (j : Nat) (hj : j < 64) (z : Int) : HashAt (w.setCell ⟨g, 8 + j, none⟩ (.int .u8 z)) g st (bl.set j z) sz := by
  refine ⟨?_, h.st8, by rw [List.length_set, h.bl64]⟩
  have := h.blk.set (8 + j) (.int .u8 z)
  have e1 : (u32s st).length = 8 := by rw [u32s_length, h.st8]
  have e2 : (u8s bl).length = 64 := by rw [u8s_length, h.bl64]
  rw [hcells, List.set_append_right _ _ (by omega), e1, Nat.add_sub_cancel_left, List.set_append_left _ _ (by omega), u8s_set] at this
  exact this
theorem filled_at (g : Nat) (st bl : List Int) (sz : Int) (F : Nat) (hF : sz % 64 = F) (w : World) (h : HashAt w g st bl sz) (hz : 0 ≤ sz) : Calls Tryd.prog 46 #[.pointer (some ⟨g, 0, none⟩)] w fun e w' => e = .returned (.int .i64 F) ∧ w = w' := by
  refine (filled_any g st bl sz w h hz).mono ?_
  rintro e w' ⟨rfl, rfl⟩
  exact ⟨by rw [hF], rfl⟩
/-- Eight bytes of a number, the highest first. -/
def be8 (x : Int) : List Int := (List.range 8).map fun j => x / 2 ^ (8 * (7 - j)) % 256
theorem be8_length (x : Int) : (be8 x).length = 8 := by simp [be8]
theorem be8_at (x : Int) (j : Nat) (hj : j < 8) : (be8 x).getD j 0 = x / 2 ^ (8 * (7 - j)) % 256 := by simp [be8, List.getD, hj]
theorem tail_set (bl tl : List Int) (k : Nat) (hb : bl.length = 64) (ht : tl.length = 8) (hk : k < 8) :
    (bl.take (64 - k) ++ tl.drop (8 - k)).set (63 - k) (tl.getD (7 - k) 0) = bl.take (64 - (k + 1)) ++ tl.drop (8 - (k + 1)) := by
  have e : bl.take (64 - k) = bl.take (63 - k) ++ [bl.getD (63 - k) 0] := by
    have h1 : 63 - k < bl.length := by omega
    rw [show 64 - k = (63 - k) + 1 by omega, List.take_succ_eq_append_getElem h1]
    simp [List.getD, h1]
  have e2 : (bl.take (63 - k)).length = 63 - k := by simp; omega
  have h2 : 7 - k < tl.length := by omega
  have e3 : tl.drop (8 - (k + 1)) = tl.getD (7 - k) 0 :: tl.drop (8 - k) := by
    rw [show 8 - (k + 1) = 7 - k by omega, List.drop_eq_getElem_cons h2, show 7 - k + 1 = 8 - k by omega]
    simp [List.getD, h2]
  rw [e, e3, List.append_assoc, List.set_append_right _ _ (by omega), e2, Nat.sub_self, show 64 - (k + 1) = 63 - k by omega]
  rfl
/-- What a hash's words are behind the padding. -/
def padF (st bl : List Int) (sz : Int) (F : Nat) : List Int :=
  if 56 ≤ F then mixF (mixF st (bl.set F 128)) ((zer 64).take 56 ++ be8 (IntKind.u64.wrap (8 * sz))) else mixF st ((bl.set F 128).take 56 ++ be8 (IntKind.u64.wrap (8 * sz)))
set_option maxRecDepth 20000 in
set_option maxHeartbeats 1000000 in
/-- The second half of pad: the size behind an open block. -/
theorem pad_any (g : Nat) (st bl : List Int) (sz : Int) (F : Nat) (hF : sz % 64 = F) (w : World) (h : HashAt w g st bl sz) (hz : 0 ≤ sz) (hK : KTab w) (hg : 0 < g) :
    Calls Tryd.prog 57 #[.pointer (some ⟨g, 0, none⟩)] w fun e w' => e = .returned (.tuple #[]) ∧ HashAt w' g (padF st bl sz F) (zer 64) sz ∧ Kept (fun k => k = g) w w' := by
  have hF64 : F < 64 := by omega
  have cF := h.byte_cell F hF64
  have fF := h.frozen (8 + F)
  have HH : Hid (HashAt w g st bl sz) := h
  have HZ : Hid (0 ≤ sz) := hz
  have HF : Hid (sz % 64 = F) := hF
  have HK : Hid (KTab w) := hK
  have i1 : (0 : Int) ≤ (F : Int) := by omega
  have i2 : (F : Int) < 64 := by omega
  clear h hz hF hK
  go_enter Tryd.func57, Tryd.ntmps57
  go_wp2
  go_region_held3 (fun _ => True) (trivial) (first | (go_at_call 46; refine (filled_at g st bl sz F HF.out _ (HH.out.drewN 1) HZ.out).mono ?_; rintro e w' ⟨rfl, rfl⟩))
  have H1 : Hid (HashAt ((w.drewN 1).setCell ⟨g, 8 + F, none⟩ (.int .u8 128)) g st (bl.set F 128) sz ∧ KTab ((w.drewN 1).setCell ⟨g, 8 + F, none⟩ (.int .u8 128)) ∧ Kept (fun k => k = g) w ((w.drewN 1).setCell ⟨g, 8 + F, none⟩ (.int .u8 128))) := by
    have k1 : Kept (fun k => k = g) w ((w.drewN 1).setCell ⟨g, 8 + F, none⟩ (.int .u8 128)) := ((Kept.refl _ _).drewN 1).setCell (S := fun k => k = g) rfl _
    exact ⟨(HH.out.drewN 1).set_byte F hF64 128, HK.out.kept k1 (by omega), k1⟩
  obtain ⟨w1, hw1⟩ : ∃ w1, (w.drewN 1).setCell ⟨g, 8 + F, none⟩ (.int .u8 128) = w1 := ⟨_, rfl⟩
  rw [hw1] at H1 ⊢
  clear hw1 cF fF HH
  by_cases h56 : 56 ≤ F
  · have HQ : Hid (padF st bl sz F = mixF (mixF st (bl.set F 128)) ((zer 64).take 56 ++ be8 (IntKind.u64.wrap (8 * sz)))) := by show _ = _; rw [padF, if_pos h56]
    have i3 : (56 : Int) ≤ (F : Int) := by omega
    go_wp2_with (first | (go_at_call 46; refine (filled_at g st (bl.set F 128) sz F HF.out _ H1.out.1 HZ.out).mono ?_; rintro e w' ⟨rfl, rfl⟩) | (go_at_call 47; refine (absorb_any g st (bl.set F 128) sz _ H1.out.1 H1.out.2.1 hg).mono ?_; rintro e w2 ⟨rfl, h2, k2⟩; have H9 : Hid (HashAt w2 g (mixF st (bl.set F 128)) (zer 64) sz ∧ KTab w2 ∧ Kept (fun k => k = g) w w2) := ⟨h2, H1.out.2.1.kept k2 (by omega), H1.out.2.2.trans k2⟩; have cz := H9.out.1.size_cell; clear h2 k2))
    obtain ⟨st2, bl2, H2, HP⟩ : ∃ st2 bl2, Hid (HashAt w2 g st2 bl2 sz ∧ KTab w2 ∧ Kept (fun k => k = g) w w2) ∧ Hid (padF st bl sz F = mixF st2 (bl2.take 56 ++ be8 (IntKind.u64.wrap (8 * sz)))) := ⟨_, _, H9, HQ⟩
    clear H9 HQ
    obtain ⟨X, hX⟩ : ∃ X, IntKind.u64.wrap (8 * sz) = X := ⟨_, rfl⟩
    rw [hX] at HP
    simp only [hX]
    clear cz hX H1
    go_loopw [20] (fun i wr => ∃ k : Nat, k ≤ 8 ∧ i = .int .i64 k ∧ HashAt wr g st2 (bl2.take (64 - k) ++ (be8 X).drop (8 - k)) sz ∧ Kept (fun b => b = g) w2 wr) (fun i _ => 8 - (intOf i).toNat)
    case atStart => exact ⟨0, by decide, rfl, by rw [List.take_of_length_le (by rw [H2.out.1.bl64]; decide), List.drop_eq_nil_of_le (by rw [be8_length]; decide), List.append_nil]; exact H2.out.1, Kept.refl _ _⟩
    case round =>
      obtain ⟨k, hk, rfl, hb, hkp⟩ := hrel
      by_cases hlt : k < 8
      · have c := hb.byte_cell (63 - k) (by omega)
        have f := hb.frozen (8 + (63 - k))
        have j1 : (0 : Int) ≤ (k : Int) := by omega
        have j2 : (k : Int) < 8 := by omega
        have j3 : (63 - (k : Int)).toNat = 63 - k := by omega
        have j4 : 0 ≤ 63 - (k : Int) := by omega
        have j5 : 63 - (k : Int) < 64 := by omega
        have j6 : 0 ≤ 8 * (k : Int) := by omega
        have j7 : (8 * (k : Int)).toNat = 8 * k := by omega
        have X1 : Hid (HashAt wr g st2 (bl2.take (64 - k) ++ (be8 X).drop (8 - k)) sz) := hb
        have XE : Hid _ := tail_set bl2 (be8 X) k H2.out.1.bl64 (be8_length X) hlt
        have XV : Hid ((be8 X).getD (7 - k) 0 = X / 2 ^ (8 * k) % 256) := by show _ = _; rw [be8_at X (7 - k) (by omega), show 7 - (7 - k) = k by omega]
        clear hb
        go_wp2
        go_region
        go_wp2
        have R1 := (X1.out.drewN 1).set_byte (63 - k) (by omega) (X / 2 ^ (8 * k) % 256)
        rw [← XV.out, XE.out, XV.out] at R1
        exact ⟨⟨k + 1, by omega, by go_num, R1, (hkp.drewN 1).setCell (S := fun b => b = g) rfl _⟩, by simp [intOf]; omega⟩
      · obtain rfl : k = 8 := by omega
        rw [show ((8 : Nat) : Int) = 8 from rfl]
        have X3 : Hid (HashAt wr g st2 (bl2.take 56 ++ be8 X) sz ∧ KTab wr ∧ Kept (fun k => k = g) w wr) := ⟨hb, H2.out.2.1.kept hkp (by omega), H2.out.2.2.trans hkp⟩
        clear hb hkp
        go_wp2_with (go_at_call 47; refine (absorb_any g _ _ sz _ X3.out.1 X3.out.2.1 hg).mono ?_; rintro e w5 ⟨rfl, h5, k5⟩)
        go_end0
        exact ⟨rfl, by rw [HP.out]; exact h5, X3.out.2.2.trans k5⟩
  · have HQ : Hid (padF st bl sz F = mixF st ((bl.set F 128).take 56 ++ be8 (IntKind.u64.wrap (8 * sz)))) := by show _ = _; rw [padF, if_neg h56]
    have i3 : ¬ (56 : Int) ≤ (F : Int) := by omega
    have cz := H1.out.1.size_cell
    go_wp2_with (first | (go_at_call 46; refine (filled_at g st (bl.set F 128) sz F HF.out _ H1.out.1 HZ.out).mono ?_; rintro e w' ⟨rfl, rfl⟩))
    obtain ⟨w2, rfl⟩ : ∃ w2, w2 = w1 := ⟨_, rfl⟩
    obtain ⟨st2, bl2, H2, HP⟩ : ∃ st2 bl2, Hid (HashAt w2 g st2 bl2 sz ∧ KTab w2 ∧ Kept (fun k => k = g) w w2) ∧ Hid (padF st bl sz F = mixF st2 (bl2.take 56 ++ be8 (IntKind.u64.wrap (8 * sz)))) := ⟨_, _, H1, HQ⟩
    clear HQ
    obtain ⟨X, hX⟩ : ∃ X, IntKind.u64.wrap (8 * sz) = X := ⟨_, rfl⟩
    rw [hX] at HP
    simp only [hX]
    clear cz hX H1
    go_loopw [20] (fun i wr => ∃ k : Nat, k ≤ 8 ∧ i = .int .i64 k ∧ HashAt wr g st2 (bl2.take (64 - k) ++ (be8 X).drop (8 - k)) sz ∧ Kept (fun b => b = g) w2 wr) (fun i _ => 8 - (intOf i).toNat)
    case atStart => exact ⟨0, by decide, rfl, by rw [List.take_of_length_le (by rw [H2.out.1.bl64]; decide), List.drop_eq_nil_of_le (by rw [be8_length]; decide), List.append_nil]; exact H2.out.1, Kept.refl _ _⟩
    case round =>
      obtain ⟨k, hk, rfl, hb, hkp⟩ := hrel
      by_cases hlt : k < 8
      · have c := hb.byte_cell (63 - k) (by omega)
        have f := hb.frozen (8 + (63 - k))
        have j1 : (0 : Int) ≤ (k : Int) := by omega
        have j2 : (k : Int) < 8 := by omega
        have j3 : (63 - (k : Int)).toNat = 63 - k := by omega
        have j4 : 0 ≤ 63 - (k : Int) := by omega
        have j5 : 63 - (k : Int) < 64 := by omega
        have j6 : 0 ≤ 8 * (k : Int) := by omega
        have j7 : (8 * (k : Int)).toNat = 8 * k := by omega
        have X1 : Hid (HashAt wr g st2 (bl2.take (64 - k) ++ (be8 X).drop (8 - k)) sz) := hb
        have XE : Hid _ := tail_set bl2 (be8 X) k H2.out.1.bl64 (be8_length X) hlt
        have XV : Hid ((be8 X).getD (7 - k) 0 = X / 2 ^ (8 * k) % 256) := by show _ = _; rw [be8_at X (7 - k) (by omega), show 7 - (7 - k) = k by omega]
        clear hb
        go_wp2
        go_region
        go_wp2
        have R1 := (X1.out.drewN 1).set_byte (63 - k) (by omega) (X / 2 ^ (8 * k) % 256)
        rw [← XV.out, XE.out, XV.out] at R1
        exact ⟨⟨k + 1, by omega, by go_num, R1, (hkp.drewN 1).setCell (S := fun b => b = g) rfl _⟩, by simp [intOf]; omega⟩
      · obtain rfl : k = 8 := by omega
        rw [show ((8 : Nat) : Int) = 8 from rfl]
        have X3 : Hid (HashAt wr g st2 (bl2.take 56 ++ be8 X) sz ∧ KTab wr ∧ Kept (fun k => k = g) w wr) := ⟨hb, H2.out.2.1.kept hkp (by omega), H2.out.2.2.trans hkp⟩
        clear hb hkp
        go_wp2_with (go_at_call 47; refine (absorb_any g _ _ sz _ X3.out.1 X3.out.2.1 hg).mono ?_; rintro e w5 ⟨rfl, h5, k5⟩)
        go_end0
        exact ⟨rfl, by rw [HP.out]; exact h5, X3.out.2.2.trans k5⟩
end Go.Proofs.YtiimjhahblmggaaDoor
