/- Layer digest: Write. -/
import Derived.Test.YtiimjhahblmggaaDoorDHold
namespace Go.Proofs.YtiimjhahblmggaaDoor
open Go.RowKit
set_option linter.unusedVariables false
set_option linter.unusedSimpArgs false

theorem add_mid (b o j : Nat) : (⟨b, o, none⟩ : Addr).add j = ⟨b, o + j, none⟩ := Addr.add_mid b o j
theorem HashAt.set_size {w : World} {g : Nat} {st bl : List Int} {sz : Int} (h : HashAt w g st bl sz) (z : Int) : HashAt (w.setCell ⟨g, 72, none⟩ (.int .u64 z)) g st bl z := by
  refine ⟨?_, h.st8, h.bl64⟩
  have := h.blk.set 72 (.int .u64 z)
  have e1 : (u32s st).length = 8 := by rw [u32s_length, h.st8]
  have e2 : (u8s bl).length = 64 := by rw [u8s_length, h.bl64]
  rw [hcells, List.set_append_right _ _ (by omega), e1, List.set_append_right _ _ (by omega), e2] at this
  exact this
set_option maxRecDepth 20000 in
set_option maxHeartbeats 1000000 in
theorem write_any (g : Nat) (m : List Int) (ao : Option Addr) (n c : Nat) (zs : List Int) (w : World) (h : Holds w g m) (hx : Seen w ao n zs) (hc : n ≤ c) (hne : ∀ b o, 0 < n → ao = some ⟨b, o, none⟩ → b ≠ g) (hK : KTab w) (hg : 0 < g) (hm : m.length + n < 9223372036854775808) :
    Calls Tryd.prog 35 #[.pointer (some ⟨g, 0, none⟩), .slice ao n c] w fun e w' => e = .returned (.tuple #[.int .i64 n, .nilIface]) ∧ Holds w' g (m ++ zs) ∧ Kept (fun k => k = g) w w' := by
  obtain ⟨b0, o0, hbo⟩ : ∃ b o, 0 < n → ao = some ⟨b, o, none⟩ ∧ b ≠ g ∧ b < w.heap.size ∧ ∀ i, i < n → w.cell? ⟨b, o + i, none⟩ = some (.int .u8 (zs.getD i 0)) := by
    rcases Nat.eq_zero_or_pos n with h0 | h0
    · exact ⟨0, 0, fun h => by omega⟩
    · obtain ⟨b, o, e, hl, hcs⟩ := hx.cells h0
      exact ⟨b, o, fun _ => ⟨e, hne b o h0 e, hl, hcs⟩⟩
  have HL : Hid (zs.length = n) := hx.len
  have HB : Hid (0 < n → ao = some ⟨b0, o0, none⟩ ∧ b0 ≠ g ∧ b0 < w.heap.size ∧ ∀ i, i < n → w.cell? ⟨b0, o0 + i, none⟩ = some (.int .u8 (zs.getD i 0))) := hbo
  have HH : Hid (Holds w g m ∧ KTab w) := ⟨h, hK⟩
  have HM : Hid (m.length + n < 9223372036854775808) := hm
  have ht := hx.top
  clear hbo hne h hK hm hx
  go_enter Tryd.func35, Tryd.ntmps35
  go_wp2
  go_loopw [6] (fun v wr => ∃ (j cc : Nat) (r : Option Addr), j ≤ n ∧ n - j ≤ cc ∧ v = .slice r (n - j) cc ∧ (j < n → r = some ⟨b0, o0 + j, none⟩) ∧ Holds wr g (m ++ zs.take j) ∧ Kept (fun k => k = g) w wr) (fun v _ => match v with | .slice _ l _ => l | _ => 0)
  case atStart => exact ⟨0, c, ao, by omega, by omega, rfl, fun hn => (HB.out hn).1, by simpa using HH.out.1, Kept.refl _ _⟩
  case round =>
    obtain ⟨j, cc, r, hj, hcc, rfl, hr, hh, hkp⟩ := hrel
    obtain ⟨M, hM⟩ : ∃ M, m ++ zs.take j = M := ⟨_, rfl⟩
    rw [hM] at hh
    by_cases hlt : j < n
    · obtain rfl := hr hlt
      have HN := HB.out (by omega)
      have hML : M.length = m.length + j := by rw [← hM]; simp; have := HL.out; omega
      obtain ⟨F, hF⟩ : ∃ F, M.length % 64 = F := ⟨_, rfl⟩
      obtain ⟨t, hT⟩ : ∃ t, Nat.min (n - j) (64 - F) = t := ⟨_, rfl⟩
      have hF64 : F < 64 := by omega
      have hT1 : t ≤ n - j := by rw [← hT]; exact Nat.min_le_left _ _
      have hT2 : t ≤ 64 - F := by rw [← hT]; exact Nat.min_le_right _ _
      have hT0 : 0 < t := by rw [← hT]; exact Nat.lt_min.2 ⟨by omega, by omega⟩
      obtain ⟨P, hP⟩ : ∃ P, (zs.drop j).take t = P := ⟨_, rfl⟩
      have hPL : P.length = t := by rw [← hP]; simp; have := HL.out; omega
      have hPs : ∀ i v, (u8s P)[i]? = some v → wr.cell? ((⟨b0, o0 + j, none⟩ : Addr).add i) = some v := by
        intro i v hv
        have hi : i < P.length := by have := (List.getElem?_eq_some_iff.1 hv).1; rwa [u8s_length] at this
        rw [add_mid, hkp.cell (p := ⟨b0, o0 + j + i, none⟩) HN.2.2.1 HN.2.1, Nat.add_assoc, HN.2.2.2 (j + i) (by omega), ← hv]
        have h2 : j + i < zs.length := by have := HL.out; omega
        rw [← hP]
        simp [u8s, List.getElem?_take, List.getElem?_drop, List.getD, h2, show i < t by omega]
      have HMP : Hid (m ++ zs.take (j + t) = M ++ P) := by
        show _ = _
        rw [← hM, ← hP, List.append_assoc, List.take_add]
      have HML : Hid (M.length = m.length + j) := hML
      have HF : Hid (((M.length : Nat) : Int) % 64 = F ∧ M.length % 64 = F) := ⟨by omega, hF⟩
      have HG : Hid (Blk wr g 87 ((u32s (comp M (M.length / 64)) ++ u8s (M.drop (64 * (M.length / 64)))) ++ (u8s (zer t) ++ (u8s (zer (64 - F - t)) ++ [.int .u64 M.length]))) ∧ (u32s (comp M (M.length / 64)) ++ u8s (M.drop (64 * (M.length / 64)))).length = 8 + F) := by
        refine ⟨?_, ?_⟩
        · have h1 := hh.hash.blk
          rw [open_split M t (by omega), hF] at h1
          simpa [hcells, u8s, List.append_assoc] using h1
        · rw [List.length_append, u32s_length, u8s_length, comp_length, rest_length, hF]
      have HH2 : Hid (Holds wr g M) := hh
      have HK2 : Hid (KTab wr ∧ Kept (fun k => k = g) w wr) := ⟨HH.out.2.kept hkp (by omega), hkp⟩
      have i1 : (0 : Int) ≤ (F : Int) := by omega
      have i2 : (F : Int) ≤ 64 := by omega
      have i3 : (64 : Int) - (F : Int) = ((64 - F : Nat) : Int) := by omega
      have i4 : (0 : Int) < ((n - j : Nat) : Int) := by omega
      have i5 : ¬ (64 = F) := by omega
      have hu : (u8s P).length = t := by rw [u8s_length, hPL]
      clear hh hkp hM hML hP hr HN
      go_wp2
      go_region_held3 (fun _ => True) (trivial) (first | (go_at_call 46; refine (filled_at g _ _ _ F HF.out.1 _ (HH2.out.hash.drewN 1) (by omega)).mono ?_; rintro e w' ⟨rfl, rfl⟩) | (refine step_copy_blk (by rfl) (.tmp 20) (.tmp 21) (by rfl) g (8 + F) (64 - F) (64 - F) ⟨b0, o0 + j, none⟩ (n - j) cc (by rfl) (by rfl) 87 _ _ _ (u8s P) HG.out.1 HG.out.2 (by rw [u8s_length, u8s_length, zer_length, hPL]) (by rw [u8s_length, hPL, hT]) hPs (u8s_one _) (some 22) rfl ?_; intro w4 b4 k4))
      have H4 : Hid (HashAt w4 g (comp M (M.length / 64)) (M.drop (64 * (M.length / 64)) ++ (P ++ zer (64 - F - t))) M.length ∧ KTab w4 ∧ Kept (fun k => k = g) w w4) := by
        have k5 : Kept (fun k => k = g) w w4 := (HK2.out.2.drewN 1).trans k4
        refine ⟨⟨?_, comp_length _ _, ?_⟩, HH.out.2.kept k5 (by omega), k5⟩
        · simpa [hcells, u8s, List.append_assoc] using b4
        · rw [List.length_append, List.length_append, rest_length, hPL, zer_length, HF.out.2]; omega
      have cz := H4.out.1.size_cell
      have fz := H4.out.1.frozen 72
      have e1 : IntKind.u64.wrap ((M.length : Int) + (t : Int)) = (M.length : Int) + (t : Int) := by
        rw [IntKind.wrap_u64]
        have := HM.out
        have := HML.out
        omega
      have j1 : (0 : Int) ≤ (t : Int) := by omega
      have j2 : (t : Int) ≤ ((n - j : Nat) : Int) := by omega
      clear b4 k4 HG hPs
      go_wp2_with fail
      all_goals
        have H5 : Hid (HashAt (w4.setCell ⟨g, 72, none⟩ (.int .u64 ((M.length : Int) + (t : Int)))) g (comp M (M.length / 64)) (M.drop (64 * (M.length / 64)) ++ (P ++ zer (64 - F - t))) ((M.length : Int) + (t : Int)) ∧ KTab (w4.setCell ⟨g, 72, none⟩ (.int .u64 ((M.length : Int) + (t : Int)))) ∧ Kept (fun k => k = g) w (w4.setCell ⟨g, 72, none⟩ (.int .u64 ((M.length : Int) + (t : Int))))) := by
          have k5 : Kept (fun k => k = g) w (w4.setCell ⟨g, 72, none⟩ (.int .u64 ((M.length : Int) + (t : Int)))) := H4.out.2.2.setCell (S := fun k => k = g) rfl _
          exact ⟨H4.out.1.set_size _, HH.out.2.kept k5 (by omega), k5⟩
        obtain ⟨w5, hw5⟩ : ∃ w5, w4.setCell ⟨g, 72, none⟩ (.int .u64 ((M.length : Int) + (t : Int))) = w5 := ⟨_, rfl⟩
        rw [hw5] at H5 ⊢
        clear hw5 cz fz H4 e1
        have HZ : Hid ((0 : Int) ≤ (M.length : Int) + (t : Int)) := by show (0 : Int) ≤ _; omega
        have HE : Hid (((M ++ P).length : Int) = (M.length : Int) + (t : Int)) := by show _ = _; rw [List.length_append, hPL]; omega
        by_cases hfull : F + t = 64
        · have HQ : Hid (((M.length : Int) + (t : Int)) % 64 = ((0 : Nat) : Int)) := by show _ = _; have := HF.out.1; omega
          go_wp2_with (first | (go_at_call 46; refine (filled_at g _ _ _ 0 HQ.out _ H5.out.1 HZ.out).mono ?_; rintro e w' ⟨rfl, rfl⟩) | (go_at_call 47; refine (absorb_any g _ _ _ _ H5.out.1 H5.out.2.1 hg).mono ?_; rintro e w6 ⟨rfl, h6, k6⟩))
          have H6 : Holds w6 g (M ++ P) := by
            have q := open_full M P (by rw [hPL]; omega)
            refine ⟨?_⟩
            rw [q.1, q.2, HE.out]
            rw [show 64 - F - t = 0 by omega, show zer 0 = [] from rfl, List.append_nil] at h6
            exact h6
          have K6 : Kept (fun k => k = g) w w6 := H5.out.2.2.trans k6
          clear h6 k6
          first
            | exact ⟨⟨j + t, 0, some ⟨b0, o0 + j, none⟩, by omega, by omega, by rw [Nat.sub_sub], fun h => by omega, by rw [HMP.out]; exact H6, K6⟩, by show n - j - t < n - j; omega⟩
            | exact ⟨⟨j + t, cc - t, some ⟨b0, o0 + j + t, none⟩, by omega, by omega, by rw [Nat.sub_sub], fun h => by rw [Nat.add_assoc], by rw [HMP.out]; exact H6, K6⟩, by show n - j - t < n - j; omega⟩
        · have HQ : Hid (((M.length : Int) + (t : Int)) % 64 = ((F + t : Nat) : Int)) := by show _ = _; have := HF.out.1; omega
          have q1 : (((F + t : Nat) : Int) == 0) = false := by simp; omega
          have q2 : (((F : Int) + (t : Int)) == 0) = false := by simp; omega
          go_wp2_with (first | (go_at_call 46; refine (filled_at g _ _ _ (F + t) HQ.out _ H5.out.1 HZ.out).mono ?_; rintro e w' ⟨rfl, rfl⟩))
          have H6 : Holds w5 g (M ++ P) := by
            have q := open_part M P (by rw [hPL]; have := HF.out.2; omega)
            refine ⟨?_⟩
            rw [q.1, q.2, HE.out, HF.out.2, hPL]
            exact H5.out.1
          have K6 : Kept (fun k => k = g) w w5 := H5.out.2.2
          first
            | exact ⟨⟨j + t, 0, some ⟨b0, o0 + j, none⟩, by omega, by omega, by rw [Nat.sub_sub], fun h => by omega, by rw [HMP.out]; exact H6, K6⟩, by show n - j - t < n - j; omega⟩
            | exact ⟨⟨j + t, cc - t, some ⟨b0, o0 + j + t, none⟩, by omega, by omega, by rw [Nat.sub_sub], fun h => by rw [Nat.add_assoc], by rw [HMP.out]; exact H6, K6⟩, by show n - j - t < n - j; omega⟩
    · obtain rfl : j = n := by omega
      have X3 : Hid (Holds wr g (m ++ zs) ∧ Kept (fun k => k = g) w wr) := by
        rw [← hM, List.take_of_length_le (by have := HL.out; omega)] at hh
        exact ⟨hh, hkp⟩
      rw [Nat.sub_self]
      clear hh hkp hM hr
      go_wp2
      go_ret2
      exact ⟨rfl, X3.out⟩
end Go.Proofs.YtiimjhahblmggaaDoor
