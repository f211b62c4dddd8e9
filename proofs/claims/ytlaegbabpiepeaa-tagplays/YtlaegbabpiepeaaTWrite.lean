/- Layer tag: Write. -/
import Derived.Test.YtlaegbabpiepeaaTFill
namespace Go.Proofs.Ytlaegbabpiepeaa
open Go.RowKit
set_option linter.unusedVariables false
set_option linter.unusedSimpArgs false

theorem sub_some (b o lo c : Nat) (h : lo < c ∨ lo = 0) : subA (some ⟨b, o, none⟩) lo c = some ⟨b, o + lo, none⟩ := by
  unfold subA
  split
  · next h1 =>
    obtain rfl : lo = 0 := by omega
    rfl
  · exact congrArg some (add_mid b o lo)
theorem arr16 (ao : Option Addr) (n c : Nat) (hn : 16 ≤ n) (w : World) : (Instr.arrayAt 45 (.slice ao n c)).run Try.prog w = .ok (.pointer ao) w := run_arrayAt w 45 5 16 ao n c Try.underlying45 hn
theorem take_take_drop (zs : List Int) (j k : Nat) : zs.take j ++ (zs.drop j).take k = zs.take (j + k) := by
  rw [List.take_add]
set_option maxRecDepth 20000 in
set_option maxHeartbeats 2000000 in
theorem write_nil (ao : Option Addr) (n c : Nat) (w : World) : Calls Try.prog 8 #[.pointer none, .slice ao n c] w fun e w' => e = .returned (.tuple #[.int .i64 0, .iface 42 (.int .i64 1)]) ∧ w = w' := by
  go_enter Try.func8, Try.ntmps8
  go_wp2_with fail
  go_ret2
  exact ⟨rfl, rfl⟩
set_option maxRecDepth 20000 in
set_option maxHeartbeats 2000000 in
theorem write_any (g : Nat) (r0 r1 s : Int) (m : List Int) (ao : Option Addr) (n c : Nat) (zs : List Int) (w : World) (h : PHolds w g r0 r1 s m) (hx : Seen w ao n zs) (hc : n ≤ c) (hne : ∀ b o, 0 < n → ao = some ⟨b, o, none⟩ → b ≠ g) :
    Calls Try.prog 8 #[.pointer (some ⟨g, 0, none⟩), .slice ao n c] w fun e w' => e = .returned (.tuple #[.int .i64 n, .nilIface]) ∧ PHolds w' g r0 r1 s (m ++ zs) ∧ Kept (fun k => k = g) w w' := by
  obtain ⟨b0, o0, hbo⟩ : ∃ b o, 0 < n → ao = some ⟨b, o, none⟩ ∧ b ≠ g ∧ b < w.heap.size := by
    rcases Nat.eq_zero_or_pos n with h0 | h0
    · exact ⟨0, 0, fun h => by omega⟩
    · obtain ⟨b, o, e, hl, hcs⟩ := hx.cells h0
      exact ⟨b, o, fun _ => ⟨e, hne b o h0 e, hl⟩⟩
  have hF := fill_any g r0 r1 s m ao n c zs w h hx hne
  obtain ⟨k, hk⟩ : ∃ z, Nat.min n (16 - m.length % 16) = z := ⟨_, rfl⟩
  rw [hk] at hF
  have hk1 : k ≤ n := by rw [← hk]; exact Nat.min_le_left _ _
  have hk2 : (m.length + k) % 16 = 0 ∨ k = n := by
    have h1 : Nat.min n (16 - m.length % 16) = if n ≤ 16 - m.length % 16 then n else 16 - m.length % 16 := rfl
    rw [hk] at h1
    split at h1
    · exact .inr h1
    · left; omega
  have hsl := sl_l ao n c k hk1
  have HX : Hid (Seen w ao n zs ∧ Bytes m ∧ zs.length = n ∧ ∀ b o, 0 < n → ao = some ⟨b, o, none⟩ → b ≠ g) := ⟨hx, h.bytes, hx.len, hne⟩
  have HB : Hid (0 < n → ao = some ⟨b0, o0, none⟩ ∧ b0 ≠ g ∧ b0 < w.heap.size) := hbo
  have HF : Hid (Calls Try.prog 16 #[.pointer (some ⟨g, 0, none⟩), .slice ao n c] w fun e w' => e = .returned (.int .i64 (k : Nat)) ∧ PHolds w' g r0 r1 s (m ++ zs.take k) ∧ Kept (fun k => k = g) w w') := hF
  have ht := hx.top
  clear h hx hne hbo hF hk
  go_enter Try.func8, Try.ntmps8
  go_wp2_with (go_at_call 16; refine HF.out.mono ?_; rintro e w1 ⟨rfl, h1, k1⟩; have X1 : Hid (PHolds w1 g r0 r1 s (m ++ zs.take k) ∧ Kept (fun k => k = g) w w1) := ⟨h1, k1⟩; clear h1 k1)
  go_loopw [6] (fun v wr => ∃ (j cc : Nat) (r : Option Addr), j ≤ n ∧ n - j ≤ cc ∧ v = .slice r (n - j) cc ∧ (j < n → r = some ⟨b0, o0 + j, none⟩) ∧ PHolds wr g r0 r1 s (m ++ zs.take j) ∧ Kept (fun k => k = g) w wr ∧ ((m.length + j) % 16 = 0 ∨ j = n)) (fun v _ => match v with | .slice _ l _ => l | _ => 0)
  case atStart =>
    refine ⟨k, c - k, _, hk1, by omega, rfl, fun hn => ?_, X1.out.1, X1.out.2, hk2⟩
    rw [(HB.out (by omega)).1]
    exact sub_some _ _ _ _ (.inl (by omega))
  case round =>
    clear hsl
    obtain ⟨j, cc, r, hj, hcc, rfl, hr, hh, hkp, hm16⟩ := hrel
    obtain ⟨M, hM⟩ : ∃ M, m ++ zs.take j = M := ⟨_, rfl⟩
    rw [hM] at hh
    have hML : M.length = m.length + j := by rw [← hM, List.length_append, List.length_take, HX.out.2.2.1]; omega
    by_cases hlt : 16 ≤ n - j
    · obtain rfl := hr (by omega)
      have HN := HB.out (by omega)
      have hz16 : ((zs.drop j).take 16).length = 16 := by rw [List.length_take, List.length_drop, HX.out.2.2.1]; omega
      obtain ⟨P, hP⟩ : ∃ P, (zs.drop j).take 16 = P := ⟨_, rfl⟩
      rw [hP] at hz16
      have hPb : Bytes P := by rw [← hP]; exact bytes_take (bytes_drop HX.out.1.bytes _) _
      have hrange : wr.rangeAt b0 (o0 + j) (u8s P) := by
        intro i v hv
        have hi : i < 16 := by have := (List.getElem?_eq_some_iff.1 hv).1; rw [u8s_length] at this; omega
        obtain ⟨b, o, e, hbl, hcs⟩ := HX.out.1.cells (by omega)
        rw [HN.1] at e
        cases e
        rw [hkp.cell (p := ⟨b0, o0 + j + i, none⟩) hbl HN.2.1, Nat.add_assoc, hcs (j + i) (by omega), ← hv, ← hP]
        have hzz : j + i < zs.length := by rw [HX.out.2.2.1]; omega
        simp [u8s, List.getElem?_take, hi, List.getD, hzz]
      have hsh : ∀ W, (Instr.sliceAt 28 (.slice (some ⟨b0, o0 + j, none⟩) (n - j) cc) none (some (.int .i64 16)) none).run Try.prog W = .ok (.slice (some ⟨b0, o0 + j, none⟩) 16 cc) W := fun W => by
        have := sl_h (some ⟨b0, o0 + j, none⟩) (n - j) cc 16 (by omega) W
        rw [sub_some _ _ _ _ (.inr rfl)] at this
        exact this
      have hsx := sl_l (some ⟨b0, o0 + j, none⟩) (n - j) cc 16 (by omega)
      have harr := fun W => arr16 (some ⟨b0, o0 + j, none⟩) 16 cc (Nat.le_refl _) W
      have hbe := behind_any g r0 r1 s _ _ _ P 1 hz16 hPb (by decide) wr hh.at_
      have e0 : M.length % 16 = 0 := by rcases hm16 with h | h <;> omega
      have e1 := acc_full (r0 + 18446744073709551616 * r1) M P (by omega)
      have e2 : (M ++ P).length % 16 = 0 := by rw [List.length_append]; omega
      have e3 : openB (M ++ P) = zs0 16 := by rw [openB, e1.2, e2]; rfl
      have e4 : openB M = zs0 16 := by
        have : rest16 M = [] := List.eq_nil_of_length_eq_zero (by rw [rest16_length]; exact e0)
        rw [openB, this, e0]; rfl
      have e5 : rest16 M = [] := List.eq_nil_of_length_eq_zero (by rw [rest16_length]; exact e0)
      rw [e5, List.nil_append] at e1
      obtain ⟨A, hA⟩ : ∃ z, step5 (r0 + 18446744073709551616 * r1) (acc (r0 + 18446744073709551616 * r1) M) (le P + 340282366920938463463374607431768211456) = z := ⟨_, rfl⟩
      rw [show le P + 1 * 340282366920938463463374607431768211456 = le P + 340282366920938463463374607431768211456 by omega, hA] at hbe
      obtain ⟨B, hB⟩ : ∃ z, nm A = z := ⟨_, rfl⟩
      rw [hB] at hbe
      have hbd := step5_bd (r0 + 18446744073709551616 * r1) (acc (r0 + 18446744073709551616 * r1) M) (le P + 340282366920938463463374607431768211456) (by have := hh.at_.hr0; have := hh.at_.hr1; omega) hh.at_.ha (by have := le16_bd P hPb (by omega); omega)
      rw [hA] at hbd
      have Y0 : Hid (PHolds wr g r0 r1 s M ∧ Kept (fun k => k = g) w wr ∧ acc (r0 + 18446744073709551616 * r1) (M ++ P) = A ∧ (M ++ P).length % 16 = 0 ∧ openB (M ++ P) = zs0 16 ∧ openB M = zs0 16 ∧ M.length % 16 = 0 ∧ Bytes P ∧ m ++ zs.take (j + 16) = M ++ P ∧ nm A = B ∧ B.length = 3 ∧ (0 ≤ A ∧ A < 1701411834604692317316873037158841057280) ∧ P.length = 16 ∧ (m.length + (j + 16)) % 16 = 0) := ⟨hh, hkp, by rw [e1.1, hA], e2, e3, e4, e0, hPb, by rw [← hM, ← hP, List.append_assoc, take_take_drop], hB, by rw [← hB]; rfl, hbd, hz16, by omega⟩
      have HR : Hid (wr.rangeAt b0 (o0 + j) (u8s P)) := hrange
      have HBE : Hid (Calls Try.prog 17 #[.pointer (some ⟨g, 0, none⟩), .agg (u8s P).toArray, .int .u64 1] wr fun e w' => e = .returned (.agg (u64s B).toArray) ∧ Below wr.heap.size wr w') := hbe
      have i1 : (16 : Int) ≤ ((n - j : Nat) : Int) := by omega
      clear hh hkp hm16 hM hML hz16 hP hPb hrange hbe e0 e1 e2 e3 e4 e5 hA hB hbd hr HN
      obtain ⟨N, hN⟩ : ∃ N, n - j = N := ⟨_, rfl⟩
      rw [hN] at hsh hsx i1 hlt hcc ⊢
      have HNN : Hid (n - j = N) := hN
      clear hN
      go_wp2_with (first | (refine wpList_load_mid rfl 45 _ rfl b0 (o0 + j) rfl (u8s P) _ HR.out Try.underlying45 rfl (by rw [u8s_length, Y0.out.2.2.2.2.2.2.2.2.2.2.2.2.1]; exact size16) ?_) | (go_at_call 17; refine HBE.out.mono ?_; rintro e w3 ⟨rfl, l3⟩; have B3 : Hid (Blk w3 g 60 (u64s [r0, r1] ++ u64s (pr s) ++ (u64s (nm (acc (r0 + 18446744073709551616 * r1) M)) ++ (u8s (openB M) ++ [Value.int .i64 ((M.length % 16 : Nat) : Int)])))) := (by have q := Y0.out.1.at_.blk.later l3 Y0.out.1.lt; rw [pCells, ← List.append_assoc] at q; exact q); have K3 : Hid (Kept (fun b => b = g) w w3) := Y0.out.2.1.trans (Kept.new _ l3); clear l3) | (refine wpList_store_part rfl 55 60 _ _ rfl g 4 rfl (u64s [r0, r1] ++ u64s (pr s)) (u64s (nm (acc (r0 + 18446744073709551616 * r1) M))) (u8s (openB M) ++ [Value.int .i64 ((M.length % 16 : Nat) : Int)]) (u64s B) rfl B3.out rfl (by rw [u64s_length, Y0.out.2.2.2.2.2.2.2.2.2.2.1]; rfl) (by rw [u64s_length, Y0.out.2.2.2.2.2.2.2.2.2.2.1]; exact sizeNumber) (u64s_one _) ?_; intro w4 b4 s4 k4; have B4 : Hid (Blk w4 g 60 (pCells r0 r1 s A (openB M) (M.length % 16))) := (by have q := b4; rw [pCells, Y0.out.2.2.2.2.2.2.2.2.2.1, ← List.append_assoc]; exact q); have K4 : Hid (Kept (fun b => b = g) w w4) := K3.out.trans k4; clear b4 s4 k4))
      have F0 := Y0.out
      refine ⟨⟨j + 16, cc - 16, _, by have := HNN.out; omega, by have := HNN.out; omega, by rw [← Nat.sub_sub, HNN.out], fun hn => ?_, ?_, K4.out, .inl F0.2.2.2.2.2.2.2.2.2.2.2.2.2⟩, ?_⟩
      · rw [← Nat.add_assoc]
        exact sub_some _ _ _ _ (.inl (by have := HNN.out; omega))
      · rw [F0.2.2.2.2.2.2.2.2.1]
        refine ⟨?_, bytes_app F0.1.bytes F0.2.2.2.2.2.2.2.1⟩
        rw [F0.2.2.1, F0.2.2.2.1, F0.2.2.2.2.1]
        have q := B4.out
        rw [F0.2.2.2.2.2.1, F0.2.2.2.2.2.2.1] at q
        exact ⟨q, F0.1.at_.hr0, F0.1.at_.hr1, F0.1.at_.hs, F0.2.2.2.2.2.2.2.2.2.2.2.1, zs0_length 16, zs0_bytes 16, by decide⟩
      · simp; omega
    · have hS : Seen wr r (n - j) (zs.drop j) := by
        have hl := HX.out.2.2.1
        refine ⟨by rw [List.length_drop]; omega, by omega, bytes_drop HX.out.1.bytes _, fun h0 => ?_⟩
        have HN := HB.out (by omega)
        refine ⟨b0, o0 + j, hr (by omega), Nat.lt_of_lt_of_le HN.2.2 hkp.size, fun i hi => ?_⟩
        obtain ⟨b, o, e, hbl, hcs⟩ := HX.out.1.cells (by omega)
        rw [HN.1] at e
        cases e
        rw [hkp.cell (p := ⟨b0, o0 + j + i, none⟩) hbl HN.2.1, Nat.add_assoc, hcs (j + i) (by omega)]
        simp [List.getD]
      have hne2 : ∀ b o, 0 < n - j → r = some ⟨b, o, none⟩ → b ≠ g := fun b o h0 e => by
        have HN := HB.out (by omega)
        rw [hr (by omega)] at e
        cases e
        exact HN.2.1
      have hF2 := fill_any g r0 r1 s M r (n - j) cc (zs.drop j) wr hh hS hne2
      have e1 : (zs.drop j).take (Nat.min (n - j) (16 - M.length % 16)) = zs.drop j := by
        refine List.take_of_length_le ?_
        rw [List.length_drop, HX.out.2.2.1]
        refine Nat.le_min.2 ⟨Nat.le_refl _, ?_⟩
        rcases hm16 with h | h <;> omega
      rw [e1, ← hM, List.append_assoc, List.take_append_drop] at hF2
      have HF2 : Hid (Calls Try.prog 16 #[.pointer (some ⟨g, 0, none⟩), .slice r (n - j) cc] wr fun e w' => e = .returned (.int .i64 ((Nat.min (n - j) (16 - (m ++ zs.take j).length % 16) : Nat) : Int)) ∧ PHolds w' g r0 r1 s (m ++ zs) ∧ Kept (fun k => k = g) wr w') := hF2
      have HK : Hid (Kept (fun k => k = g) w wr) := hkp
      have i1 : ¬ (16 : Int) ≤ ((n - j : Nat) : Int) := by omega
      clear hS hne2 hF2 e1 hh hkp hm16 hM hML hr
      go_wp2_with (go_at_call 16; refine HF2.out.mono ?_; rintro e w4 ⟨rfl, h4, k4⟩; have X4 : Hid (PHolds w4 g r0 r1 s (m ++ zs) ∧ Kept (fun k => k = g) w w4) := ⟨h4, HK.out.trans k4⟩; clear h4 k4)
      go_ret2
      exact ⟨rfl, X4.out⟩
end Go.Proofs.Ytlaegbabpiepeaa
