/- The document's Live, Together, lower, ByIndex, ByGroup. -/
import Derived.Test.YtabdjoljdefjdaaRcRIs
namespace Go.Proofs.Ytabdjoljdefjdaa
open Go.RowKit
set_option linter.unusedVariables false
set_option linter.unusedSimpArgs false

/-- What is read of a list with a whole head. -/
structure Cut (w : World) (b o n c : Nat) (zs : List Int) : Prop where
  c0 : w.cell? ⟨b, o, none⟩ = some (.int .u8 (zs.getD 0 0))
  c1 : w.cell? ⟨b, o + 1, none⟩ = some (.int .u8 (zs.getD 1 0))
  ix : Seen w (some ⟨b, o + 2, none⟩) 4 ((zs.drop 2).take 4)
  gr : Seen w (some ⟨b, o + 10, none⟩) 16 ((zs.drop 10).take 16)
  s1 : ∀ W, (Instr.sliceAt 27 (.slice (some ⟨b, o, none⟩) n c) (some (.int .i64 2)) (some (.int .i64 6)) none).run Try.prog W = .ok (.slice (some ⟨b, o + 2, none⟩) 4 (c - 2)) W
  s2 : ∀ W, (Instr.sliceAt 27 (.slice (some ⟨b, o, none⟩) n c) (some (.int .i64 10)) (some (.int .i64 26)) none).run Try.prog W = .ok (.slice (some ⟨b, o + 10, none⟩) 16 (c - 10)) W
theorem Cut.drewN {w : World} {b o n c : Nat} {zs : List Int} (h : Cut w b o n c zs) (q : Nat) : Cut (w.drewN q) b o n c zs := ⟨h.c0, h.c1, h.ix.drewN q, h.gr.drewN q, h.s1, h.s2⟩
theorem cut_of {w : World} {ao : Option Addr} {n c : Nat} {zs : List Int} (hx : Seen w ao n zs) (hn : 26 ≤ n) (hc : n ≤ c) : ∃ b o, ao = some ⟨b, o, none⟩ ∧ Cut w b o n c zs := by
  obtain ⟨b, o, rfl, hb0, hcells⟩ := hx.cells (by omega)
  have a : ∀ k, k ≤ 10 → subA (some ⟨b, o, none⟩) k c = some ⟨b, o + k, none⟩ := fun k hk => by rw [subA, if_neg (by omega), Option.map_some, add_mid]
  have S2 := hx.sub 2 6 c (by omega) (by omega) hc
  have S10 := hx.sub 10 26 c (by omega) (by omega) hc
  rw [a 2 (by omega)] at S2
  rw [a 10 (by omega)] at S10
  refine ⟨b, o, rfl, hcells 0 (by omega), hcells 1 (by omega), S2, S10, fun W => ?_, fun W => ?_⟩
  · have s := sl_lh (some ⟨b, o, none⟩) n c 2 6 (by omega) (by omega) W
    rw [a 2 (by omega)] at s
    exact s
  · have s := sl_lh (some ⟨b, o, none⟩) n c 10 26 (by omega) (by omega) W
    rw [a 10 (by omega)] at s
    exact s
theorem isR_first {zs : List Int} (hb : Bytes zs) (h : isR zs = true) : (zs.getD 0 0 = 0 ∨ zs.getD 0 0 = 1) ∧ hdV zs = hdOf zs ∧ 26 ≤ zs.length := by
  have hl := isR_long h
  rw [isR, Bool.and_eq_true, Bool.and_eq_true] at h
  have h0 := of_decide_eq_true h.2.1
  have b0 := hb.at 0 (by omega)
  exact ⟨by omega, hdV_long hl, hl⟩
theorem live_dec {zs : List Int} (hb : Bytes zs) (h : isR zs = true) : lvB (hdV zs) = decide (zs.getD 0 0 = 1) := by
  obtain ⟨h1, h2, h3⟩ := isR_first hb h
  rw [h2, lvB]
  show (zs.getD 0 0 % 2 == 1) = _
  rcases h1 with e | e <;> rw [e] <;> decide
set_option maxRecDepth 20000 in
set_option maxHeartbeats 2000000 in
theorem rlive_any (ao : Option Addr) (n c : Nat) (zs : List Int) (hc : n ≤ c) (w : World) (hx : Seen w ao n zs) :
    Calls Try.prog 24 #[.slice ao n c] w fun e w' => e = .returned (.bool (liveB zs)) ∧ w' = w := by
  cases hR : isR zs with
  | false =>
    have E : Hid (liveB zs = false) := by show _ = _; rw [liveB, hR, Bool.false_and]
    have HX : Hid (Seen w ao n zs ∧ isR zs = false) := ⟨hx, hR⟩
    clear hx hR
    go_enter Try.func24, Try.ntmps24
    go_wp2_with (go_at_call 38; refine (ris_any ao n c zs _ HX.out.1).mono ?_; rintro e _ ⟨rfl, rfl⟩; rw [HX.out.2])
    go_ret
    exact ⟨ret_bool E.out.symm, rfl⟩
  | true =>
    have hl := hx.len
    obtain ⟨b, o, rfl, C⟩ := cut_of hx (by rw [← hl]; exact isR_long hR) hc
    have E : Hid (liveB zs = decide (zs.getD 0 0 = 1)) := by show _ = _; rw [liveB, hR, Bool.true_and, live_dec hx.bytes hR]
    have HX : Hid (Seen w (some ⟨b, o, none⟩) n zs ∧ isR zs = true) := ⟨hx, hR⟩
    have c0 := C.c0
    have i1 : (0 : Int) < (n : Int) := by have := isR_long hR; omega
    obtain ⟨A, eA⟩ : ∃ A, zs.getD 0 0 = A := ⟨_, rfl⟩
    rw [eA] at c0 E
    clear hx hR C hl eA
    by_cases h1 : A = 1
    · have E2 : Hid (liveB zs = true) := by show _ = _; rw [E.out]; exact decide_eq_true h1
      go_enter Try.func24, Try.ntmps24
      go_wp2_with (go_at_call 38; refine (ris_any _ n c zs _ HX.out.1).mono ?_; rintro e _ ⟨rfl, rfl⟩; rw [HX.out.2])
      go_ret
      exact ⟨ret_bool E2.out.symm, rfl⟩
    · have E2 : Hid (liveB zs = false) := by show _ = _; rw [E.out]; exact decide_eq_false h1
      go_enter Try.func24, Try.ntmps24
      go_wp2_with (go_at_call 38; refine (ris_any _ n c zs _ HX.out.1).mono ?_; rintro e _ ⟨rfl, rfl⟩; rw [HX.out.2])
      go_ret
      exact ⟨ret_bool (by rw [E2.out]; exact beq_false_of_ne h1), rfl⟩
theorem mask_any (p : Bool) (w : World) : Calls Try.prog 23 #[.bool p] w fun e w' => e = .returned (.int .u64 (mk p)) ∧ w' = w := by
  cases p
  · go_enter Try.func23, Try.ntmps23
    go_wp2
    go_ret
    exact ⟨rfl, rfl⟩
  · go_enter Try.func23, Try.ntmps23
    go_wp2
    go_ret
    exact ⟨rfl, rfl⟩
set_option maxRecDepth 20000 in
set_option maxHeartbeats 2000000 in
theorem rlow_any (ao bo : Option Addr) (n c c' : Nat) (xs ys : List Int) (w : World) (hx : Seen w ao n xs) (hy : Seen w bo n ys) :
    Calls Try.prog 47 #[.slice ao n c, .slice bo n c'] w fun e w' => e = .returned (.bool (bef xs ys)) ∧ ∃ q, w' = w.drewN q := by
  have t1 := hx.top
  have HL : Hid (xs.length = n ∧ ys.length = n) := ⟨hx.len, hy.len⟩
  go_enter Try.func47, Try.ntmps47
  go_wp2
  go_loopw [5] (fun i wr => ∃ k : Nat, k ≤ n ∧ i = .int .i64 k ∧ xs.take k = ys.take k ∧ ∃ q, wr = w.drewN q) (fun i _ => n - (intOf i).toNat)
  case atStart => exact ⟨0, Nat.zero_le _, rfl, by simp, 0, rfl⟩
  case round =>
    obtain ⟨k, hk, rfl, hs, q, rfl⟩ := hrel
    by_cases hlt : k < n
    · obtain ⟨b, o, rfl, hb, hc⟩ := hx.cells (by omega)
      obtain ⟨b', o', rfl, hb', hc'⟩ := hy.cells (by omega)
      have c1 := hc k hlt
      have c2 := hc' k hlt
      have l1 : k < xs.length := by have := HL.out.1; omega
      have l2 : k < ys.length := by have := HL.out.2; omega
      have HT := take_same_succ xs ys k l1 l2
      have HB := bef_of_take xs ys k (by omega) (by omega) hs
      rw [bef_drop xs ys k l1 l2] at HB
      obtain ⟨X, hX⟩ : ∃ X, xs.getD k 0 = X := ⟨_, rfl⟩
      obtain ⟨Y, hY⟩ : ∃ Y, ys.getD k 0 = Y := ⟨_, rfl⟩
      rw [hX] at c1 HT HB
      rw [hY] at c2 HT HB
      have i1 : (0 : Int) ≤ (k : Int) := by omega
      have i2 : (k : Int) < (n : Int) := by omega
      by_cases e : X = Y
      · have hd : (X != Y) = false := by simp [e]
        have HR : Hid (xs.take (k + 1) = ys.take (k + 1)) := HT.2 ⟨hs, e⟩
        clear hX hY hc hc' hx hy hs HT hb hb' HB l1 l2 e
        go_wp2
        go_quiet (fail)
        go_wp2
        go_roundw
        case rel => exact ⟨k + 1, by omega, by go_num, HR.out, _, rfl⟩
        case measure => simp [intOf]; omega
      · have hd : (X != Y) = true := by simp [e]
        rw [if_neg e] at HB
        have HR : Hid (bef xs ys = decide (X < Y)) := HB
        clear hX hY hc hc' hx hy hs HT hb hb' HB l1 l2 e
        go_wp2
        go_quiet (fail)
        go_wp2
        go_quiet (fail)
        go_wp2
        go_ret
        exact ⟨ret_bool HR.out.symm, _, by rw [World.drewN_drewN, World.drewN_drewN]⟩
    · obtain rfl : k = n := by omega
      have e : xs = ys := by
        rwa [List.take_of_length_le (by rw [HL.out.1]; exact Nat.le_refl _), List.take_of_length_le (by rw [HL.out.2]; exact Nat.le_refl _)] at hs
      have HR : Hid (bef xs ys = false) := by show _ = _; rw [e]; exact bef_self ys
      have i2 : ¬ (k : Int) < (k : Int) := by omega
      clear hs e
      go_wp2
      go_ret
      exact ⟨ret_bool HR.out.symm, _, rfl⟩
end Go.Proofs.Ytabdjoljdefjdaa
