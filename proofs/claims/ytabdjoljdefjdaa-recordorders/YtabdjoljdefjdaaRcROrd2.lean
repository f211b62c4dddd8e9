/- The document's Together, ByIndex, ByGroup. -/
import Derived.Test.YtabdjoljdefjdaaRcROrd
namespace Go.Proofs.Ytabdjoljdefjdaa
open Go.RowKit
set_option linter.unusedVariables false
set_option linter.unusedSimpArgs false

theorem liveB_isR {zs : List Int} (h : liveB zs = true) : isR zs = true := by rw [liveB, Bool.and_eq_true] at h; exact h.1
theorem ris_q (ao : Option Addr) (n c : Nat) (zs : List Int) (w : World) (hx : Seen w ao n zs) : Calls Try.prog 38 #[.slice ao n c] w fun e w' => e = .returned (.bool (isR zs)) ∧ w' = w := (ris_any ao n c zs w hx).mono fun _ _ ⟨h1, h2⟩ => ⟨h1, h2.symm⟩
set_option maxRecDepth 20000 in
set_option maxHeartbeats 2000000 in
theorem rtog_any (ao bo : Option Addr) (n m c d : Nat) (xs ys : List Int) (hc : n ≤ c) (hd : m ≤ d) (w : World) (hx : Seen w ao n xs) (hy : Seen w bo m ys) :
    Calls Try.prog 26 #[.slice ao n c, .slice bo m d] w fun e w' => e = .returned (.bool (togB xs ys)) ∧ ∃ q, w' = w.drewN q := by
  have HA : Hid (∀ Q, Calls Try.prog 24 #[.slice ao n c] (w.drewN Q) fun e w' => e = .returned (.bool (liveB xs)) ∧ w' = w.drewN Q) := fun Q => rlive_any ao n c xs hc _ (hx.drewN Q)
  have HB : Hid (∀ Q, Calls Try.prog 24 #[.slice bo m d] (w.drewN Q) fun e w' => e = .returned (.bool (liveB ys)) ∧ w' = w.drewN Q) := fun Q => rlive_any bo m d ys hd _ (hy.drewN Q)
  have T : togB xs ys = (liveB xs && liveB ys && samB (hdV xs) (hdV ys)) := by
    rw [togB, liveB, liveB]
    cases isR xs <;> cases isR ys <;> cases lvB (hdV xs) <;> rfl
  cases h1 : liveB xs with
  | false =>
    have E : Hid (togB xs ys = false) := by show _ = _; rw [T, h1, Bool.false_and, Bool.false_and]
    rw [h1] at HA
    clear hx hy T h1
    go_enter Try.func26, Try.ntmps26
    go_wp2
    go_quiet (first | (go_at_call 24; with_reducible exact Calls.quiet_of_same (HA.out _)))
    go_wp2
    go_ret
    exact ⟨ret_bool E.out.symm, _, rfl⟩
  | true =>
    have hl := hx.len
    have r1 := isR_first hx.bytes (liveB_isR h1)
    obtain ⟨b, o, rfl, C⟩ := cut_of hx (by rw [← hl]; exact r1.2.2) hc
    rw [h1] at HA
    cases h2 : liveB ys with
    | false =>
      have E : Hid (togB xs ys = false) := by show _ = _; rw [T, h2, Bool.and_false, Bool.false_and]
      rw [h2] at HB
      clear hx hy T h1 C r1 hl h2
      go_enter Try.func26, Try.ntmps26
      go_wp2
      go_quiet (first | (go_at_call 24; with_reducible exact Calls.quiet_of_same (HA.out _)) | (go_at_call 24; with_reducible exact Calls.quiet_of_same (HB.out _)))
      go_wp2
      go_ret
      exact ⟨ret_bool E.out.symm, _, rfl⟩
    | true =>
      have hm := hy.len
      have r2 := isR_first hy.bytes (liveB_isR h2)
      obtain ⟨b', o', rfl, D⟩ := cut_of hy (by rw [← hm]; exact r2.2.2) hd
      rw [h2] at HB
      have E : Hid (togB xs ys = decide ((xs.drop 10).take 16 = (ys.drop 10).take 16)) := by show _ = _; rw [T, h1, h2, Bool.and_true, Bool.true_and, samB, r1.2.1, r2.2.1]; rfl
      have HE : Hid (∀ Q, Calls Try.prog 14 #[.slice (some ⟨b, o + 10, none⟩) 16 (c - 10), .slice (some ⟨b', o' + 10, none⟩) 16 (d - 10)] (w.drewN Q) fun e w' => e = .returned (.bool (decide ((xs.drop 10).take 16 = (ys.drop 10).take 16))) ∧ ∃ q, w' = (w.drewN Q).drewN q) := fun Q => reqb_any _ _ 16 16 _ _ _ _ _ (C.gr.drewN Q) (D.gr.drewN Q)
      obtain ⟨Z, eZ⟩ : ∃ Z, decide ((xs.drop 10).take 16 = (ys.drop 10).take 16) = Z := ⟨_, rfl⟩
      rw [eZ] at E HE
      have S1 := C.s2
      have S2 := D.s2
      clear hx hy T h1 C D r1 r2 hl hm h2 eZ
      go_enter Try.func26, Try.ntmps26
      go_wp2
      go_quiet (first | (go_at_call 24; with_reducible exact Calls.quiet_of_same (HA.out _)) | (go_at_call 24; with_reducible exact Calls.quiet_of_same (HB.out _)) | (go_at_call 14; with_reducible exact Calls.quiet_of (HE.out _)))
      go_wp2
      go_ret
      exact ⟨ret_bool E.out.symm, _, rfl⟩
set_option maxRecDepth 20000 in
set_option maxHeartbeats 2000000 in
theorem rbyI_any (ao bo : Option Addr) (n m c d : Nat) (xs ys : List Int) (hc : n ≤ c) (hd : m ≤ d) (w : World) (hx : Seen w ao n xs) (hy : Seen w bo m ys) :
    Calls Try.prog 30 #[.slice ao n c, .slice bo m d] w fun e w' => e = .returned (.bool (byI xs ys)) ∧ ∃ q, w' = w.drewN q := by
  have HA : Hid (∀ Q, Calls Try.prog 38 #[.slice ao n c] (w.drewN Q) fun e w' => e = .returned (.bool (isR xs)) ∧ w' = w.drewN Q) := fun Q => ris_q ao n c xs _ (hx.drewN Q)
  have HB : Hid (∀ Q, Calls Try.prog 38 #[.slice bo m d] (w.drewN Q) fun e w' => e = .returned (.bool (isR ys)) ∧ w' = w.drewN Q) := fun Q => ris_q bo m d ys _ (hy.drewN Q)
  cases h1 : isR xs with
  | false =>
    have E : Hid (byI xs ys = false) := by show _ = _; rw [byI, h1, Bool.false_and, Bool.false_and]
    rw [h1] at HA
    clear hx hy h1
    go_enter Try.func30, Try.ntmps30
    go_wp2
    go_quiet (first | (go_at_call 38; with_reducible exact Calls.quiet_of_same (HA.out _)))
    go_wp2
    go_ret
    exact ⟨ret_bool E.out.symm, _, rfl⟩
  | true =>
    have hl := hx.len
    have r1 := isR_first hx.bytes h1
    obtain ⟨b, o, rfl, C⟩ := cut_of hx (by rw [← hl]; exact r1.2.2) hc
    rw [h1] at HA
    cases h2 : isR ys with
    | false =>
      have E : Hid (byI xs ys = false) := by show _ = _; rw [byI, h2, Bool.and_false, Bool.false_and]
      rw [h2] at HB
      clear hx hy h1 C r1 hl h2
      go_enter Try.func30, Try.ntmps30
      go_wp2
      go_quiet (first | (go_at_call 38; with_reducible exact Calls.quiet_of_same (HA.out _)) | (go_at_call 38; with_reducible exact Calls.quiet_of_same (HB.out _)))
      go_wp2
      go_ret
      exact ⟨ret_bool E.out.symm, _, rfl⟩
    | true =>
      have hm := hy.len
      have r2 := isR_first hy.bytes h2
      obtain ⟨b', o', rfl, D⟩ := cut_of hy (by rw [← hm]; exact r2.2.2) hd
      rw [h2] at HB
      have E : Hid (byI xs ys = decide (le ((xs.drop 2).take 4) < le ((ys.drop 2).take 4))) := by show _ = _; rw [byI, h1, h2, Bool.and_true, Bool.true_and, lowB, r1.2.1, r2.2.1]; rfl
      have HE : Hid (∀ Q, Calls Try.prog 39 #[.slice (some ⟨b, o + 2, none⟩) 4 (c - 2)] (w.drewN Q) fun e w' => e = .returned (.int .u32 (le ((xs.drop 2).take 4))) ∧ ∃ q, w' = (w.drewN Q).drewN q) := fun Q => rnum_any _ _ _ _ (C.ix.drewN Q)
      have HF : Hid (∀ Q, Calls Try.prog 39 #[.slice (some ⟨b', o' + 2, none⟩) 4 (d - 2)] (w.drewN Q) fun e w' => e = .returned (.int .u32 (le ((ys.drop 2).take 4))) ∧ ∃ q, w' = (w.drewN Q).drewN q) := fun Q => rnum_any _ _ _ _ (D.ix.drewN Q)
      obtain ⟨Z, eZ⟩ : ∃ Z, le ((xs.drop 2).take 4) = Z := ⟨_, rfl⟩
      obtain ⟨Y, eY⟩ : ∃ Y, le ((ys.drop 2).take 4) = Y := ⟨_, rfl⟩
      rw [eZ] at E HE
      rw [eY] at E HF
      have S1 := C.s1
      have S2 := D.s1
      clear hx hy h1 C D r1 r2 hl hm h2 eZ eY
      go_enter Try.func30, Try.ntmps30
      go_wp2
      go_quiet (first | (go_at_call 38; with_reducible exact Calls.quiet_of_same (HA.out _)) | (go_at_call 38; with_reducible exact Calls.quiet_of_same (HB.out _)) | (go_at_call 39; with_reducible exact Calls.quiet_of (HE.out _)) | (go_at_call 39; with_reducible exact Calls.quiet_of (HF.out _)))
      go_wp2
      go_ret
      exact ⟨ret_bool E.out.symm, _, rfl⟩
end Go.Proofs.Ytabdjoljdefjdaa
