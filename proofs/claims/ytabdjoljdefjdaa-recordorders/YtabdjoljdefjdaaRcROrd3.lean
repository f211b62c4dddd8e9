/- The document's ByGroup. -/
import Derived.Test.YtabdjoljdefjdaaRcROrd2
namespace Go.Proofs.Ytabdjoljdefjdaa
open Go.RowKit
set_option linter.unusedVariables false
set_option linter.unusedSimpArgs false

/-- ByGroup of two records, told by their first bytes. -/
theorem byG_dec {xs ys : List Int} (hx : Bytes xs) (hy : Bytes ys) (h1 : isR xs = true) (h2 : isR ys = true) :
    byG xs ys = (decide (xs.getD 0 0 = 1) && !decide (ys.getD 0 0 = 1) || decide (xs.getD 0 0 = 1) && decide (ys.getD 0 0 = 1) && (bef ((xs.drop 10).take 16) ((ys.drop 10).take 16) || decide ((xs.drop 10).take 16 = (ys.drop 10).take 16) && byI xs ys) || !decide (xs.getD 0 0 = 1) && !decide (ys.getD 0 0 = 1) && byI xs ys) := by
  have r1 := isR_first hx h1
  have r2 := isR_first hy h2
  rw [byG, byI, live_dec hx h1, live_dec hy h2, h1, h2, samB, r1.2.1, r2.2.1]
  simp only [Bool.true_and]
  rfl
theorem bef_ne_self {xs ys : List Int} (h : decide (xs = ys) = true) : bef xs ys = false := by
  rw [of_decide_eq_true h]; exact bef_self ys
set_option maxRecDepth 20000 in
set_option maxHeartbeats 4000000 in
theorem rbyG_any (ao bo : Option Addr) (n m c d : Nat) (xs ys : List Int) (hc : n ≤ c) (hd : m ≤ d) (w : World) (hx : Seen w ao n xs) (hy : Seen w bo m ys) :
    Calls Try.prog 28 #[.slice ao n c, .slice bo m d] w fun e w' => e = .returned (.bool (byG xs ys)) ∧ ∃ q, w' = w.drewN q := by
  cases h1 : isR xs with
  | false =>
    have E : Hid (byG xs ys = false) := by show _ = _; rw [byG, h1, Bool.false_and, Bool.false_and]
    have HX : Hid (Seen w ao n xs ∧ isR xs = false) := ⟨hx, h1⟩
    clear hx hy h1
    go_enter Try.func28, Try.ntmps28
    go_wp2_with (go_at_call 38; refine (ris_any ao n c xs _ HX.out.1).mono ?_; rintro e _ ⟨rfl, rfl⟩; rw [HX.out.2])
    go_ret
    exact ⟨ret_bool E.out.symm, 0, rfl⟩
  | true =>
    have hl := hx.len
    have r1 := isR_first hx.bytes h1
    obtain ⟨b, o, rfl, C⟩ := cut_of hx (by rw [← hl]; exact r1.2.2) hc
    cases h2 : isR ys with
    | false =>
      have E : Hid (byG xs ys = false) := by show _ = _; rw [byG, h2, Bool.and_false, Bool.false_and]
      have HX : Hid (Seen w (some ⟨b, o, none⟩) n xs ∧ isR xs = true ∧ Seen w bo m ys ∧ isR ys = false) := ⟨hx, h1, hy, h2⟩
      clear hx hy h1 h2 C r1 hl
      go_enter Try.func28, Try.ntmps28
      go_wp2_with fail
      refine (ris_any _ n c xs _ HX.out.1).mono ?_
      rintro e _ ⟨rfl, rfl⟩
      rw [HX.out.2.1]
      go_wp2_with fail
      refine (ris_any _ m d ys _ HX.out.2.2.1).mono ?_
      rintro e _ ⟨rfl, rfl⟩
      rw [HX.out.2.2.2]
      go_wp2
      go_ret
      exact ⟨ret_bool E.out.symm, 0, rfl⟩
    | true =>
      have hm := hy.len
      have r2 := isR_first hy.bytes h2
      obtain ⟨b', o', rfl, D⟩ := cut_of hy (by rw [← hm]; exact r2.2.2) hd
      have E := byG_dec hx.bytes hy.bytes h1 h2
      have HX : Hid (Seen w (some ⟨b, o, none⟩) n xs ∧ isR xs = true ∧ Seen w (some ⟨b', o', none⟩) m ys ∧ isR ys = true) := ⟨hx, h1, hy, h2⟩
      have HE : Hid (∀ W Q, (∃ q, W = w.drewN q) → Calls Try.prog 14 #[.slice (some ⟨b, o + 10, none⟩) 16 (c - 10), .slice (some ⟨b', o' + 10, none⟩) 16 (d - 10)] (W.drewN Q) fun e w' => e = .returned (.bool (decide ((xs.drop 10).take 16 = (ys.drop 10).take 16))) ∧ ∃ q, w' = (W.drewN Q).drewN q) := by
        rintro W Q ⟨q, rfl⟩
        exact reqb_any _ _ 16 16 _ _ _ _ _ ((C.gr.drewN q).drewN Q) ((D.gr.drewN q).drewN Q)
      have HL : Hid (∀ W Q, (∃ q, W = w.drewN q) → Calls Try.prog 47 #[.slice (some ⟨b, o + 10, none⟩) 16 (c - 10), .slice (some ⟨b', o' + 10, none⟩) 16 (d - 10)] (W.drewN Q) fun e w' => e = .returned (.bool (bef ((xs.drop 10).take 16) ((ys.drop 10).take 16))) ∧ ∃ q, w' = (W.drewN Q).drewN q) := by
        rintro W Q ⟨q, rfl⟩
        exact rlow_any _ _ 16 _ _ _ _ _ ((C.gr.drewN q).drewN Q) ((D.gr.drewN q).drewN Q)
      have HI : Hid (∀ W, (∃ q, W = w.drewN q) → Calls Try.prog 30 #[.slice (some ⟨b, o, none⟩) n c, .slice (some ⟨b', o', none⟩) m d] W fun e w' => e = .returned (.bool (byI xs ys)) ∧ ∃ q, w' = W.drewN q) := by
        rintro W ⟨q, rfl⟩
        exact rbyI_any _ _ n m c d xs ys hc hd _ (hx.drewN q) (hy.drewN q)
      have HZ : decide ((xs.drop 10).take 16 = (ys.drop 10).take 16) = true → bef ((xs.drop 10).take 16) ((ys.drop 10).take 16) = false := bef_ne_self
      obtain ⟨Z, eZ⟩ : ∃ Z, decide ((xs.drop 10).take 16 = (ys.drop 10).take 16) = Z := ⟨_, rfl⟩
      obtain ⟨L, eL⟩ : ∃ L, bef ((xs.drop 10).take 16) ((ys.drop 10).take 16) = L := ⟨_, rfl⟩
      rw [eZ, eL] at E HZ
      rw [eZ] at HE
      rw [eL] at HL
      have c0 := C.c0
      have d0 := D.c0
      have S1 := C.s2
      have S2 := D.s2
      obtain ⟨A, eA⟩ : ∃ A, xs.getD 0 0 = A := ⟨_, rfl⟩
      obtain ⟨B, eB⟩ : ∃ B, ys.getD 0 0 = B := ⟨_, rfl⟩
      have iA := r1.1
      have iB := r2.1
      rw [eA] at c0 E iA
      rw [eB] at d0 E iB
      have n0 : (0 : Int) < (n : Int) := by have := r1.2.2; omega
      have m0 : (0 : Int) < (m : Int) := by have := r2.2.2; omega
      clear hx hy h1 h2 C D r1 r2 hl hm eZ eL eA eB
      rcases iA with rfl | rfl <;> rcases iB with rfl | rfl
      · have EE : Hid (byG xs ys = byI xs ys) := by show _ = _; rw [E]; simp
        clear E HZ S1 S2
        go_enter Try.func28, Try.ntmps28
        go_wp2_with fail
        refine (ris_any _ n c xs _ HX.out.1).mono ?_
        rintro e _ ⟨rfl, rfl⟩
        rw [HX.out.2.1]
        go_wp2_with fail
        refine (ris_any _ m d ys _ HX.out.2.2.1).mono ?_
        rintro e _ ⟨rfl, rfl⟩
        rw [HX.out.2.2.2]
        go_wp2_with fail
        go_quiet (fail)
        obtain ⟨w1, hw1⟩ : ∃ u, w.drewN nq = u := ⟨_, rfl⟩
        rw [hw1]
        have a0 : w1.cell? ⟨b, o, none⟩ = some (.int .u8 0) := hw1 ▸ c0
        have W1 : Hid (∃ q, w1 = w.drewN q) := ⟨_, hw1.symm⟩
        clear hw1 c0 d0
        go_wp2_with fail
        go_quiet (fail)
        obtain ⟨w2, hw2⟩ : ∃ u, w1.drewN nq = u := ⟨_, rfl⟩
        rw [hw2]
        have W2 : Hid (∃ q, w2 = w.drewN q) := by obtain ⟨q, e⟩ := W1.out; exact ⟨q + nq, by rw [← hw2, e, World.drewN_drewN]⟩
        clear hw2
        go_wp2_with fail
        refine (HI.out w2 W2.out).mono ?_
        rintro e _ ⟨rfl, q2, rfl⟩
        obtain ⟨q1, e1⟩ := W2.out
        go_wp2
        go_ret
        exact ⟨ret_bool EE.out.symm, q1 + q2, by first | rfl | rw [e1, World.drewN_drewN]⟩
      · have EE : Hid (byG xs ys = false) := by show _ = _; rw [E]; simp
        clear E HZ S1 S2
        go_enter Try.func28, Try.ntmps28
        go_wp2_with fail
        refine (ris_any _ n c xs _ HX.out.1).mono ?_
        rintro e _ ⟨rfl, rfl⟩
        rw [HX.out.2.1]
        go_wp2_with fail
        refine (ris_any _ m d ys _ HX.out.2.2.1).mono ?_
        rintro e _ ⟨rfl, rfl⟩
        rw [HX.out.2.2.2]
        go_wp2_with fail
        go_quiet (fail)
        obtain ⟨w1, hw1⟩ : ∃ u, w.drewN nq = u := ⟨_, rfl⟩
        rw [hw1]
        have a0 : w1.cell? ⟨b, o, none⟩ = some (.int .u8 0) := hw1 ▸ c0
        have W1 : Hid (∃ q, w1 = w.drewN q) := ⟨_, hw1.symm⟩
        clear hw1 c0 d0
        go_wp2
        go_ret
        exact ⟨ret_bool EE.out.symm, W1.out⟩
      · have EE : Hid (byG xs ys = true) := by show _ = _; rw [E]; simp
        clear E HZ S1 S2
        go_enter Try.func28, Try.ntmps28
        go_wp2_with fail
        refine (ris_any _ n c xs _ HX.out.1).mono ?_
        rintro e _ ⟨rfl, rfl⟩
        rw [HX.out.2.1]
        go_wp2_with fail
        refine (ris_any _ m d ys _ HX.out.2.2.1).mono ?_
        rintro e _ ⟨rfl, rfl⟩
        rw [HX.out.2.2.2]
        go_wp2_with fail
        go_quiet (fail)
        obtain ⟨w1, hw1⟩ : ∃ u, w.drewN nq = u := ⟨_, rfl⟩
        rw [hw1]
        have a0 : w1.cell? ⟨b, o, none⟩ = some (.int .u8 1) := hw1 ▸ c0
        have W1 : Hid (∃ q, w1 = w.drewN q) := ⟨_, hw1.symm⟩
        clear hw1 c0 d0
        go_wp2
        go_ret
        exact ⟨ret_bool EE.out.symm, W1.out⟩
      · cases Z with
        | true =>
          have EE : Hid (byG xs ys = byI xs ys) := by show _ = _; rw [E, HZ rfl]; simp
          clear E HZ
          go_enter Try.func28, Try.ntmps28
          go_wp2_with fail
          refine (ris_any _ n c xs _ HX.out.1).mono ?_
          rintro e _ ⟨rfl, rfl⟩
          rw [HX.out.2.1]
          go_wp2_with fail
          refine (ris_any _ m d ys _ HX.out.2.2.1).mono ?_
          rintro e _ ⟨rfl, rfl⟩
          rw [HX.out.2.2.2]
          go_wp2_with fail
          go_quiet (fail)
          obtain ⟨w1, hw1⟩ : ∃ u, w.drewN nq = u := ⟨_, rfl⟩
          rw [hw1]
          have a0 : w1.cell? ⟨b, o, none⟩ = some (.int .u8 1) := hw1 ▸ c0
          have W1 : Hid (∃ q, w1 = w.drewN q) := ⟨_, hw1.symm⟩
          clear hw1 c0 d0
          go_wp2_with fail
          go_quiet (first | (go_at_call 14; with_reducible exact Calls.quiet_of (HE.out w1 _ W1.out)))
          obtain ⟨w2, hw2⟩ : ∃ u, w1.drewN nq = u := ⟨_, rfl⟩
          rw [hw2]
          have W2 : Hid (∃ q, w2 = w.drewN q) := by obtain ⟨q, e⟩ := W1.out; exact ⟨q + nq, by rw [← hw2, e, World.drewN_drewN]⟩
          clear hw2
          go_wp2_with fail
          refine (HI.out w2 W2.out).mono ?_
          rintro e _ ⟨rfl, q2, rfl⟩
          obtain ⟨q1, e1⟩ := W2.out
          go_wp2
          go_ret
          exact ⟨ret_bool EE.out.symm, q1 + q2, by first | rfl | rw [e1, World.drewN_drewN]⟩
        | false =>
          have EE : Hid (byG xs ys = L) := by show _ = _; rw [E]; simp
          clear E HZ
          go_enter Try.func28, Try.ntmps28
          go_wp2_with fail
          refine (ris_any _ n c xs _ HX.out.1).mono ?_
          rintro e _ ⟨rfl, rfl⟩
          rw [HX.out.2.1]
          go_wp2_with fail
          refine (ris_any _ m d ys _ HX.out.2.2.1).mono ?_
          rintro e _ ⟨rfl, rfl⟩
          rw [HX.out.2.2.2]
          go_wp2_with fail
          go_quiet (fail)
          obtain ⟨w1, hw1⟩ : ∃ u, w.drewN nq = u := ⟨_, rfl⟩
          rw [hw1]
          have a0 : w1.cell? ⟨b, o, none⟩ = some (.int .u8 1) := hw1 ▸ c0
          have W1 : Hid (∃ q, w1 = w.drewN q) := ⟨_, hw1.symm⟩
          clear hw1 c0 d0
          go_wp2_with fail
          go_quiet (first | (go_at_call 14; with_reducible exact Calls.quiet_of (HE.out w1 _ W1.out)))
          obtain ⟨w2, hw2⟩ : ∃ u, w1.drewN nq = u := ⟨_, rfl⟩
          rw [hw2]
          have W2 : Hid (∃ q, w2 = w.drewN q) := by obtain ⟨q, e⟩ := W1.out; exact ⟨q + nq, by rw [← hw2, e, World.drewN_drewN]⟩
          clear hw2
          go_wp2_with fail
          go_quiet (first | (go_at_call 47; with_reducible exact Calls.quiet_of (HL.out w2 _ W2.out)))
          obtain ⟨q1, e1⟩ := W2.out
          go_wp2
          go_ret
          exact ⟨ret_bool EE.out.symm, _, by first | rfl | rw [e1, World.drewN_drewN]⟩
end Go.Proofs.Ytabdjoljdefjdaa
