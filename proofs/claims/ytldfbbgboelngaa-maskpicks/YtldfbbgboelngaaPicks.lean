/- For every three words: a mask picks one of the two and exchanges them or leaves them, and any word gives back what it swapped: trystlaw01.MaskPicks returns true. No condition. -/
import Derived.Test.YtldfbbgboelngaaWorks
import Derived.ProofKit
import Derived.OpenShut
import Derived.ShutString
import Derived.ChangeOld
namespace Go.Proofs.Ytldfbbgboelngaa.maskPicks
open Go.ChangeShapes Go.WideShapes Go.ChangeAt Go.RowKit
set_option linter.unusedVariables false

theorem yes_1 (w : World) : Calls Try.prog 45 #[.int .u64 18446744073709551615] w fun e w' => e = .returned (.bool true) ∧ w' = w := by
  go_enter Try.func45, Try.ntmps45
  go_wp2
  go_ret
  exact ⟨rfl, rfl⟩
theorem yes_0 (w : World) : Calls Try.prog 45 #[.int .u64 0] w fun e w' => e = .returned (.bool true) ∧ w' = w := by
  go_enter Try.func45, Try.ntmps45
  go_wp2
  go_ret
  exact ⟨rfl, rfl⟩
theorem bit_odd (m : Int) (hm : Word m) (h : m % 2 = 1) (w : World) : Calls Try.prog 9 #[.int .u64 m] w fun e w' => e = .returned (.int .u64 18446744073709551615) ∧ w' = w :=
  (bit_any m hm w).mono fun _ _ ⟨he, hw⟩ => ⟨by rw [he, h]; rfl, hw⟩
theorem bit_even (m : Int) (hm : Word m) (h : m % 2 = 0) (w : World) : Calls Try.prog 9 #[.int .u64 m] w fun e w' => e = .returned (.int .u64 0) ∧ w' = w :=
  (bit_any m hm w).mono fun _ _ ⟨he, hw⟩ => ⟨by rw [he, h]; rfl, hw⟩

set_option maxHeartbeats 1000000 in
theorem walk (m x y : Int) (hm : Word m) (hx : Word x) (hy : Word y) (w : World) :
    Calls Try.prog 8 #[.int .u64 m, .int .u64 x, .int .u64 y] w fun e w' => e = .returned (.bool true) ∧ Below w.heap.size w w' := by
  have wA : Word (pk m y x) := pk_bd m y x hy hx
  have wB : Word (pk m x y) := pk_bd m x y hx hy
  have e0 : pk m x x = x := pk_same m x hx.1
  have e1 : bits .xor .u64 (pk m y x) (pk m x y) = bits .xor .u64 x y := pk_xor m x y hx hy
  have e2 : pk m y x + pk m x y = x + y := pk_add m x y hx.1 hy.1
  have b1 : pk m (pk m x y) (pk m y x) = x := pk_back m x y hx.1
  have b2 : pk m (pk m y x) (pk m x y) = y := pk_back m y x hy.1
  have hm2 : m % 2 = 1 ∨ m % 2 = 0 := by omega
  rcases hm2 with h | h
  · have HM : Hid (m % 2 = 1) := h
    have wM : Word 18446744073709551615 := by decide
    have p1 : pk 18446744073709551615 x y = x := pk_ones x y hx hy
    have p2 : pk 18446744073709551615 y x = y := pk_ones y x hy hx
    go_enter Try.func8, Try.ntmps8
    go_wp2_with (first | (go_at_call 9; refine (bit_odd _ hm HM.out _).mono ?_; rintro e w' ⟨rfl, rfl⟩) | (go_at_call 15; refine (pick_any _ _ _ (by assumption) (by assumption) (by assumption) _).mono ?_; rintro e w' ⟨rfl, rfl⟩) | (go_at_call 14; refine (swap_any _ _ _ (by assumption) (by assumption) (by assumption) _).mono ?_; rintro e w' ⟨rfl, rfl⟩) | (go_at_call 45; refine (yes_1 _).mono ?_; rintro e w' ⟨rfl, rfl⟩) | (go_at_call 17; refine (works_any _).mono ?_; rintro e w' ⟨rfl, hb⟩))
    go_ret
    exact ⟨rfl, by assumption⟩
  · have HM : Hid (m % 2 = 0) := h
    have wM : Word 0 := by decide
    have p1 : pk 0 x y = y := pk_zero x y hy.1
    have p2 : pk 0 y x = x := pk_zero y x hx.1
    go_enter Try.func8, Try.ntmps8
    go_wp2_with (first | (go_at_call 9; refine (bit_even _ hm HM.out _).mono ?_; rintro e w' ⟨rfl, rfl⟩) | (go_at_call 15; refine (pick_any _ _ _ (by assumption) (by assumption) (by assumption) _).mono ?_; rintro e w' ⟨rfl, rfl⟩) | (go_at_call 14; refine (swap_any _ _ _ (by assumption) (by assumption) (by assumption) _).mono ?_; rintro e w' ⟨rfl, rfl⟩) | (go_at_call 45; refine (yes_0 _).mono ?_; rintro e w' ⟨rfl, rfl⟩) | (go_at_call 17; refine (works_any _).mono ?_; rintro e w' ⟨rfl, hb⟩))
    go_ret
    exact ⟨rfl, by assumption⟩

/-! ### The row's step -/
theorem own : ownKnob Try.prog.godebug = none := by kernel_rfl
set_option maxRecDepth 100000 in
theorem lifted (os : Os) (started : os.Started) (H : Type) (enc : TypeId × Value → H) :
    ReturnsInHanded {} Try.checked os 8 .any (Rows.maskPicksSpec.pre6 enc Try.prog Try.f8 Rows.maskPicksRow.domain false) (Rows.maskPicksSpec.post enc Try.prog Try.f8 false true false false) := by
  refine returnsInHanded_of_change (C := Try.checked) own started (by kernel_rfl) Try.func8
    (ChangeSpec.witness6 (enc := enc) (C := Try.checked) false ⟨#[], #[.int .u64 0, .int .u64 0, .int .u64 0], []⟩ 8 (by kernel_rfl) (by kernel_rfl) (by kernel_rfl) (by kernel_rfl)) ?_
  intro W base args ds gs before hval0 hW hcnd _
  have hval : ∀ (j : Nat) t v, Try.f8.params[j]? = some t → args[j]? = some v → Value.okWide Try.prog W .any base t v := hval0
  have hW' := hW
  obtain ⟨p, q, hA0, hV, rfl, hfz, hnd⟩ := hW
  have hA : DataW.TrodAll enc Try.prog W 0 (fun _ => true) true Try.f8.params.toList args.toList ds p := hA0
  rw [Try.params8] at hA hval
  obtain ⟨v0, vs0, d0, ds0, p0, q0, hargs, rfl, rfl, h0, r0⟩ := trodAll_cons hA
  obtain ⟨v1, vs1, d1, ds1, p1, q1, rfl, rfl, rfl, h1, r1⟩ := trodAll_cons r0
  obtain ⟨v2, vs2, d2, ds2, p2, q2, rfl, rfl, rfl, h2, r2⟩ := trodAll_cons r1
  obtain ⟨rfl, rfl, rfl⟩ := trodAll_nil r2
  obtain rfl : args = #[v0, v1, v2] := by cases args; simp_all
  obtain ⟨rfl, rfl⟩ := trodVars_none hV
  obtain ⟨a0, rfl, rfl, rfl, w0⟩ := open_int Try.underlying22 (hval 0 22 v0 rfl rfl) h0
  obtain ⟨a1, rfl, rfl, rfl, w1⟩ := open_int Try.underlying22 (hval 1 22 v1 rfl rfl) h1
  obtain ⟨a2, rfl, rfl, rfl, w2⟩ := open_int Try.underlying22 (hval 2 22 v2 rfl rfl) h2
  clear hA0 hval0
  simp only [List.append_nil] at hW'
  refine (walk a0 a1 a2 (word_of_wf w0) (word_of_wf w1) (word_of_wf w2) W).mono fun e W' ⟨he, bel⟩ => ?_
  subst he
  exact ⟨_, rfl, _, _, _, [], [], [], hW', trodAll_mk1 (shut_bool Try.underlying4 _), (trodAll_cons_mk (shut_int Try.underlying22 w0) (trodAll_cons_mk (shut_int Try.underlying22 w1) (trodAll_cons_mk (shut_int Try.underlying22 w2) trodAll_mk0))), rfl, bel.frame _, fun h => by cases h⟩

theorem over : Rows.maskPicksRow.holds Try.pinned (OpenSpec.ofChange Rows.maskPicksSpec) :=
  OpenClaim.holds_of_wide 8 Try.f8 rfl rfl rfl rfl rfl rfl rfl ⟨rfl, rfl, rfl, rfl, rfl⟩ rfl rfl rfl rfl rfl (by kernel_rfl) Try.func8 (by kernel_rfl)
    (of_decide_eq_true (by kernel_rfl)) (by unfold Func.isWrapper; first | (rw [if_pos (by decide +kernel)]; kernel_rfl) | (rw [if_neg (by decide +kernel)]; exact ⟨rfl, rfl⟩))
    (fun os started H enc _ => lifted os started H enc)
theorem proved : Rows.MaskPicksSaid := over
end Go.Proofs.Ytldfbbgboelngaa.maskPicks
namespace Go.Proofs.Ytldfbbgboelngaa
theorem maskPicks_holds : Rows.MaskPicksSaid := maskPicks.proved
#print axioms maskPicks_holds
end Go.Proofs.Ytldfbbgboelngaa
