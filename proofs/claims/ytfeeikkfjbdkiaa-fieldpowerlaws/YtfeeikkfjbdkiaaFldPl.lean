/- For every two rows of 32 bytes, as numbers modulo the prime, and every two numbers below 2^32: x to the power p is x, and the laws of powers: trystlaw08.FieldPowerLaws returns true. No condition. -/
import Derived.Test.YtfeeikkfjbdkiaaFPws
import Derived.Test.YtfeeikkfjbdkiaaFldPlW
namespace Go.Proofs.Ytfeeikkfjbdkiaa.fieldPowerLaws
open Go.ChangeShapes Go.WideShapes Go.ChangeAt Go.RowKit
set_option linter.unusedVariables false
set_option linter.unusedSimpArgs false
theorem walk (aa bb : List Int) (m n : Nat) (w : World) (la : aa.length = 32) (ba : Bytes aa) (lb : bb.length = 32) (hb : Bytes bb) (hm : m < 4294967296) (hn : n < 4294967296) :
    Calls Try.prog 9 #[.agg (pwCells aa bb m n).toArray] w fun e w' => e = .returned (.bool true) ∧ Below w.heap.size w w' := powerlaws_any aa bb m n w la ba lb hb hm hn

/-! ### The row's step -/
theorem own : ownKnob Try.prog.godebug = none := by kernel_rfl
theorem laidOut : laidOutB Try.prog = true := by kernel_rfl
theorem bytesOf : Try.prog.bytesOf 5 = 1 := by kernel_rfl
set_option maxRecDepth 100000 in
theorem lifted (os : Os) (started : os.Started) (H : Type) (enc : TypeId × Value → H) :
    ReturnsInHanded {} Try.checked os 9 .any (Rows.fieldPowerLawsSpec.pre6 enc Try.prog Try.f9 Rows.fieldPowerLawsRow.domain false) (Rows.fieldPowerLawsSpec.post enc Try.prog Try.f9 false true false false) := by
  refine returnsInHanded_of_change_sized (C := Try.checked) own started (by kernel_rfl) Try.func9
    (ChangeSpec.witness6 (enc := enc) (C := Try.checked) false ⟨#[], #[.agg (pwCells (List.replicate 32 0) (List.replicate 32 0) 0 0).toArray], []⟩ 8 (by kernel_rfl) (by kernel_rfl) (by kernel_rfl) (by kernel_rfl)) ?_
  intro W base args ds gs before hval0 hW hcnd hsz0 _
  have hval : ∀ (j : Nat) t v, Try.f9.params[j]? = some t → args[j]? = some v → Value.okWide Try.prog W .any base t v := hval0
  have hsz : (DataW.weightsEach Try.prog (Try.f9.params.toList ++ Rows.fieldPowerLawsSpec.plain.varTypes Try.prog) (ds ++ gs)).all (· ≤ reachBytes) = true := hsz0
  have hW' := hW
  obtain ⟨p, q, hA0, hV, rfl, hfz, hnd⟩ := hW
  have hA : DataW.TrodAll enc Try.prog W 0 (fun _ => true) true Try.f9.params.toList args.toList ds p := hA0
  rw [Try.params9] at hA hval hsz
  obtain ⟨v0, vs0, d0, ds0, p0, q0, hargs, rfl, rfl, h0, r0⟩ := trodAll_cons hA
  obtain ⟨rfl, rfl, rfl⟩ := trodAll_nil r0
  obtain rfl : args = #[v0] := by cases args; simp_all
  obtain ⟨rfl, rfl⟩ := trodVars_none hV
  have k0 := h0
  have lt0 : ∀ x ∈ p0, x.block < W.heap.size := by obtain ⟨m, hm⟩ := k0; exact DataW.trod_lt m _ _ _ hm
  obtain ⟨cs0, rfl, _⟩ := okWide_struct Try.underlying58 (hval 0 58 v0 rfl rfl)
  obtain ⟨aa, bb, mm, nn, ecs, g1, g2, g3, g4, g5, g6⟩ : ∃ (aa bb : List Int) (m n : Nat), cs0.toList = pwCells aa bb m n ∧ aa.length = 32 ∧ Bytes aa ∧ bb.length = 32 ∧ Bytes bb ∧ m < 4294967296 ∧ n < 4294967296 := by
    obtain ⟨fuel, hf⟩ := h0
    exact powers_in (by simpa [Value.cells] using hf)
  obtain rfl : cs0 = (pwCells aa bb mm nn).toArray := by rw [← ecs]
  clear hA0 hval0
  refine (walk aa bb mm nn W g1 g2 g3 g4 g5 g6).mono fun e W' ⟨he, bel⟩ => ?_
  subst he
  exact ⟨_, rfl, _, _, _, [], _, [], hW', trodAll_mk1 (shut_bool Try.underlying4 _), (trodAll_cons_mk (Below.trod laidOut (by kernel_rfl) (of_decide_eq_true (by kernel_rfl)) k0 bel lt0) trodAll_mk0), rfl, bel.frame _, fun h => by cases h⟩

theorem over : Rows.fieldPowerLawsRow.holds Try.pinned (OpenSpec.ofChange Rows.fieldPowerLawsSpec) :=
  OpenClaim.holds_of_wide 9 Try.f9 rfl rfl rfl rfl rfl rfl rfl ⟨rfl, rfl, rfl, rfl, rfl⟩ rfl rfl rfl rfl rfl (by kernel_rfl) Try.func9 (by kernel_rfl)
    (of_decide_eq_true (by kernel_rfl)) (by unfold Func.isWrapper; first | (rw [if_pos (by decide +kernel)]; kernel_rfl) | (rw [if_neg (by decide +kernel)]; exact ⟨rfl, rfl⟩))
    (fun os started H enc _ => lifted os started H enc)
theorem proved : Rows.FieldPowerLawsSaid := over
end Go.Proofs.Ytfeeikkfjbdkiaa.fieldPowerLaws
namespace Go.Proofs.Ytfeeikkfjbdkiaa
theorem fieldPowerLaws_holds : Rows.FieldPowerLawsSaid := fieldPowerLaws.proved
#print axioms fieldPowerLaws_holds
end Go.Proofs.Ytfeeikkfjbdkiaa

