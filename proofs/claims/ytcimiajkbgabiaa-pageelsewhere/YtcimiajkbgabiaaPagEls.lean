/- PageElsewhere: a page opens at no place with another Round or Counter, and the heads of two places are the same just where Round and Counter are: trystlaw12.PageElsewhere returns true at every sheet and place. No condition. -/
import Derived.Test.YtcimiajkbgabiaaZG
import Derived.Test.YtcimiajkbgabiaaPagElsW
namespace Go.Proofs.Ytcimiajkbgabiaa.pageElsewhere
open Go.ChangeShapes Go.WideShapes Go.ChangeAt Go.RowKit
set_option linter.unusedVariables false
set_option linter.unusedSimpArgs false

/-! ### The row's step -/
set_option maxRecDepth 100000 in
theorem lifted (os : Os) (started : os.Started) (H : Type) (enc : TypeId × Value → H) :
    ReturnsInHanded {} Try.checked os 6 .any (Rows.pageElsewhereSpec.pre6 enc Try.prog Try.f6 Rows.pageElsewhereRow.domain false) (Rows.pageElsewhereSpec.post enc Try.prog Try.f6 false true false false) := by
  refine returnsInHanded_of_change_sized (C := Try.checked) pOwn started (by kernel_rfl) Try.func6
    (ChangeSpec.witness6 (enc := enc) (C := Try.checked) false ⟨#[], #[.agg (sheetC zeroSh).toArray, .agg (placeC 0 0 0 0).toArray], []⟩ 8 (by kernel_rfl) (by kernel_rfl) (by kernel_rfl) (by kernel_rfl)) ?_
  intro W base args ds gs before hval0 hW hcnd hsz0 _
  have hval : ∀ (j : Nat) t v, Try.f6.params[j]? = some t → args[j]? = some v → Value.okWide Try.prog W .any base t v := hval0
  have hsz : (DataW.weightsEach Try.prog (Try.f6.params.toList ++ Rows.pageElsewhereSpec.plain.varTypes Try.prog) (ds ++ gs)).all (· ≤ reachBytes) = true := hsz0
  have hW' := hW
  obtain ⟨p, q, hA0, hV, rfl, hfz, hnd⟩ := hW
  have hA : DataW.TrodAll enc Try.prog W 0 (fun _ => true) true Try.f6.params.toList args.toList ds p := hA0
  rw [Try.params6] at hA hval hsz
  obtain ⟨v0, vs0, d0, ds0, p0, q0, hargs, rfl, rfl, h0, r0⟩ := trodAll_cons hA
  obtain ⟨v1, vs1, d1, ds1, p1, q1, rfl, rfl, rfl, h1, r1⟩ := trodAll_cons r0
  obtain ⟨rfl, rfl, rfl⟩ := trodAll_nil r1
  obtain rfl : args = #[v0, v1] := by cases args; simp_all
  obtain ⟨rfl, rfl⟩ := trodVars_none hV
  have k0 := h0
  have lt0 : ∀ x ∈ p0, x.block < W.heap.size := by obtain ⟨m, hm⟩ := k0; exact DataW.trod_lt m _ _ _ hm
  obtain ⟨cs, rfl, hcs⟩ := okWide_struct Try.underlying36 (hval 0 36 v0 rfl rfl)
  obtain ⟨s, ecs, g1, g2⟩ : ∃ s : Sh, cs.toList = sheetC s ∧ ShIn W s ∧ s.m ≤ 140737488351232 := by
    obtain ⟨fuel, hf⟩ := h0
    exact sheet_in (x := (d0, p0)) (by simpa [Value.cells] using hf) (pSized_head hsz)
  obtain rfl : cs = (sheetC s).toArray := by rw [← ecs]
  have k1 := h1
  have lt1 : ∀ x ∈ p1, x.block < W.heap.size := by obtain ⟨m, hm⟩ := k1; exact DataW.trod_lt m _ _ _ hm
  obtain ⟨cs1, rfl, hcs1⟩ := okWide_struct Try.underlying31 (hval 1 31 v1 rfl rfl)
  obtain ⟨pr, pc, pp, pq, ecs1, gp⟩ : ∃ r c p q, cs1.toList = placeC r c p q ∧ Word r ∧ U32 c ∧ U32 p ∧ U32 q := by
    obtain ⟨fuel, hf⟩ := h1
    exact place_in (x := (d1, p1)) (by simpa using hcs1.trans pCellsPlace) (by simpa [Value.cells] using hf)
  obtain rfl : cs1 = (placeC pr pc pp pq).toArray := by rw [← ecs1]
  clear hA0 hval0
  refine (walk s pr pc pp pq W g1 g2 gp).mono fun e W' ⟨he, bel⟩ => ?_
  subst he
  exact ⟨_, rfl, _, _, _, [], _, [], hW', trodAll_mk1 (shut_bool Try.underlying4 _), (trodAll_cons_mk (Below.trod pLaidOut (by kernel_rfl) (of_decide_eq_true (by kernel_rfl)) k0 bel lt0) (trodAll_cons_mk (Below.trod pLaidOut (by kernel_rfl) (of_decide_eq_true (by kernel_rfl)) k1 bel lt1) trodAll_mk0)), rfl, bel.frame _, fun h => by cases h⟩

theorem over : Rows.pageElsewhereRow.holds Try.pinned (OpenSpec.ofChange Rows.pageElsewhereSpec) :=
  OpenClaim.holds_of_wide 6 Try.f6 rfl rfl rfl rfl rfl rfl rfl ⟨rfl, rfl, rfl, rfl, rfl⟩ rfl rfl rfl rfl rfl (by kernel_rfl) Try.func6 (by kernel_rfl)
    (of_decide_eq_true (by kernel_rfl)) (by unfold Func.isWrapper; first | (rw [if_pos (by decide +kernel)]; kernel_rfl) | (rw [if_neg (by decide +kernel)]; exact ⟨rfl, rfl⟩))
    (fun os started H enc _ => lifted os started H enc)
theorem proved : Rows.PageElsewhereSaid := over
end Go.Proofs.Ytcimiajkbgabiaa.pageElsewhere
namespace Go.Proofs.Ytcimiajkbgabiaa
theorem pageElsewhere_holds : Rows.PageElsewhereSaid := pageElsewhere.proved
#print axioms pageElsewhere_holds
end Go.Proofs.Ytcimiajkbgabiaa
