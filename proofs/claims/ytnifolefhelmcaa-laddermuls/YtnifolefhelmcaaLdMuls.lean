/- Layer ladder: LadderMuls, its row. -/
import Derived.Test.YtnifolefhelmcaaLdIn
import Derived.Test.YtnifolefhelmcaaBJD
namespace Go.Proofs.Ytnifolefhelmcaa.ladderMuls
open Go.ChangeShapes Go.WideShapes Go.ChangeAt Go.RowKit
set_option linter.unusedVariables false
set_option linter.unusedSimpArgs false
theorem walk (a0 : List Int) (a1 : List Int) (w : World) (l0 : a0.length = 32) (b0 : Bytes a0) (l1 : a1.length = 32) (b1 : Bytes a1) :
    Calls Try.prog 7 #[.agg (u8s a0).toArray, .agg (u8s a1).toArray] w fun e w' => e = .returned (.bool true) ∧ Below w.heap.size w w' := muls_any a0 a1 l0 b0 l1 b1 w

/-! ### The row's step -/
theorem own : ownKnob Try.prog.godebug = none := by kernel_rfl
theorem laidOut : laidOutB Try.prog = true := by kernel_rfl
theorem bytesOf : Try.prog.bytesOf 5 = 1 := by kernel_rfl
set_option maxRecDepth 100000 in
theorem lifted (os : Os) (started : os.Started) (H : Type) (enc : TypeId × Value → H) :
    ReturnsInHanded {} Try.checked os 7 .any (Rows.ladderMulsSpec.pre6 enc Try.prog Try.f7 Rows.ladderMulsRow.domain false) (Rows.ladderMulsSpec.post enc Try.prog Try.f7 false true false false) := by
  refine returnsInHanded_of_change_sized (C := Try.checked) own started (by kernel_rfl) Try.func7
    (ChangeSpec.witness6 (enc := enc) (C := Try.checked) false ⟨#[], #[.agg (u8s (List.replicate 32 0)).toArray, .agg (u8s (List.replicate 32 0)).toArray], []⟩ 8 (by kernel_rfl) (by kernel_rfl) (by kernel_rfl) (by kernel_rfl)) ?_
  intro W base args ds gs before hval0 hW hcnd hsz0 _
  have hval : ∀ (j : Nat) t v, Try.f7.params[j]? = some t → args[j]? = some v → Value.okWide Try.prog W .any base t v := hval0
  have hsz : (DataW.weightsEach Try.prog (Try.f7.params.toList ++ Rows.ladderMulsSpec.plain.varTypes Try.prog) (ds ++ gs)).all (· ≤ reachBytes) = true := hsz0
  have hW' := hW
  obtain ⟨p, q, hA0, hV, rfl, hfz, hnd⟩ := hW
  have hA : DataW.TrodAll enc Try.prog W 0 (fun _ => true) true Try.f7.params.toList args.toList ds p := hA0
  rw [Try.params7] at hA hval hsz
  obtain ⟨v0, vs0, d0, ds0, p0, q0, hargs, rfl, rfl, h0, r0⟩ := trodAll_cons hA
  obtain ⟨v1, vs1, d1, ds1, p1, q1, rfl, rfl, rfl, h1, r1⟩ := trodAll_cons r0
  obtain ⟨rfl, rfl, rfl⟩ := trodAll_nil r1
  obtain rfl : args = #[v0, v1] := by cases args; simp_all
  obtain ⟨rfl, rfl⟩ := trodVars_none hV
  have k0 := h0
  have lt0 : ∀ x ∈ p0, x.block < W.heap.size := by obtain ⟨m, hm⟩ := k0; exact DataW.trod_lt m _ _ _ hm
  obtain ⟨cs0, rfl⟩ := okWide_arr Try.underlying58 (hval 0 58 v0 rfl rfl)
  obtain ⟨z0, ez0, w0⟩ : ∃ zs : List Int, cs0.toList = u8s zs ∧ zs.length = 32 ∧ Bytes zs := by
    obtain ⟨fuel, hf⟩ := h0
    exact bytes_arr Try.underlying58 cellsKey (by simpa [Value.cells] using hf)
  obtain rfl : cs0 = (u8s z0).toArray := by rw [← ez0]
  have k1 := h1
  have lt1 : ∀ x ∈ p1, x.block < W.heap.size := by obtain ⟨m, hm⟩ := k1; exact DataW.trod_lt m _ _ _ hm
  obtain ⟨cs1, rfl⟩ := okWide_arr Try.underlying58 (hval 1 58 v1 rfl rfl)
  obtain ⟨z1, ez1, w1⟩ : ∃ zs : List Int, cs1.toList = u8s zs ∧ zs.length = 32 ∧ Bytes zs := by
    obtain ⟨fuel, hf⟩ := h1
    exact bytes_arr Try.underlying58 cellsKey (by simpa [Value.cells] using hf)
  obtain rfl : cs1 = (u8s z1).toArray := by rw [← ez1]
  clear hA0 hval0
  refine (walk z0 z1 W w0.1 w0.2 w1.1 w1.2).mono fun e W' ⟨he, bel⟩ => ?_
  subst he
  exact ⟨_, rfl, _, _, _, [], _, [], hW', trodAll_mk1 (shut_bool Try.underlying4 _), (trodAll_cons_mk (Below.trod laidOut (by kernel_rfl) (of_decide_eq_true (by kernel_rfl)) k0 bel lt0) (trodAll_cons_mk (Below.trod laidOut (by kernel_rfl) (of_decide_eq_true (by kernel_rfl)) k1 bel lt1) trodAll_mk0)), rfl, bel.frame _, fun h => by cases h⟩

theorem over : Rows.ladderMulsRow.holds Try.pinned (OpenSpec.ofChange Rows.ladderMulsSpec) :=
  OpenClaim.holds_of_wide_leaving 7 Try.f7 rfl rfl rfl rfl rfl rfl rfl ⟨rfl, rfl, rfl, rfl, rfl⟩ rfl rfl rfl rfl rfl (by kernel_rfl) Try.func7 (by kernel_rfl)
    (of_decide_eq_true (by kernel_rfl)) (by unfold Func.isWrapper; first | (rw [if_pos (by decide +kernel)]; kernel_rfl) | (rw [if_neg (by decide +kernel)]; exact ⟨rfl, rfl⟩))
    (fun os started H enc _ => leaving_of (lifted os started H enc))
theorem proved : Rows.LadderMulsSaid := over
end Go.Proofs.Ytnifolefhelmcaa.ladderMuls
namespace Go.Proofs.Ytnifolefhelmcaa
theorem ladderMuls_holds : Rows.LadderMulsSaid := ladderMuls.proved
#print axioms ladderMuls_holds
end Go.Proofs.Ytnifolefhelmcaa

