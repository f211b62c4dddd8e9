/- For every four words: Quarter is the document's: trystlaw05.StreamQuarters returns true. No condition. -/
import Derived.Test.YtnijdlcfoepmbaaStrQuartersW
import Derived.ProofKit
import Derived.OpenShut
import Derived.ShutString
import Derived.ChangeOld
import Derived.SizedLaws
import Derived.Laws.IdiomArrays
namespace Go.Proofs.Ytnijdlcfoepmbaa.streamQuarters
open Go.ChangeShapes Go.WideShapes Go.ChangeAt Go.RowKit
set_option linter.unusedVariables false
set_option linter.unusedSimpArgs false
theorem cells4w : Try.prog.cellsOf 23 = 4 := by kernel_rfl
theorem cellsU : Try.prog.cellsOf 22 = 1 := by kernel_rfl
theorem okWide_arr4 {W : World} {r : Reach} {base n : Nat} {t e : TypeId} {v : Value} (ht : Try.prog.underlying t = some (.array n e)) (hn : Try.prog.cellsOf t = 4) (h : Value.okWide Try.prog W r base t v) : ∃ c0 c1 c2 c3, v = .agg #[c0, c1, c2, c3] := by
  unfold Value.okWide at h
  rw [ht] at h
  cases v <;> simp_all
  rename_i cs
  obtain ⟨l⟩ := cs
  simp at h
  match l, h with
  | [c0, c1, c2, c3], _ => exact ⟨c0, c1, c2, c3, rfl⟩
theorem wd_of_wf {z : Int} (h : (Lit.int .u32 z).wf = true) : Wd z := by
  simp [Lit.wf, IntKind.min, IntKind.max, IntKind.signed, IntKind.bits] at h
  exact ⟨by omega, by omega⟩
theorem four_in {H : Type} {enc : TypeId × Value → H} {W : World} {base : Nat} {sp : Nat → Bool} {held : Bool} {fuel : Nat} {u0 u1 u2 u3 : Value} {x : DataW H × List MemPlace} (h : DataW.trod enc Try.prog W base sp held fuel 23 [u0, u1, u2, u3] = some x) :
    ∃ a0 a1 a2 a3, u0 = .int .u32 a0 ∧ u1 = .int .u32 a1 ∧ u2 = .int .u32 a2 ∧ u3 = .int .u32 a3 ∧ Wd a0 ∧ Wd a1 ∧ Wd a2 ∧ Wd a3 := by
  obtain ⟨y0, y1, y2, y3, n, _, t0, t1, t2, t3⟩ := trod_array4 Try.underlying23 cellsU h
  obtain ⟨a0, e0, _, w0⟩ := DataW.trod_int Try.underlying22 t0
  obtain ⟨a1, e1, _, w1⟩ := DataW.trod_int Try.underlying22 t1
  obtain ⟨a2, e2, _, w2⟩ := DataW.trod_int Try.underlying22 t2
  obtain ⟨a3, e3, _, w3⟩ := DataW.trod_int Try.underlying22 t3
  simp at e0 e1 e2 e3
  exact ⟨a0, a1, a2, a3, e0, e1, e2, e3, wd_of_wf w0, wd_of_wf w1, wd_of_wf w2, wd_of_wf w3⟩

/-! ### The row's step -/
theorem own : ownKnob Try.prog.godebug = none := by kernel_rfl
theorem laidOut : laidOutB Try.prog = true := by kernel_rfl
theorem bytesOf : Try.prog.bytesOf 5 = 1 := by kernel_rfl
set_option maxRecDepth 100000 in
theorem lifted (os : Os) (started : os.Started) (H : Type) (enc : TypeId × Value → H) :
    ReturnsInHanded {} Try.checked os 3 .any (Rows.streamQuartersSpec.pre6 enc Try.prog Try.f3 Rows.streamQuartersRow.domain false) (Rows.streamQuartersSpec.post enc Try.prog Try.f3 false true false false) := by
  refine returnsInHanded_of_change_sized (C := Try.checked) own started (by kernel_rfl) Try.func3
    (ChangeSpec.witness6 (enc := enc) (C := Try.checked) false ⟨#[], #[.agg #[.int .u32 0, .int .u32 0, .int .u32 0, .int .u32 0]], []⟩ 8 (by kernel_rfl) (by kernel_rfl) (by kernel_rfl) (by kernel_rfl)) ?_
  intro W base args ds gs before hval0 hW hcnd hsz0 _
  have hval : ∀ (j : Nat) t v, Try.f3.params[j]? = some t → args[j]? = some v → Value.okWide Try.prog W .any base t v := hval0
  have hsz : (DataW.weightsEach Try.prog (Try.f3.params.toList ++ Rows.streamQuartersSpec.plain.varTypes Try.prog) (ds ++ gs)).all (· ≤ reachBytes) = true := hsz0
  have hW' := hW
  obtain ⟨p, q, hA0, hV, rfl, hfz, hnd⟩ := hW
  have hA : DataW.TrodAll enc Try.prog W 0 (fun _ => true) true Try.f3.params.toList args.toList ds p := hA0
  rw [Try.params3] at hA hval hsz
  obtain ⟨v0, vs0, d0, ds0, p0, q0, hargs, rfl, rfl, h0, r0⟩ := trodAll_cons hA
  obtain ⟨rfl, rfl, rfl⟩ := trodAll_nil r0
  obtain rfl : args = #[v0] := by cases args; simp_all
  obtain ⟨rfl, rfl⟩ := trodVars_none hV
  have k0 := h0
  have lt0 : ∀ x ∈ p0, x.block < W.heap.size := by obtain ⟨m, hm⟩ := k0; exact DataW.trod_lt m _ _ _ hm
  obtain ⟨u0, u1, u2, u3, rfl⟩ := okWide_arr4 Try.underlying23 cells4w (hval 0 23 v0 rfl rfl)
  obtain ⟨a0, a1, a2, a3, rfl, rfl, rfl, rfl, g0, g1, g2, g3⟩ : ∃ a0 a1 a2 a3, u0 = .int .u32 a0 ∧ u1 = .int .u32 a1 ∧ u2 = .int .u32 a2 ∧ u3 = .int .u32 a3 ∧ Wd a0 ∧ Wd a1 ∧ Wd a2 ∧ Wd a3 := by
    obtain ⟨fuel, hf⟩ := h0
    exact four_in (by simpa [Value.cells] using hf)
  clear hA0 hval0
  refine (walk a0 a1 a2 a3 W g0 g1 g2 g3).mono fun e W' ⟨he, bel⟩ => ?_
  subst he
  exact ⟨_, rfl, _, _, _, [], _, [], hW', trodAll_mk1 (shut_bool Try.underlying4 _), (trodAll_cons_mk (Below.trod laidOut (by kernel_rfl) (of_decide_eq_true (by kernel_rfl)) k0 bel lt0) trodAll_mk0), rfl, bel.frame _, fun h => by cases h⟩

theorem over : Rows.streamQuartersRow.holds Try.pinned (OpenSpec.ofChange Rows.streamQuartersSpec) :=
  OpenClaim.holds_of_wide 3 Try.f3 rfl rfl rfl rfl rfl rfl rfl ⟨rfl, rfl, rfl, rfl, rfl⟩ rfl rfl rfl rfl rfl (by kernel_rfl) Try.func3 (by kernel_rfl)
    (of_decide_eq_true (by kernel_rfl)) (by unfold Func.isWrapper; first | (rw [if_pos (by decide +kernel)]; kernel_rfl) | (rw [if_neg (by decide +kernel)]; exact ⟨rfl, rfl⟩))
    (fun os started H enc _ => lifted os started H enc)
theorem proved : Rows.StreamQuartersSaid := over
end Go.Proofs.Ytnijdlcfoepmbaa.streamQuarters
namespace Go.Proofs.Ytnijdlcfoepmbaa
theorem streamQuarters_holds : Rows.StreamQuartersSaid := streamQuarters.proved
#print axioms streamQuarters_holds
end Go.Proofs.Ytnijdlcfoepmbaa

