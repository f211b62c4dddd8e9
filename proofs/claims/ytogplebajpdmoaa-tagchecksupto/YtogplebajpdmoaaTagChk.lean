/- For every key, lists of bytes, of bulk at most 1048576 together, and tag: Check says yes to the document's code alone: not to another tag, not to the code with a byte turned or a carry moved; the lists stay as they are: trystlaw06.TagChecks returns true. Condition: the bulk (uptoSmall). -/
import Derived.Test.YtogplebajpdmoaaBX
import Derived.Test.YtogplebajpdmoaaTagChkW
namespace Go.Proofs.Ytogplebajpdmoaa.tagChecks
open Go.ChangeShapes Go.WideShapes Go.ChangeAt Go.RowKit Go.Deep
set_option linter.unusedVariables false
set_option linter.unusedSimpArgs false
/-! ### The row's step -/
set_option maxRecDepth 100000 in
theorem contract (H : Type) (enc : TypeId × Value → H) (W : World) (base : Nat) (args : Array Value) (ds gs : List (DataW H)) (before : List MemPlace)
    (hval0 : ∀ (j : Nat) t v, Try.f10.params[j]? = some t → args[j]? = some v → Value.okWide Try.prog W .any base t v)
    (hW : DataW.Whole enc Try.prog Try.f10.params.toList Rows.tagChecksSpec.vars false W args.toList ds gs before) (hk : Rows.uptoSmall H (ds ++ gs) = true) :
    Calls Try.prog 10 args W fun e W' => ∃ v, e = .returned v ∧ Rows.tagChecksSpec.post enc Try.prog Try.f10 false true false false W args v W' := by
  have hval := hval0
  have hW' := hW
  obtain ⟨p, q, hA0, hV, rfl, hfz, hnd⟩ := hW
  have hA : DataW.TrodAll enc Try.prog W 0 (fun _ => true) true Try.f10.params.toList args.toList ds p := hA0
  rw [Try.params10] at hA hval
  obtain ⟨v0, vs0, d0, ds0, p0, q0, hargs, rfl, rfl, h0, r0⟩ := trodAll_cons hA
  obtain ⟨v1, vs1, d1, ds1, p1, q1, rfl, rfl, rfl, h1, r1⟩ := trodAll_cons r0
  obtain ⟨v2, vs2, d2, ds2, p2, q2, rfl, rfl, rfl, h2, r2⟩ := trodAll_cons r1
  obtain ⟨rfl, rfl, rfl⟩ := trodAll_nil r2
  obtain rfl : args = #[v0, v1, v2] := by cases args; simp_all
  obtain ⟨rfl, rfl⟩ := trodVars_none hV
  have hb := of_decide_eq_true hk
  simp only [List.cons_append, List.nil_append, Rows.uptoBulkAll] at hb
  have k0 := h0
  have lt0 : ∀ x ∈ p0, x.block < W.heap.size := by obtain ⟨m, hm⟩ := k0; exact DataW.trod_lt m _ _ _ hm
  obtain ⟨cs0, rfl⟩ := okWide_arr Try.underlying30 (hval 0 30 v0 rfl rfl)
  obtain ⟨z0, ez0, w0⟩ : ∃ zs : List Int, cs0.toList = u8s zs ∧ zs.length = 32 ∧ Bytes zs := by
    obtain ⟨fuel, hf⟩ := h0
    exact bytes_arr Try.underlying30 cellsKey (by simpa [Value.cells] using hf)
  obtain rfl : cs0 = (u8s z0).toArray := by rw [← ez0]
  have k1 := h1
  have lt1 : ∀ x ∈ p1, x.block < W.heap.size := by obtain ⟨m, hm⟩ := k1; exact DataW.trod_lt m _ _ _ hm
  obtain ⟨a1, len1, cap1, rfl⟩ := okWide_slice Try.underlying40 (hval 1 40 v1 rfl rfl)
  have hbulk1 : Rows.uptoBulk d1 ≤ 1048576 := by omega
  obtain ⟨fuel1, hf1⟩ := h1
  obtain ⟨ao1, n1, c1, pss1, e1, hs1, hn1, hm1, hc1⟩ := lists_in (y := (d1, p1)) hf1 hbulk1
  simp only [Value.slice.injEq] at e1
  obtain ⟨rfl, rfl, rfl⟩ := e1
  have k2 := h2
  have lt2 : ∀ x ∈ p2, x.block < W.heap.size := by obtain ⟨m, hm⟩ := k2; exact DataW.trod_lt m _ _ _ hm
  obtain ⟨cs2, rfl⟩ := okWide_arr Try.underlying47 (hval 2 47 v2 rfl rfl)
  obtain ⟨z2, ez2, w2⟩ : ∃ zs : List Int, cs2.toList = u8s zs ∧ zs.length = 16 ∧ Bytes zs := by
    obtain ⟨fuel, hf⟩ := h2
    exact bytes_arr Try.underlying47 cellsTag (by simpa [Value.cells] using hf)
  obtain rfl : cs2 = (u8s z2).toArray := by rw [← ez2]
  clear hA0 hval0 hb hk
  refine (walk z0 a1 len1 cap1 pss1 z2 W w0.1 w0.2 hs1 hn1 hm1 w2.1 w2.2).mono fun e W' ⟨he, bel⟩ => ?_
  subst he
  exact ⟨_, rfl, _, _, _, [], _, [], hW', trodAll_mk1 (shut_bool Try.underlying4 _), (trodAll_cons_mk (Below.trod laidOut (by kernel_rfl) (of_decide_eq_true (by kernel_rfl)) k0 bel lt0) (trodAll_cons_mk (Below.trod laidOut (by kernel_rfl) (of_decide_eq_true (by kernel_rfl)) k1 bel lt1) (trodAll_cons_mk (Below.trod laidOut (by kernel_rfl) (of_decide_eq_true (by kernel_rfl)) k2 bel lt2) trodAll_mk0))), rfl, bel.frame _, fun h => by cases h⟩
set_option maxRecDepth 100000 in
theorem lifted (os : Os) (started : os.Started) (H : Type) (enc : TypeId × Value → H) (F : Stop.Interp) :
    ReturnsInHanded {} Try.checked os 10 .any ((Rows.OpenSpec.upto Rows.tagChecksSpec).pre6 enc Try.prog Try.f10 Rows.tagChecksUptoRow.domain false) (((Rows.OpenSpec.upto Rows.tagChecksSpec).at F).post enc Try.prog Try.f10 false true false false) := by
  refine returnsInHanded_of_cond (C := Try.checked) (s := Rows.OpenSpec.upto Rows.tagChecksSpec) (k := Rows.uptoSmall) rfl own started (by kernel_rfl) Try.func10
    (OpenSpec.witness (enc := enc) (C := Try.checked) (s := Rows.OpenSpec.upto Rows.tagChecksSpec) (k := Rows.uptoSmall) rfl false ⟨#[], #[.agg (u8s (zs0 32)).toArray, .slice none 0 0, .agg (u8s (zs0 16)).toArray], []⟩ 8 (by kernel_rfl) (by kernel_rfl) (by kernel_rfl)
      (x := ([.agg (List.replicate 32 (.lit (.int .u8 0))), .nil, .agg (List.replicate 16 (.lit (.int .u8 0)))], [], [])) (by kernel_rfl) rfl (by kernel_rfl)) ?_
  intro W base args ds gs before hval hW _ hk _
  exact contract H enc W base args ds gs before hval hW hk
theorem proved : Rows.TagChecksUptoSaid :=
  OpenClaim.holds_of_cond 10 Try.f10 rfl rfl rfl rfl rfl rfl rfl ⟨rfl, rfl, rfl, rfl, rfl⟩ rfl rfl rfl rfl rfl (by kernel_rfl) Try.func10 (by kernel_rfl)
    (of_decide_eq_true (by kernel_rfl)) (by unfold Func.isWrapper; first | (rw [if_pos (by decide +kernel)]; kernel_rfl) | (rw [if_neg (by decide +kernel)]; exact ⟨rfl, rfl⟩))
    (fun os started H enc _ F => lifted os started H enc F)
end Go.Proofs.Ytogplebajpdmoaa.tagChecks
namespace Go.Proofs.Ytogplebajpdmoaa
theorem tagChecksUpto_holds : Rows.TagChecksUptoSaid := tagChecks.proved
#print axioms tagChecksUpto_holds
end Go.Proofs.Ytogplebajpdmoaa
