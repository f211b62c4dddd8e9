/- StreamPlays: two streams of any keys, nonces and counters, gone through by two scripts in turns, answer at each step what the document's streams answer: trystlaw05.StreamPlays returns true at every argument. No condition. -/
import Derived.Test.YtpjnimmclncdoaaSPlIn
namespace Go.Proofs.Ytpjnimmclncdoaa.streamPlays
open Go.ChangeShapes Go.WideShapes Go.ChangeAt Go.RowKit
set_option linter.unusedVariables false
set_option linter.unusedSimpArgs false

/-! ### The row's step -/
theorem own : ownKnob Try.prog.godebug = none := by kernel_rfl
theorem laidOut : laidOutB Try.prog = true := by kernel_rfl
theorem cellsR : Try.prog.cellsOf 31 = 92 := by kernel_rfl
theorem cellsSs : Try.prog.cellsOf 29 = 1 := by kernel_rfl
theorem parts {H : Type} {enc : TypeId × Value → H} {W : World} {base : Nat} {sp : Nat → Bool} {held : Bool} {fuel : Nat} {cs : List Value} {x : DataW H × List MemPlace}
    (h : DataW.trod enc Try.prog W base sp held fuel 31 cs = some x) : ∃ (y0 y1 y2 y3 : DataW H × List MemPlace) (u2 u3 : Value) (n : Nat), x.1 = .agg [y0.1, y1.1, y2.1, y3.1] ∧ cs = cs.take 45 ++ ((cs.drop 45).take 45 ++ [u2, u3]) ∧
      DataW.trod enc Try.prog W base sp held n 28 (cs.take 45) = some y0 ∧ DataW.trod enc Try.prog W base sp held n 28 ((cs.drop 45).take 45) = some y1 ∧ DataW.trod enc Try.prog W base sp held n 29 [u2] = some y2 ∧ DataW.trod enc Try.prog W base sp held n 29 [u3] = some y3 := by
  obtain ⟨xs, n, _, hx, hcl, hlen, hf⟩ := DataW.trod_struct Try.underlying31 h
  rw [cellsR] at hcl
  match xs, hlen with
  | [y0, y1, y2, y3], _ =>
    have f0 : DataW.trod enc Try.prog W base sp held n 28 (cs.take 45) = some y0 := by simpa [cellsBegin, cellsSs] using hf 0 _ rfl
    have f1 : DataW.trod enc Try.prog W base sp held n 28 ((cs.drop 45).take 45) = some y1 := by simpa [cellsBegin, cellsSs] using hf 1 _ rfl
    have f2 : DataW.trod enc Try.prog W base sp held n 29 ((cs.drop 90).take 1) = some y2 := by simpa [cellsBegin, cellsSs] using hf 2 _ rfl
    have f3 : DataW.trod enc Try.prog W base sp held n 29 ((cs.drop 91).take 1) = some y3 := by simpa [cellsBegin, cellsSs] using hf 3 _ rfl
    obtain ⟨u2, u3, e⟩ : ∃ u2 u3, cs.drop 90 = [u2, u3] := by
      have hl : (cs.drop 90).length = 2 := by rw [List.length_drop]; omega
      match cs.drop 90, hl with
      | [a, b], _ => exact ⟨a, b, rfl⟩
    have e3 : cs.drop 91 = [u3] := by
      have := congrArg (List.drop 1) e
      rw [List.drop_drop] at this
      simpa using this
    rw [e] at f2
    rw [e3] at f3
    refine ⟨y0, y1, y2, y3, u2, u3, n, by rw [hx]; simp, ?_, f0, f1, by simpa using f2, by simpa using f3⟩
    have d1 : cs.drop 45 = (cs.drop 45).take 45 ++ cs.drop 90 := by
      have := (List.take_append_drop 45 (cs.drop 45)).symm
      rwa [List.drop_drop] at this
    rw [← e, ← d1, List.take_append_drop]
set_option maxRecDepth 100000 in
theorem lifted (os : Os) (started : os.Started) (H : Type) (enc : TypeId × Value → H) :
    ReturnsInHanded {} Try.checked os 3 .any (Rows.streamPlaysSpec.pre6 enc Try.prog Try.f3 Rows.streamPlaysRow.domain false) (Rows.streamPlaysSpec.post enc Try.prog Try.f3 false true false false) := by
  refine returnsInHanded_of_change_sized (C := Try.checked) own started (by kernel_rfl) Try.func3
    (ChangeSpec.witness6 (enc := enc) (C := Try.checked) false ⟨#[], #[.agg (bCells zK zN 0 ++ (bCells zK zN 0 ++ [Value.slice none 0 0, Value.slice none 0 0])).toArray], []⟩ 8 (by kernel_rfl) (by kernel_rfl) (by kernel_rfl) (by kernel_rfl)) ?_
  intro W base args ds gs before hval0 hW hcnd hsz0 _
  have hval : ∀ (j : Nat) t v, Try.f3.params[j]? = some t → args[j]? = some v → Value.okWide Try.prog W .any base t v := hval0
  have hsz : (DataW.weightsEach Try.prog (Try.f3.params.toList ++ Rows.streamPlaysSpec.plain.varTypes Try.prog) (ds ++ gs)).all (· ≤ reachBytes) = true := hsz0
  have hW' := hW
  obtain ⟨p, q, hA0, hV, rfl, hfz, hnd⟩ := hW
  have hA : DataW.TrodAll enc Try.prog W 0 (fun _ => true) true Try.f3.params.toList args.toList ds p := hA0
  rw [Try.params3] at hA hval hsz
  obtain ⟨v0, vs0, d0, ds0, p0, q0, hargs, rfl, rfl, h0, r0⟩ := trodAll_cons hA
  obtain ⟨rfl, rfl, rfl⟩ := trodAll_nil r0
  obtain rfl : args = #[v0] := by cases args; simp_all
  obtain ⟨rfl, rfl⟩ := trodVars_none hV
  have k0 := h0
  have lt0 : ∀ x ∈ p0, x.block < W.heap.size := by obtain ⟨m, hm⟩ := k0; exact DataW.trod_lt m _ _ _ hm
  obtain ⟨cs, rfl, hcs⟩ := okWide_struct Try.underlying31 (hval 0 31 v0 rfl rfl)
  obtain ⟨fuel, hf⟩ := h0
  obtain ⟨y0, y1, y2, y3, u2, u3, m, hd, ecs, t0, t1, t2, t3⟩ := parts (cs := cs.toList) (by simpa [Value.cells] using hf)
  simp only at hd
  have hz : ∀ n ∈ DataW.weights Try.prog 31 d0, n ≤ reachBytes := fun n hn => of_decide_eq_true (List.all_eq_true.1 hsz n (DataW.weights_mem_each (j := 0) (t := 31) rfl rfl n hn))
  rw [hd] at hz
  simp only [DataW.weights, Try.underlying31] at hz
  obtain ⟨K1, N1, c1, q0, g1, g2, g3, g4, g5⟩ := begin_in t0
  obtain ⟨K2, N2, c2, q1, f1, f2, f3, f4, f5⟩ := begin_in t1
  obtain ⟨b1, m1, j1, i1, rfl, e1⟩ := steps_in t2 (fun n hn => hz n (DataW.weights_mem_each (j := 2) (t := 29) rfl rfl n hn))
  obtain ⟨b2, m2, j2, i2, rfl, e2⟩ := steps_in t3 (fun n hn => hz n (DataW.weights_mem_each (j := 3) (t := 29) rfl rfl n hn))
  rw [q0, q1] at ecs
  obtain rfl : cs = (twC ⟨K1, N1, c1, K2, N2, c2, b1, m1, j1, i1, b2, m2, j2, i2⟩).toArray := by
    have e : cs.toList = twC ⟨K1, N1, c1, K2, N2, c2, b1, m1, j1, i1, b2, m2, j2, i2⟩ := by rw [ecs]; simp [twC, bCells]
    rw [← e]
  clear hA0 hval0 hf
  refine (walk ⟨K1, N1, c1, K2, N2, c2, b1, m1, j1, i1, b2, m2, j2, i2⟩ W ⟨g1, g2, f1, f2, g3, g4, f3, f4, g5, f5, e1, e2⟩).mono fun e W' ⟨he, bel⟩ => ?_
  subst he
  exact ⟨_, rfl, _, _, _, [], _, [], hW', trodAll_mk1 (shut_bool Try.underlying4 _), (trodAll_cons_mk (Below.trod laidOut (by kernel_rfl) (of_decide_eq_true (by kernel_rfl)) k0 bel lt0) trodAll_mk0), rfl, bel.frame _, fun h => by cases h⟩

theorem over : Rows.streamPlaysRow.holds Try.pinned (OpenSpec.ofChange Rows.streamPlaysSpec) :=
  OpenClaim.holds_of_wide 3 Try.f3 rfl rfl rfl rfl rfl rfl rfl ⟨rfl, rfl, rfl, rfl, rfl⟩ rfl rfl rfl rfl rfl (by kernel_rfl) Try.func3 (by kernel_rfl)
    (of_decide_eq_true (by kernel_rfl)) (by unfold Func.isWrapper; first | (rw [if_pos (by decide +kernel)]; kernel_rfl) | (rw [if_neg (by decide +kernel)]; exact ⟨rfl, rfl⟩))
    (fun os started H enc _ => lifted os started H enc)
theorem proved : Rows.StreamPlaysSaid := over
end Go.Proofs.Ytpjnimmclncdoaa.streamPlays
namespace Go.Proofs.Ytpjnimmclncdoaa
theorem streamPlays_holds : Rows.StreamPlaysSaid := streamPlays.proved
#print axioms streamPlays_holds
end Go.Proofs.Ytpjnimmclncdoaa
