/- For every second half of a key, text and two numbers: under the key with r = 1 the code of the text's whole chunks is the same when two of them have changed places: trystlaw06.TagOrderless returns true. No condition. -/
import Derived.Test.YtdnfkkndfdbefabTIn
import Derived.Test.YtdnfkkndfdbefabTagOrderW
namespace Go.Proofs.Ytdnfkkndfdbefab.tagOrderless
open Go.ChangeShapes Go.WideShapes Go.ChangeAt Go.RowKit
set_option linter.unusedVariables false
set_option linter.unusedSimpArgs false

/-! ### The row's step -/
theorem own : ownKnob Try.prog.godebug = none := by kernel_rfl
theorem laidOut : laidOutB Try.prog = true := by kernel_rfl
theorem bytesOf : Try.prog.bytesOf 5 = 1 := by kernel_rfl
theorem cellsC : Try.prog.cellsOf 33 = 19 := by kernel_rfl
theorem cells16 : Try.prog.cellsOf 25 = 16 := by kernel_rfl
theorem cellsI : Try.prog.cellsOf 3 = 1 := by kernel_rfl
theorem cellsL : Try.prog.cellsOf 24 = 1 := by kernel_rfl
theorem int_of_wf {z : Int} (h : (Lit.int .i64 z).wf = true) : -9223372036854775808 ≤ z ∧ z < 9223372036854775808 := by
  simp [Lit.wf, IntKind.min, IntKind.max, IntKind.signed, IntKind.bits] at h
  exact ⟨by omega, by omega⟩
/-- A list in a field. -/
theorem list_in {H : Type} {enc : TypeId × Value → H} {W : World} {fuel : Nat} {v : Value} {y : DataW H × List MemPlace} (h : DataW.trod enc Try.prog W 0 (fun _ => true) true fuel 24 [v] = some y)
    (hs : ∀ elems spare, y.1 = .slice elems spare → (elems.length + spare.length) * Try.prog.bytesOf 5 ≤ reachBytes) : ∃ ao n c zs, v = .slice ao n c ∧ Seen W ao n zs ∧ n ≤ c := by
  rcases open_ints Try.underlying24 Try.underlying5 (by kernel_rfl) h with ⟨hcs, _⟩ | ⟨x, l, c, zs, hcs, _, hl, hm, hz, hx, hcell, hwz⟩
  · simp at hcs
    subst hcs
    exact ⟨none, 0, 0, [], rfl, Seen.empty _ _, Nat.le_refl _⟩
  · simp at hcs
    subst hcs
    have hz' : zs.length = c := by simpa using hz
    have h1 := hs _ _ (by rw [hx])
    rw [bytesOf] at h1
    simp only [lits, List.length_map, List.length_take, List.length_drop, reachBytes] at h1
    exact ⟨some x, l, c, _, rfl, Seen.of_ints (by omega) hl hz' hcell hwz, hl⟩
theorem sized_in {H : Type} {y0 y1 y2 y3 : DataW H} (h : (DataW.weightsEach Try.prog [33] [.agg [y0, y1, y2, y3]]).all (· ≤ reachBytes) = true) :
    (∀ elems spare, y1 = .slice elems spare → (elems.length + spare.length) * Try.prog.bytesOf 5 ≤ reachBytes) := by
  rintro elems spare rfl
  simp only [DataW.weightsEach, DataW.weights, Try.underlying33, Try.underlying24, List.all_append, Bool.and_eq_true, List.map_cons, List.map_nil, List.all_cons, decide_eq_true_eq] at h
  simp_all
theorem one_cell (cs : List Value) (i : Nat) (hi : i < cs.length) : (cs.drop i).take 1 = [cs[i]] := by
  rw [List.drop_eq_getElem_cons hi, List.take_succ_cons, List.take_zero]
theorem chunks_in {H : Type} {enc : TypeId × Value → H} {W : World} {fuel : Nat} {cs : List Value} {x : DataW H × List MemPlace} (h : DataW.trod enc Try.prog W 0 (fun _ => true) true fuel 33 cs = some x)
    (hsz : (DataW.weightsEach Try.prog [33] [x.1]).all (· ≤ reachBytes) = true) :
    ∃ (S : List Int) (ao : Option Addr) (n c : Nat) (I K : Int) (m : List Int), cs = cCells S ao n c I K ∧ S.length = 16 ∧ Bytes S ∧ Seen W ao n m ∧ n ≤ c ∧ (-9223372036854775808 ≤ I ∧ I < 9223372036854775808) ∧ (-9223372036854775808 ≤ K ∧ K < 9223372036854775808) := by
  obtain ⟨xs, n, _, hx, hlen, hxl, hf⟩ := DataW.trod_struct Try.underlying33 h
  rw [cellsC] at hlen
  match xs, hxl with
  | [y0, y1, y2, y3], _ =>
    have f0 : DataW.trod enc Try.prog W 0 (fun _ => true) true n 25 (cs.take 16) = some y0 := by simpa [cells16] using hf 0 _ rfl
    have f1 : DataW.trod enc Try.prog W 0 (fun _ => true) true n 24 ((cs.drop 16).take 1) = some y1 := by simpa [cells16, cellsL] using hf 1 _ rfl
    have f2 : DataW.trod enc Try.prog W 0 (fun _ => true) true n 3 ((cs.drop 17).take 1) = some y2 := by simpa [cells16, cellsL, cellsI] using hf 2 _ rfl
    have f3 : DataW.trod enc Try.prog W 0 (fun _ => true) true n 3 ((cs.drop 18).take 1) = some y3 := by simpa [cells16, cellsL, cellsI] using hf 3 _ rfl
    obtain ⟨S, eS, hS, hSb⟩ := bytes_arr Try.underlying25 cells16 f0
    rw [one_cell cs 16 (by omega)] at f1
    rw [one_cell cs 17 (by omega)] at f2
    rw [one_cell cs 18 (by omega)] at f3
    have hz : (DataW.weightsEach Try.prog [33] [.agg [y0.1, y1.1, y2.1, y3.1]]).all (· ≤ reachBytes) = true := by
      have e : x.1 = .agg [y0.1, y1.1, y2.1, y3.1] := by rw [hx]; simp
      rw [← e]; exact hsz
    obtain ⟨ao, l, c, m, em, hm, hc⟩ := list_in f1 (sized_in hz)
    obtain ⟨I, eI, _, wI⟩ := DataW.trod_int Try.underlying3 f2
    obtain ⟨K, eK, _, wK⟩ := DataW.trod_int Try.underlying3 f3
    simp at eI eK
    refine ⟨S, ao, l, c, I, K, m, ?_, hS, hSb, hm, hc, int_of_wf wI, int_of_wf wK⟩
    rw [cCells, ← eS, ← em, ← eI, ← eK]
    conv => lhs; rw [← List.take_append_drop 16 cs]
    congr 1
    apply List.ext_getElem
    · simp; omega
    · intro i h1 h2
      have hi : i < 3 := by simpa using h2
      rcases (by omega : i = 0 ∨ i = 1 ∨ i = 2) with rfl | rfl | rfl <;> simp
set_option maxRecDepth 100000 in
theorem lifted (os : Os) (started : os.Started) (H : Type) (enc : TypeId × Value → H) :
    ReturnsInHanded {} Try.checked os 4 .any (Rows.tagOrderlessSpec.pre6 enc Try.prog Try.f4 Rows.tagOrderlessRow.domain false) (Rows.tagOrderlessSpec.post enc Try.prog Try.f4 false true false false) := by
  refine returnsInHanded_of_change_sized (C := Try.checked) own started (by kernel_rfl) Try.func4
    (ChangeSpec.witness6 (enc := enc) (C := Try.checked) false ⟨#[], #[.agg (cCells (zs0 16) none 0 0 0 0).toArray], []⟩ 8 (by kernel_rfl) (by kernel_rfl) (by kernel_rfl) (by kernel_rfl)) ?_
  intro W base args ds gs before hval0 hW hcnd hsz0 _
  have hval : ∀ (j : Nat) t v, Try.f4.params[j]? = some t → args[j]? = some v → Value.okWide Try.prog W .any base t v := hval0
  have hsz : (DataW.weightsEach Try.prog (Try.f4.params.toList ++ Rows.tagOrderlessSpec.plain.varTypes Try.prog) (ds ++ gs)).all (· ≤ reachBytes) = true := hsz0
  have hW' := hW
  obtain ⟨p, q, hA0, hV, rfl, hfz, hnd⟩ := hW
  have hA : DataW.TrodAll enc Try.prog W 0 (fun _ => true) true Try.f4.params.toList args.toList ds p := hA0
  rw [Try.params4] at hA hval hsz
  obtain ⟨v0, vs0, d0, ds0, p0, q0, hargs, rfl, rfl, h0, r0⟩ := trodAll_cons hA
  obtain ⟨rfl, rfl, rfl⟩ := trodAll_nil r0
  obtain rfl : args = #[v0] := by cases args; simp_all
  obtain ⟨rfl, rfl⟩ := trodVars_none hV
  have k0 := h0
  have lt0 : ∀ x ∈ p0, x.block < W.heap.size := by obtain ⟨m, hm⟩ := k0; exact DataW.trod_lt m _ _ _ hm
  obtain ⟨cs, rfl, hcs⟩ := okWide_struct Try.underlying33 (hval 0 33 v0 rfl rfl)
  obtain ⟨S, ao, n, c, I, K, m, ecs, g1, g2, g3, g4, g5, g6⟩ : ∃ (S : List Int) (ao : Option Addr) (n c : Nat) (I K : Int) (m : List Int), cs.toList = cCells S ao n c I K ∧ S.length = 16 ∧ Bytes S ∧ Seen W ao n m ∧ n ≤ c ∧ (-9223372036854775808 ≤ I ∧ I < 9223372036854775808) ∧ (-9223372036854775808 ≤ K ∧ K < 9223372036854775808) := by
    obtain ⟨fuel, hf⟩ := h0
    exact chunks_in (x := (d0, p0)) (by simpa [Value.cells] using hf) hsz
  obtain rfl : cs = (cCells S ao n c I K).toArray := by rw [← ecs]
  clear hA0 hval0
  refine (order_walk S ao n c I K m W g1 g2 g3 g4 g5 g6).mono fun e W' ⟨he, bel⟩ => ?_
  subst he
  exact ⟨_, rfl, _, _, _, [], _, [], hW', trodAll_mk1 (shut_bool Try.underlying4 _), (trodAll_cons_mk (Below.trod laidOut (by kernel_rfl) (of_decide_eq_true (by kernel_rfl)) k0 bel lt0) trodAll_mk0), rfl, bel.frame _, fun h => by cases h⟩

theorem over : Rows.tagOrderlessRow.holds Try.pinned (OpenSpec.ofChange Rows.tagOrderlessSpec) :=
  OpenClaim.holds_of_wide 4 Try.f4 rfl rfl rfl rfl rfl rfl rfl ⟨rfl, rfl, rfl, rfl, rfl⟩ rfl rfl rfl rfl rfl (by kernel_rfl) Try.func4 (by kernel_rfl)
    (of_decide_eq_true (by kernel_rfl)) (by unfold Func.isWrapper; first | (rw [if_pos (by decide +kernel)]; kernel_rfl) | (rw [if_neg (by decide +kernel)]; exact ⟨rfl, rfl⟩))
    (fun os started H enc _ => lifted os started H enc)
theorem proved : Rows.TagOrderlessSaid := over
end Go.Proofs.Ytdnfkkndfdbefab.tagOrderless
namespace Go.Proofs.Ytdnfkkndfdbefab
theorem tagOrderless_holds : Rows.TagOrderlessSaid := tagOrderless.proved
#print axioms tagOrderless_holds
end Go.Proofs.Ytdnfkkndfdbefab
