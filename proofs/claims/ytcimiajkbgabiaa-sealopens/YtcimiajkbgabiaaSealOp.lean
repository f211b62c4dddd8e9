/- For every key, nonce, more and box: Open and Peek answer what the document answers, twice alike, in new memory; what is handed in stays and is not kept: trystlaw07.SealOpens returns true. No condition. -/
import Derived.Test.YtcimiajkbgabiaaYJ
import Derived.Test.YtcimiajkbgabiaaSealOpW
namespace Go.Proofs.Ytcimiajkbgabiaa.sealOpens
open Go.ChangeShapes Go.WideShapes Go.ChangeAt Go.RowKit
set_option linter.unusedVariables false
set_option linter.unusedSimpArgs false

theorem lList_big {H : Type} {enc : TypeId × Value → H} {W : World} {fuel : Nat} {v : Value} {y : DataW H × List MemPlace} (h : DataW.trod enc Try.prog W 0 (fun _ => true) true fuel 22 [v] = some y)
    (hs : ∀ elems spare, y.1 = .slice elems spare → (elems.length + spare.length) * Try.prog.bytesOf 5 ≤ reachBytes) : ∃ ao n c zs, v = .slice ao n c ∧ Seen W ao n zs ∧ n ≤ c ∧ n ≤ 140737488351232 := by
  rcases open_ints Try.underlying22 Try.underlying5 (by kernel_rfl) h with ⟨hcs, _⟩ | ⟨x, l, c, zs, hcs, _, hl, hm, hz, hx, hcell, hwz⟩
  · simp at hcs
    subst hcs
    exact ⟨none, 0, 0, [], rfl, Seen.empty _ _, Nat.le_refl _, Nat.zero_le _⟩
  · simp at hcs
    subst hcs
    have hz' : zs.length = c := by simpa using hz
    have h1 := hs _ _ (by rw [hx])
    rw [lBytesOf] at h1
    simp only [lits, List.length_map, List.length_take, List.length_drop, reachBytes] at h1
    exact ⟨some x, l, c, _, rfl, Seen.of_ints (by omega) hl hz' hcell hwz, hl, by omega⟩
theorem case_big {H : Type} {enc : TypeId × Value → H} {W : World} {fuel : Nat} {cs : List Value} {x : DataW H × List MemPlace} (h : DataW.trod enc Try.prog W 0 (fun _ => true) true fuel 44 cs = some x)
    (hsz : (DataW.weightsEach Try.prog [44] [x.1]).all (· ≤ reachBytes) = true) :
    ∃ (key nonce : List Int) (ao : Option Addr) (n c : Nat) (ms : List Int) (bo : Option Addr) (m d : Nat) (zs : List Int), cs = caseC key nonce ao n c bo m d ∧ CsIn W key nonce ao n c ms bo m d zs ∧ n ≤ 140737488351232 ∧ m ≤ 140737488351232 := by
  obtain ⟨xs, n, _, hx, hlen, hxl, hf⟩ := DataW.trod_struct Try.underlying44 h
  rw [lCellsCase] at hlen
  match xs, hxl with
  | [y0, y1, y2, y3], _ =>
    have f0 : DataW.trod enc Try.prog W 0 (fun _ => true) true n 27 (cs.take 32) = some y0 := by simpa [lCellsKey] using hf 0 _ rfl
    have f1 : DataW.trod enc Try.prog W 0 (fun _ => true) true n 42 ((cs.drop 32).take 12) = some y1 := by simpa [lCellsKey, lCellsNonce] using hf 1 _ rfl
    have f2 : DataW.trod enc Try.prog W 0 (fun _ => true) true n 22 ((cs.drop 44).take 1) = some y2 := by simpa [lCellsKey, lCellsNonce, lCellsL] using hf 2 _ rfl
    have f3 : DataW.trod enc Try.prog W 0 (fun _ => true) true n 22 ((cs.drop 45).take 1) = some y3 := by simpa [lCellsKey, lCellsNonce, lCellsL] using hf 3 _ rfl
    obtain ⟨key, e0, l0, b0⟩ := lBytes_arr Try.underlying27 lCellsKey f0
    obtain ⟨nonce, e1, l1, b1⟩ := lBytes_arr Try.underlying42 lCellsNonce f1
    rw [lOne_cell cs 44 (by omega)] at f2
    rw [lOne_cell cs 45 (by omega)] at f3
    have hz : (DataW.weightsEach Try.prog [44] [.agg [y0.1, y1.1, y2.1, y3.1]]).all (· ≤ reachBytes) = true := by
      have e : x.1 = .agg [y0.1, y1.1, y2.1, y3.1] := by rw [hx]; simp
      rw [← e]; exact hsz
    obtain ⟨ao, n', c, ms, em, hm, hc, qn⟩ := lList_big f2 (lSized_in hz).1
    obtain ⟨bo, m, d, zs, ez, hzs, hd, qm⟩ := lList_big f3 (lSized_in hz).2
    refine ⟨key, nonce, ao, n', c, ms, bo, m, d, zs, ?_, ⟨l0, l1, b0, b1, hm, hzs, hc, hd⟩, qn, qm⟩
    rw [caseC, ← e0, ← e1, ← em, ← ez]
    have d1 : cs.drop 44 = [cs[44], cs[45]] := by
      rw [List.drop_eq_getElem_cons (by omega), List.drop_eq_getElem_cons (by omega), List.drop_eq_nil_of_le (by omega)]
    have d2 : cs.drop 32 = (cs.drop 32).take 12 ++ cs.drop 44 := by
      have := (List.take_append_drop 12 (cs.drop 32)).symm
      rwa [List.drop_drop] at this
    rw [← d1, ← d2, List.take_append_drop]
/-! ### The row's step -/
set_option maxRecDepth 100000 in
theorem lifted (os : Os) (started : os.Started) (H : Type) (enc : TypeId × Value → H) :
    ReturnsInHanded {} Try.checked os 7 .any (Rows.sealOpensSpec.pre6 enc Try.prog Try.f7 Rows.sealOpensRow.domain false) (Rows.sealOpensSpec.post enc Try.prog Try.f7 false true false false) := by
  refine returnsInHanded_of_change_sized (C := Try.checked) lOwn started (by kernel_rfl) Try.func7
    (ChangeSpec.witness6 (enc := enc) (C := Try.checked) false ⟨#[], #[.agg (caseC (List.replicate 32 0) (List.replicate 12 0) none 0 0 none 0 0).toArray], []⟩ 8 (by kernel_rfl) (by kernel_rfl) (by kernel_rfl) (by kernel_rfl)) ?_
  intro W base args ds gs before hval0 hW hcnd hsz0 _
  have hval : ∀ (j : Nat) t v, Try.f7.params[j]? = some t → args[j]? = some v → Value.okWide Try.prog W .any base t v := hval0
  have hsz : (DataW.weightsEach Try.prog (Try.f7.params.toList ++ Rows.sealOpensSpec.plain.varTypes Try.prog) (ds ++ gs)).all (· ≤ reachBytes) = true := hsz0
  have hW' := hW
  obtain ⟨p, q, hA0, hV, rfl, hfz, hnd⟩ := hW
  have hA : DataW.TrodAll enc Try.prog W 0 (fun _ => true) true Try.f7.params.toList args.toList ds p := hA0
  rw [Try.params7] at hA hval hsz
  obtain ⟨v0, vs0, d0, ds0, p0, q0, hargs, rfl, rfl, h0, r0⟩ := trodAll_cons hA
  obtain ⟨rfl, rfl, rfl⟩ := trodAll_nil r0
  obtain rfl : args = #[v0] := by cases args; simp_all
  obtain ⟨rfl, rfl⟩ := trodVars_none hV
  have k0 := h0
  have lt0 : ∀ x ∈ p0, x.block < W.heap.size := by obtain ⟨m, hm⟩ := k0; exact DataW.trod_lt m _ _ _ hm
  obtain ⟨cs, rfl, hcs⟩ := okWide_struct Try.underlying44 (hval 0 44 v0 rfl rfl)
  obtain ⟨key, nonce, ao, n, c, ms, bo, m, d, zs, ecs, g1, gn, gm⟩ : ∃ (key nonce : List Int) (ao : Option Addr) (n c : Nat) (ms : List Int) (bo : Option Addr) (m d : Nat) (zs : List Int), cs.toList = caseC key nonce ao n c bo m d ∧ CsIn W key nonce ao n c ms bo m d zs ∧ n ≤ 140737488351232 ∧ m ≤ 140737488351232 := by
    obtain ⟨fuel, hf⟩ := h0
    exact case_big (x := (d0, p0)) (by simpa [Value.cells] using hf) (lSized_head hsz)
  obtain rfl : cs = (caseC key nonce ao n c bo m d).toArray := by rw [← ecs]
  clear hA0 hval0
  refine (walk key nonce ao n c ms bo m d zs W g1 gn gm).mono fun e W' ⟨he, bel⟩ => ?_
  subst he
  exact ⟨_, rfl, _, _, _, [], _, [], hW', trodAll_mk1 (shut_bool Try.underlying4 _), (trodAll_cons_mk (Below.trod lLaidOut (by kernel_rfl) (of_decide_eq_true (by kernel_rfl)) k0 bel lt0) trodAll_mk0), rfl, bel.frame _, fun h => by cases h⟩

theorem over : Rows.sealOpensRow.holds Try.pinned (OpenSpec.ofChange Rows.sealOpensSpec) :=
  OpenClaim.holds_of_wide 7 Try.f7 rfl rfl rfl rfl rfl rfl rfl ⟨rfl, rfl, rfl, rfl, rfl⟩ rfl rfl rfl rfl rfl (by kernel_rfl) Try.func7 (by kernel_rfl)
    (of_decide_eq_true (by kernel_rfl)) (by unfold Func.isWrapper; first | (rw [if_pos (by decide +kernel)]; kernel_rfl) | (rw [if_neg (by decide +kernel)]; exact ⟨rfl, rfl⟩))
    (fun os started H enc _ => lifted os started H enc)
theorem proved : Rows.SealOpensSaid := over
end Go.Proofs.Ytcimiajkbgabiaa.sealOpens
namespace Go.Proofs.Ytcimiajkbgabiaa
theorem sealOpens_holds : Rows.SealOpensSaid := sealOpens.proved
#print axioms sealOpens_holds
end Go.Proofs.Ytcimiajkbgabiaa
