/- For every lists of bytes and place, of bulk at most 1048576 together: Row answers the document's list or error, in new memory each time, changes nothing of what was handed in, and keeps nothing of it: trystlaw01.MaskRows returns true. Condition: the bulk (uptoSmall). -/
import Derived.Test.YtldfbbgboelngaaRowsLaw
import Derived.Deep.Slices
import Derived.JoinedCond
namespace Go.Proofs.Ytldfbbgboelngaa.maskRows
open Go.ChangeShapes Go.WideShapes Go.ChangeAt Go.RowKit Go.Deep
set_option linter.unusedVariables false
set_option linter.unusedSimpArgs false

theorem bulk_append {H : Type} (l r : List (DataW H)) : Rows.uptoBulkAll (l ++ r) = Rows.uptoBulkAll l + Rows.uptoBulkAll r := by
  induction l with
  | nil => simp [Rows.uptoBulkAll]
  | cons x l ih => simp only [List.cons_append, Rows.uptoBulkAll, ih]; omega
theorem bulk_one {H : Type} (d : DataW H) : 1 ≤ Rows.uptoBulk d := by
  cases d with
  | lit l => cases l <;> simp [Rows.uptoBulk]
  | _ => simp [Rows.uptoBulk]
theorem bulk_length {H : Type} (l : List (DataW H)) : l.length ≤ Rows.uptoBulkAll l := by
  induction l with
  | nil => simp [Rows.uptoBulkAll]
  | cons x r ih => have := bulk_one x; simp only [Rows.uptoBulkAll, List.length_cons]; omega
theorem bulk_range {H : Type} (D : Nat → DataW H) (f : Nat → List Int) (len k : Nat) (hk : k ≤ len) (h : ∀ i, i < len → (f i).length + 1 ≤ Rows.uptoBulk (D i)) : offs ((List.range len).map f) k ≤ 64 * Rows.uptoBulkAll ((List.range k).map D) := by
  induction k with
  | zero => rw [offs_zero]; omega
  | succ k ih =>
    have h1 := ih (by omega)
    have h2 := h k (by omega)
    rw [offs_succ _ k (by simp; omega), List.range_succ, List.map_append, bulk_append]
    have e : lenAt ((List.range len).map f) k = (f k).length := by simp [lenAt, List.getD, show k < len by omega]
    rw [e]
    simp only [List.map_cons, List.map_nil, Rows.uptoBulkAll]
    omega
theorem cellsL : Try.prog.cellsOf 46 = 1 := by kernel_rfl
theorem cellsB : Try.prog.cellsOf 5 = 1 := by kernel_rfl
/-- A list in a cell. -/
theorem list_in {H : Type} {enc : TypeId × Value → H} {W : World} {fuel : Nat} {v : Value} {y : DataW H × List MemPlace} (h : DataW.trod enc Try.prog W 0 (fun _ => true) true fuel 46 [v] = some y) (hs : Rows.uptoBulk y.1 ≤ 1048576) :
    ∃ (zs : List Int) (so : Option Addr) (c : Nat), v = .slice so zs.length c ∧ Seen W so zs.length zs ∧ zs.length + 1 ≤ Rows.uptoBulk y.1 := by
  rcases open_ints Try.underlying46 Try.underlying5 cellsB h with ⟨hcs, hx⟩ | ⟨x, l, c, zs, hcs, _, hl, hm, hz, hx, hcell, hwz⟩
  · simp at hcs
    subst hcs
    exact ⟨[], none, 0, rfl, Seen.empty _ _, by rw [hx]; simp [Rows.uptoBulk]⟩
  · simp at hcs
    subst hcs
    have hz' : zs.length = c := by simpa using hz
    have hlz : (zs.take l).length = l := by simp; omega
    have hb : l + 1 ≤ Rows.uptoBulk y.1 := by
      rw [hx]
      have h1 := bulk_length (lits (H := H) .u8 (zs.take l))
      simp only [lits, List.length_map] at h1
      simp only [Rows.uptoBulk, lits]
      omega
    refine ⟨zs.take l, some x, c, by rw [hlz], ?_, by rw [hlz]; exact hb⟩
    rw [hlz]
    exact Seen.of_ints (by omega) hl hz' hcell hwz
/-- Lists in an argument. -/
theorem lists_in {H : Type} {enc : TypeId × Value → H} {W : World} {fuel : Nat} {v : Value} {y : DataW H × List MemPlace} (h : DataW.trod enc Try.prog W 0 (fun _ => true) true fuel 57 [v] = some y) (hs : Rows.uptoBulk y.1 ≤ 1048576) :
    ∃ ao n c zss, v = .slice ao n c ∧ SeenL W ao n zss ∧ offs zss n ≤ 134217728 := by
  rcases open_slice1 Try.underlying57 cellsL h with ⟨hcs, hx⟩ | h
  · simp at hcs
    subst hcs
    exact ⟨none, 0, 0, [], rfl, ⟨rfl, by decide, fun i hi => by omega⟩, by rw [offs_zero]; decide⟩
  · obtain ⟨a, len, cap, m, nn, V, D, Pl, hcs, _, hl, hm, hmm, hx, hcell⟩ := h
    simp at hcs
    subst hcs
    have hmm' : m = cap := by simpa using hmm
    have hbulk : Rows.uptoBulkAll ((List.range len).map D) + 1 ≤ 1048576 := by
      rw [hx] at hs
      simp only [Rows.uptoBulk] at hs
      omega
    have hD : ∀ i, i < len → Rows.uptoBulk (D i) ≤ 1048576 := by
      intro i hi
      have key : ∀ k, k ≤ len → i < k → Rows.uptoBulk (D i) ≤ Rows.uptoBulkAll ((List.range k).map D) := by
        intro k
        induction k with
        | zero => intro _ h; omega
        | succ k ih =>
          intro hk hik
          rw [List.range_succ, List.map_append, bulk_append]
          simp only [List.map_cons, List.map_nil, Rows.uptoBulkAll]
          by_cases e : i = k
          · subst e; omega
          · have := ih (by omega) (by omega); omega
      have := key len (Nat.le_refl _) hi
      omega
    obtain ⟨f, hf⟩ := choose_lt (n := len) (p := fun i (zs : List Int) => ∃ (so : Option Addr) (c : Nat), V i = .slice so zs.length c ∧ Seen W so zs.length zs ∧ zs.length + 1 ≤ Rows.uptoBulk (D i)) (fun i hi => by
      obtain ⟨h1, h2⟩ := hcell i (by omega)
      obtain ⟨zs, so, c, e1, e2, e3⟩ := list_in h2 (hD i hi)
      exact ⟨zs, so, c, e1, e2, e3⟩)
    have hlen : len ≤ 1048576 := by
      have := bulk_length ((List.range len).map D)
      simp at this
      omega
    have hgz : ∀ i, i < len → ((List.range len).map f).getD i [] = f i := fun i hi => by simp [List.getD, hi]
    refine ⟨some a, len, cap, (List.range len).map f, rfl, ⟨by simp, hlen, fun i hi => ?_⟩, ?_⟩
    · obtain ⟨b, off, spot⟩ := a
      have hspot : spot = none := by simpa [Addr.add] using World.cell?_spot (hcell 0 (by omega)).1
      subst hspot
      obtain ⟨so, c, e1, e2, e3⟩ := hf i hi
      obtain ⟨h1, _⟩ := hcell i (by omega)
      rw [add_plain] at h1
      refine ⟨b, off, so, c, rfl, World.block_lt_of_cell? _ _ h1, ?_, ?_⟩
      · rw [h1, e1]; show _ = some (Value.slice so (((List.range len).map f).getD i []).length c); rw [hgz i hi]
      · show Seen W so (((List.range len).map f).getD i []).length _; rw [hgz i hi]; exact e2
    · have := bulk_range D f len len (Nat.le_refl _) (fun i hi => by obtain ⟨_, _, _, _, h⟩ := hf i hi; exact h)
      omega

theorem own : ownKnob Try.prog.godebug = none := by kernel_rfl
theorem laidOut : laidOutB Try.prog = true := by kernel_rfl
set_option maxRecDepth 100000 in
theorem contract (H : Type) (enc : TypeId × Value → H) (W : World) (base : Nat) (args : Array Value) (ds gs : List (DataW H)) (before : List MemPlace)
    (hval0 : ∀ (j : Nat) t v, Try.f7.params[j]? = some t → args[j]? = some v → Value.okWide Try.prog W .any base t v)
    (hW : DataW.Whole enc Try.prog Try.f7.params.toList Rows.maskRowsSpec.vars false W args.toList ds gs before) (hk : Rows.uptoSmall H (ds ++ gs) = true) :
    Calls Try.prog 7 args W fun e W' => ∃ v, e = .returned v ∧ Rows.maskRowsSpec.post enc Try.prog Try.f7 false true false false W args v W' := by
  have hval := hval0
  have hW' := hW
  obtain ⟨p, q, hA0, hV, rfl, hfz, hnd⟩ := hW
  have hA : DataW.TrodAll enc Try.prog W 0 (fun _ => true) true Try.f7.params.toList args.toList ds p := hA0
  rw [Try.params7] at hA hval
  obtain ⟨v0, vs0, d0, ds0, p0, q0, hargs, rfl, rfl, h0, r0⟩ := trodAll_cons hA
  obtain ⟨v1, vs1, d1, ds1, p1, q1, rfl, rfl, rfl, h1, r1⟩ := trodAll_cons r0
  obtain ⟨rfl, rfl, rfl⟩ := trodAll_nil r1
  obtain rfl : args = #[v0, v1] := by cases args; simp_all
  obtain ⟨rfl, rfl⟩ := trodVars_none hV
  obtain ⟨a1, rfl, rfl, rfl, w1⟩ := open_int Try.underlying3 (hval 1 3 v1 rfl rfl) h1
  have hb := of_decide_eq_true hk
  have k0 := h0
  have lt0 : ∀ x ∈ p0, x.block < W.heap.size := by obtain ⟨m, hm⟩ := k0; exact DataW.trod_lt m _ _ _ hm
  obtain ⟨a0, len0, cap0, rfl⟩ := okWide_slice Try.underlying57 (hval 0 57 v0 rfl rfl)
  have hbulk : Rows.uptoBulk d0 ≤ 1048576 := by
    simp only [List.cons_append, List.nil_append, Rows.uptoBulkAll] at hb
    omega
  obtain ⟨fuel, hf⟩ := h0
  obtain ⟨ao, n, c, zss, e, hs, ho⟩ := lists_in (y := (d0, p0)) hf hbulk
  simp only [Value.slice.injEq] at e
  obtain ⟨rfl, rfl, rfl⟩ := e
  have wa : -9223372036854775808 ≤ a1 ∧ a1 ≤ 9223372036854775807 := by
    have h := w1
    simp [Lit.wf, IntKind.min, IntKind.max, IntKind.signed, IntKind.bits] at h
    omega
  clear hA0 hval0 hf hb hbulk hk
  refine (walk a0 len0 cap0 zss a1 W hs ho wa).mono fun e W' ⟨he, bel⟩ => ?_
  subst he
  exact ⟨_, rfl, _, _, _, [], _, [], hW', trodAll_mk1 (shut_bool Try.underlying4 _), (trodAll_cons_mk (Below.trod laidOut (by kernel_rfl) (of_decide_eq_true (by kernel_rfl)) k0 bel lt0) (trodAll_cons_mk (shut_int Try.underlying3 w1) trodAll_mk0)), rfl, bel.frame _, fun h => by cases h⟩

set_option maxRecDepth 100000 in
theorem lifted (os : Os) (started : os.Started) (H : Type) (enc : TypeId × Value → H) (F : Stop.Interp) :
    ReturnsInHanded {} Try.checked os 7 .any ((Rows.OpenSpec.upto Rows.maskRowsSpec).pre6 enc Try.prog Try.f7 Rows.maskRowsUptoRow.domain false) (((Rows.OpenSpec.upto Rows.maskRowsSpec).at F).post enc Try.prog Try.f7 false true false false) := by
  refine returnsInHanded_of_cond (C := Try.checked) (s := Rows.OpenSpec.upto Rows.maskRowsSpec) (k := Rows.uptoSmall) rfl own started (by kernel_rfl) Try.func7
    (OpenSpec.witness (enc := enc) (C := Try.checked) (s := Rows.OpenSpec.upto Rows.maskRowsSpec) (k := Rows.uptoSmall) rfl false ⟨#[], #[.slice none 0 0, .int .i64 0], []⟩ 8 (by kernel_rfl) (by kernel_rfl) (by kernel_rfl)
      (x := ([.nil, .lit (.int .i64 0)], [], [])) (by kernel_rfl) rfl (by kernel_rfl)) ?_
  intro W base args ds gs before hval hW _ hk _
  exact contract H enc W base args ds gs before hval hW hk

theorem proved : Rows.MaskRowsUptoSaid :=
  OpenClaim.holds_of_cond 7 Try.f7 rfl rfl rfl rfl rfl rfl rfl ⟨rfl, rfl, rfl, rfl, rfl⟩ rfl rfl rfl rfl rfl (by kernel_rfl) Try.func7 (by kernel_rfl)
    (of_decide_eq_true (by kernel_rfl)) (by unfold Func.isWrapper; first | (rw [if_pos (by decide +kernel)]; kernel_rfl) | (rw [if_neg (by decide +kernel)]; exact ⟨rfl, rfl⟩))
    (fun os started H enc _ F => lifted os started H enc F)
end Go.Proofs.Ytldfbbgboelngaa.maskRows
namespace Go.Proofs.Ytldfbbgboelngaa
theorem maskRowsUpto_holds : Rows.MaskRowsUptoSaid := maskRows.proved
#print axioms maskRowsUpto_holds
end Go.Proofs.Ytldfbbgboelngaa
