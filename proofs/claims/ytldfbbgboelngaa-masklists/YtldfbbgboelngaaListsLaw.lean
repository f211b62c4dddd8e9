/- For every two lists of bytes, which are as they were behind the call: Same and Before are the masks of the document's answers, and of a list and itself: trystlaw01.MaskLists returns true. No condition. -/
import Derived.Test.YtldfbbgboelngaaTwins
import Derived.ProofKit
import Derived.OpenShut
import Derived.ShutString
import Derived.ChangeOld
import Derived.SizedLaws
namespace Go.Proofs.Ytldfbbgboelngaa.maskLists
open Go.ChangeShapes Go.WideShapes Go.ChangeAt Go.RowKit
set_option linter.unusedVariables false

theorem same_self (ao : Option Addr) (n c : Nat) (xs : List Int) (w : World) (hx : Seen w ao n xs) :
    Calls Try.prog 29 #[.slice ao n c, .slice ao n c] w fun e w' => e = .returned (.int .u64 18446744073709551615) ∧ ∃ q, w' = w.drewN q :=
  (same_any ao ao n n c c xs xs w hx hx).mono fun e w' ⟨he, hq⟩ => ⟨by rw [he]; simp [mk_true], hq⟩
theorem before_self (ao : Option Addr) (n c : Nat) (xs : List Int) (w : World) (hx : Seen w ao n xs) :
    Calls Try.prog 31 #[.slice ao n c, .slice ao n c] w fun e w' => e = .returned (.int .u64 0) ∧ ∃ q, w' = w.drewN q :=
  (before_any ao ao n n c c xs xs w hx hx).mono fun e w' ⟨he, hq⟩ => ⟨by rw [he, bef_self, mk_false], hq⟩

set_option maxHeartbeats 2000000 in
theorem walk (ao : Option Addr) (n c : Nat) (xs : List Int) (bo : Option Addr) (n' c' : Nat) (ys : List Int) (w : World) (hx : Seen w ao n xs) (hn : n ≤ 140737488351232) (hy : Seen w bo n' ys) (hn' : n' ≤ 140737488351232) :
    Calls Try.prog 5 #[.slice ao n c, .slice bo n' c'] w fun e w' => e = .returned (.bool true) ∧ Below w.heap.size w w' := by
  go_enter Try.func5, Try.ntmps5
  go_wp2_with fail
  refine (lent_any ao n c xs w hx (by omega)).mono ?_
  rintro e w1 ⟨g1, cap1, rfl, r1, l1, m1, k1, b1⟩
  have hy1 := hy.later b1 (Nat.le_refl _)
  have hx1 := hx.later b1 (Nat.le_refl _)
  have z1 := r1.lt
  go_wp2_with fail
  refine (lent_any bo n' c' ys w1 hy1 (by omega)).mono ?_
  rintro e w2 ⟨g2, cap2, rfl, r2, l2, m2, k2, b2⟩
  have hx2 := hx1.later b2 (Nat.le_refl _)
  have hy2 := hy1.later b2 (Nat.le_refl _)
  have r1' : RowAt w2 g1 (xs ++ marks) := r1.block (b2.block g1 z1)
  have z2 := b2.size
  have hb2 : Below w.heap.size w w2 := b1.trans (b2.mono b1.size)
  have sp := Seen.lent r1' hx2
  have sq := Seen.lent r2 hy2
  clear r1 hx1 hy1 hx hy
  unfold maxLen at k1 k2
  go_wp2_with fail
  refine (same_any _ _ _ _ _ _ xs ys w2 sp sq).mono ?_
  rintro e _ ⟨rfl, q1, rfl⟩
  go_wp2_with fail
  refine (rsame_any _ _ _ _ _ _ xs ys _ (hx2.drewN _) (hy2.drewN _)).mono ?_
  rintro e _ ⟨rfl, q2, rfl⟩
  go_wp2_with fail
  refine (rmask_any _ _).mono ?_
  rintro e _ ⟨rfl, rfl⟩
  go_wp2_with fail
  refine (before_any _ _ _ _ _ _ xs ys _ (sp.drewN _) (sq.drewN _)).mono ?_
  rintro e _ ⟨rfl, q3, rfl⟩
  go_wp2_with fail
  refine (rbefore_any _ _ _ _ _ _ xs ys _ (hx2.drewN _) (hy2.drewN _)).mono ?_
  rintro e _ ⟨rfl, q4, rfl⟩
  go_wp2_with fail
  refine (rmask_any _ _).mono ?_
  rintro e _ ⟨rfl, rfl⟩
  go_wp2_with fail
  refine (same_self _ _ _ xs _ (sp.drewN _)).mono ?_
  rintro e _ ⟨rfl, q5, rfl⟩
  go_wp2_with fail
  refine (before_self _ _ _ ys _ (sq.drewN _)).mono ?_
  rintro e _ ⟨rfl, q6, rfl⟩
  go_wp2_with fail
  refine (rkept_yes g1 _ _ ao n c xs _ (r1'.drewN _) (hx2.drewN _) (by omega) rfl).mono ?_
  rintro e w3 ⟨rfl, b3⟩
  have hb3 : Below w2.heap.size w2 w3 := (below_ahead b3)
  go_wp2_with fail
  refine (rkept_yes g2 _ _ bo n' c' ys _ (r2.block (b3.block g2 r2.lt)) (hy2.later hb3 (Nat.le_refl _)) (by omega) rfl).mono ?_
  rintro e w4 ⟨rfl, b4⟩
  go_wp2_with fail
  refine (works_any _).mono ?_
  rintro e w5 ⟨rfl, b5⟩
  go_wp2
  go_ret
  have z3 := hb3.size
  have z4 := b4.size
  have z5 := hb2.size
  exact ⟨rfl, hb2.trans ((hb3.mono (by omega)).trans ((b4.mono (by omega)).trans (b5.mono (by omega))))⟩

/-! ### The row's step -/
theorem own : ownKnob Try.prog.godebug = none := by kernel_rfl
theorem laidOut : laidOutB Try.prog = true := by kernel_rfl
theorem bytesOf : Try.prog.bytesOf 5 = 1 := by kernel_rfl
set_option maxRecDepth 100000 in
theorem lifted (os : Os) (started : os.Started) (H : Type) (enc : TypeId × Value → H) :
    ReturnsInHanded {} Try.checked os 5 .any (Rows.maskListsSpec.pre6 enc Try.prog Try.f5 Rows.maskListsRow.domain false) (Rows.maskListsSpec.post enc Try.prog Try.f5 false true false false) := by
  refine returnsInHanded_of_change_sized (C := Try.checked) own started (by kernel_rfl) Try.func5
    (ChangeSpec.witness6 (enc := enc) (C := Try.checked) false ⟨#[], #[.slice none 0 0, .slice none 0 0], []⟩ 8 (by kernel_rfl) (by kernel_rfl) (by kernel_rfl) (by kernel_rfl)) ?_
  intro W base args ds gs before hval0 hW hcnd hsz0 _
  have hval : ∀ (j : Nat) t v, Try.f5.params[j]? = some t → args[j]? = some v → Value.okWide Try.prog W .any base t v := hval0
  have hsz : (DataW.weightsEach Try.prog (Try.f5.params.toList ++ Rows.maskListsSpec.plain.varTypes Try.prog) (ds ++ gs)).all (· ≤ reachBytes) = true := hsz0
  have hW' := hW
  obtain ⟨p, q, hA0, hV, rfl, hfz, hnd⟩ := hW
  have hA : DataW.TrodAll enc Try.prog W 0 (fun _ => true) true Try.f5.params.toList args.toList ds p := hA0
  rw [Try.params5] at hA hval hsz
  obtain ⟨v0, vs0, d0, ds0, p0, q0, hargs, rfl, rfl, h0, r0⟩ := trodAll_cons hA
  obtain ⟨v1, vs1, d1, ds1, p1, q1, rfl, rfl, rfl, h1, r1⟩ := trodAll_cons r0
  obtain ⟨rfl, rfl, rfl⟩ := trodAll_nil r1
  obtain rfl : args = #[v0, v1] := by cases args; simp_all
  obtain ⟨rfl, rfl⟩ := trodVars_none hV
  obtain ⟨a0, len0, cap0, rfl⟩ := okWide_slice Try.underlying46 (hval 0 46 v0 rfl rfl)
  have k0 := h0
  have lt0 : ∀ x ∈ p0, x.block < W.heap.size := by obtain ⟨m, hm⟩ := k0; exact DataW.trod_lt m _ _ _ hm
  obtain ⟨z0, w0⟩ : ∃ zs, Seen W a0 len0 zs ∧ len0 ≤ 140737488351232 := by
    obtain ⟨fuel, hf⟩ := h0
    rcases open_ints Try.underlying46 Try.underlying5 (by kernel_rfl) hf with ⟨hcs, _⟩ | ⟨x, l, c, zs, hcs, _, hl, hm, hz, hx, hcell, hwz⟩
    · simp [Value.cells] at hcs
      obtain ⟨rfl, rfl, rfl⟩ := hcs
      exact ⟨[], Seen.empty _ _, by decide⟩
    · simp [Value.cells] at hcs
      obtain ⟨rfl, rfl, rfl⟩ := hcs
      simp only [Prod.mk.injEq] at hx
      have hd := hx.1
      subst hd
      have hz' : zs.length = cap0 := by simpa using hz
      have hs := sized_slice hsz (j := 0) (t := 46) (e := 5) rfl rfl Try.underlying46
      rw [bytesOf] at hs
      simp only [lits, List.length_map, List.length_take, List.length_drop, reachBytes] at hs
      have hlen : len0 ≤ 140737488351232 := by omega
      exact ⟨_, Seen.of_ints (by omega) hl hz' hcell hwz, hlen⟩
  obtain ⟨a1, len1, cap1, rfl⟩ := okWide_slice Try.underlying46 (hval 1 46 v1 rfl rfl)
  have k1 := h1
  have lt1 : ∀ x ∈ p1, x.block < W.heap.size := by obtain ⟨m, hm⟩ := k1; exact DataW.trod_lt m _ _ _ hm
  obtain ⟨z1, w1⟩ : ∃ zs, Seen W a1 len1 zs ∧ len1 ≤ 140737488351232 := by
    obtain ⟨fuel, hf⟩ := h1
    rcases open_ints Try.underlying46 Try.underlying5 (by kernel_rfl) hf with ⟨hcs, _⟩ | ⟨x, l, c, zs, hcs, _, hl, hm, hz, hx, hcell, hwz⟩
    · simp [Value.cells] at hcs
      obtain ⟨rfl, rfl, rfl⟩ := hcs
      exact ⟨[], Seen.empty _ _, by decide⟩
    · simp [Value.cells] at hcs
      obtain ⟨rfl, rfl, rfl⟩ := hcs
      simp only [Prod.mk.injEq] at hx
      have hd := hx.1
      subst hd
      have hz' : zs.length = cap1 := by simpa using hz
      have hs := sized_slice hsz (j := 1) (t := 46) (e := 5) rfl rfl Try.underlying46
      rw [bytesOf] at hs
      simp only [lits, List.length_map, List.length_take, List.length_drop, reachBytes] at hs
      have hlen : len1 ≤ 140737488351232 := by omega
      exact ⟨_, Seen.of_ints (by omega) hl hz' hcell hwz, hlen⟩
  clear hA0 hval0
  refine (walk a0 len0 cap0 z0 a1 len1 cap1 z1 W w0.1 w0.2 w1.1 w1.2).mono fun e W' ⟨he, bel⟩ => ?_
  subst he
  exact ⟨_, rfl, _, _, _, [], _, [], hW', trodAll_mk1 (shut_bool Try.underlying4 _), (trodAll_cons_mk (Below.trod laidOut (by kernel_rfl) (of_decide_eq_true (by kernel_rfl)) k0 bel lt0) (trodAll_cons_mk (Below.trod laidOut (by kernel_rfl) (of_decide_eq_true (by kernel_rfl)) k1 bel lt1) trodAll_mk0)), rfl, bel.frame _, fun h => by cases h⟩

theorem over : Rows.maskListsRow.holds Try.pinned (OpenSpec.ofChange Rows.maskListsSpec) :=
  OpenClaim.holds_of_wide 5 Try.f5 rfl rfl rfl rfl rfl rfl rfl ⟨rfl, rfl, rfl, rfl, rfl⟩ rfl rfl rfl rfl rfl (by kernel_rfl) Try.func5 (by kernel_rfl)
    (of_decide_eq_true (by kernel_rfl)) (by unfold Func.isWrapper; first | (rw [if_pos (by decide +kernel)]; kernel_rfl) | (rw [if_neg (by decide +kernel)]; exact ⟨rfl, rfl⟩))
    (fun os started H enc _ => lifted os started H enc)
theorem proved : Rows.MaskListsSaid := over
end Go.Proofs.Ytldfbbgboelngaa.maskLists
namespace Go.Proofs.Ytldfbbgboelngaa
theorem maskLists_holds : Rows.MaskListsSaid := maskLists.proved
#print axioms maskLists_holds
end Go.Proofs.Ytldfbbgboelngaa
