/- For every two numbers, and every three lists of bytes: just one of before, behind and alike; and what stands before goes on so: trystlaw01.MaskOrder returns true. No condition. -/
import Derived.Test.YtldfbbgboelngabTwins
import Derived.ProofKit
import Derived.OpenShut
import Derived.ShutString
import Derived.ChangeOld
import Derived.SizedLaws
namespace Go.Proofs.Ytldfbbgboelngab.maskOrder
open Go.ChangeShapes Go.WideShapes Go.ChangeAt Go.RowKit
set_option linter.unusedVariables false

theorem yes_mk (p : Bool) (w : World) : Calls Try.prog 8 #[.int .u64 (mk p)] w fun e w' => e = .returned (.bool true) ∧ w' = w := by
  cases p
  · rw [mk_false]
    go_enter Try.func8, Try.ntmps8
    go_wp2
    go_ret
    exact ⟨rfl, rfl⟩
  · rw [mk_true]
    go_enter Try.func8, Try.ntmps8
    go_wp2
    go_ret
    exact ⟨rfl, rfl⟩
theorem less_to (x y : Int) (hx : Word x) (hy : Word y) (p : Bool) (hp : Hid (decide (x < y) = p)) (w : World) : Calls Try.prog 6 #[.int .u64 x, .int .u64 y] w fun e w' => e = .returned (.int .u64 (mk p)) ∧ w' = w :=
  (less_any x y hx hy w).mono fun _ _ ⟨he, hw⟩ => ⟨by rw [he, hp.out], hw⟩
theorem equal_to (x y : Int) (hx : Word x) (hy : Word y) (p : Bool) (hp : Hid ((x == y) = p)) (w : World) : Calls Try.prog 7 #[.int .u64 x, .int .u64 y] w fun e w' => e = .returned (.int .u64 (mk p)) ∧ w' = w :=
  (equal_any x y hx hy w).mono fun _ _ ⟨he, hw⟩ => ⟨by rw [he, hp.out], hw⟩
theorem zero_to (x y : Int) (hx : Word x) (hy : Word y) (p : Bool) (hp : Hid ((x == y) = p)) (w : World) : Calls Try.prog 9 #[.int .u64 (bits .xor .u64 x y)] w fun e w' => e = .returned (.int .u64 (mk p)) ∧ w' = w :=
  (zero_any _ (xor_bd x y hx hy) w).mono fun _ _ ⟨he, hw⟩ => ⟨by rw [he, xor_zero_iff x y hx hy, hp.out], hw⟩
theorem before_to (ao bo : Option Addr) (n n' c c' : Nat) (xs ys : List Int) (p : Bool) (hp : Hid (bef xs ys = p)) (w : World) (hx : Seen w ao n xs) (hy : Seen w bo n' ys) :
    Calls Try.prog 10 #[.slice ao n c, .slice bo n' c'] w fun e w' => e = .returned (.int .u64 (mk p)) ∧ ∃ q, w' = w.drewN q :=
  (before_any ao bo n n' c c' xs ys w hx hy).mono fun _ _ ⟨he, hw⟩ => ⟨by rw [he, hp.out], hw⟩
theorem same_to (ao bo : Option Addr) (n n' c c' : Nat) (xs ys : List Int) (p : Bool) (hp : Hid (decide (xs = ys) = p)) (w : World) (hx : Seen w ao n xs) (hy : Seen w bo n' ys) :
    Calls Try.prog 11 #[.slice ao n c, .slice bo n' c'] w fun e w' => e = .returned (.int .u64 (mk p)) ∧ ∃ q, w' = w.drewN q :=
  (same_any ao bo n n' c c' xs ys w hx hy).mono fun _ _ ⟨he, hw⟩ => ⟨by rw [he, hp.out], hw⟩

/-- Just one of three. -/
def One (p q r : Bool) : Prop := (p = true ∧ q = false ∧ r = false) ∨ (p = false ∧ q = true ∧ r = false) ∨ (p = false ∧ q = false ∧ r = true)
theorem one_bits {p q r : Bool} (h : One p q r) : bits .xor .u64 (bits .xor .u64 (mk p) (mk q)) (mk r) = 18446744073709551615 ∧ bits .and .u64 (mk p) (mk q) = 0 ∧ bits .and .u64 (mk p) (mk r) = 0 ∧ bits .and .u64 (mk q) (mk r) = 0 := by
  rcases h with ⟨rfl, rfl, rfl⟩ | ⟨rfl, rfl, rfl⟩ | ⟨rfl, rfl, rfl⟩ <;> decide
theorem one_words (x y : Int) : One (decide (x < y)) (decide (y < x)) (x == y) := by
  unfold One
  rcases Int.lt_trichotomy x y with h | h | h
  · left; simp; omega
  · subst h; right; right; simp
  · right; left; simp; omega
theorem one_lists (xs ys : List Int) : One (bef xs ys) (bef ys xs) (decide (xs = ys)) := by
  unfold One
  rcases bef_three xs ys with ⟨h1, h2, h3⟩ | ⟨h1, h2, h3⟩ | ⟨h1, h2, h3⟩
  · left; simp [h1, h2, h3]
  · right; left; simp [h1, h2, h3]
  · right; right; subst h3; simp [bef_self]
theorem on_bits {p s t : Bool} (h : p = true → s = true → t = true) : bits .andNot .u64 (bits .and .u64 (mk p) (mk s)) (mk t) = 0 := by
  cases p <;> cases s <;> cases t <;> first | decide | (simp at h)

set_option maxHeartbeats 2000000 in
theorem walk (x y : Int) (hx : Word x) (hy : Word y) (ao : Option Addr) (n c : Nat) (xs : List Int) (bo : Option Addr) (n' c' : Nat) (ys : List Int) (co : Option Addr) (n'' c'' : Nat) (zs : List Int) (w : World) (sx : Seen w ao n xs) (sy : Seen w bo n' ys) (sz : Seen w co n'' zs) :
    Calls Try.prog 3 #[.agg #[.int .u64 x, .int .u64 y, .slice ao n c, .slice bo n' c', .slice co n'' c'']] w fun e w' => e = .returned (.bool true) ∧ Below w.heap.size w w' := by
  obtain ⟨p, hp⟩ : ∃ p, decide (x < y) = p := ⟨_, rfl⟩
  obtain ⟨q, hq⟩ : ∃ q, decide (y < x) = q := ⟨_, rfl⟩
  obtain ⟨r, hr⟩ : ∃ r, (x == y) = r := ⟨_, rfl⟩
  have O1 := one_words x y
  rw [hp, hq, hr] at O1
  obtain ⟨f1, f2, f3, f4⟩ := one_bits O1
  have P : Hid (decide (x < y) = p) := hp
  have Q : Hid (decide (y < x) = q) := hq
  have R : Hid ((x == y) = r) := hr
  clear hp hq hr O1
  obtain ⟨p', hp⟩ : ∃ p, bef xs ys = p := ⟨_, rfl⟩
  obtain ⟨q', hq⟩ : ∃ q, bef ys xs = q := ⟨_, rfl⟩
  obtain ⟨r', hr⟩ : ∃ r, decide (xs = ys) = r := ⟨_, rfl⟩
  have O2 := one_lists xs ys
  rw [hp, hq, hr] at O2
  obtain ⟨j1, j2, j3, j4⟩ := one_bits O2
  obtain ⟨s, hs⟩ : ∃ s, bef ys zs = s := ⟨_, rfl⟩
  obtain ⟨t, ht⟩ : ∃ t, bef xs zs = t := ⟨_, rfl⟩
  have j5 := on_bits (p := p') (s := s) (t := t) (fun h1 h2 => by rw [← ht]; exact bef_trans xs ys zs (by rw [hp, h1]) (by rw [hs, h2]))
  have P' : Hid (bef xs ys = p') := hp
  have Q' : Hid (bef ys xs = q') := hq
  have R' : Hid (decide (xs = ys) = r') := hr
  have R'' : Hid (decide (ys = xs) = r') := by show _ = _; rw [← hr]; simp [eq_comm]
  have S' : Hid (bef ys zs = s) := hs
  have T' : Hid (bef xs zs = t) := ht
  clear hp hq hr hs ht O2
  have hb0 : Below w.heap.size w (w.alloc (.cells #[.int .u64 x, .int .u64 y, .slice ao n c, .slice bo n' c', .slice co n'' c''] 25)) := (Below.refl _ _).alloc (Nat.le_refl _) _
  have sx1 := sx.later hb0 (Nat.le_refl _)
  have sy1 := sy.later hb0 (Nat.le_refl _)
  have sz1 := sz.later hb0 (Nat.le_refl _)
  go_enter Try.func3, Try.ntmps3
  go_wp2_with fail
  refine (less_to x y hx hy p P _).mono ?_
  rintro e _ ⟨rfl, rfl⟩
  go_wp2_with fail
  refine (less_to y x hy hx q Q _).mono ?_
  rintro e _ ⟨rfl, rfl⟩
  go_wp2_with fail
  refine (equal_to x y hx hy r R _).mono ?_
  rintro e _ ⟨rfl, rfl⟩
  go_wp2_with fail
  refine (yes_mk p _).mono ?_
  rintro e _ ⟨rfl, rfl⟩
  go_wp2_with fail
  refine (yes_mk q _).mono ?_
  rintro e _ ⟨rfl, rfl⟩
  go_wp2_with fail
  refine (yes_mk r _).mono ?_
  rintro e _ ⟨rfl, rfl⟩
  go_wp2_with fail
  refine (zero_to x y hx hy r R _).mono ?_
  rintro e _ ⟨rfl, rfl⟩
  clear f1 f2 f3 f4
  go_wp2_with fail
  refine (before_to _ _ _ _ _ _ xs ys p' P' _ sx1 sy1).mono ?_
  rintro e _ ⟨rfl, q1, rfl⟩
  go_wp2_with fail
  refine (before_to _ _ _ _ _ _ ys xs q' Q' _ (sy1.drewN _) (sx1.drewN _)).mono ?_
  rintro e _ ⟨rfl, q2, rfl⟩
  go_wp2_with fail
  refine (same_to _ _ _ _ _ _ xs ys r' R' _ (sx1.drewN _) (sy1.drewN _)).mono ?_
  rintro e _ ⟨rfl, q3, rfl⟩
  go_wp2_with fail
  refine (yes_mk p' _).mono ?_
  rintro e _ ⟨rfl, rfl⟩
  go_wp2_with fail
  refine (yes_mk q' _).mono ?_
  rintro e _ ⟨rfl, rfl⟩
  go_wp2_with fail
  refine (yes_mk r' _).mono ?_
  rintro e _ ⟨rfl, rfl⟩
  go_wp2_with fail
  refine (same_to _ _ _ _ _ _ ys xs r' R'' _ (sy1.drewN _) (sx1.drewN _)).mono ?_
  rintro e _ ⟨rfl, q4, rfl⟩
  go_wp2_with fail
  refine (before_to _ _ _ _ _ _ ys zs s S' _ (sy1.drewN _) (sz1.drewN _)).mono ?_
  rintro e _ ⟨rfl, q5, rfl⟩
  go_wp2_with fail
  refine (before_to _ _ _ _ _ _ xs zs t T' _ (sx1.drewN _) (sz1.drewN _)).mono ?_
  rintro e _ ⟨rfl, q6, rfl⟩
  go_wp2_with fail
  refine (works_any _).mono ?_
  rintro e w9 ⟨rfl, b9⟩
  have b9' := (below_ahead b9)
  have HB : Hid (Below w.heap.size w w9) := hb0.trans (b9'.mono (by simp))
  go_wp2
  go_ret
  exact ⟨rfl, HB.out⟩

/-! ### The row's step -/
theorem own : ownKnob Try.prog.godebug = none := by kernel_rfl
theorem laidOut : laidOutB Try.prog = true := by kernel_rfl
theorem bytesOf : Try.prog.bytesOf 5 = 1 := by kernel_rfl
theorem cells5 : Try.prog.cellsOf 25 = 5 := by kernel_rfl
theorem array5 {α : Type} {cs : Array α} (h : cs.size = 5) : ∃ c0 c1 c2 c3 c4, cs = #[c0, c1, c2, c3, c4] := by
  obtain ⟨l⟩ := cs
  match l, h with
  | [c0, c1, c2, c3, c4], _ => exact ⟨c0, c1, c2, c3, c4, rfl⟩
theorem cellsU : Try.prog.cellsOf 22 = 1 := by kernel_rfl
theorem cellsB : Try.prog.cellsOf 23 = 1 := by kernel_rfl
/-- The struct's parts. -/
theorem parts {H : Type} {enc : TypeId × Value → H} {W : World} {base : Nat} {sp : Nat → Bool} {held : Bool} {fuel : Nat} {v0 v1 v2 v3 v4 : Value} {x : DataW H × List MemPlace}
    (h : DataW.trod enc Try.prog W base sp held fuel 25 [v0, v1, v2, v3, v4] = some x) : ∃ (y0 y1 y2 y3 y4 : DataW H × List MemPlace) (n : Nat), x.1 = .agg [y0.1, y1.1, y2.1, y3.1, y4.1] ∧
      DataW.trod enc Try.prog W base sp held n 22 [v0] = some y0 ∧ DataW.trod enc Try.prog W base sp held n 22 [v1] = some y1 ∧ DataW.trod enc Try.prog W base sp held n 23 [v2] = some y2 ∧
      DataW.trod enc Try.prog W base sp held n 23 [v3] = some y3 ∧ DataW.trod enc Try.prog W base sp held n 23 [v4] = some y4 := by
  obtain ⟨xs, n, _, rfl, _, hlen, hf⟩ := DataW.trod_struct Try.underlying25 h
  match xs, hlen with
  | [y0, y1, y2, y3, y4], _ =>
    refine ⟨y0, y1, y2, y3, y4, n, by simp, ?_, ?_, ?_, ?_, ?_⟩
    · simpa [cellsU, cellsB] using hf 0 _ rfl
    · simpa [cellsU, cellsB] using hf 1 _ rfl
    · simpa [cellsU, cellsB] using hf 2 _ rfl
    · simpa [cellsU, cellsB] using hf 3 _ rfl
    · simpa [cellsU, cellsB] using hf 4 _ rfl
/-- A list in a field. -/
theorem list_in {H : Type} {enc : TypeId × Value → H} {W : World} {fuel : Nat} {v : Value} {y : DataW H × List MemPlace} (h : DataW.trod enc Try.prog W 0 (fun _ => true) true fuel 23 [v] = some y)
    (hs : ∀ elems spare, y.1 = .slice elems spare → (elems.length + spare.length) * Try.prog.bytesOf 5 ≤ reachBytes) : ∃ ao n c zs, v = .slice ao n c ∧ Seen W ao n zs := by
  rcases open_ints Try.underlying23 Try.underlying5 (by kernel_rfl) h with ⟨hcs, _⟩ | ⟨x, l, c, zs, hcs, _, hl, hm, hz, hx, hcell, hwz⟩
  · simp at hcs
    subst hcs
    exact ⟨none, 0, 0, [], rfl, Seen.empty _ _⟩
  · simp at hcs
    subst hcs
    have hz' : zs.length = c := by simpa using hz
    have h1 := hs _ _ (by rw [hx])
    rw [bytesOf] at h1
    simp only [lits, List.length_map, List.length_take, List.length_drop, reachBytes] at h1
    exact ⟨some x, l, c, _, rfl, Seen.of_ints (by omega) hl hz' hcell hwz⟩
theorem sized_in {H : Type} {y0 y1 y2 y3 y4 : DataW H} (h : (DataW.weightsEach Try.prog [25] [.agg [y0, y1, y2, y3, y4]]).all (· ≤ reachBytes) = true) :
    (∀ elems spare, y2 = .slice elems spare → (elems.length + spare.length) * Try.prog.bytesOf 5 ≤ reachBytes) ∧ (∀ elems spare, y3 = .slice elems spare → (elems.length + spare.length) * Try.prog.bytesOf 5 ≤ reachBytes) ∧
    (∀ elems spare, y4 = .slice elems spare → (elems.length + spare.length) * Try.prog.bytesOf 5 ≤ reachBytes) := by
  refine ⟨?_, ?_, ?_⟩
  all_goals
    rintro elems spare rfl
    simp only [DataW.weightsEach, DataW.weights, Try.underlying25, Try.underlying23, List.all_append, Bool.and_eq_true, List.map_cons, List.map_nil, List.all_cons, decide_eq_true_eq] at h
    simp_all
set_option maxRecDepth 100000 in
theorem lifted (os : Os) (started : os.Started) (H : Type) (enc : TypeId × Value → H) :
    ReturnsInHanded {} Try.checked os 3 .any (Rows.maskOrderSpec.pre6 enc Try.prog Try.f3 Rows.maskOrderRow.domain false) (Rows.maskOrderSpec.post enc Try.prog Try.f3 false true false false) := by
  refine returnsInHanded_of_change_sized (C := Try.checked) own started (by kernel_rfl) Try.func3
    (ChangeSpec.witness6 (enc := enc) (C := Try.checked) false ⟨#[], #[.agg #[.int .u64 0, .int .u64 0, .slice none 0 0, .slice none 0 0, .slice none 0 0]], []⟩ 8 (by kernel_rfl) (by kernel_rfl) (by kernel_rfl) (by kernel_rfl)) ?_
  intro W base args ds gs before hval0 hW hcnd hsz0 _
  have hval : ∀ (j : Nat) t v, Try.f3.params[j]? = some t → args[j]? = some v → Value.okWide Try.prog W .any base t v := hval0
  have hsz : (DataW.weightsEach Try.prog (Try.f3.params.toList ++ Rows.maskOrderSpec.plain.varTypes Try.prog) (ds ++ gs)).all (· ≤ reachBytes) = true := hsz0
  have hW' := hW
  obtain ⟨p, q, hA0, hV, rfl, hfz, hnd⟩ := hW
  have hA : DataW.TrodAll enc Try.prog W 0 (fun _ => true) true Try.f3.params.toList args.toList ds p := hA0
  rw [Try.params3] at hA hval hsz
  obtain ⟨v0, vs0, d0, ds0, p0, q0, hargs, rfl, rfl, h0, r0⟩ := trodAll_cons hA
  obtain ⟨rfl, rfl, rfl⟩ := trodAll_nil r0
  obtain rfl : args = #[v0] := by cases args; simp_all
  obtain ⟨rfl, rfl⟩ := trodVars_none hV
  have k0 := h0
  have lt0 : ∀ x ∈ p0, x.block < W.heap.size := by obtain ⟨m, hm⟩ := k0; exact DataW.trod_lt m _ _ _ hm
  obtain ⟨cs, rfl, hcs⟩ := okWide_struct Try.underlying25 (hval 0 25 v0 rfl rfl)
  obtain ⟨u0, u1, u2, u3, u4, rfl⟩ := array5 (hcs.trans cells5)
  obtain ⟨fuel, hf⟩ := h0
  obtain ⟨y0, y1, y2, y3, y4, m, hd, t0, t1, t2, t3, t4⟩ := parts hf
  simp only at hd
  have hz : (DataW.weightsEach Try.prog [25] [.agg [y0.1, y1.1, y2.1, y3.1, y4.1]]).all (· ≤ reachBytes) = true := by rw [← hd]; exact hsz
  obtain ⟨z2, z3, z4⟩ := sized_in hz
  obtain ⟨a0, e0, _, w0⟩ := DataW.trod_int Try.underlying22 t0
  obtain ⟨a1, e1, _, w1⟩ := DataW.trod_int Try.underlying22 t1
  simp at e0 e1
  subst e0 e1
  obtain ⟨ao, n, c, xs, rfl, s2⟩ := list_in t2 z2
  obtain ⟨bo, n', c', ys, rfl, s3⟩ := list_in t3 z3
  obtain ⟨co, n'', c'', zs, rfl, s4⟩ := list_in t4 z4
  clear hA0 hval0 hf t0 t1 t2 t3 t4 hz z2 z3 z4 hd
  refine (walk a0 a1 (word_of_wf w0) (word_of_wf w1) ao n c xs bo n' c' ys co n'' c'' zs W s2 s3 s4).mono fun e W' ⟨he, bel⟩ => ?_
  subst he
  exact ⟨_, rfl, _, _, _, [], _, [], hW', trodAll_mk1 (shut_bool Try.underlying4 _), (trodAll_cons_mk (Below.trod laidOut (by kernel_rfl) (of_decide_eq_true (by kernel_rfl)) k0 bel lt0) trodAll_mk0), rfl, bel.frame _, fun h => by cases h⟩

theorem over : Rows.maskOrderRow.holds Try.pinned (OpenSpec.ofChange Rows.maskOrderSpec) :=
  OpenClaim.holds_of_wide 3 Try.f3 rfl rfl rfl rfl rfl rfl rfl ⟨rfl, rfl, rfl, rfl, rfl⟩ rfl rfl rfl rfl rfl (by kernel_rfl) Try.func3 (by kernel_rfl)
    (of_decide_eq_true (by kernel_rfl)) (by unfold Func.isWrapper; first | (rw [if_pos (by decide +kernel)]; kernel_rfl) | (rw [if_neg (by decide +kernel)]; exact ⟨rfl, rfl⟩))
    (fun os started H enc _ => lifted os started H enc)
theorem proved : Rows.MaskOrderSaid := over
end Go.Proofs.Ytldfbbgboelngab.maskOrder
namespace Go.Proofs.Ytldfbbgboelngab
theorem maskOrder_holds : Rows.MaskOrderSaid := maskOrder.proved
#print axioms maskOrder_holds
end Go.Proofs.Ytldfbbgboelngab
