/- NetworkHops: the walk. -/
import Derived.Test.YtnjmfkdekcgopaaNRHop
namespace Go.Proofs.Ytnjmfkdekcgopaa
open Go.RowKit Go.Shelf
set_option linter.unusedVariables false
set_option linter.unusedSimpArgs false
attribute [local go_sem] Oper.semAt_some

/-- The document's hops as data. -/
structure HopsAt (w : World) (so : Option Addr) (l : List (Int × Int)) : Prop where
  at_ : ∀ i x, l[i]? = some x → ∃ g, so = some ⟨g, 0, none⟩ ∧ g < w.heap.size ∧ w.cell? ⟨g, i * 2, none⟩ = some (.int .i64 x.1) ∧ w.cell? ⟨g, i * 2 + 1, none⟩ = some (.int .i64 x.2)
theorem hopC_at (l : List (Int × Int)) (i : Nat) (x : Int × Int) (h : l[i]? = some x) : (hopC l)[i * 2]? = some (.int .i64 x.1) ∧ (hopC l)[i * 2 + 1]? = some (.int .i64 x.2) := by
  induction l generalizing i with
  | nil => simp at h
  | cons a r ih =>
    cases i with
    | zero => simp at h; subst h; simp [hopC]
    | succ i =>
      simp at h
      have := ih i h
      have e : hopC (a :: r) = .int .i64 a.1 :: .int .i64 a.2 :: hopC r := by simp [hopC]
      rw [e, show (i + 1) * 2 = i * 2 + 1 + 1 from by omega]
      simpa using this
theorem hopC_length (l : List (Int × Int)) : (hopC l).length = l.length * 2 := by
  induction l with
  | nil => rfl
  | cons a r ih => simp [hopC] at ih ⊢; omega
theorem hops_own {w : World} {B : Nat} {v : Value} {l : List (Int × Int)} (h : w.ownsRow B 38 2 v l.length (hopC l)) : ∃ so c, v = .slice so l.length c ∧ HopsAt w so l ∧ l.length ≤ c := by
  rcases h.2 with ⟨rfl, hx⟩ | ⟨g, cap, cur, rfl, hB, hh, hc, hm, hs, ht⟩
  · have e : l = [] := List.eq_nil_of_length_eq_zero hx
    subst e
    exact ⟨none, 0, rfl, ⟨fun i x hi => by simp at hi⟩, Nat.le_refl _⟩
  · refine ⟨_, cap, rfl, ⟨fun i x hi => ⟨g, rfl, (Array.getElem?_eq_some_iff.1 hh).1, ?_, ?_⟩⟩, hc⟩
    all_goals
      have hl := (List.getElem?_eq_some_iff.1 hi).1
      have hq := hopC_at l i x hi
      rw [cell_of_row w g _ _ 38 (0, 0) hh, ← Array.getElem?_toList]
    · have q : (cur.toList.take (l.length * 2))[i * 2]? = (hopC l)[i * 2]? := by rw [ht]
      rw [List.getElem?_take, if_pos (by omega)] at q
      rw [q, hq.1]
    · have q : (cur.toList.take (l.length * 2))[i * 2 + 1]? = (hopC l)[i * 2 + 1]? := by rw [ht]
      rw [List.getElem?_take, if_pos (by omega)] at q
      rw [q, hq.2]
theorem HopsAt.below {w w' : World} {so : Option Addr} {l : List (Int × Int)} (h : HopsAt w so l) (hb : Below w.heap.size w w') : HopsAt w' so l :=
  ⟨fun i x hi => by
    obtain ⟨g, e, hg, h1, h2⟩ := h.at_ i x hi
    exact ⟨g, e, by have := hb.size; omega, (hb.cell (p := ⟨g, i * 2, none⟩) hg).trans h1, (hb.cell (p := ⟨g, i * 2 + 1, none⟩) hg).trans h2⟩⟩
theorem neq_hop (a b c d : Int) (w : World) : (binOp .neq 38 (.agg #[.int .i64 a, .int .i64 b]) (.agg #[.int .i64 c, .int .i64 d])).run Try.prog w = .ok (.bool (!(a == c && b == d))) w := by
  have hf : Try.prog.underlying 38 = some (.struct (Try.prog.fieldsOf 38)) := by kernel_rfl
  have hp : Try.prog.stoodInHeld 38 = false := by kernel_rfl
  have hl : (Try.prog.fieldsOf 38).toList = [{ name := "From", type := 3, offset := 0, embedded := false, tag := "", pkgPath := "", byteOffset := 0 }, { name := "To", type := 3, offset := 1, embedded := false, tag := "", pkgPath := "", byteOffset := 8 }] := by kernel_rfl
  rw [run_neq_struct, run_equalIn_struct w 9999 38 _ _ hf hp, hl]
  have p0 : ∀ r c : Int, (Go.part 3 #[.int .i64 r, .int .i64 c] 0).run Try.prog w = .ok (.int .i64 r) w := fun r c => by simp [Go.part, isAgg, run_underlying Try.underlying3]
  have p1 : ∀ r c : Int, (Go.part 3 #[.int .i64 r, .int .i64 c] 1).run Try.prog w = .ok (.int .i64 c) w := fun r c => by simp [Go.part, isAgg, run_underlying Try.underlying3]
  have q0 : ∀ x y : Int, (Op.equalIn 9999 3 (.int .i64 x) (.int .i64 y)).run Try.prog w = .ok (x == y) w := fun x y => by rw [run_equalIn_int w 9998 3 .i64 .i64 _ _ Try.underlying3]
  cases h0 : (a == c) <;> cases h1 : (b == d) <;> simp [Op.eqFields, p0, p1, q0, h0, h1]

theorem hopsOf_len (n : Int) : (hopsOf n).length ≤ 1114112 := by
  unfold hopsOf
  split
  · simp
  · have h1 := hopsK_len n.toNat 17
    have h2 : 17 * n.toNat ≤ 17 * 65536 := Nat.mul_le_mul_left _ (by omega)
    rw [hopsL]; omega
theorem most_is (early : Int) : ∃ M : Nat, wrap64 ((IntKind.u64.wrap early).tmod 40) = (M : Int) ∧ M < 40 := by
  have h0 : 0 ≤ IntKind.u64.wrap early := by
    simp only [IntKind.wrap, IntKind.signed, IntKind.bits]
    simp
    omega
  have h1 : (IntKind.u64.wrap early).tmod 40 = IntKind.u64.wrap early % 40 := Int.tmod_eq_emod_of_nonneg h0
  refine ⟨(IntKind.u64.wrap early % 40).toNat, ?_, by omega⟩
  rw [h1]
  have h2 : wrap64 (IntKind.u64.wrap early % 40) = IntKind.u64.wrap early % 40 := by unfold wrap64; omega
  rw [h2]; omega
theorem eql_nilF (lb : Array Value) (w : World) : (binOp .eql 35 (.func (.func 38) #[] lb) .nilFunc).run Try.prog w = .ok (.bool false) w := by
  kernel_rfl
/-- Two numbers in a block of their own. -/
def TwoAt (W : World) (B : Nat) (x : Int × Int) : Prop := W.heap[B]? = some (.cells #[.int .i64 x.1, .int .i64 x.2] 38 (0, 0))
theorem TwoAt.lt {W : World} {B : Nat} {x : Int × Int} (h : TwoAt W B x) : B < W.heap.size := (Array.getElem?_eq_some_iff.1 h).1
theorem TwoAt.fst {W : World} {B : Nat} {x : Int × Int} (h : TwoAt W B x) : W.cell? ⟨B, 0, none⟩ = some (.int .i64 x.1) := by simp [World.cell?, show W.heap[B]? = _ from h]
theorem TwoAt.snd {W : World} {B : Nat} {x : Int × Int} (h : TwoAt W B x) : W.cell? ⟨B, 1, none⟩ = some (.int .i64 x.2) := by simp [World.cell?, show W.heap[B]? = _ from h]
theorem twoAt_own (B : Nat) (x : Int × Int) : Own (fun (_ : Unit) W => TwoAt W B x) := fun s X Y row hs hg hrow =>
  (hg.block B (TwoAt.lt hs) (fun e' => by obtain ⟨o, ho, hc⟩ := hrow B e'.symm; rw [show X.heap[B]? = _ from hs] at ho; cases ho; cases hc)).trans hs
/-- A loop's row of deferred calls, empty. -/
def DefAt (W : World) (D : Nat) : Prop := W.heap[D]? = some (.deferred (some []))
theorem DefAt.alloc {W : World} {D : Nat} (h : DefAt W D) (o : Obj) : DefAt (W.alloc o) D := (Below.heap_alloc W o D (Array.getElem?_eq_some_iff.1 h).1).trans h
theorem DefAt.set {W : World} {D B : Nat} (h : DefAt W D) (hne : D ≠ B) (u : Value) : DefAt (W.setCell ⟨B, 0, none⟩ u) D := (Below.heap_setCell _ _ _ _ hne).trans h
theorem defAt_own {β : Type} {B D : Nat} (hD : D < B) : OwnFrom B (fun (_ : β) W => DefAt W D) := fun s X Y row hs hg hr =>
  (hg.block D (Array.getElem?_eq_some_iff.1 hs).1 (fun e => by have := (hr D e.symm).1; omega)).trans hs
theorem ownFrom_or {β : Type} {B : Nat} {I I' : β → World → Prop} (h : OwnFrom B I) (h' : OwnFrom B I') : OwnFrom B (fun s W => I s W ∨ I' s W) :=
  fun s W W' row hs hg hr => hs.elim (fun x => .inl (h s W W' row x hg hr)) (fun x => .inr (h' s W W' row x hg hr))
theorem pre_next {L pre : List (Int × Int)} (h : pre <+: L) {y : Int × Int} (hy : L[pre.length]? = some y) (x : Int × Int) : pre ++ [x] <+: L ↔ x = y := by
  obtain ⟨r, rfl⟩ := h
  rw [List.getElem?_append_right (Nat.le_refl _), Nat.sub_self] at hy
  cases r with
  | nil => simp at hy
  | cons z r =>
    simp at hy
    subst hy
    rw [List.prefix_append_right_inj]
    simp

set_option maxRecDepth 100000 in
set_option maxHeartbeats 4000000 in
theorem hopsLaw (n early : Int) (w : World) (hn : (Lit.int .i64 n).wf = true) (he : (Lit.int .i64 early).wf = true) :
    Calls Try.prog 4 #[.int .i64 n, .int .i64 early] w fun e w' => e = .returned (.bool true) ∧ Below w.heap.size w w' := by
  have EQ := eql_nilF
  refine (callsIn_wide (n := 9)).1 ?_
  refine callsIn_of_wp_marks Try.func4 rfl trivial ?_ rfl
  simp only [Try.ntmps4, List.size_toArray, List.length_cons, List.length_nil, Nat.reduceAdd, Nat.reduceSub, Array.replicate_succ, Array.replicate_zero, List.push_toArray, List.append_toArray, List.nil_append, List.cons_append]
  gi_wp2_with (first | (refine ⟨trivial, ?_⟩; gi_at_call 14; refine (callsIn_wide.2 (rhops_any n _)).mono ?_; rintro e w1 ⟨v, rfl, hv, hb1⟩; obtain ⟨so, c, rfl, hs1, hc1⟩ := hops_own hv; obtain ⟨L, hL⟩ : ∃ L, hopsOf n = L := ⟨_, rfl⟩; rw [hL] at hs1 hc1 ⊢; have HL : Hid (hopsOf n = L) := hL; clear hv hL) | (refine ⟨trivial, ?_⟩; gi_at_call 15; refine (hops_in _ _ trivial rfl n _).mono ?_; rintro e w2 ⟨rfl, rfl⟩) | (refine ⟨trivial, ?_⟩; gi_at_call 13; refine (callsIn_wide.2 (gates8 _)).mono ?_; rintro e w3 ⟨rfl, rfl⟩))
  have HR : Hid (w.heap.size < w1.heap.size ∧ Boxed w1 w.heap.size 4 (.bool false)) := ⟨(by have := hb1.size; simp at this; omega), (hb1.block w.heap.size (by simp)).trans (Boxed.new w _ _)⟩
  have hLb : L.length ≤ 1114112 := by rw [← HL.out]; exact hopsOf_len n
  have bW := ((Boxed.new w1 32 (.slice so L.length c)).alloc (.cells #[.int .i64 n] 3)).alloc (.cells #[.int .i64 0] 3)
  have bN := (Boxed.new (w1.alloc (.cells #[.slice so L.length c] 32)) 3 (.int .i64 n)).alloc (.cells #[.int .i64 0] 3)
  have bA := Boxed.new ((w1.alloc (.cells #[.slice so L.length c] 32)).alloc (.cells #[.int .i64 n] 3)) 3 (.int .i64 0)
  simp only [World.size_alloc] at bN bA
  have hB0 : Below w1.heap.size w1 (((w1.alloc (.cells #[.slice so L.length c] 32)).alloc (.cells #[.int .i64 n] 3)).alloc (.cells #[.int .i64 0] 3)) := (((Below.refl _ w1).alloc (Nat.le_refl _) _).alloc (by simp) _).alloc (by simp; omega) _
  have hsz : (((w1.alloc (.cells #[.slice so L.length c] 32)).alloc (.cells #[.int .i64 n] 3)).alloc (.cells #[.int .i64 0] 3)).heap.size = w1.heap.size + 3 := by simp
  obtain ⟨W0, hW0⟩ : ∃ W0, ((w1.alloc (.cells #[.slice so L.length c] 32)).alloc (.cells #[.int .i64 n] 3)).alloc (.cells #[.int .i64 0] 3) = W0 := ⟨_, rfl⟩
  rw [hW0] at bW bN bA hB0 hsz ⊢
  clear hW0
  have HS : Hid (W0.heap.size = w1.heap.size + 3) := hsz
  clear hsz
  have hst := hops_stops Fence.wide 8 trivial rfl (by omega) (w1.heap.size + 1) n W0 bN
  rw [HL.out] at hst
  refine wpIn_rangeFunc_ownH rfl (by omega) (gf := 38) (lb := #[.pointer (some ⟨w1.heap.size + 1, 0, none⟩)]) rfl trivial (enters_of Try.func38 (by kernel_rfl) rfl)
    hst kpB_t (kpB_b bN.lt) (Below.refl _ _) (fun _ => rfl)
    (fun pre W => (pre <+: L ∧ Boxed W w1.heap.size 32 (.slice so L.length c)) ∧ (Boxed W (w1.heap.size + 1 + 1) 3 (.int .i64 pre.length) ∧ Boxed W (w1.heap.size + 1) 3 (.int .i64 n)) ∧ Below w1.heap.size w1 W)
    (fun cc pre _ => cc = .ret ∧ ¬ pre <+: L)
    (OwnFrom.and (OwnFrom.and (ownFrom_pure _ _) (Own.from (boxed_own _ _ _) _)) (OwnFrom.and (OwnFrom.and (Own.from (boxed_own _ _ _) _) (Own.from (boxed_own _ _ _) _)) (ownFrom_below (Nat.le_refl _) (by have := HS.out; omega))))
    (fun cc => ownFrom_pure _ _)
    ⟨⟨List.nil_prefix, bW⟩, ⟨bA, bN⟩, hB0⟩
    (fun x a' W => ∃ Bx, w1.heap.size + 2 < Bx ∧ TwoAt W Bx x ∧ a' = { tmps := #[.int .i64 n, .int .i64 early, undef, undef, .pointer (some ⟨w.heap.size, 0, none⟩), .pointer (some ⟨w1.heap.size, 0, none⟩), .func (.func 38) #[] #[.pointer (some ⟨w1.heap.size + 1, 0, none⟩)], .pointer (some ⟨w1.heap.size + 1 + 1, 0, none⟩), .pointer (some ⟨Bx, 0, none⟩), undef, undef, .int .i64 n, .slice so L.length c, .int .i64 n, .func (.func 38) #[] #[.pointer (some ⟨w1.heap.size + 1, 0, none⟩)], .func (.func 38) #[] #[.pointer (some ⟨w1.heap.size + 1, 0, none⟩)], .bool false, .bool false, .int .i64 24, .bool false, .bool false, .func (.func 38) #[] #[.pointer (some ⟨w1.heap.size + 1, 0, none⟩)], .agg #[.int .i64 x.1, .int .i64 x.2], undef, undef, undef, undef, undef, undef, undef, undef, undef, undef, undef, undef, undef, undef, undef, undef, undef, undef, undef, undef, undef, undef, undef, undef, undef, undef, undef, undef, undef, undef, undef, undef, undef, undef, undef, undef, undef, undef, undef, undef, undef, undef, undef, undef, undef, undef, undef], defers := [] })
    (fun x a' _ X Y row hs hg hr => by obtain ⟨Bx, h1, h2, h3⟩ := hs; exact ⟨Bx, h1, twoAt_own Bx x () X Y row h2 hg (fun r e => (hr r e).2), h3⟩)
    ?assign ?body ?done ?stop
  case assign =>
    rintro l pre x W K ⟨⟨hp, bW1⟩, ⟨bA1, bN1⟩, hB1⟩ hK
    simp only [hopV]
    gi_wp2
    refine hK _ _ ((KeepsOthers.alloc _ _).from _) (fun h => h.alloc _) ⟨⟨hp, bW1.alloc _⟩, ⟨bA1.alloc _, bN1.alloc _⟩, hB1.alloc hB1.size _⟩ ⟨W.heap.size, by have := bA1.lt; omega, ?_, rfl⟩
    exact World.alloc_heap_new W _
  case body =>
    rintro l pre x a' W hl hr0 ⟨⟨hp, bW1⟩, ⟨bA1, bN1⟩, hB1⟩ ⟨Bx, hBx, bX, rfl⟩ hlt
    have cW := bW1.cell
    have cA := bA1.cell
    have fA := bA1.frozen
    have c0 := bX.fst
    have c1 := bX.snd
    have hs2 := hs1.below hB1
    obtain ⟨y, hy⟩ : ∃ y, L[pre.length]? = some y := ⟨_, List.getElem?_eq_getElem hlt⟩
    obtain ⟨g, rfl, hg, d0, d1⟩ := hs2.at_ _ _ hy
    have HP : Hid (pre ++ [x] <+: L ↔ x = y) := pre_next hp hy x
    have NP := neq_hop x.1 x.2 y.1 y.2
    have hmix : Try.prog.follows .mixedOrders = true := by kernel_rfl
    clear hs2 hy hs1 hp
    gi_wp2
    refine Go.wpIn_mono (Q := fun e a' w' => e = .normal ∧ a' = { tmps := #[.int .i64 n, .int .i64 early, undef, undef, .pointer (some ⟨w.heap.size, 0, none⟩), .pointer (some ⟨w1.heap.size, 0, none⟩), .func (.func 38) #[] #[.pointer (some ⟨w1.heap.size + 1, 0, none⟩)], .pointer (some ⟨w1.heap.size + 1 + 1, 0, none⟩), .pointer (some ⟨Bx, 0, none⟩), undef, undef, .int .i64 n, .slice (some ⟨g, 0, none⟩) L.length c, .int .i64 n, .func (.func 38) #[] #[.pointer (some ⟨w1.heap.size + 1, 0, none⟩)], .func (.func 38) #[] #[.pointer (some ⟨w1.heap.size + 1, 0, none⟩)], .bool false, .bool false, .int .i64 24, .bool false, .bool false, .func (.func 38) #[] #[.pointer (some ⟨w1.heap.size + 1, 0, none⟩)], .agg #[.int .i64 x.1, .int .i64 x.2], .int .i64 pre.length, .slice (some ⟨g, 0, none⟩) L.length c, .int .i64 L.length, .bool (decide (L.length ≤ pre.length)), .bool (decide (L.length ≤ pre.length)), .agg #[.int .i64 x.1, .int .i64 x.2], .slice (some ⟨g, 0, none⟩) L.length c, .int .i64 pre.length, .pointer (some ⟨g, pre.length * 2, none⟩), .agg #[.int .i64 y.1, .int .i64 y.2], .bool (!x.fst == y.fst || !x.snd == y.snd), .bool (decide (L.length ≤ pre.length) || (!x.fst == y.fst || !x.snd == y.snd)), undef, undef, undef, undef, undef, undef, undef, undef, undef, undef, undef, undef, undef, undef, undef, undef, undef, undef, undef, undef, undef, undef, undef, undef, undef, undef, undef, undef, undef, undef, undef, undef, undef, undef, undef], defers := [] } ∧ w' = W.drew) ?_ ?_
    · gi_region_with_o (fail)
      all_goals exact ⟨rfl, rfl, rfl⟩
    rintro _ _ _ ⟨rfl, rfl, rfl⟩
    have cA2 : W.drew.cell? ⟨w1.heap.size + 1 + 1, 0, none⟩ = some (.int .i64 pre.length) := cA
    have fA2 : W.drew.frozen? ⟨w1.heap.size + 1 + 1, 0, none⟩ = false := fA
    have bR1 : Boxed W.drew w.heap.size 4 (.bool false) := (hB1.block w.heap.size HR.out.1).trans HR.out.2
    have cR := bR1.cell
    have fR := bR1.frozen
    have hlt2 : ¬ L.length ≤ pre.length := by omega
    by_cases hxy : x = y
    · have hT : (decide (L.length ≤ pre.length) || (!x.fst == y.fst || !x.snd == y.snd)) = false := by subst hxy; simp [hlt2]
      rw [hT]
      clear hT hlt2 NP d0 d1 c0 c1 cA fA cR fR cW
      gi_wp2
      refine ⟨((KeepsOthers.drew W).trans (KeepsOthers.setCell _ _ _)).from _, fun h => Boxed.other (W := W.drew) h (by omega) _, ⟨HP.out.2 hxy, Boxed.other (W := W.drew) bW1 (by omega) _⟩, ⟨?_, Boxed.other (W := W.drew) bN1 (by omega) _⟩, hB1.drew.setCell (p := ⟨w1.heap.size + 1 + 1, 0, none⟩) (by simp; omega) _⟩
      rw [show ((pre ++ [x]).length : Int) = (pre.length : Int) + 1 by simp]
      exact Boxed.set (W := W.drew) _ bA1
    · have hT : (decide (L.length ≤ pre.length) || (!x.fst == y.fst || !x.snd == y.snd)) = true := by
        cases h1 : (x.fst == y.fst) <;> cases h2 : (x.snd == y.snd) <;> simp
        exact absurd (Prod.ext (by simpa using h1) (by simpa using h2)) hxy
      rw [hT]
      clear hT hlt2 NP d0 d1 c0 c1 cA fA cW
      gi_wp2
      exact ⟨((KeepsOthers.drew W).trans (KeepsOthers.setCell _ _ _)).from _, rfl, fun h => hxy (HP.out.1 h)⟩
  case done =>
    rintro D zs W hD hz ⟨⟨hp, bW1⟩, ⟨bA1, bN1⟩, hB1⟩ hK
    rw [hz] at bA1
    clear hz hp hst bW bN bA hB0
    obtain ⟨M, hM, hM40⟩ : ∃ M : Nat, wrap64 ((IntKind.u64.wrap early).tmod 40) = (M : Int) ∧ M < 40 := most_is early
    have cA2 : ∀ o, (W.alloc o).cell? ⟨w1.heap.size + 1 + 1, 0, none⟩ = some (.int .i64 L.length) := fun o => (bA1.alloc o).cell
    have fA2 : ∀ o, (W.alloc o).frozen? ⟨w1.heap.size + 1 + 1, 0, none⟩ = false := fun o => (bA1.alloc o).frozen
    have cW := bW1.cell
    have cA := bA1.cell
    have fA := bA1.frozen
    have bR1 : Boxed W w.heap.size 4 (.bool false) := (hB1.block w.heap.size HR.out.1).trans HR.out.2
    have cR := bR1.cell
    have fR := bR1.frozen
    gi_wp2
    have hBW : Below W.heap.size W (W.alloc (.cells #[.int .i64 (M : Int)] 3)) := (Below.refl _ W).alloc (Nat.le_refl _) _
    have bW2 := Boxed.other (bW1.alloc (.cells #[.int .i64 (M : Int)] 3)) (B' := w1.heap.size + 1 + 1) (by omega) (.int .i64 0)
    have bN2 := Boxed.other (bN1.alloc (.cells #[.int .i64 (M : Int)] 3)) (B' := w1.heap.size + 1 + 1) (by omega) (.int .i64 0)
    have bA2 := Boxed.set (.int .i64 0) (bA1.alloc (.cells #[.int .i64 (M : Int)] 3))
    have bM2 := Boxed.other (Boxed.new W 3 (.int .i64 (M : Int))) (B' := w1.heap.size + 1 + 1) (by have := bA1.lt; omega) (.int .i64 0)
    have hB2 := (hB1.alloc hB1.size (.cells #[.int .i64 (M : Int)] 3)).setCell (p := ⟨w1.heap.size + 1 + 1, 0, none⟩) (by simp; omega) (.int .i64 0)
    have hDlt : D < W.heap.size := (Array.getElem?_eq_some_iff.1 hK).1
    have hDn : D ≠ w1.heap.size + 1 + 1 := by have := HS.out; omega
    have hK2 : DefAt ((W.alloc (.cells #[.int .i64 (M : Int)] 3)).setCell ⟨w1.heap.size + 1 + 1, 0, none⟩ (.int .i64 0)) D := DefAt.set (DefAt.alloc hK _) hDn _
    have hsz2 : ((W.alloc (.cells #[.int .i64 (M : Int)] 3)).setCell ⟨w1.heap.size + 1 + 1, 0, none⟩ (.int .i64 0)).heap.size = W.heap.size + 1 := by simp [World.setCell]
    have hW1 := bA1.lt
    obtain ⟨W3, hW3⟩ : ∃ W3, (W.alloc (.cells #[.int .i64 (M : Int)] 3)).setCell ⟨w1.heap.size + 1 + 1, 0, none⟩ (.int .i64 0) = W3 := ⟨_, rfl⟩
    rw [hW3] at bW2 bN2 bA2 bM2 hB2 hK2 hsz2 ⊢
    have HZ : Hid (W3.heap.size = W.heap.size + 1 ∧ w1.heap.size + 1 + 1 < W.heap.size ∧ D < W.heap.size ∧ D ≠ w1.heap.size + 1 + 1) := ⟨hsz2, hW1, hDlt, hDn⟩
    clear hM hW3 hsz2 hW1 hDlt hDn hBW hB1 hK bW1 bA1 bN1 cA2 fA2 cW cA fA bR1 cR fR
    have hst := hops_stops Fence.wide 8 trivial rfl (by omega) (w1.heap.size + 1) n W3 bN2
    rw [HL.out] at hst
    refine wpIn_rangeFunc_ownH rfl (by omega) (gf := 38) (lb := #[.pointer (some ⟨w1.heap.size + 1, 0, none⟩)]) rfl trivial (enters_of Try.func38 (by kernel_rfl) rfl)
      hst kpB_t (kpB_b bN2.lt) (Below.refl _ _) (fun _ => rfl)
      (fun pre V => ((pre <+: L ∧ pre.length ≤ M) ∧ Boxed V w1.heap.size 32 (.slice so L.length c)) ∧ ((Boxed V (w1.heap.size + 1 + 1) 3 (.int .i64 pre.length) ∧ Boxed V (w1.heap.size + 1) 3 (.int .i64 n)) ∧ (Boxed V W.heap.size 3 (.int .i64 (M : Int)) ∧ DefAt V D)) ∧ Below w1.heap.size w1 V)
      (fun cc pre V => (cc = .ret ∧ ¬ pre <+: L) ∨ (((cc = .exit 2 ∧ pre.length = M + 1) ∧ Boxed V w1.heap.size 32 (.slice so L.length c)) ∧ (Boxed V (w1.heap.size + 1 + 1) 3 (.int .i64 (M : Int)) ∧ (Boxed V W.heap.size 3 (.int .i64 (M : Int)) ∧ DefAt V D)) ∧ Below w1.heap.size w1 V))
      (OwnFrom.and (OwnFrom.and (ownFrom_pure _ _) (Own.from (boxed_own _ _ _) _)) (OwnFrom.and (OwnFrom.and (OwnFrom.and (Own.from (boxed_own _ _ _) _) (Own.from (boxed_own _ _ _) _)) (OwnFrom.and (Own.from (boxed_own _ _ _) _) (defAt_own (by have := HZ.out; omega)))) (ownFrom_below (Nat.le_refl _) (by have := HZ.out; omega))))
      (fun cc => ownFrom_or (ownFrom_pure _ _) (OwnFrom.and (OwnFrom.and (ownFrom_pure _ _) (Own.from (boxed_own _ _ _) _)) (OwnFrom.and (OwnFrom.and (Own.from (boxed_own _ _ _) _) (OwnFrom.and (Own.from (boxed_own _ _ _) _) (defAt_own (by have := HZ.out; omega)))) (ownFrom_below (Nat.le_refl _) (by have := HZ.out; omega)))))
      ⟨⟨⟨List.nil_prefix, Nat.zero_le _⟩, bW2⟩, ⟨⟨bA2, bN2⟩, bM2, hK2⟩, hB2⟩
      (fun x a' V => ∃ Bx, w1.heap.size + 2 < Bx ∧ TwoAt V Bx x ∧ a' = { tmps := #[.int .i64 n, .int .i64 early, undef, undef, .pointer (some ⟨w.heap.size, 0, none⟩), .pointer (some ⟨w1.heap.size, 0, none⟩), .func (.func 38) #[] #[.pointer (some ⟨w1.heap.size + 1, 0, none⟩)], .pointer (some ⟨w1.heap.size + 1 + 1, 0, none⟩), undef, .pointer (some ⟨W.heap.size, 0, none⟩), .pointer (some ⟨Bx, 0, none⟩), .int .i64 n, .slice so L.length c, .int .i64 n, .func (.func 38) #[] #[.pointer (some ⟨w1.heap.size + 1, 0, none⟩)], .func (.func 38) #[] #[.pointer (some ⟨w1.heap.size + 1, 0, none⟩)], .bool false, .bool false, .int .i64 24, .bool false, .bool false, .func (.func 38) #[] #[.pointer (some ⟨w1.heap.size + 1, 0, none⟩)], undef, undef, undef, undef, undef, undef, undef, undef, undef, undef, undef, undef, undef, undef, undef, .int .i64 L.length, .slice so L.length c, .int .i64 L.length, .bool false, .int .i64 early, .int .u64 (IntKind.u64.wrap early), .int .u64 ((IntKind.u64.wrap early).tmod 40), .int .i64 (wrap64 ((IntKind.u64.wrap early).tmod 40)), .func (.func 38) #[] #[.pointer (some ⟨w1.heap.size + 1, 0, none⟩)], .agg #[.int .i64 x.1, .int .i64 x.2], undef, undef, undef, undef, undef, undef, undef, undef, undef, undef, undef, undef, undef, undef, undef, undef, undef, undef, undef, undef, undef, undef, undef], defers := [] })
      (fun x a' _ X Y row hs hg hr => by obtain ⟨Bx, h1, h2, h3⟩ := hs; exact ⟨Bx, h1, twoAt_own Bx x () X Y row h2 hg (fun r e => (hr r e).2), h3⟩)
      ?assign2 ?body2 ?done2 ?stop2
    case assign2 =>
      rintro l pre x V K ⟨⟨hp, bW3⟩, ⟨⟨bA3, bN3⟩, bM3, hD3⟩, hB3⟩ hK3
      simp only [hopV]
      gi_wp2
      refine hK3 _ _ ((KeepsOthers.alloc _ _).from _) (fun h => h.alloc _) ⟨⟨hp, bW3.alloc _⟩, ⟨⟨bA3.alloc _, bN3.alloc _⟩, bM3.alloc _, hD3.alloc _⟩, hB3.alloc hB3.size _⟩ ⟨V.heap.size, by have := bA3.lt; omega, ?_, rfl⟩
      exact World.alloc_heap_new V _
    case body2 =>
      rintro l pre x a' V hl hr0 ⟨⟨⟨hp, hpM⟩, bW3⟩, ⟨⟨bA3, bN3⟩, bM3, hD3⟩, hB3⟩ ⟨Bx, hBx, bX, rfl⟩ hlt
      have cW := bW3.cell
      have cA := bA3.cell
      have fA := bA3.frozen
      have cM := bM3.cell
      by_cases hme : pre.length = M
      · have i1 : ((pre.length : Int) == (M : Int)) = true := by simp [hme]
        have i2 : (pre.length : Int) = (M : Int) := by omega
        rw [i2] at cA bA3
        clear i1 i2
        have HM : Hid (pre.length = M) := hme
        clear hme
        gi_wp2
        exact ⟨KeepsFrom.refl _ _, .inr ⟨⟨⟨rfl, by simp [HM.out]⟩, bW3⟩, ⟨bA3, bM3, hD3⟩, hB3⟩⟩
      · have i1 : ((pre.length : Int) == (M : Int)) = false := by simp; omega
        have i2 : ¬ (pre.length : Int) = (M : Int) := by omega
        have HM : Hid (pre.length < M) := by show pre.length < M; omega
        clear hpM hme
        have c0 := bX.fst
        have c1 := bX.snd
        have hs2 := hs1.below hB3
        obtain ⟨y, hy⟩ : ∃ y, L[pre.length]? = some y := ⟨_, List.getElem?_eq_getElem hlt⟩
        obtain ⟨g, rfl, hg, d0, d1⟩ := hs2.at_ _ _ hy
        have HP : Hid (pre ++ [x] <+: L ↔ x = y) := pre_next hp hy x
        have NP := neq_hop x.1 x.2 y.1 y.2
        have hmix : Try.prog.follows .mixedOrders = true := by kernel_rfl
        clear hs2 hy hs1 hp
        gi_wp2
        refine Go.wpIn_mono (Q := fun e a' w' => e = .normal ∧ a' = { tmps := #[.int .i64 n, .int .i64 early, undef, undef, .pointer (some ⟨w.heap.size, 0, none⟩), .pointer (some ⟨w1.heap.size, 0, none⟩), .func (.func 38) #[] #[.pointer (some ⟨w1.heap.size + 1, 0, none⟩)], .pointer (some ⟨w1.heap.size + 1 + 1, 0, none⟩), undef, .pointer (some ⟨W.heap.size, 0, none⟩), .pointer (some ⟨Bx, 0, none⟩), .int .i64 n, .slice (some ⟨g, 0, none⟩) L.length c, .int .i64 n, .func (.func 38) #[] #[.pointer (some ⟨w1.heap.size + 1, 0, none⟩)], .func (.func 38) #[] #[.pointer (some ⟨w1.heap.size + 1, 0, none⟩)], .bool false, .bool false, .int .i64 24, .bool false, .bool false, .func (.func 38) #[] #[.pointer (some ⟨w1.heap.size + 1, 0, none⟩)], undef, undef, undef, undef, undef, undef, undef, undef, undef, undef, undef, undef, undef, undef, undef, .int .i64 L.length, .slice (some ⟨g, 0, none⟩) L.length c, .int .i64 L.length, .bool false, .int .i64 early, .int .u64 (IntKind.u64.wrap early), .int .u64 ((IntKind.u64.wrap early).tmod 40), .int .i64 (wrap64 ((IntKind.u64.wrap early).tmod 40)), .func (.func 38) #[] #[.pointer (some ⟨w1.heap.size + 1, 0, none⟩)], .agg #[.int .i64 x.1, .int .i64 x.2], .int .i64 pre.length, .int .i64 (M : Int), .bool false, .int .i64 pre.length, .slice (some ⟨g, 0, none⟩) L.length c, .int .i64 L.length, .bool (decide (L.length ≤ pre.length)), .bool (decide (L.length ≤ pre.length)), .agg #[.int .i64 x.1, .int .i64 x.2], .slice (some ⟨g, 0, none⟩) L.length c, .int .i64 pre.length, .pointer (some ⟨g, pre.length * 2, none⟩), .agg #[.int .i64 y.1, .int .i64 y.2], .bool (!x.fst == y.fst || !x.snd == y.snd), .bool (decide (L.length ≤ pre.length) || (!x.fst == y.fst || !x.snd == y.snd)), undef, undef, undef, undef, undef, undef, undef, undef], defers := [] } ∧ w' = V.drew) ?_ ?_
        · gi_region_with_o (fail)
          all_goals exact ⟨rfl, rfl, rfl⟩
        rintro _ _ _ ⟨rfl, rfl, rfl⟩
        have cA2 : V.drew.cell? ⟨w1.heap.size + 1 + 1, 0, none⟩ = some (.int .i64 pre.length) := cA
        have fA2 : V.drew.frozen? ⟨w1.heap.size + 1 + 1, 0, none⟩ = false := fA
        have bR1 : Boxed V.drew w.heap.size 4 (.bool false) := (hB3.block w.heap.size HR.out.1).trans HR.out.2
        have cR := bR1.cell
        have fR := bR1.frozen
        have hlt2 : ¬ L.length ≤ pre.length := by omega
        by_cases hxy : x = y
        · have hT : (decide (L.length ≤ pre.length) || (!x.fst == y.fst || !x.snd == y.snd)) = false := by subst hxy; simp [hlt2]
          rw [hT]
          clear hT hlt2 NP d0 d1 c0 c1 cA fA cR fR cW cM i1 i2
          gi_wp2
          refine ⟨((KeepsOthers.drew V).trans (KeepsOthers.setCell _ _ _)).from _, fun h => Boxed.other (W := V.drew) h (by omega) _, ⟨⟨HP.out.2 hxy, by have := HM.out; simp; omega⟩, Boxed.other (W := V.drew) bW3 (by omega) _⟩, ⟨⟨?_, Boxed.other (W := V.drew) bN3 (by omega) _⟩, Boxed.other (W := V.drew) bM3 (by have := HZ.out; omega) _, DefAt.set (W := V.drew) hD3 HZ.out.2.2.2 _⟩, hB3.drew.setCell (p := ⟨w1.heap.size + 1 + 1, 0, none⟩) (by simp; omega) _⟩
          rw [show ((pre ++ [x]).length : Int) = (pre.length : Int) + 1 by simp]
          exact Boxed.set (W := V.drew) _ bA3
        · have hT : (decide (L.length ≤ pre.length) || (!x.fst == y.fst || !x.snd == y.snd)) = true := by
            cases h1 : (x.fst == y.fst) <;> cases h2 : (x.snd == y.snd) <;> simp
            exact absurd (Prod.ext (by simpa using h1) (by simpa using h2)) hxy
          rw [hT]
          clear hT hlt2 NP d0 d1 c0 c1 cA fA cW cM i1 i2
          gi_wp2
          exact ⟨((KeepsOthers.drew V).trans (KeepsOthers.setCell _ _ _)).from _, .inl ⟨rfl, fun h => hxy (HP.out.1 h)⟩⟩
    case done2 =>
      rintro D2 zs V hD2 hz ⟨⟨⟨hp, hpM⟩, bW3⟩, ⟨⟨bA3, bN3⟩, bM3, hD3⟩, hB3⟩ hK3
      rw [hz] at bA3 hpM
      clear hz hp
      rcases Nat.lt_or_eq_of_le hpM with hlt3 | heq3
      · have cW := bW3.cell
        have cA := bA3.cell
        have cM := bM3.cell
        have bR1 : Boxed V w.heap.size 4 (.bool false) := (hB3.block w.heap.size HR.out.1).trans HR.out.2
        have cR := bR1.cell
        have fR := bR1.frozen
        gi_wp2
        have bR2 := Boxed.set (.bool true) bR1
        have hk1 : DefAt (V.setCell ⟨w.heap.size, 0, none⟩ (.bool true)) D2 := DefAt.set hK3 (by have := HZ.out; have := HR.out.1; omega) _
        have hDD : D2 ≠ D := by have := HZ.out; omega
        have hk2 : DefAt ((V.setCell ⟨w.heap.size, 0, none⟩ (.bool true)).putObj D2 (.deferred none)) D := (World.putObj_heap_other (fun e => hDD e.symm)).trans (DefAt.set hD3 (by have := HS.out; have := HR.out.1; omega) _)
        have bR3 : Boxed ((V.setCell ⟨w.heap.size, 0, none⟩ (.bool true)).putObj D2 (.deferred none)) w.heap.size 4 (.bool true) := bR2.kept (grownBy_putObj' _ _ _) (fun e => by cases e; have := HZ.out; have := HR.out.1; omega)
        have bR4 : Boxed (((V.setCell ⟨w.heap.size, 0, none⟩ (.bool true)).putObj D2 (.deferred none)).putObj D (.deferred none)) w.heap.size 4 (.bool true) := bR3.kept (grownBy_putObj' _ _ _) (fun e => by cases e; have := HS.out; have := HR.out.1; omega)
        refine ⟨by simp, .inl ⟨_, _, rfl, run_takeDeferred hk1, ?_⟩⟩
        refine ⟨by simp, .inl ⟨_, _, rfl, run_takeDeferred hk2, ?_⟩⟩
        have hc5 := bR4.cell
        have hBe : Below w.heap.size w V := ((Below.refl _ w).alloc (Nat.le_refl _) _).trans ((hb1.mono (by simp)).trans (hB3.mono (by have := HR.out.1; omega)))
        have hBf := hBe.setCell (p := ⟨w.heap.size, 0, none⟩) (by simp) (.bool true)
        refine ⟨.bool true, ?_, rfl, (hBf.trans (belowK_b (w := w) (Nat.le_refl _) _ D2 _ _ (by have := HZ.out; have := HR.out.1; omega) hk1 rfl rfl)).trans (belowK_b (w := w) (Nat.le_refl _) _ D _ _ (by have := HS.out; have := HR.out.1; omega) hk2 rfl rfl)⟩
        simp [results, Try.f4, go_sem, hc5]
      · rw [← heq3] at bM3
        clear heq3 hpM
        have cW := bW3.cell
        have cA := bA3.cell
        have cM := bM3.cell
        have bR1 : Boxed V w.heap.size 4 (.bool false) := (hB3.block w.heap.size HR.out.1).trans HR.out.2
        have cR := bR1.cell
        have fR := bR1.frozen
        gi_wp2
        have bR2 := Boxed.set (.bool true) bR1
        have hk1 : DefAt (V.setCell ⟨w.heap.size, 0, none⟩ (.bool true)) D2 := DefAt.set hK3 (by have := HZ.out; have := HR.out.1; omega) _
        have hDD : D2 ≠ D := by have := HZ.out; omega
        have hk2 : DefAt ((V.setCell ⟨w.heap.size, 0, none⟩ (.bool true)).putObj D2 (.deferred none)) D := (World.putObj_heap_other (fun e => hDD e.symm)).trans (DefAt.set hD3 (by have := HS.out; have := HR.out.1; omega) _)
        have bR3 : Boxed ((V.setCell ⟨w.heap.size, 0, none⟩ (.bool true)).putObj D2 (.deferred none)) w.heap.size 4 (.bool true) := bR2.kept (grownBy_putObj' _ _ _) (fun e => by cases e; have := HZ.out; have := HR.out.1; omega)
        have bR4 : Boxed (((V.setCell ⟨w.heap.size, 0, none⟩ (.bool true)).putObj D2 (.deferred none)).putObj D (.deferred none)) w.heap.size 4 (.bool true) := bR3.kept (grownBy_putObj' _ _ _) (fun e => by cases e; have := HS.out; have := HR.out.1; omega)
        refine ⟨by simp, .inl ⟨_, _, rfl, run_takeDeferred hk1, ?_⟩⟩
        refine ⟨by simp, .inl ⟨_, _, rfl, run_takeDeferred hk2, ?_⟩⟩
        have hc5 := bR4.cell
        have hBe : Below w.heap.size w V := ((Below.refl _ w).alloc (Nat.le_refl _) _).trans ((hb1.mono (by simp)).trans (hB3.mono (by have := HR.out.1; omega)))
        have hBf := hBe.setCell (p := ⟨w.heap.size, 0, none⟩) (by simp) (.bool true)
        refine ⟨.bool true, ?_, rfl, (hBf.trans (belowK_b (w := w) (Nat.le_refl _) _ D2 _ _ (by have := HZ.out; have := HR.out.1; omega) hk1 rfl rfl)).trans (belowK_b (w := w) (Nat.le_refl _) _ D _ _ (by have := HS.out; have := HR.out.1; omega) hk2 rfl rfl)⟩
        simp [results, Try.f4, go_sem, hc5]
    case stop2 =>
      rintro D2 cc pre V hD2 hpre (⟨_, hx⟩ | ⟨⟨⟨rfl, hl⟩, bW3⟩, ⟨bA3, bM3, hD3⟩, hB3⟩) hK3
      · exact absurd hpre hx
      have hpM : M < L.length := by have := hpre.length_le; omega
      have cW := bW3.cell
      have cA := bA3.cell
      have cM := bM3.cell
      have bR1 : Boxed V w.heap.size 4 (.bool false) := (hB3.block w.heap.size HR.out.1).trans HR.out.2
      have cR := bR1.cell
      have fR := bR1.frozen
      gi_wp2
      have bR2 := Boxed.set (.bool true) bR1
      have hk1 : DefAt (V.setCell ⟨w.heap.size, 0, none⟩ (.bool true)) D2 := DefAt.set hK3 (by have := HZ.out; have := HR.out.1; omega) _
      have hDD : D2 ≠ D := by have := HZ.out; omega
      have hk2 : DefAt ((V.setCell ⟨w.heap.size, 0, none⟩ (.bool true)).putObj D2 (.deferred none)) D := (World.putObj_heap_other (fun e => hDD e.symm)).trans (DefAt.set hD3 (by have := HS.out; have := HR.out.1; omega) _)
      have bR3 : Boxed ((V.setCell ⟨w.heap.size, 0, none⟩ (.bool true)).putObj D2 (.deferred none)) w.heap.size 4 (.bool true) := bR2.kept (grownBy_putObj' _ _ _) (fun e => by cases e; have := HZ.out; have := HR.out.1; omega)
      have bR4 : Boxed (((V.setCell ⟨w.heap.size, 0, none⟩ (.bool true)).putObj D2 (.deferred none)).putObj D (.deferred none)) w.heap.size 4 (.bool true) := bR3.kept (grownBy_putObj' _ _ _) (fun e => by cases e; have := HS.out; have := HR.out.1; omega)
      refine ⟨by simp, .inl ⟨_, _, rfl, run_takeDeferred hk1, ?_⟩⟩
      refine ⟨by simp, .inl ⟨_, _, rfl, run_takeDeferred hk2, ?_⟩⟩
      have hc5 := bR4.cell
      have hBe : Below w.heap.size w V := ((Below.refl _ w).alloc (Nat.le_refl _) _).trans ((hb1.mono (by simp)).trans (hB3.mono (by have := HR.out.1; omega)))
      have hBf := hBe.setCell (p := ⟨w.heap.size, 0, none⟩) (by simp) (.bool true)
      refine ⟨.bool true, ?_, rfl, (hBf.trans (belowK_b (w := w) (Nat.le_refl _) _ D2 _ _ (by have := HZ.out; have := HR.out.1; omega) hk1 rfl rfl)).trans (belowK_b (w := w) (Nat.le_refl _) _ D _ _ (by have := HS.out; have := HR.out.1; omega) hk2 rfl rfl)⟩
      simp [results, Try.f4, go_sem, hc5]
  case stop =>
    rintro D cc pre W hD hpre ⟨_, hx⟩ hK
    exact absurd hpre hx
end Go.Proofs.Ytnjmfkdekcgopaa
