/- NetworkGates: the walk. -/
import Derived.Test.YtlkpgbilepehmaaRGat
import Derived.Test.YtlkpgbilepehmaaNBitN
import Derived.Test.YtlkpgbilepehmaaNFlatC
namespace Go.Proofs.Ytlkpgbilepehmaa
open Go.RowKit Go.Shelf
set_option linter.unusedVariables false
set_option linter.unusedSimpArgs false
attribute [local go_sem] Oper.semAt_some

/-- The document's gates as data. -/
structure GatesAt (w : World) (so : Option Addr) (l : List (Int × Int)) : Prop where
  at_ : ∀ (i : Nat) x, l[i]? = some x → ∃ g, so = some ⟨g, 0, none⟩ ∧ g < w.heap.size ∧ w.cell? ⟨g, i * 2, none⟩ = some (.int .i64 x.1) ∧ w.cell? ⟨g, i * 2 + 1, none⟩ = some (.int .i64 x.2)
theorem hopC_atG (l : List (Int × Int)) (i : Nat) (x : Int × Int) (h : l[i]? = some x) : (hopC l)[i * 2]? = some (.int .i64 x.1) ∧ (hopC l)[i * 2 + 1]? = some (.int .i64 x.2) := by
  induction l generalizing i with
  | nil => simp at h
  | cons a r ih =>
    cases i with
    | zero => simp at h; subst h; simp [hopC]
    | succ i =>
      simp at h
      have := ih i h
      have e : hopC (a :: r) = .int .i64 a.1 :: .int .i64 a.2 :: hopC r := by simp [hopC]
      rw [e, show (i + 1) * 2 = i * 2 + 1 + 1 from by omega]
      simpa using this
theorem gates_own {w : World} {B : Nat} {v : Value} {l : List (Int × Int)} (h : w.ownsRow B 29 2 v l.length (hopC l)) : ∃ so c, v = .slice so l.length c ∧ GatesAt w so l ∧ l.length ≤ c := by
  rcases h.2 with ⟨rfl, hx⟩ | ⟨g, cap, cur, rfl, hB, hh, hc, hm, hs, ht⟩
  · have e : l = [] := List.eq_nil_of_length_eq_zero hx
    subst e
    exact ⟨none, 0, rfl, ⟨fun i x hi => by simp at hi⟩, Nat.le_refl _⟩
  · refine ⟨_, cap, rfl, ⟨fun i x hi => ⟨g, rfl, (Array.getElem?_eq_some_iff.1 hh).1, ?_, ?_⟩⟩, hc⟩
    all_goals
      have hl := (List.getElem?_eq_some_iff.1 hi).1
      have hq := hopC_atG l i x hi
      rw [cell_of_row w g _ _ 29 (0, 0) hh, ← Array.getElem?_toList]
    · have q : (cur.toList.take (l.length * 2))[i * 2]? = (hopC l)[i * 2]? := by rw [ht]
      rw [List.getElem?_take, if_pos (by omega)] at q
      rw [q, hq.1]
    · have q : (cur.toList.take (l.length * 2))[i * 2 + 1]? = (hopC l)[i * 2 + 1]? := by rw [ht]
      rw [List.getElem?_take, if_pos (by omega)] at q
      rw [q, hq.2]
theorem GatesAt.below {w w' : World} {so : Option Addr} {l : List (Int × Int)} (h : GatesAt w so l) (hb : Below w.heap.size w w') : GatesAt w' so l :=
  ⟨fun i x hi => by
    obtain ⟨g, e, hg, h1, h2⟩ := h.at_ i x hi
    exact ⟨g, e, by have := hb.size; omega, (hb.cell (p := ⟨g, i * 2, none⟩) hg).trans h1, (hb.cell (p := ⟨g, i * 2 + 1, none⟩) hg).trans h2⟩⟩
theorem neq_gate (a b c d : Int) (w : World) : (binOp .neq 29 (.agg #[.int .i64 a, .int .i64 b]) (.agg #[.int .i64 c, .int .i64 d])).run Try.prog w = .ok (.bool (!(a == c && b == d))) w := by
  have hf : Try.prog.underlying 29 = some (.struct (Try.prog.fieldsOf 29)) := by kernel_rfl
  have hp : Try.prog.stoodInHeld 29 = false := by kernel_rfl
  have hl : (Try.prog.fieldsOf 29).toList = [{ name := "Low", type := 3, offset := 0, embedded := false, tag := "", pkgPath := "", byteOffset := 0 }, { name := "High", type := 3, offset := 1, embedded := false, tag := "", pkgPath := "", byteOffset := 8 }] := by kernel_rfl
  rw [run_neq_struct, run_equalIn_struct w 9999 29 _ _ hf hp, hl]
  have p0 : ∀ r c : Int, (Go.part 3 #[.int .i64 r, .int .i64 c] 0).run Try.prog w = .ok (.int .i64 r) w := fun r c => by simp [Go.part, isAgg, run_underlying Try.underlying3]
  have p1 : ∀ r c : Int, (Go.part 3 #[.int .i64 r, .int .i64 c] 1).run Try.prog w = .ok (.int .i64 c) w := fun r c => by simp [Go.part, isAgg, run_underlying Try.underlying3]
  have q0 : ∀ x y : Int, (Op.equalIn 9999 3 (.int .i64 x) (.int .i64 y)).run Try.prog w = .ok (x == y) w := fun x y => by rw [run_equalIn_int w 9998 3 .i64 .i64 _ _ Try.underlying3]
  cases h0 : (a == c) <;> cases h1 : (b == d) <;> simp [Op.eqFields, p0, p1, q0, h0, h1]
theorem most_isG (early : Int) : ∃ M : Nat, wrap64 ((IntKind.u64.wrap early).tmod 40) = (M : Int) ∧ M < 40 := by
  have h0 : 0 ≤ IntKind.u64.wrap early := by
    simp only [IntKind.wrap, IntKind.signed, IntKind.bits]
    simp
    omega
  have h1 : (IntKind.u64.wrap early).tmod 40 = IntKind.u64.wrap early % 40 := Int.tmod_eq_emod_of_nonneg h0
  refine ⟨(IntKind.u64.wrap early % 40).toNat, ?_, by omega⟩
  rw [h1]
  have h2 : wrap64 (IntKind.u64.wrap early % 40) = IntKind.u64.wrap early % 40 := by unfold wrap64; omega
  rw [h2]; omega
theorem eql_nilG (lb : Array Value) (w : World) : (binOp .eql 25 (.func (.func 33) #[] lb) .nilFunc).run Try.prog w = .ok (.bool false) w := by
  kernel_rfl
/-- A loop's row of deferred calls, empty. -/
def DefG (W : World) (D : Nat) : Prop := W.heap[D]? = some (.deferred (some []))
theorem DefG.lt {W : World} {D : Nat} (h : DefG W D) : D < W.heap.size := (Array.getElem?_eq_some_iff.1 h).1
theorem DefG.alloc {W : World} {D : Nat} (h : DefG W D) (o : Obj) : DefG (W.alloc o) D := (Below.heap_alloc W o D (Array.getElem?_eq_some_iff.1 h).1).trans h
theorem DefG.set {W : World} {D B : Nat} (h : DefG W D) (hne : D ≠ B) (u : Value) : DefG (W.setCell ⟨B, 0, none⟩ u) D := (Below.heap_setCell _ _ _ _ hne).trans h
theorem defG_own {β : Type} {B D : Nat} (hD : D < B) : OwnFrom B (fun (_ : β) W => DefG W D) := fun s X Y row hs hg hr =>
  (hg.block D (Array.getElem?_eq_some_iff.1 hs).1 (fun e => by have := (hr D e.symm).1; omega)).trans hs
theorem ownFrom_orG {β : Type} {B : Nat} {I I' : β → World → Prop} (h : OwnFrom B I) (h' : OwnFrom B I') : OwnFrom B (fun s W => I s W ∨ I' s W) :=
  fun s W W' row hs hg hr => hs.elim (fun x => .inl (h s W W' row x hg hr)) (fun x => .inr (h' s W W' row x hg hr))
theorem pre_nextG {L pre : List (Int × Int)} (h : pre <+: L) {y : Int × Int} (hy : L[pre.length]? = some y) (x : Int × Int) : pre ++ [x] <+: L ↔ x = y := by
  obtain ⟨r, rfl⟩ := h
  rw [List.getElem?_append_right (Nat.le_refl _), Nat.sub_self] at hy
  cases r with
  | nil => simp at hy
  | cons z r =>
    simp at hy
    subst hy
    rw [List.prefix_append_right_inj]
    simp
theorem put_below {w W : World} {B D : Nat} (h : Below B w W) (hD : B ≤ D) (o : Obj) : Below B w (W.putObj D o) :=
  h.trans ⟨rfl, rfl, rfl, by simp [World.putObj], fun k hk => World.putObj_heap_other (by omega)⟩

set_option maxRecDepth 100000 in
set_option maxHeartbeats 4000000 in
theorem gatesLawOf (n early : Int) (L : List (Int × Int)) (hLb : L.length ≤ 4456448) (w : World)
    (hRG : ∀ w, Calls Try.prog 9 #[.int .i64 n] w fun e w' => ∃ v, e = .returned v ∧ w'.ownsRow w.heap.size 29 2 v L.length (hopC L) ∧ Below w.heap.size w w')
    (hGa : ∀ w, Calls Try.prog 13 #[.int .i64 n] w fun e w' => e = .returned (.int .i64 (L.length : Int)) ∧ w = w')
    (hSq : ∀ (Bn : Nat) (W : World), Boxed W Bn 3 (.int .i64 n) → SeqO Fence.wide 8 Try.prog 33 #[.pointer (some ⟨Bn, 0, none⟩)] hopV (fun V V' => KpB Bn n V V' ∧ Above (W.heap.size + 2) V V') (fun ys => ys = L) (fun pre => pre <+: L) L.length W) :
    Calls Try.prog 3 #[.int .i64 n, .int .i64 early] w fun e w' => e = .returned (.bool true) ∧ Below w.heap.size w w' := by
  have HSq : Hid (∀ (Bn : Nat) (W : World), Boxed W Bn 3 (.int .i64 n) → SeqO Fence.wide 8 Try.prog 33 #[.pointer (some ⟨Bn, 0, none⟩)] hopV (fun V V' => KpB Bn n V V' ∧ Above (W.heap.size + 2) V V') (fun ys => ys = L) (fun pre => pre <+: L) L.length W) := hSq
  clear hSq
  refine (callsIn_wide (n := 9)).1 ?_
  refine callsIn_of_wp_marks Try.func3 rfl trivial ?_ rfl
  simp only [Try.ntmps3, List.size_toArray, List.length_cons, List.length_nil, Nat.reduceAdd, Nat.reduceSub, Array.replicate_succ, Array.replicate_zero, List.push_toArray, List.append_toArray, List.nil_append, List.cons_append]
  gi_wp2_with (first | (refine ⟨trivial, ?_⟩; gi_at_call 9; refine (callsIn_wide.2 (hRG _)).mono ?_; rintro e w1 ⟨v, rfl, hv, hb1⟩; obtain ⟨so, c, rfl, hs1, hc1⟩ := gates_own hv; clear hv) | (refine ⟨trivial, ?_⟩; gi_at_call 10; refine (bit_in _ _ trivial rfl n _).mono ?_; rintro e w2 ⟨rfl, rfl⟩))
  have EQ := eql_nilG #[.pointer (some ⟨w1.heap.size + 1, 0, none⟩)]
  have hp5 : ∀ w, Calls Try.prog 11 #[.int .i64 5] w fun e w' => e = .returned (.int .i64 8) ∧ w = w' := fun w => by
    have := pad_any 5 w
    rwa [show padI 5 = 8 by decide +kernel] at this
  have HR : Hid (w.heap.size < w1.heap.size ∧ Boxed w1 w.heap.size 4 (.bool false)) := ⟨(by have := hb1.size; simp at this; omega), (hb1.block w.heap.size (by simp)).trans (Boxed.new w _ _)⟩
  have hB00 : Below w.heap.size w w1 := ((Below.refl _ w).alloc (Nat.le_refl _) _).trans ⟨hb1.os, hb1.tape, hb1.output, hb1.size, fun k hk => hb1.block k (by simp; omega)⟩
  have bW0 := (Boxed.new w1 22 (.slice so L.length c)).alloc (.cells #[.int .i64 n] 3)
  have bN0 := Boxed.new (w1.alloc (.cells #[.slice so L.length c] 22)) 3 (.int .i64 n)
  simp only [World.size_alloc] at bN0
  have hB0 : Below w1.heap.size w1 ((w1.alloc (.cells #[.slice so L.length c] 22)).alloc (.cells #[.int .i64 n] 3)) := ((Below.refl _ w1).alloc (Nat.le_refl _) _).alloc (by simp) _
  have hsz0 : ((w1.alloc (.cells #[.slice so L.length c] 22)).alloc (.cells #[.int .i64 n] 3)).heap.size = w1.heap.size + 2 := by simp
  obtain ⟨Wa, hWa⟩ : ∃ Wa, (w1.alloc (.cells #[.slice so L.length c] 22)).alloc (.cells #[.int .i64 n] 3) = Wa := ⟨_, rfl⟩
  rw [hWa] at bW0 bN0 hB0 hsz0 ⊢
  clear hWa hb1
  have cW : Wa.drew.cell? ⟨w1.heap.size, 0, none⟩ = _ := bW0.cell
  refine region_flatC [.int .i64 n, .int .i64 (padI n), .int .i64 n, .int .i64 (padI n), .bool false, .bool false, .int .i64 n, .int .i64 (L.length : Int), .slice so L.length c, .int .i64 (L.length : Int), .bool false, .bool false, .bool false, .func (.func 33) #[] #[.pointer (some ⟨w1.heap.size + 1, 0, none⟩)], .bool false, .bool false, .bool false, .int .i64 8, .bool false, .bool false]
    { tmps := #[.int .i64 n, .int .i64 early, undef, undef, .pointer (some ⟨w.heap.size, 0, none⟩), .pointer (some ⟨w1.heap.size, 0, none⟩), .func (.func 33) #[] #[.pointer (some ⟨w1.heap.size + 1, 0, none⟩)], undef, undef, undef, undef, .int .i64 n, .slice so L.length c, .int .i64 n, .func (.func 33) #[] #[.pointer (some ⟨w1.heap.size + 1, 0, none⟩)], .int .i64 n, .int .i64 (padI n), .int .i64 n, .int .i64 (padI n), .bool false, .bool false, .int .i64 n, .int .i64 (L.length : Int), .slice so L.length c, .int .i64 (L.length : Int), .bool false, .bool false, .bool false, .func (.func 33) #[] #[.pointer (some ⟨w1.heap.size + 1, 0, none⟩)], .bool false, .bool false, .bool false, .int .i64 8, .bool false, .bool false, undef, undef, undef, undef, undef, undef, undef, undef, undef, undef, undef, undef, undef, undef, undef, undef, undef, undef, undef, undef, undef, undef, undef, undef, undef, undef, undef, undef, undef, undef, undef, undef, undef, undef, undef, undef, undef, undef, undef, undef, undef, undef, undef, undef, undef, undef, undef, undef, undef, undef, undef, undef, undef], defers := [] } (fun _ => trivial) (by kernel_rfl) (by kernel_rfl) (by kernel_rfl) (by kernel_rfl) 
    (ValsC.cons (by kernel_rfl) (by kernel_rfl) 
    (ValsC.call 11 _ (by kernel_rfl) ((exec_calln 11 #[.tmp 15] #[3] rfl rfl (enters_of Try.func11 (by kernel_rfl) rfl)).trans (by kernel_rfl)) (fun h => Bool.noConfusion (show false = true from h)) (callsIn_wide.2 (pad_any n _)) 
    (ValsC.cons (by kernel_rfl) (by kernel_rfl) 
    (ValsC.call 12 _ (by kernel_rfl) ((exec_calln 12 #[.tmp 17] #[3] rfl rfl (enters_of Try.func12 (by kernel_rfl) rfl)).trans (by kernel_rfl)) (fun h => Bool.noConfusion (show false = true from h)) (callsIn_wide.2 (rpad_any n _)) 
    (ValsC.cons (by kernel_rfl) (by simp [go_sem]) 
    (ValsC.cons (by kernel_rfl) (by simp [go_sem]) 
    (ValsC.cons (by kernel_rfl) (by kernel_rfl) 
    (ValsC.call 13 _ (by kernel_rfl) ((exec_calln 13 #[.tmp 21] #[3] rfl rfl (enters_of Try.func13 (by kernel_rfl) rfl)).trans (by kernel_rfl)) (fun h => Bool.noConfusion (show false = true from h)) (callsIn_wide.2 (hGa _)) 
    (ValsC.cons (by kernel_rfl) (by simp [go_sem, cW]) 
    (ValsC.cons (by kernel_rfl) (by simp [go_sem]) 
    (ValsC.cons (by kernel_rfl) (by simp [go_sem]) 
    (ValsC.cons (by kernel_rfl) (by simp [go_sem]) 
    (ValsC.cons (by kernel_rfl) (by simp [go_sem]) 
    (ValsC.cons (by kernel_rfl) (by kernel_rfl) 
    (ValsC.cons (by kernel_rfl) (by simp [go_sem, EQ]) 
    (ValsC.cons (by kernel_rfl) (by simp [go_sem]) 
    (ValsC.cons (by kernel_rfl) (by simp [go_sem]) 
    (ValsC.call 11 _ (by kernel_rfl) ((exec_calln 11 #[.const (.int .i64 5)] #[3] rfl rfl (enters_of Try.func11 (by kernel_rfl) rfl)).trans (by kernel_rfl)) (fun h => Bool.noConfusion (show false = true from h)) (callsIn_wide.2 (hp5 _)) 
    (ValsC.cons (by kernel_rfl) (by simp [go_sem]) 
    (ValsC.cons (by kernel_rfl) (by simp [go_sem]) ValsC.nil)))))))))))))))))))) ?_
  clear cW EQ hp5 hRG hGa
  have hszd : Wa.drew.heap.size = w1.heap.size + 2 := hsz0
  have bWd : Boxed Wa.drew w1.heap.size 22 (.slice so L.length c) := bW0
  have bNd : Boxed Wa.drew (w1.heap.size + 1) 3 (.int .i64 n) := bN0
  have hBd : Below w1.heap.size w1 Wa.drew := ⟨hB0.os, hB0.tape, hB0.output, hB0.size, hB0.block⟩
  obtain ⟨Wd, hWd⟩ : ∃ Wd, Wa.drew = Wd := ⟨_, rfl⟩
  rw [hWd] at bWd bNd hBd hszd ⊢
  clear hWd bW0 bN0 hB0 hsz0
  have HSd : Hid (Wd.heap.size = w1.heap.size + 2) := hszd
  clear hszd
  gi_wp2
  have bA0 := Boxed.new Wd 3 (.int .i64 0)
  have bW0 := bWd.alloc (.cells #[.int .i64 0] 3)
  have bN0 := bNd.alloc (.cells #[.int .i64 0] 3)
  have hB0 := hBd.alloc hBd.size (.cells #[.int .i64 0] 3)
  have hsz : (Wd.alloc (.cells #[.int .i64 0] 3)).heap.size = Wd.heap.size + 1 := by simp
  obtain ⟨W0, hW0⟩ : ∃ W0, Wd.alloc (.cells #[.int .i64 0] 3) = W0 := ⟨_, rfl⟩
  rw [hW0] at bA0 bW0 bN0 hB0 hsz ⊢
  have HS : Hid (W0.heap.size = Wd.heap.size + 1 ∧ Wd.heap.size = w1.heap.size + 2) := ⟨hsz, HSd.out⟩
  clear hW0 hsz bWd bNd hBd
  refine range_own rfl (by omega) (gf := 33) (lb := #[.pointer (some ⟨w1.heap.size + 1, 0, none⟩)]) rfl trivial (enters_of Try.func33 (by kernel_rfl) rfl)
    (HSq.out (w1.heap.size + 1) W0 bN0)
    (fun h k => ⟨kpB_t h.1 k.1, h.2.trans k.2⟩) (fun W o o' h hc => ⟨fun x => x.kept (grownBy_putObj' W _ o') (fun e => by have := HS.out; have e2 := Option.some.inj e; omega), Above.put W o' (by omega)⟩) (fun _ => rfl)
    (fun pre W => (pre <+: L ∧ Boxed W w1.heap.size 22 (.slice so L.length c)) ∧ (Boxed W Wd.heap.size 3 (.int .i64 (pre.length : Int)) ∧ Boxed W (w1.heap.size + 1) 3 (.int .i64 n)) ∧ Below w1.heap.size w1 W)
    (fun cc pre _ => cc = .ret ∧ ¬ pre <+: L)
    (OwnFrom.and (OwnFrom.and (ownFrom_pure _ _) (Own.from (boxed_own _ _ _) _)) (OwnFrom.and (OwnFrom.and (Own.from (boxed_own _ _ _) _) (Own.from (boxed_own _ _ _) _)) (ownFrom_below (Nat.le_refl _) (by have := HS.out; omega))))
    (fun cc => ownFrom_pure _ _)
    ⟨⟨List.nil_prefix, bW0⟩, ⟨bA0, bN0⟩, hB0⟩
    (fun x a' W => ∃ Bx, Wd.heap.size < Bx ∧ TwoG W Bx x ∧ a' = { tmps := #[.int .i64 n, .int .i64 early, undef, undef, .pointer (some ⟨w.heap.size, 0, none⟩), .pointer (some ⟨w1.heap.size, 0, none⟩), .func (.func 33) #[] #[.pointer (some ⟨w1.heap.size + 1, 0, none⟩)], .pointer (some ⟨Wd.heap.size, 0, none⟩), .pointer (some ⟨Bx, 0, none⟩), undef, undef, .int .i64 n, .slice so L.length c, .int .i64 n, .func (.func 33) #[] #[.pointer (some ⟨w1.heap.size + 1, 0, none⟩)], .int .i64 n, .int .i64 (padI n), .int .i64 n, .int .i64 (padI n), .bool false, .bool false, .int .i64 n, .int .i64 (L.length : Int), .slice so L.length c, .int .i64 (L.length : Int), .bool false, .bool false, .bool false, .func (.func 33) #[] #[.pointer (some ⟨w1.heap.size + 1, 0, none⟩)], .bool false, .bool false, .bool false, .int .i64 8, .bool false, .bool false, .func (.func 33) #[] #[.pointer (some ⟨w1.heap.size + 1, 0, none⟩)], .agg #[.int .i64 x.1, .int .i64 x.2], undef, undef, undef, undef, undef, undef, undef, undef, undef, undef, undef, undef, undef, undef, undef, undef, undef, undef, undef, undef, undef, undef, undef, undef, undef, undef, undef, undef, undef, undef, undef, undef, undef, undef, undef, undef, undef, undef, undef, undef, undef, undef, undef, undef, undef, undef, undef, undef, undef, undef, undef], defers := [] })
    (fun x a' _ X Y row hs hg hr => by obtain ⟨Bx, h1, h2, h3⟩ := hs; exact ⟨Bx, h1, twoG_own Bx x () X Y row h2 hg (fun r e => (hr r e).2), h3⟩)
    ?assign ?body ?done ?stop
  case assign =>
    rintro l pre x W K ⟨⟨hp, bW1⟩, ⟨bA1, bN1⟩, hB1⟩ hK
    simp only [hopV]
    gi_wp2
    refine hK _ _ ((KeepsOthers.alloc _ _).from _) ⟨fun h => h.alloc _, Above.below ((Below.refl _ W).alloc (Nat.le_refl _) _)⟩ ⟨⟨hp, bW1.alloc _⟩, ⟨bA1.alloc _, bN1.alloc _⟩, hB1.alloc hB1.size _⟩ ⟨W.heap.size, bA1.lt, ?_, rfl⟩
    exact World.alloc_heap_new W _
  case body =>
    rintro l pre x a' W hl hr0 ⟨⟨hp, bW1⟩, ⟨bA1, bN1⟩, hB1⟩ ⟨Bx, hBx, bX, rfl⟩ hlt
    have hs2 := hs1.below hB1
    obtain ⟨y, hy⟩ : ∃ y, L[pre.length]? = some y := ⟨_, List.getElem?_eq_getElem hlt⟩
    obtain ⟨g, rfl, hg, e0, e1⟩ := hs2.at_ _ _ hy
    have HP : Hid (pre ++ [x] <+: L ↔ x = y) := pre_nextG hp hy x
    obtain ⟨t, ht⟩ : ∃ t, (!(x.1 == y.1 && x.2 == y.2)) = t := ⟨_, rfl⟩
    have NP : ∀ w, (binOp .neq 29 (.agg #[.int .i64 x.1, .int .i64 x.2]) (.agg #[.int .i64 y.1, .int .i64 y.2])).run Try.prog w = .ok (.bool t) w := fun w => by rw [neq_gate, ht]
    have HT : Hid (t = false ↔ x = y) := by
      show t = false ↔ x = y
      rw [← ht]
      constructor
      · intro h; exact Prod.ext (by simp at h; exact h.1) (by simp at h; exact h.2)
      · rintro rfl; simp
    have cA : W.drew.cell? ⟨Wd.heap.size, 0, none⟩ = _ := bA1.cell
    have cW : W.drew.cell? ⟨w1.heap.size, 0, none⟩ = _ := bW1.cell
    have c0 : W.drew.cell? ⟨Bx, 0, none⟩ = _ := bX.fst
    have c1 : W.drew.cell? ⟨Bx, 1, none⟩ = _ := bX.snd
    have d0 : W.drew.cell? ⟨g, pre.length * 2, none⟩ = _ := e0
    have d1 : W.drew.cell? ⟨g, pre.length * 2 + 1, none⟩ = _ := e1
    clear hs2 hy hp ht e0 e1
    gi_wp2
    refine region_flatC [.int .i64 (pre.length : Int), .slice (some ⟨g, 0, none⟩) L.length c, .int .i64 (L.length : Int), .bool false, .bool false, .agg #[.int .i64 x.1, .int .i64 x.2], .slice (some ⟨g, 0, none⟩) L.length c, .int .i64 (pre.length : Int), .pointer (some ⟨g, pre.length * 2, none⟩), .agg #[.int .i64 y.1, .int .i64 y.2], .bool t, .bool t]
      { tmps := #[.int .i64 n, .int .i64 early, undef, undef, .pointer (some ⟨w.heap.size, 0, none⟩), .pointer (some ⟨w1.heap.size, 0, none⟩), .func (.func 33) #[] #[.pointer (some ⟨w1.heap.size + 1, 0, none⟩)], .pointer (some ⟨Wd.heap.size, 0, none⟩), .pointer (some ⟨Bx, 0, none⟩), undef, undef, .int .i64 n, .slice (some ⟨g, 0, none⟩) L.length c, .int .i64 n, .func (.func 33) #[] #[.pointer (some ⟨w1.heap.size + 1, 0, none⟩)], .int .i64 n, .int .i64 (padI n), .int .i64 n, .int .i64 (padI n), .bool false, .bool false, .int .i64 n, .int .i64 (L.length : Int), .slice (some ⟨g, 0, none⟩) L.length c, .int .i64 (L.length : Int), .bool false, .bool false, .bool false, .func (.func 33) #[] #[.pointer (some ⟨w1.heap.size + 1, 0, none⟩)], .bool false, .bool false, .bool false, .int .i64 8, .bool false, .bool false, .func (.func 33) #[] #[.pointer (some ⟨w1.heap.size + 1, 0, none⟩)], .agg #[.int .i64 x.1, .int .i64 x.2], .int .i64 (pre.length : Int), .slice (some ⟨g, 0, none⟩) L.length c, .int .i64 (L.length : Int), .bool false, .bool false, .agg #[.int .i64 x.1, .int .i64 x.2], .slice (some ⟨g, 0, none⟩) L.length c, .int .i64 (pre.length : Int), .pointer (some ⟨g, pre.length * 2, none⟩), .agg #[.int .i64 y.1, .int .i64 y.2], .bool t, .bool t, undef, undef, undef, undef, undef, undef, undef, undef, undef, undef, undef, undef, undef, undef, undef, undef, undef, undef, undef, undef, undef, undef, undef, undef, undef, undef, undef, undef, undef, undef, undef, undef, undef, undef, undef, undef, undef, undef, undef], defers := [] } (fun _ => trivial) (by kernel_rfl) (by kernel_rfl) (by kernel_rfl) (by kernel_rfl) 
          (ValsC.cons (by kernel_rfl) (by simp [go_sem, cA]) 
          (ValsC.cons (by kernel_rfl) (by simp [go_sem, cW]) 
          (ValsC.cons (by kernel_rfl) (by simp [go_sem]) 
          (ValsC.cons (by kernel_rfl) (by simp [go_sem]; omega) 
          (ValsC.cons (by kernel_rfl) (by simp [go_sem]) 
          (ValsC.cons (by kernel_rfl) (by simp [go_sem, c0, c1]) 
          (ValsC.cons (by kernel_rfl) (by simp [go_sem, cW]) 
          (ValsC.cons (by kernel_rfl) (by simp [go_sem, cA]) 
          (ValsC.cons (by kernel_rfl) (by simp [go_sem, hlt]) 
          (ValsC.cons (by kernel_rfl) (by simp [go_sem, d0, d1]) 
          (ValsC.cons (by kernel_rfl) (by simp [go_sem, NP]) 
          (ValsC.cons (by kernel_rfl) (by simp [go_sem]) ValsC.nil)))))))))))) ?_
    clear cW c0 c1 d0 d1 NP
    have fA : W.drew.frozen? ⟨Wd.heap.size, 0, none⟩ = false := bA1.frozen
    have bR1 : Boxed W.drew w.heap.size 4 (.bool false) := (hB1.block w.heap.size HR.out.1).trans HR.out.2
    have cR := bR1.cell
    have fR := bR1.frozen
    have abW : ∀ B, Above B W W.drew := fun B => ⟨Nat.le_refl _, fun _ _ _ => rfl⟩
    cases t with
    | false =>
      have HXY : Hid (x = y) := HT.out.1 rfl
      clear cR fR bR1
      gi_wp2
      refine ⟨((KeepsOthers.drew W).trans (KeepsOthers.setCell _ _ _)).from _, ⟨fun h => Boxed.other (W := W.drew) h (by have := HS.out; omega) _, (abW _).trans (Above.set (W.drew) _ (by have := HS.out; omega))⟩, ⟨HP.out.2 HXY.out, Boxed.other (W := W.drew) bW1 (by have := HS.out; omega) _⟩, ⟨?_, Boxed.other (W := W.drew) bN1 (by have := HS.out; omega) _⟩, hB1.drew.setCell (p := ⟨Wd.heap.size, 0, none⟩) (by have := HS.out; simp; omega) _⟩
      rw [show ((pre ++ [x]).length : Int) = (pre.length : Int) + 1 by simp]
      exact Boxed.set (W := W.drew) _ bA1
    | true =>
      have HXY : Hid (¬ x = y) := fun h => by have := HT.out.2 h; cases this
      clear cA fA
      gi_wp2
      exact ⟨((KeepsOthers.drew W).trans (KeepsOthers.setCell _ _ _)).from _, rfl, fun h => HXY.out (HP.out.1 h)⟩
  case done =>
    rintro D zs W hD hz ⟨⟨hp, bW1⟩, ⟨bA1, bN1⟩, hB1⟩ hK
    rw [hz] at bA1
    clear hz hp bW0 bN0 bA0 hB0
    obtain ⟨M, hM, hM40⟩ : ∃ M : Nat, wrap64 ((IntKind.u64.wrap early).tmod 40) = (M : Int) ∧ M < 40 := most_isG early
    have cA2 : ∀ o, (W.alloc o).cell? ⟨Wd.heap.size, 0, none⟩ = some (.int .i64 (L.length : Int)) := fun o => (bA1.alloc o).cell
    have fA2 : ∀ o, (W.alloc o).frozen? ⟨Wd.heap.size, 0, none⟩ = false := fun o => (bA1.alloc o).frozen
    have cW := bW1.cell
    have cA := bA1.cell
    have fA := bA1.frozen
    gi_wp2
    have bW2 := Boxed.other (bW1.alloc (.cells #[.int .i64 (M : Int)] 3)) (B' := Wd.heap.size) (by have := HS.out; omega) (.int .i64 0)
    have bN2 := Boxed.other (bN1.alloc (.cells #[.int .i64 (M : Int)] 3)) (B' := Wd.heap.size) (by have := HS.out; omega) (.int .i64 0)
    have bA2 := Boxed.set (.int .i64 0) (bA1.alloc (.cells #[.int .i64 (M : Int)] 3))
    have bM2 := Boxed.other (Boxed.new W 3 (.int .i64 (M : Int))) (B' := Wd.heap.size) (by have := bA1.lt; omega) (.int .i64 0)
    have hB2 := (hB1.alloc hB1.size (.cells #[.int .i64 (M : Int)] 3)).setCell (p := ⟨Wd.heap.size, 0, none⟩) (by have := HS.out; simp; omega) (.int .i64 0)
    have hDlt : D < W.heap.size := (Array.getElem?_eq_some_iff.1 hK).1
    have hDn : D ≠ Wd.heap.size := by have := HS.out; omega
    have hK2 : DefG ((W.alloc (.cells #[.int .i64 (M : Int)] 3)).setCell ⟨Wd.heap.size, 0, none⟩ (.int .i64 0)) D := DefG.set (DefG.alloc hK _) hDn _
    have hsz2 : ((W.alloc (.cells #[.int .i64 (M : Int)] 3)).setCell ⟨Wd.heap.size, 0, none⟩ (.int .i64 0)).heap.size = W.heap.size + 1 := by simp [World.setCell]
    have hW1 := bA1.lt
    obtain ⟨W3, hW3⟩ : ∃ W3, (W.alloc (.cells #[.int .i64 (M : Int)] 3)).setCell ⟨Wd.heap.size, 0, none⟩ (.int .i64 0) = W3 := ⟨_, rfl⟩
    rw [hW3] at bW2 bN2 bA2 bM2 hB2 hK2 hsz2 ⊢
    have HZ : Hid (W3.heap.size = W.heap.size + 1 ∧ Wd.heap.size < W.heap.size ∧ D < W.heap.size ∧ D ≠ Wd.heap.size ∧ W0.heap.size ≤ D) := ⟨hsz2, hW1, hDlt, hDn, hD⟩
    clear hM hW3 hsz2 hW1 hDlt hDn hB1 hK bW1 bA1 bN1 cA2 fA2 cW cA fA hD
    refine range_own rfl (by omega) (gf := 33) (lb := #[.pointer (some ⟨w1.heap.size + 1, 0, none⟩)]) rfl trivial (enters_of Try.func33 (by kernel_rfl) rfl)
      (HSq.out (w1.heap.size + 1) W3 bN2)
      (fun h k => ⟨kpB_t h.1 k.1, h.2.trans k.2⟩) (fun W o o' h hc => ⟨fun x => x.kept (grownBy_putObj' W _ o') (fun e => by have := HS.out; have := HZ.out; have e2 := Option.some.inj e; omega), Above.put W o' (by omega)⟩) (fun _ => rfl)
      (fun pre V => ((pre <+: L ∧ pre.length ≤ M) ∧ Boxed V w1.heap.size 22 (.slice so L.length c)) ∧ ((Boxed V Wd.heap.size 3 (.int .i64 (pre.length : Int)) ∧ Boxed V (w1.heap.size + 1) 3 (.int .i64 n)) ∧ (Boxed V W.heap.size 3 (.int .i64 (M : Int)) ∧ DefG V D)) ∧ Below w1.heap.size w1 V)
      (fun cc pre V => (cc = .ret ∧ ¬ pre <+: L) ∨ (((cc = .exit 2 ∧ pre.length = M + 1) ∧ Boxed V w1.heap.size 22 (.slice so L.length c)) ∧ (Boxed V Wd.heap.size 3 (.int .i64 (M : Int)) ∧ (Boxed V W.heap.size 3 (.int .i64 (M : Int)) ∧ DefG V D)) ∧ Below w1.heap.size w1 V))
      (OwnFrom.and (OwnFrom.and (ownFrom_pure _ _) (Own.from (boxed_own _ _ _) _)) (OwnFrom.and (OwnFrom.and (OwnFrom.and (Own.from (boxed_own _ _ _) _) (Own.from (boxed_own _ _ _) _)) (OwnFrom.and (Own.from (boxed_own _ _ _) _) (defG_own (by have := HZ.out; omega)))) (ownFrom_below (Nat.le_refl _) (by have := HZ.out; have := HS.out; omega))))
      (fun cc => ownFrom_orG (ownFrom_pure _ _) (OwnFrom.and (OwnFrom.and (ownFrom_pure _ _) (Own.from (boxed_own _ _ _) _)) (OwnFrom.and (OwnFrom.and (Own.from (boxed_own _ _ _) _) (OwnFrom.and (Own.from (boxed_own _ _ _) _) (defG_own (by have := HZ.out; omega)))) (ownFrom_below (Nat.le_refl _) (by have := HZ.out; have := HS.out; omega)))))
      ⟨⟨⟨List.nil_prefix, Nat.zero_le _⟩, bW2⟩, ⟨⟨bA2, bN2⟩, bM2, hK2⟩, hB2⟩
      (fun x a' V => ∃ Bx, Wd.heap.size < Bx ∧ TwoG V Bx x ∧ a' = { tmps := #[.int .i64 n, .int .i64 early, undef, undef, .pointer (some ⟨w.heap.size, 0, none⟩), .pointer (some ⟨w1.heap.size, 0, none⟩), .func (.func 33) #[] #[.pointer (some ⟨w1.heap.size + 1, 0, none⟩)], .pointer (some ⟨Wd.heap.size, 0, none⟩), undef, .pointer (some ⟨W.heap.size, 0, none⟩), .pointer (some ⟨Bx, 0, none⟩), .int .i64 n, .slice so L.length c, .int .i64 n, .func (.func 33) #[] #[.pointer (some ⟨w1.heap.size + 1, 0, none⟩)], .int .i64 n, .int .i64 (padI n), .int .i64 n, .int .i64 (padI n), .bool false, .bool false, .int .i64 n, .int .i64 (L.length : Int), .slice so L.length c, .int .i64 (L.length : Int), .bool false, .bool false, .bool false, .func (.func 33) #[] #[.pointer (some ⟨w1.heap.size + 1, 0, none⟩)], .bool false, .bool false, .bool false, .int .i64 8, .bool false, .bool false, .func (.func 33) #[] #[.pointer (some ⟨w1.heap.size + 1, 0, none⟩)], undef, undef, undef, undef, undef, undef, undef, undef, undef, undef, undef, undef, undef, undef, undef, .int .i64 (L.length : Int), .slice so L.length c, .int .i64 (L.length : Int), .bool false, .int .i64 early, .int .u64 (IntKind.u64.wrap early), .int .u64 ((IntKind.u64.wrap early).tmod 40), .int .i64 (wrap64 ((IntKind.u64.wrap early).tmod 40)), .func (.func 33) #[] #[.pointer (some ⟨w1.heap.size + 1, 0, none⟩)], .agg #[.int .i64 x.1, .int .i64 x.2], undef, undef, undef, undef, undef, undef, undef, undef, undef, undef, undef, undef, undef, undef, undef, undef, undef, undef, undef, undef, undef, undef, undef, undef, undef, undef, undef], defers := [] })
      (fun x a' _ X Y row hs hg hr => by obtain ⟨Bx, h1, h2, h3⟩ := hs; exact ⟨Bx, h1, twoG_own Bx x () X Y row h2 hg (fun r e => (hr r e).2), h3⟩)
      ?assign2 ?body2 ?done2 ?stop2
    case assign2 =>
      rintro l pre x V K ⟨⟨hp, bW3⟩, ⟨⟨bA3, bN3⟩, bM3, hD3⟩, hB3⟩ hK3
      simp only [hopV]
      gi_wp2
      refine hK3 _ _ ((KeepsOthers.alloc _ _).from _) ⟨fun h => h.alloc _, Above.below ((Below.refl _ V).alloc (Nat.le_refl _) _)⟩ ⟨⟨hp, bW3.alloc _⟩, ⟨⟨bA3.alloc _, bN3.alloc _⟩, bM3.alloc _, hD3.alloc _⟩, hB3.alloc hB3.size _⟩ ⟨V.heap.size, bA3.lt, ?_, rfl⟩
      exact World.alloc_heap_new V _
    case body2 =>
      rintro l pre x a' V hl hr0 ⟨⟨⟨hp, hpM⟩, bW3⟩, ⟨⟨bA3, bN3⟩, bM3, hD3⟩, hB3⟩ ⟨Bx, hBx, bX, rfl⟩ hlt
      by_cases hme : pre.length = M
      · have i2 : (pre.length : Int) = (M : Int) := by omega
        rw [i2] at bA3
        have cA := bA3.cell
        have cM := bM3.cell
        have HM : Hid (pre.length = M) := hme
        clear hme i2
        gi_wp2
        exact ⟨KeepsFrom.refl _ _, .inr ⟨⟨⟨rfl, by simp [HM.out]⟩, bW3⟩, ⟨bA3, bM3, hD3⟩, hB3⟩⟩
      · have i1 : ((pre.length : Int) == (M : Int)) = false := by simp; omega
        have i2 : ¬ (pre.length : Int) = (M : Int) := by omega
        have HM : Hid (pre.length < M) := by show pre.length < M; omega
        have hs2 := hs1.below hB3
        obtain ⟨y, hy⟩ : ∃ y, L[pre.length]? = some y := ⟨_, List.getElem?_eq_getElem hlt⟩
        obtain ⟨g, rfl, hg, e0, e1⟩ := hs2.at_ _ _ hy
        have HP : Hid (pre ++ [x] <+: L ↔ x = y) := pre_nextG hp hy x
        obtain ⟨t, ht⟩ : ∃ t, (!(x.1 == y.1 && x.2 == y.2)) = t := ⟨_, rfl⟩
        have NP : ∀ w, (binOp .neq 29 (.agg #[.int .i64 x.1, .int .i64 x.2]) (.agg #[.int .i64 y.1, .int .i64 y.2])).run Try.prog w = .ok (.bool t) w := fun w => by rw [neq_gate, ht]
        have HT : Hid (t = false ↔ x = y) := by
          show t = false ↔ x = y
          rw [← ht]
          constructor
          · intro h; exact Prod.ext (by simp at h; exact h.1) (by simp at h; exact h.2)
          · rintro rfl; simp
        have cAv := bA3.cell
        have cMv := bM3.cell
        clear hs2 hy hp ht hpM hme
        gi_wp2
        clear cAv cMv i1 i2
        have cA : V.drew.cell? ⟨Wd.heap.size, 0, none⟩ = _ := bA3.cell
        have cW : V.drew.cell? ⟨w1.heap.size, 0, none⟩ = _ := bW3.cell
        have c0 : V.drew.cell? ⟨Bx, 0, none⟩ = _ := bX.fst
        have c1 : V.drew.cell? ⟨Bx, 1, none⟩ = _ := bX.snd
        have d0 : V.drew.cell? ⟨g, pre.length * 2, none⟩ = _ := e0
        have d1 : V.drew.cell? ⟨g, pre.length * 2 + 1, none⟩ = _ := e1
        refine region_flatC [.int .i64 (pre.length : Int), .slice (some ⟨g, 0, none⟩) L.length c, .int .i64 (L.length : Int), .bool false, .bool false, .agg #[.int .i64 x.1, .int .i64 x.2], .slice (some ⟨g, 0, none⟩) L.length c, .int .i64 (pre.length : Int), .pointer (some ⟨g, pre.length * 2, none⟩), .agg #[.int .i64 y.1, .int .i64 y.2], .bool t, .bool t]
          { tmps := #[.int .i64 n, .int .i64 early, undef, undef, .pointer (some ⟨w.heap.size, 0, none⟩), .pointer (some ⟨w1.heap.size, 0, none⟩), .func (.func 33) #[] #[.pointer (some ⟨w1.heap.size + 1, 0, none⟩)], .pointer (some ⟨Wd.heap.size, 0, none⟩), undef, .pointer (some ⟨W.heap.size, 0, none⟩), .pointer (some ⟨Bx, 0, none⟩), .int .i64 n, .slice (some ⟨g, 0, none⟩) L.length c, .int .i64 n, .func (.func 33) #[] #[.pointer (some ⟨w1.heap.size + 1, 0, none⟩)], .int .i64 n, .int .i64 (padI n), .int .i64 n, .int .i64 (padI n), .bool false, .bool false, .int .i64 n, .int .i64 (L.length : Int), .slice (some ⟨g, 0, none⟩) L.length c, .int .i64 (L.length : Int), .bool false, .bool false, .bool false, .func (.func 33) #[] #[.pointer (some ⟨w1.heap.size + 1, 0, none⟩)], .bool false, .bool false, .bool false, .int .i64 8, .bool false, .bool false, .func (.func 33) #[] #[.pointer (some ⟨w1.heap.size + 1, 0, none⟩)], undef, undef, undef, undef, undef, undef, undef, undef, undef, undef, undef, undef, undef, undef, undef, .int .i64 (L.length : Int), .slice (some ⟨g, 0, none⟩) L.length c, .int .i64 (L.length : Int), .bool false, .int .i64 early, .int .u64 (IntKind.u64.wrap early), .int .u64 ((IntKind.u64.wrap early).tmod 40), .int .i64 (wrap64 ((IntKind.u64.wrap early).tmod 40)), .func (.func 33) #[] #[.pointer (some ⟨w1.heap.size + 1, 0, none⟩)], .agg #[.int .i64 x.1, .int .i64 x.2], .int .i64 (pre.length : Int), .int .i64 (M : Int), .bool false, .int .i64 (pre.length : Int), .slice (some ⟨g, 0, none⟩) L.length c, .int .i64 (L.length : Int), .bool false, .bool false, .agg #[.int .i64 x.1, .int .i64 x.2], .slice (some ⟨g, 0, none⟩) L.length c, .int .i64 (pre.length : Int), .pointer (some ⟨g, pre.length * 2, none⟩), .agg #[.int .i64 y.1, .int .i64 y.2], .bool t, .bool t, undef, undef, undef, undef, undef, undef, undef, undef, undef, undef, undef, undef], defers := [] } (fun _ => trivial) (by kernel_rfl) (by kernel_rfl) (by kernel_rfl) (by kernel_rfl) 
            (ValsC.cons (by kernel_rfl) (by simp [go_sem, cA]) 
            (ValsC.cons (by kernel_rfl) (by simp [go_sem, cW]) 
            (ValsC.cons (by kernel_rfl) (by simp [go_sem]) 
            (ValsC.cons (by kernel_rfl) (by simp [go_sem]; omega) 
            (ValsC.cons (by kernel_rfl) (by simp [go_sem]) 
            (ValsC.cons (by kernel_rfl) (by simp [go_sem, c0, c1]) 
            (ValsC.cons (by kernel_rfl) (by simp [go_sem, cW]) 
            (ValsC.cons (by kernel_rfl) (by simp [go_sem, cA]) 
            (ValsC.cons (by kernel_rfl) (by simp [go_sem, hlt]) 
            (ValsC.cons (by kernel_rfl) (by simp [go_sem, d0, d1]) 
            (ValsC.cons (by kernel_rfl) (by simp [go_sem, NP]) 
            (ValsC.cons (by kernel_rfl) (by simp [go_sem]) ValsC.nil)))))))))))) ?_
        clear cW c0 c1 d0 d1 NP e0 e1
        have fA : V.drew.frozen? ⟨Wd.heap.size, 0, none⟩ = false := bA3.frozen
        have bR1 : Boxed V.drew w.heap.size 4 (.bool false) := (hB3.block w.heap.size HR.out.1).trans HR.out.2
        have cR := bR1.cell
        have fR := bR1.frozen
        have abW : ∀ B, Above B V V.drew := fun B => ⟨Nat.le_refl _, fun _ _ _ => rfl⟩
        cases t with
        | false =>
          have HXY : Hid (x = y) := HT.out.1 rfl
          clear cR fR bR1
          gi_wp2
          refine ⟨((KeepsOthers.drew V).trans (KeepsOthers.setCell _ _ _)).from _, ⟨fun h => Boxed.other (W := V.drew) h (by have := HS.out; omega) _, (abW _).trans (Above.set (V.drew) _ (by have := HZ.out; omega))⟩, ⟨⟨HP.out.2 HXY.out, by have := HM.out; simp; omega⟩, Boxed.other (W := V.drew) bW3 (by have := HS.out; omega) _⟩, ⟨⟨?_, Boxed.other (W := V.drew) bN3 (by have := HS.out; omega) _⟩, Boxed.other (W := V.drew) bM3 (by have := HZ.out; omega) _, DefG.set (W := V.drew) hD3 (by have := HZ.out; omega) _⟩, hB3.drew.setCell (p := ⟨Wd.heap.size, 0, none⟩) (by have := HS.out; simp; omega) _⟩
          rw [show ((pre ++ [x]).length : Int) = (pre.length : Int) + 1 by simp]
          exact Boxed.set (W := V.drew) _ bA3
        | true =>
          have HXY : Hid (¬ x = y) := fun h => by have := HT.out.2 h; cases this
          clear cA fA
          gi_wp2
          exact ⟨((KeepsOthers.drew V).trans (KeepsOthers.setCell _ _ _)).from _, .inl ⟨rfl, fun h => HXY.out (HP.out.1 h)⟩⟩
    case done2 =>
      rintro D2 zs V hD2 hz ⟨⟨⟨hp, hpM⟩, bW3⟩, ⟨⟨bA3, bN3⟩, bM3, hD3⟩, hB3⟩ hK3
      rw [hz] at bA3 hpM
      clear hz hp
      rcases Nat.lt_or_eq_of_le hpM with hlt3 | heq3
      · have cW := bW3.cell
        have cA := bA3.cell
        have cM := bM3.cell
        have bR1 : Boxed V w.heap.size 4 (.bool false) := (hB3.block w.heap.size HR.out.1).trans HR.out.2
        have cR := bR1.cell
        have fR := bR1.frozen
        gi_wp2_with (refine ⟨trivial, ?_⟩; gi_at_call 13; refine (callsIn_wide.2 (gates8 _)).mono ?_; rintro e w3 ⟨rfl, rfl⟩)
        have bR2 := Boxed.set (.bool true) bR1
        have hk1 : DefG (V.setCell ⟨w.heap.size, 0, none⟩ (.bool true)) D2 := DefG.set hK3 (by have := HZ.out; have := HR.out.1; have := HS.out; omega) _
        have hDD : D2 ≠ D := by have := HZ.out; omega
        have hk2 : DefG ((V.setCell ⟨w.heap.size, 0, none⟩ (.bool true)).putObj D2 (.deferred none)) D := (World.putObj_heap_other (fun e => hDD e.symm)).trans (DefG.set hD3 (by have := HS.out; have := HR.out.1; have := HZ.out; omega) _)
        have bR3 : Boxed ((V.setCell ⟨w.heap.size, 0, none⟩ (.bool true)).putObj D2 (.deferred none)) w.heap.size 4 (.bool true) := bR2.kept (grownBy_putObj' _ _ _) (fun e => by have e2 := Option.some.inj e; have := HZ.out; have := HR.out.1; have := HS.out; omega)
        have bR4 : Boxed (((V.setCell ⟨w.heap.size, 0, none⟩ (.bool true)).putObj D2 (.deferred none)).putObj D (.deferred none)) w.heap.size 4 (.bool true) := bR3.kept (grownBy_putObj' _ _ _) (fun e => by have e2 := Option.some.inj e; have := HS.out; have := HR.out.1; have := HZ.out; omega)
        refine ⟨by simp, .inl ⟨_, _, rfl, run_takeDeferred hk1, ?_⟩⟩
        refine ⟨by simp, .inl ⟨_, _, rfl, run_takeDeferred hk2, ?_⟩⟩
        have hc5 := bR4.cell
        have hBe : Below w.heap.size w V := hB00.trans (hB3.mono (by have := HR.out.1; omega))
        have hBf := hBe.setCell (p := ⟨w.heap.size, 0, none⟩) (by simp) (.bool true)
        refine ⟨.bool true, ?_, rfl, put_below (put_below hBf (by have := HZ.out; have := HR.out.1; have := HS.out; omega) _) (by have := HS.out; have := HR.out.1; have := HZ.out; omega) _⟩
        simp [results, Try.f3, go_sem, hc5]
      · rw [← heq3] at bM3
        clear heq3 hpM
        have cW := bW3.cell
        have cA := bA3.cell
        have cM := bM3.cell
        have bR1 : Boxed V w.heap.size 4 (.bool false) := (hB3.block w.heap.size HR.out.1).trans HR.out.2
        have cR := bR1.cell
        have fR := bR1.frozen
        gi_wp2_with (refine ⟨trivial, ?_⟩; gi_at_call 13; refine (callsIn_wide.2 (gates8 _)).mono ?_; rintro e w3 ⟨rfl, rfl⟩)
        have bR2 := Boxed.set (.bool true) bR1
        have hk1 : DefG (V.setCell ⟨w.heap.size, 0, none⟩ (.bool true)) D2 := DefG.set hK3 (by have := HZ.out; have := HR.out.1; have := HS.out; omega) _
        have hDD : D2 ≠ D := by have := HZ.out; omega
        have hk2 : DefG ((V.setCell ⟨w.heap.size, 0, none⟩ (.bool true)).putObj D2 (.deferred none)) D := (World.putObj_heap_other (fun e => hDD e.symm)).trans (DefG.set hD3 (by have := HS.out; have := HR.out.1; have := HZ.out; omega) _)
        have bR3 : Boxed ((V.setCell ⟨w.heap.size, 0, none⟩ (.bool true)).putObj D2 (.deferred none)) w.heap.size 4 (.bool true) := bR2.kept (grownBy_putObj' _ _ _) (fun e => by have e2 := Option.some.inj e; have := HZ.out; have := HR.out.1; have := HS.out; omega)
        have bR4 : Boxed (((V.setCell ⟨w.heap.size, 0, none⟩ (.bool true)).putObj D2 (.deferred none)).putObj D (.deferred none)) w.heap.size 4 (.bool true) := bR3.kept (grownBy_putObj' _ _ _) (fun e => by have e2 := Option.some.inj e; have := HS.out; have := HR.out.1; have := HZ.out; omega)
        refine ⟨by simp, .inl ⟨_, _, rfl, run_takeDeferred hk1, ?_⟩⟩
        refine ⟨by simp, .inl ⟨_, _, rfl, run_takeDeferred hk2, ?_⟩⟩
        have hc5 := bR4.cell
        have hBe : Below w.heap.size w V := hB00.trans (hB3.mono (by have := HR.out.1; omega))
        have hBf := hBe.setCell (p := ⟨w.heap.size, 0, none⟩) (by simp) (.bool true)
        refine ⟨.bool true, ?_, rfl, put_below (put_below hBf (by have := HZ.out; have := HR.out.1; have := HS.out; omega) _) (by have := HS.out; have := HR.out.1; have := HZ.out; omega) _⟩
        simp [results, Try.f3, go_sem, hc5]
    case stop2 =>
      rintro D2 cc pre V hD2 hpre (⟨_, hx⟩ | ⟨⟨⟨rfl, hl⟩, bW3⟩, ⟨bA3, bM3, hD3⟩, hB3⟩) hK3
      · exact absurd hpre hx
      have hpM : M < L.length := by have := hpre.length_le; omega
      have cW := bW3.cell
      have cA := bA3.cell
      have cM := bM3.cell
      have bR1 : Boxed V w.heap.size 4 (.bool false) := (hB3.block w.heap.size HR.out.1).trans HR.out.2
      have cR := bR1.cell
      have fR := bR1.frozen
      gi_wp2_with (refine ⟨trivial, ?_⟩; gi_at_call 13; refine (callsIn_wide.2 (gates8 _)).mono ?_; rintro e w3 ⟨rfl, rfl⟩)
      have bR2 := Boxed.set (.bool true) bR1
      have hk1 : DefG (V.setCell ⟨w.heap.size, 0, none⟩ (.bool true)) D2 := DefG.set hK3 (by have := HZ.out; have := HR.out.1; have := HS.out; omega) _
      have hDD : D2 ≠ D := by have := HZ.out; omega
      have hk2 : DefG ((V.setCell ⟨w.heap.size, 0, none⟩ (.bool true)).putObj D2 (.deferred none)) D := (World.putObj_heap_other (fun e => hDD e.symm)).trans (DefG.set hD3 (by have := HS.out; have := HR.out.1; have := HZ.out; omega) _)
      have bR3 : Boxed ((V.setCell ⟨w.heap.size, 0, none⟩ (.bool true)).putObj D2 (.deferred none)) w.heap.size 4 (.bool true) := bR2.kept (grownBy_putObj' _ _ _) (fun e => by have e2 := Option.some.inj e; have := HZ.out; have := HR.out.1; have := HS.out; omega)
      have bR4 : Boxed (((V.setCell ⟨w.heap.size, 0, none⟩ (.bool true)).putObj D2 (.deferred none)).putObj D (.deferred none)) w.heap.size 4 (.bool true) := bR3.kept (grownBy_putObj' _ _ _) (fun e => by have e2 := Option.some.inj e; have := HS.out; have := HR.out.1; have := HZ.out; omega)
      refine ⟨by simp, .inl ⟨_, _, rfl, run_takeDeferred hk1, ?_⟩⟩
      refine ⟨by simp, .inl ⟨_, _, rfl, run_takeDeferred hk2, ?_⟩⟩
      have hc5 := bR4.cell
      have hBe : Below w.heap.size w V := hB00.trans (hB3.mono (by have := HR.out.1; omega))
      have hBf := hBe.setCell (p := ⟨w.heap.size, 0, none⟩) (by simp) (.bool true)
      refine ⟨.bool true, ?_, rfl, put_below (put_below hBf (by have := HZ.out; have := HR.out.1; have := HS.out; omega) _) (by have := HS.out; have := HR.out.1; have := HZ.out; omega) _⟩
      simp [results, Try.f3, go_sem, hc5]
  case stop =>
    rintro D cc pre W hD hpre ⟨_, hx⟩ hK
    exact absurd hpre hx
theorem gatesLaw (n early : Int) (w : World) : Calls Try.prog 3 #[.int .i64 n, .int .i64 early] w fun e w' => e = .returned (.bool true) ∧ Below w.heap.size w w' := by
  by_cases h : IsSz n
  · obtain ⟨K, hK, rfl⟩ := h
    refine gatesLawOf _ early (gatesL K) ?_ w (fun w => rgates_yes K hK w) (fun w => by have := gates_yes K hK w; rwa [← gates_len K hK] at this) (fun Bn W hB => bit_stops 8 Bn K (2 ^ K) hK rfl id (fun _ _ _ _ _ _ => rfl) W (fun w => isSize_yes K hK w) hB)
    have h1 := gatesL_length K hK
    have h2 := stepsK_count K
    have h3 : 2 ^ (K - 1) ≤ 2 ^ 15 := Nat.pow_le_pow_right (by decide) (by omega)
    have h4 : K * (K + 1) ≤ 16 * 17 := Nat.mul_le_mul hK (by omega)
    have h5 : (stepsK K).length * 2 ^ (K - 1) ≤ 136 * 2 ^ 15 := Nat.mul_le_mul (by omega) h3
    omega
  · exact gatesLawOf n early [] (by simp) w (fun w => rgates_no n h w) (fun w => gates_no n h w) (fun Bn W hB => bit_stops_no 8 Bn n h W hB)
end Go.Proofs.Ytlkpgbilepehmaa
