/- Layer network: NetworkSorts, the walk. -/
import Derived.Test.YtlkpgbilepehmaaNetSrtM
namespace Go.Proofs.Ytlkpgbilepehmaa
open Go.RowKit
set_option linter.unusedVariables false
set_option linter.unusedSimpArgs false

theorem eqInts_yes (ao bo : Option Addr) (n m c d : Nat) (zs : List Int) (w : World) (hs : SeenZ w ao n zs) (ht : SeenZ w bo m zs) (hn : n ≤ 140737488355328) (hm : m ≤ 140737488355328) :
    Calls Try.prog 24 #[.slice ao n c, .slice bo m d] w fun e w' => e = .returned (.bool true) ∧ Below w.heap.size w w' := by
  refine (eqInts_any ao bo n m c d zs zs w hs ht hn hm).mono ?_
  rintro e w' ⟨rfl, q, rfl⟩
  exact ⟨by simp, rfl, rfl, rfl, Nat.le_refl _, fun _ _ => rfl⟩
def mk3 : List Int := [-7, -8, -9]
theorem cell_three_new (w : World) (a b c : Value) (t : TypeId) (j : Nat) (u : Value) (h : [a, b, c][j]? = some u) : (w.alloc (.cells #[a, b, c] t)).cell? ((⟨w.heap.size, 0, none⟩ : Addr).add j) = some u := by
  have e : (⟨w.heap.size, 0, none⟩ : Addr).add j = ⟨w.heap.size, j, none⟩ := by unfold Addr.add; split <;> simp_all
  rw [e, cell_of_row _ w.heap.size _ #[a, b, c] t (0, 0) (World.alloc_heap_new w _)]
  simpa using h
theorem rowI_below {w w' : World} {g c : Nat} {zs : List Int} (h : RowI w g c zs) (hb : Below w.heap.size w w') : RowI w' g c zs := h.block (hb.block g h.lt)
/-- What stays: the number's box, the list that was made. -/
structure Fx (w W : World) (m : Int) (gx cx : Nat) (us : List Int) : Prop where
  bel : Below w.heap.size w W
  box : Boxed W w.heap.size 3 (.int .i64 m)
  row : RowI W gx cx (us ++ mk3)
  gt : w.heap.size < gx
theorem below_low {w W W' : World} (h : Below w.heap.size w W) (hb : Below W.heap.size W W') : Below w.heap.size w W' :=
  h.trans ⟨hb.os, hb.tape, hb.output, hb.size, fun j hj => hb.block j (by have := h.size; omega)⟩
theorem Fx.later {w W W' : World} {m : Int} {gx cx : Nat} {us : List Int} (h : Fx w W m gx cx us) (hb : Below W.heap.size W W') : Fx w W' m gx cx us :=
  ⟨below_low h.bel hb, boxed_below h.box hb (Nat.le_refl _), rowI_below h.row hb, h.gt⟩
theorem Fx.seen {w W : World} {m : Int} {gx cx n : Nat} {us : List Int} (h : Fx w W m gx cx us) (hl : us.length = n) : SeenZ W (some ⟨gx, 0, none⟩) n us :=
  ⟨hl, fun h0 => ⟨gx, 0, rfl, h.row.lt, fun i hi => by
    rw [Nat.zero_add, h.row.cell i (by simp; omega)]
    congr 2
    simp [List.getD, List.getElem?_append, hl, hi]⟩⟩
theorem Fx.mark {w W : World} {m : Int} {gx cx n : Nat} {us : List Int} (h : Fx w W m gx cx us) (hl : us.length = n) : W.cell? ⟨gx, n, none⟩ = some (.int .i64 (-7)) ∧ W.cell? ⟨gx, n + 1, none⟩ = some (.int .i64 (-8)) ∧ W.cell? ⟨gx, n + 2, none⟩ = some (.int .i64 (-9)) := by
  subst hl
  refine ⟨?_, ?_, ?_⟩ <;> rw [h.row.cell _ (by simp [mk3])] <;> simp [mk3, List.getD, List.getElem?_append]
/-- A row of k numbers of the call's own. -/
structure Rw (w W : World) (ao : Option Addr) (k c : Nat) (l : List Int) : Prop where
  own : W.ownsRow w.heap.size 3 1 (.slice ao k c) k (l.map (Value.int .i64))
  len : l.length = k
theorem Rw.later {w W W' : World} {ao : Option Addr} {k c : Nat} {l : List Int} (h : Rw w W ao k c l) (hb : Below W.heap.size W W') : Rw w W' ao k c l := ⟨ownsRow_below h.own hb, h.len⟩
theorem Rw.seen {w W : World} {ao : Option Addr} {k c : Nat} {l : List Int} (h : Rw w W ao k c l) : SeenZ W ao k l := by
  have hl := h.len
  have ho := h.own
  subst hl
  obtain ⟨a, c2, e, hs⟩ := own_z ho
  simp only [Value.slice.injEq] at e
  rw [e.1]; exact hs
theorem rw_of (w : World) {W : World} {B k : Nat} {v : Value} {l : List Int} (h : W.ownsRow B 3 1 v k (l.map (Value.int .i64))) (hl : l.length = k) (hB : w.heap.size ≤ B) :
    ∃ ao c, v = .slice ao k c ∧ Rw w W ao k c l ∧ ∀ g, ao = some ⟨g, 0, none⟩ → B ≤ g ∧ g < W.heap.size := by
  have hz : ∃ ao c, v = .slice ao k c := by
    rcases h.2 with ⟨rfl, h0⟩ | ⟨g, cap, cur, rfl, _⟩
    · exact ⟨none, 0, by rw [h0]⟩
    · exact ⟨_, cap, rfl⟩
  obtain ⟨ao, c, rfl⟩ := hz
  exact ⟨ao, c, rfl, ⟨ownsRow_base h hB, hl⟩, fun g e => h.lt g (by rw [e]; rfl)⟩
theorem made_x {w wb w1 w2 : World} {m : Int} {n : Nat} {zs : List Int} {v1 v2 : Value} {ob : Obj} (hl : zs.length = n) (h0 : wb.heap.size = w.heap.size + 1 ∧ Below w.heap.size w wb ∧ Boxed wb w.heap.size 3 (.int .i64 m)) (b1 : Below wb.heap.size wb w1)
    (o1 : w1.ownsRow wb.heap.size 3 1 v1 n (zs.map (Value.int .i64))) (g2 : (w1.alloc ob).grownBy w2 v1.ownBlock) (o2 : w2.ownsRow wb.heap.size 3 1 v2 (n + 3) (zs.map (Value.int .i64) ++ [.int .i64 (-7), .int .i64 (-8), .int .i64 (-9)])) :
    ∃ gx cx, v2 = .slice (some ⟨gx, 0, none⟩) (n + 3) cx ∧ n + 3 ≤ cx ∧ cx ≤ maxLen ∧ Fx w w2 m gx cx zs := by
  have e : zs.map (Value.int .i64) ++ [.int .i64 (-7), .int .i64 (-8), .int .i64 (-9)] = (zs ++ mk3).map (Value.int .i64) := by simp [mk3]
  rw [e] at o2
  obtain ⟨gx, cx, rfl, hg, hc, hr⟩ := own_rowI o2 (by omega)
  have hb : Below wb.heap.size wb w2 := (b1.alloc b1.size _).grown g2 (by have := b1.size; simp; omega) (fun j hj => (o1.lt j hj).1)
  have hle := hr.le
  refine ⟨gx, cx, rfl, by simp [mk3] at hle; omega, hc, below_low h0.2.1 hb, boxed_below h0.2.2 hb (Nat.le_refl _), hr, by omega⟩
/-- What stands beside one another: the list that was made, the document's answer, and two of the program's. -/
structure Pk (w W : World) (m : Int) (gx cx : Nat) (us : List Int) (a3 a4 a5 : Option Addr) (k c3 c4 c5 : Nat) (l : List Int) : Prop where
  fx : Fx w W m gx cx us
  r3 : Rw w W a3 k c3 l
  r4 : Rw w W a4 k c4 l
  r5 : Rw w W a5 k c5 l
theorem Pk.later {w W W' : World} {m : Int} {gx cx : Nat} {us : List Int} {a3 a4 a5 : Option Addr} {k c3 c4 c5 : Nat} {l : List Int} (h : Pk w W m gx cx us a3 a4 a5 k c3 c4 c5 l) (hb : Below W.heap.size W W') : Pk w W' m gx cx us a3 a4 a5 k c3 c4 c5 l :=
  ⟨h.fx.later hb, h.r3.later hb, h.r4.later hb, h.r5.later hb⟩
theorem Rw.block {w W W' : World} {ao : Option Addr} {k c : Nat} {l : List Int} (h : Rw w W ao k c l) (hb : ∀ g, ao = some ⟨g, 0, none⟩ → W'.heap[g]? = W.heap[g]?) : Rw w W' ao k c l :=
  ⟨own_block h.own fun g hg => hb g (own_addr h.own hg), h.len⟩
theorem Rw.other {w W : World} {ao : Option Addr} {k c : Nat} {l : List Int} (h : Rw w W ao k c l) (b o : Nat) (u : Value) (hne : ∀ g, ao = some ⟨g, 0, none⟩ → g ≠ b) : Rw w (W.setCell ⟨b, o, none⟩ u) ao k c l :=
  h.block fun g hg => Below.heap_setCell _ _ _ _ (hne g hg)
theorem Fx.set {w W : World} {m : Int} {gx cx : Nat} {us : List Int} (h : Fx w W m gx cx us) (t : Nat) (ht : t < us.length) (z : Int) : Fx w (W.setCell ⟨gx, t, none⟩ (.int .i64 z)) m gx cx (us.set t z) := by
  have hg := h.gt
  refine ⟨h.bel.setCell (p := ⟨gx, t, none⟩) (by show w.heap.size ≤ gx; omega) _, (Below.heap_setCell _ _ _ _ (by show w.heap.size ≠ gx; omega)).trans h.box, ?_, h.gt⟩
  have := h.row.set t (by simp; omega) z
  rwa [List.set_append_left _ _ ht] at this
theorem Fx.other {w W : World} {m : Int} {gx cx : Nat} {us : List Int} (h : Fx w W m gx cx us) (b o : Nat) (u : Value) (hb : w.heap.size < b) (hx : gx ≠ b) : Fx w (W.setCell ⟨b, o, none⟩ u) m gx cx us :=
  ⟨h.bel.setCell (p := ⟨b, o, none⟩) (by show w.heap.size ≤ b; omega) _, (Below.heap_setCell _ _ _ _ (by show w.heap.size ≠ b; omega)).trans h.box, h.row.block (Below.heap_setCell _ _ _ _ hx), h.gt⟩
/-- In blocks that are apart. -/
structure Apt (w : World) (gx : Nat) (a3 a4 a5 a6 : Option Addr) : Prop where
  x3 : ∀ g, a3 = some ⟨g, 0, none⟩ → g ≠ gx
  x4 : ∀ g, a4 = some ⟨g, 0, none⟩ → g ≠ gx
  x5 : ∀ g, a5 = some ⟨g, 0, none⟩ → g ≠ gx
  x6 : ∀ g, a6 = some ⟨g, 0, none⟩ → g ≠ gx ∧ w.heap.size < g
  y3 : ∀ g, a3 = some ⟨g, 0, none⟩ → a6 ≠ some ⟨g, 0, none⟩
  y4 : ∀ g, a4 = some ⟨g, 0, none⟩ → a6 ≠ some ⟨g, 0, none⟩
  y5 : ∀ g, a5 = some ⟨g, 0, none⟩ → a6 ≠ some ⟨g, 0, none⟩
theorem both_set {w W : World} {m : Int} {gx cx n c6 : Nat} {us : List Int} {a3 a4 a5 : Option Addr} {g6 k c3 c4 c5 : Nat} {l : List Int} (h : Pk w W m gx cx us a3 a4 a5 k c3 c4 c5 l) (h6 : Rw w W (some ⟨g6, 0, none⟩) n c6 us) (ha : Apt w gx a3 a4 a5 (some ⟨g6, 0, none⟩)) (t : Nat) (ht : t < n) (z : Int) :
    Pk w ((W.setCell ⟨gx, t, none⟩ (.int .i64 z)).setCell ⟨g6, t, none⟩ (.int .i64 z)) m gx cx (us.set t z) a3 a4 a5 k c3 c4 c5 l ∧ Rw w ((W.setCell ⟨gx, t, none⟩ (.int .i64 z)).setCell ⟨g6, t, none⟩ (.int .i64 z)) (some ⟨g6, 0, none⟩) n c6 (us.set t z) ∧
      (W.setCell ⟨gx, t, none⟩ (.int .i64 z)).cell? ⟨g6, t, none⟩ = some (.int .i64 (us.getD t 0)) ∧ (W.setCell ⟨gx, t, none⟩ (.int .i64 z)).frozen? ⟨g6, t, none⟩ = false := by
  have hl := h6.len
  have hx := ha.x6 g6 rfl
  have h6' : Rw w (W.setCell ⟨gx, t, none⟩ (.int .i64 z)) (some ⟨g6, 0, none⟩) n c6 us := h6.other gx t _ (fun g e => by cases e; exact hx.1)
  refine ⟨⟨(h.fx.set t (by omega) z).other g6 t _ hx.2 (fun e => hx.1 e.symm), (h.r3.other gx t _ ha.x3).other g6 t _ (fun g e e2 => ha.y3 g e (by rw [e2])), (h.r4.other gx t _ ha.x4).other g6 t _ (fun g e e2 => ha.y4 g e (by rw [e2])), (h.r5.other gx t _ ha.x5).other g6 t _ (fun g e e2 => ha.y5 g e (by rw [e2]))⟩, ⟨own_set h6'.own t ht z, by simp [hl]⟩, own_at h6'.own t ht⟩
theorem fx_kept {w W W' : World} {m : Int} {gx cx : Nat} {us : List Int} {S : Nat → Prop} {ob : Obj} (h : Fx w W m gx cx us) (kp : Kept S (W.alloc ob) W') (hS : ∀ g, S g → w.heap.size < g ∧ g ≠ gx) : Fx w W' m gx cx us := by
  have hsz := h.bel.size
  have h1 : Below w.heap.size w (W.alloc ob) := h.bel.alloc h.bel.size _
  have h2 : Below w.heap.size (W.alloc ob) W' := kp.below (by simp; omega) (fun k hk => by have := (hS k hk).1; omega)
  have hbx := h.box.lt
  have hbr := h.row.lt
  refine ⟨h1.trans h2, (kp.block w.heap.size (by simp; omega) (fun e => by have := (hS _ e).1; omega)).trans ((Below.heap_alloc W ob _ hbx).trans h.box), h.row.block ((kp.block gx (by simp; omega) (fun e => (hS _ e).2 rfl)).trans (Below.heap_alloc W ob _ hbr)), h.gt⟩
theorem rw_kept {w W W' : World} {ao : Option Addr} {k c : Nat} {l : List Int} {S : Nat → Prop} {ob : Obj} (h : Rw w W ao k c l) (kp : Kept S (W.alloc ob) W') (hS : ∀ g, S g → ao ≠ some ⟨g, 0, none⟩) : Rw w W' ao k c l :=
  h.block fun g hg => by
    have hlt := (h.own.lt g (by rw [hg]; rfl)).2
    exact (kp.block g (by simp; omega) (fun e => hS g e hg)).trans (Below.heap_alloc W ob _ hlt)
/-- The three answers, as ApartInts has them. -/
def V3 (a b c : Option Addr) (j : Nat) : Option Addr := match j with | 0 => a | 1 => b | _ => c
def N3 (a b c : Nat) (j : Nat) : Nat := match j with | 0 => a | 1 => b | _ => c
def F3 (a b c : List Int) (j : Nat) : List Int := match j with | 0 => a | 1 => b | _ => c
theorem lot3I {w W : World} {a b c : Option Addr} {k ca cb cc : Nat} {la lb lc : List Int} (ha : Rw w W a k ca la) (hb : Rw w W b k cb lb) (hc : Rw w W c k cc lc) (p q : Nat) (hpq : p ≤ q)
    (pa : ∀ g, a = some ⟨g, 0, none⟩ → g < p) (pb : ∀ g, b = some ⟨g, 0, none⟩ → p ≤ g ∧ g < q) (pc : ∀ g, c = some ⟨g, 0, none⟩ → q ≤ g) :
    Lot (W.alloc (.cells #[.slice a k ca, .slice b k cb, .slice c k cc] 44)) W.heap.size 3 (V3 a b c) (fun _ => k) (N3 ca cb cc) (N3 ca cb cc) (F3 la lb lc) := by
  have hcl : ∀ j u, [Value.slice a k ca, .slice b k cb, .slice c k cc][j]? = some u → (W.alloc (.cells #[.slice a k ca, .slice b k cb, .slice c k cc] 44)).cell? ⟨W.heap.size, j, none⟩ = some u := fun j u h => by
    have := cell_three_new W _ _ _ 44 j u h
    rwa [add_at, Nat.zero_add] at this
  have hal : ∀ {x : Option Addr} {cx : Nat} {l : List Int}, Rw w W x k cx l → (W.alloc (.cells #[.slice a k ca, .slice b k cb, .slice c k cc] 44)).ownsRow 0 3 1 (.slice x k cx) k (l.map (Value.int .i64)) ∧ ∀ g, x = some ⟨g, 0, none⟩ → g ≠ W.heap.size := fun h =>
    ⟨ownsRow_base (h.own.alloc _) (Nat.zero_le _), fun g e => by have := (h.own.lt g (by rw [e]; rfl)).2; omega⟩
  refine ⟨by simp, fun j hj => ?_, fun j hj => ?_, fun j hj => .inl rfl, fun j j' g hj hj' h1 h2 => ?_, fun j g hj h => ?_⟩
  · match j, hj with
    | 0, _ => exact hcl 0 _ rfl
    | 1, _ => exact hcl 1 _ rfl
    | 2, _ => exact hcl 2 _ rfl
  · match j, hj with
    | 0, _ => exact (hal ha).1
    | 1, _ => exact (hal hb).1
    | 2, _ => exact (hal hc).1
  · match j, j', hj, hj' with
    | 0, 0, _, _ => rfl
    | 1, 1, _, _ => rfl
    | 2, 2, _, _ => rfl
    | 0, 1, _, _ => have := pa g h1; have := pb g h2; omega
    | 1, 0, _, _ => have := pa g h2; have := pb g h1; omega
    | 0, 2, _, _ => have := pa g h1; have := pc g h2; omega
    | 2, 0, _, _ => have := pa g h2; have := pc g h1; omega
    | 1, 2, _, _ => have := pb g h1; have := pc g h2; omega
    | 2, 1, _, _ => have := pb g h2; have := pc g h1; omega
  · match j, hj with
    | 0, _ => exact (hal ha).2 g h
    | 1, _ => exact (hal hb).2 g h
    | 2, _ => exact (hal hc).2 g h
set_option maxRecDepth 100000 in
set_option maxHeartbeats 4000000 in
theorem sortsLaw (ao : Option Addr) (n c : Nat) (zs : List Int) (m : Int) (w : World) (hs : SeenZ w ao n zs) (hn : n ≤ 17592186043904) (hm2 : m ≤ 9223372036854775807) :
    Calls Try.prog 6 #[.slice ao n c, .int .i64 m] w fun e w' => e = .returned (.bool true) ∧ Below w.heap.size w w' := by
  obtain ⟨E, k, S, hS⟩ := srts n m hm2
  obtain ⟨i0, hi, hz0, hz1, hz2⟩ := info_parts info_int
  have hk := hS.le
  have HS : Hid (SeenZ w ao n zs) := hs
  have HC : Hid (Srts n m E k S) := hS
  have hE : (E != E) = false := by simp
  clear hs hS
  go_enter Try.func6, Try.ntmps6
  go_wp2_with (fail)
  have bB0 : Boxed (w.alloc (.cells #[.int .i64 m] 3)) w.heap.size 3 (.int .i64 m) := Boxed.new w _ _
  have hB0 : Below w.heap.size w (w.alloc (.cells #[.int .i64 m] 3)) := (Below.refl _ w).alloc (Nat.le_refl _) _
  have hsz0 : (w.alloc (.cells #[.int .i64 m] 3)).heap.size = w.heap.size + 1 := by simp
  obtain ⟨wb, hwb⟩ : ∃ wb, w.alloc (.cells #[.int .i64 m] 3) = wb := ⟨_, rfl⟩
  rw [hwb] at bB0 hB0 hsz0 ⊢
  have H0 : Hid (wb.heap.size = w.heap.size + 1 ∧ Below w.heap.size w wb ∧ Boxed wb w.heap.size 3 (.int .i64 m)) := ⟨hsz0, hB0, bB0⟩
  clear hwb hsz0 hB0 bB0
  refine (copyInts_any ao n c zs wb (HS.out.later H0.out.2.1 (Nat.le_refl _)) (by omega)).mono ?_
  rintro e w1 ⟨v1, rfl, o1, b1⟩
  have hb1 := b1.size
  go_wp2_with (at_builtin; refine wpList_append_own _ rfl _ _ 44 rfl wb.heap.size 3 i0 (.int .i64 0) 1 8 Try.underlying44 hi hz0 hz1 hz2 rfl (by decide) _ n _ rfl (o1.alloc _) ⟨w1.heap.size, 0, none⟩ 3 3 [.int .i64 (-7), .int .i64 (-8), .int .i64 (-9)] rfl rfl (cell_three_new _ _ _ _ _) (by simp [Value.oneCell']) (by simp only [maxLen]; omega) (by omega) (by simp; omega) ?_; intro v2 w2 o2 g2 hj3; clear hj3; obtain ⟨gx, cx, rfl, hcx, hcm, fx⟩ := made_x HS.out.len H0.out b1 o1 g2 o2; have HF : Hid (Fx w w2 m gx cx zs) := fx; have cB := fx.box.cell; clear o1 o2 g2 b1 fx)
  have hcx2 : (n : Int) ≤ (cx : Int) := by omega
  refine (HC.out.doc ao c zs w2 (HS.out.later HF.out.bel (Nat.le_refl _))).mono ?_
  rintro e w3 ⟨v3, rfl, o3, b3⟩
  obtain ⟨a3, c3, rfl, r3, p3⟩ := rw_of w o3 (HC.out.len zs HS.out.len) HF.out.bel.size
  have HF3 : Hid (Fx w w3 m gx cx zs ∧ Rw w w3 a3 k c3 (S zs) ∧ gx < w2.heap.size ∧ w.heap.size + 1 ≤ w2.heap.size ∧ w2.heap.size ≤ w3.heap.size ∧ ∀ g, a3 = some ⟨g, 0, none⟩ → w2.heap.size ≤ g ∧ g < w3.heap.size) := ⟨HF.out.later b3, r3, HF.out.row.lt, by have := HF.out.row.lt; have := HF.out.gt; omega, b3.size, p3⟩
  clear o3 b3 cB HF r3 p3
  go_wp2_with (fail)
  refine (HC.out.net ⟨gx, 0, none⟩ cx zs w3 w.heap.size (HF3.out.1.seen HS.out.len) HF3.out.1.box).mono ?_
  rintro e w4 ⟨v4, rfl, o4, b4⟩
  obtain ⟨a4, c4, rfl, r4, p4⟩ := rw_of w o4 (HC.out.len zs HS.out.len) HF3.out.1.bel.size
  have HF4 : Hid (Fx w w4 m gx cx zs ∧ Rw w w4 a3 k c3 (S zs) ∧ Rw w w4 a4 k c4 (S zs) ∧ w3.heap.size ≤ w4.heap.size ∧ ∀ g, a4 = some ⟨g, 0, none⟩ → w3.heap.size ≤ g ∧ g < w4.heap.size) := ⟨HF3.out.1.later b4, HF3.out.2.1.later b4, r4, b4.size, p4⟩
  clear o4 b4 r4 p4
  go_wp2_with (fail)
  refine (HC.out.net ⟨gx, 0, none⟩ cx zs w4 w.heap.size (HF4.out.1.seen HS.out.len) HF4.out.1.box).mono ?_
  rintro e w5 ⟨v5, rfl, o5, b5⟩
  obtain ⟨a5, c5, rfl, r5, p5⟩ := rw_of w o5 (HC.out.len zs HS.out.len) HF4.out.1.bel.size
  have HP5 : Hid (Pk w w5 m gx cx zs a3 a4 a5 k c3 c4 c5 (S zs)) := ⟨HF4.out.1.later b5, HF4.out.2.1.later b5, HF4.out.2.2.1.later b5, r5⟩
  have HQ5 : Hid (w4.heap.size ≤ w5.heap.size ∧ ∀ g, a5 = some ⟨g, 0, none⟩ → w4.heap.size ≤ g ∧ g < w5.heap.size) := ⟨b5.size, p5⟩
  clear o5 b5 r5 p5
  go_wp2_with (fail)
  refine (eqInts_yes a4 a3 k k c4 c3 (S zs) w5 HP5.out.r4.seen HP5.out.r3.seen (by omega) (by omega)).mono ?_
  rintro e w6 ⟨rfl, b6⟩
  have HP6 : Hid (Pk w w6 m gx cx zs a3 a4 a5 k c3 c4 c5 (S zs) ∧ w5.heap.size ≤ w6.heap.size) := ⟨HP5.out.later b6, b6.size⟩
  clear b6 HP5
  go_wp2_with (fail)
  refine (eqInts_yes a5 a3 k k c5 c3 (S zs) w6 HP6.out.1.r5.seen HP6.out.1.r3.seen (by omega) (by omega)).mono ?_
  rintro e w7 ⟨rfl, b7⟩
  have HP7 : Hid (Pk w w7 m gx cx zs a3 a4 a5 k c3 c4 c5 (S zs) ∧ w5.heap.size ≤ w7.heap.size) := ⟨HP6.out.1.later b7, by have := HP6.out.2; have := b7.size; omega⟩
  clear b7 HP6
  go_wp2_with (fail)
  refine (eqInts_yes (some ⟨gx, 0, none⟩) ao n n cx c zs w7 (HP7.out.1.fx.seen HS.out.len) (HS.out.later HP7.out.1.fx.bel (Nat.le_refl _)) (by omega) (by omega)).mono ?_
  rintro e w8 ⟨rfl, b8⟩
  have HP8 : Hid (Pk w w8 m gx cx zs a3 a4 a5 k c3 c4 c5 (S zs) ∧ w5.heap.size ≤ w8.heap.size) := ⟨HP7.out.1.later b8, by have := HP7.out.2; have := b8.size; omega⟩
  clear b8 HP7
  go_wp2_with (fail)
  refine (copyInts_any ao n c zs w8 (HS.out.later HP8.out.1.fx.bel (Nat.le_refl _)) (by omega)).mono ?_
  rintro e w9 ⟨v9, rfl, o9, b9⟩
  obtain ⟨a6, c6, rfl, r6, p6⟩ := rw_of w o9 HS.out.len HP8.out.1.fx.bel.size
  have HP9 : Hid (Pk w w9 m gx cx zs a3 a4 a5 k c3 c4 c5 (S zs) ∧ Rw w w9 a6 n c6 zs ∧ w5.heap.size ≤ w9.heap.size) := ⟨HP8.out.1.later b9, r6, by have := HP8.out.2; have := b9.size; omega⟩
  have HA : Hid (Apt w gx a3 a4 a5 a6) := by
    have q3 := HF3.out.2.2.1
    have q3' := HF3.out.2.2.2.1
    have q4 := HF4.out.2.2.2.1
    have q5 := HQ5.out.1
    have q8 := HP8.out.2
    have q33 : w2.heap.size ≤ w3.heap.size := HF3.out.2.2.2.2.1
    exact ⟨fun g e => by have := HF3.out.2.2.2.2.2 g e; omega, fun g e => by have := HF4.out.2.2.2.2 g e; omega, fun g e => by have := HQ5.out.2 g e; omega, fun g e => by have := p6 g e; omega,
      fun g e e2 => by have := HF3.out.2.2.2.2.2 g e; have := p6 g e2; omega, fun g e e2 => by have := HF4.out.2.2.2.2 g e; have := p6 g e2; omega, fun g e e2 => by have := HQ5.out.2 g e; have := p6 g e2; omega⟩
  clear o9 b9 r6 p6 HP8
  go_wp2_with (fail)
  go_loopw [14] (fun v wr => ∃ t : Nat, v = .int .i64 (t : Int) ∧ t ≤ n ∧ ∃ us : List Int, us.length = n ∧ Pk w wr m gx cx us a3 a4 a5 k c3 c4 c5 (S zs) ∧ Rw w wr a6 n c6 us ∧ w5.heap.size ≤ wr.heap.size) (fun v _ => n - (intOf v).toNat)
  case atStart => exact ⟨0, rfl, by omega, zs, HS.out.len, HP9.out.1, HP9.out.2.1, HP9.out.2.2⟩
  case round =>
    clear HP9
    obtain ⟨t, rfl, ht, us, hul, hpk, hr6, hsz⟩ := hrel
    by_cases hlt : t < n
    · obtain ⟨g6, e6⟩ : ∃ g6, a6 = some ⟨g6, 0, none⟩ := by
        rcases hr6.own.2 with ⟨_, h0⟩ | ⟨g, cap, cur, e, _⟩
        · omega
        · simp only [Value.slice.injEq] at e; exact ⟨g, e.1⟩
      subst e6
      have c1 := hpk.fx.row.cell t (by simp; omega)
      have f1 := hpk.fx.row.frozen t
      obtain ⟨X, hX⟩ : ∃ X, us.getD t 0 = X := ⟨_, rfl⟩
      rw [show (us ++ mk3).getD t 0 = X from by rw [← hX]; simp [List.getD, List.getElem?_append, hul, hlt]] at c1
      have HB := fun z => both_set hpk hr6 HA.out t hlt z
      rw [hX] at HB
      have i1 : (0 : Int) ≤ (t : Int) := by omega
      have i2 : (t : Int) < (n : Int) := by omega
      have i3 : (t : Int) < ((n + 3 : Nat) : Int) := by omega
      clear hpk hr6 hX
      go_wp2_with (fail)
      refine ⟨⟨t + 1, by simp, by omega, us.set t (bits BinOp.xor IntKind.i64 X 5), by simp [hul], (HB _).1, (HB _).2.1, by simpa [World.setCell] using hsz⟩, ?_⟩
      simp [intOf]; omega
    · obtain rfl : t = n := by omega
      clear hlt ht
      obtain ⟨w10, hw10⟩ : ∃ w10, w10 = wr := ⟨_, rfl⟩
      rw [← hw10] at hpk hr6 hsz ⊢
      clear hw10
      have HP : Hid (Pk w w10 m gx cx us a3 a4 a5 k c3 c4 c5 (S zs) ∧ Rw w w10 a6 t c6 us ∧ w5.heap.size ≤ w10.heap.size) := ⟨hpk, hr6, hsz⟩
      have HU : Hid (us.length = t) := hul
      have cB := hpk.fx.box.cell
      clear hpk hr6 hsz hul
      go_wp2_with (fail)
      refine (HC.out.doc a6 c6 us w10 HP.out.2.1.seen).mono ?_
      rintro e w11 ⟨v7, rfl, o7, b7⟩
      obtain ⟨a7, c7, rfl, r7, p7⟩ := rw_of w o7 (HC.out.len us HU.out) HP.out.1.fx.bel.size
      have HP1 : Hid (Pk w w11 m gx cx us a3 a4 a5 k c3 c4 c5 (S zs) ∧ Rw w w11 a6 t c6 us ∧ Rw w w11 a7 k c7 (S us) ∧ w5.heap.size ≤ w11.heap.size) := ⟨HP.out.1.later b7, HP.out.2.1.later b7, r7, by have := HP.out.2.2; have := b7.size; omega⟩
      clear o7 b7 r7 p7 cB HP
      go_wp2_with (fail)
      refine (HC.out.net ⟨gx, 0, none⟩ cx us w11 w.heap.size (HP1.out.1.fx.seen HU.out) HP1.out.1.fx.box).mono ?_
      rintro e w12 ⟨v8, rfl, o8, b8⟩
      obtain ⟨a8, c8, rfl, r8, p8⟩ := rw_of w o8 (HC.out.len us HU.out) HP1.out.1.fx.bel.size
      have HP2 : Hid (Pk w w12 m gx cx us a3 a4 a5 k c3 c4 c5 (S zs) ∧ Rw w w12 a6 t c6 us ∧ Rw w w12 a7 k c7 (S us) ∧ Rw w w12 a8 k c8 (S us)) := ⟨HP1.out.1.later b8, HP1.out.2.1.later b8, HP1.out.2.2.1.later b8, r8⟩
      have HQ8 : Hid ((∀ g, a8 = some ⟨g, 0, none⟩ → w11.heap.size ≤ g ∧ g < w12.heap.size) ∧ w5.heap.size ≤ w11.heap.size ∧ gx < w11.heap.size ∧ ∀ g, a6 = some ⟨g, 0, none⟩ → g < w11.heap.size) := ⟨p8, HP1.out.2.2.2, HP1.out.1.fx.row.lt, fun g e => (HP1.out.2.1.own.lt g (by rw [e]; rfl)).2⟩
      clear o8 b8 r8 p8 HP1
      go_wp2_with (fail)
      refine (eqInts_yes a8 a7 k k c8 c7 (S us) w12 HP2.out.2.2.2.seen HP2.out.2.2.1.seen (by omega) (by omega)).mono ?_
      rintro e w13 ⟨rfl, b13⟩
      have HP3 : Hid (Pk w w13 m gx cx us a3 a4 a5 k c3 c4 c5 (S zs) ∧ Rw w w13 a6 t c6 us ∧ Rw w w13 a8 k c8 (S us)) := ⟨HP2.out.1.later b13, HP2.out.2.1.later b13, HP2.out.2.2.2.later b13⟩
      clear b13 HP2
      go_wp2_with (fail)
      refine (eqInts_yes a4 a3 k k c4 c3 (S zs) w13 HP3.out.1.r4.seen HP3.out.1.r3.seen (by omega) (by omega)).mono ?_
      rintro e w14 ⟨rfl, b14⟩
      have HP4 : Hid (Pk w w14 m gx cx us a3 a4 a5 k c3 c4 c5 (S zs) ∧ Rw w w14 a6 t c6 us ∧ Rw w w14 a8 k c8 (S us)) := ⟨HP3.out.1.later b14, HP3.out.2.1.later b14, HP3.out.2.2.later b14⟩
      clear b14 HP3
      obtain ⟨m1, m2, m3⟩ := HP4.out.1.fx.mark HU.out
      have j1 : (0 : Int) ≤ (t : Int) := by omega
      have j2 : (t : Int) < ((t + 3 : Nat) : Int) := by omega
      have j3 : (t : Int) + 1 < ((t + 3 : Nat) : Int) := by omega
      have j4 : (t : Int) + 2 < ((t + 3 : Nat) : Int) := by omega
      go_wp2_with (fail)
      have HL := lot3I HP4.out.1.r4 HP4.out.1.r5 HP4.out.2.2 w4.heap.size w11.heap.size (by have := HQ8.out.2.1; have := HQ5.out.1; omega) (fun g e => (HF4.out.2.2.2.2 g e).2) (fun g e => ⟨(HQ5.out.2 g e).1, by have := (HQ5.out.2 g e).2; have := HQ8.out.2.1; omega⟩) (fun g e => (HQ8.out.1 g e).1)
      refine (rapart_any w14.heap.size 3 3 _ _ _ _ _ _ HL (by omega) (fun j hj => by omega)).mono ?_
      rintro e w15 ⟨rfl, kp⟩
      have hS : ∀ g, LotS 3 (V3 a4 a5 a8) g → (w.heap.size < g ∧ g ≠ gx) ∧ a6 ≠ some ⟨g, 0, none⟩ := by
        rintro g ⟨j, hj, hv⟩
        have q1 := HQ8.out
        have q2 := HA.out
        have q3 := HF3.out.2.2
        match j, hj with
        | 0, _ => exact ⟨⟨by have := HF4.out.2.2.2.2 g hv; omega, q2.x4 g hv⟩, q2.y4 g hv⟩
        | 1, _ => exact ⟨⟨by have := HQ5.out.2 g hv; have := HF4.out.2.2.2.1; omega, q2.x5 g hv⟩, q2.y5 g hv⟩
        | 2, _ => exact ⟨⟨by have := q1.1 g hv; have := HQ5.out.1; have := HF4.out.2.2.2.1; omega, by have := q1.1 g hv; omega⟩, fun e => by have := q1.2.2.2 g e; have := q1.1 g hv; omega⟩
      have HP5 : Hid (Fx w w15 m gx cx us ∧ Rw w w15 a6 t c6 us) := ⟨fx_kept HP4.out.1.fx kp (fun g hg => (hS g hg).1), rw_kept HP4.out.2.1 kp (fun g hg => (hS g hg).2)⟩
      clear HL kp hS m1 m2 m3 HP4
      go_wp2_with (fail)
      refine (eqInts_yes (some ⟨gx, 0, none⟩) a6 t t cx c6 us w15 (HP5.out.1.seen HU.out) HP5.out.2.seen (by omega) (by omega)).mono ?_
      rintro e w16 ⟨rfl, b16⟩
      have HP6 : Hid (Below w.heap.size w w16) := (HP5.out.1.later b16).bel
      clear b16 HP5
      go_wp2_with (fail)
      refine (nworks_any w16).mono ?_
      rintro e w17 ⟨rfl, b17⟩
      have HP7 : Hid (Below w.heap.size w w17) := below_low HP6.out b17
      clear b17 HP6
      go_wp2_with (fail)
      go_ret
      exact ⟨rfl, HP7.out⟩
theorem int_top {z : Int} (h : (Lit.int .i64 z).wf = true) : z ≤ 9223372036854775807 := by
  simp [Lit.wf, IntKind.min, IntKind.max, IntKind.signed, IntKind.bits] at h
  omega
theorem sortsAll (ao : Option Addr) (n c : Nat) (zs : List Int) (m : Int) (w : World) (hs : SeenZ w ao n zs) (hn : n ≤ 17592186043904) (hm : (Lit.int .i64 m).wf = true) :
    Calls Try.prog 6 #[.slice ao n c, .int .i64 m] w fun e w' => e = .returned (.bool true) ∧ Below w.heap.size w w' := sortsLaw ao n c zs m w hs hn (int_top hm)
end Go.Proofs.Ytlkpgbilepehmaa
