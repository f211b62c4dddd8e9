/- A range over an iterator that itself ranges over iterators: its contract hands on what abides the turn of any block that is no cells and is new (its own loops' records). -/
import Derived.Test.YtlkpgbilepehmaaNHop
namespace Go.Proofs.Ytlkpgbilepehmaa
open Go.RowKit Go.Shelf
set_option linter.unusedVariables false

/-- As SeqStopsK, but J and Jx abide the turn of every new block that holds no cells. -/
def SeqO {α : Type} (F : Fence) (n : Nat) (P : Program) (g : Nat) (lb : Array Value) (encs : α → Array Value) (Kp : World → World → Prop) (S Sp : List α → Prop) (N : Nat) (w : World) : Prop :=
  ∀ (l : Nat) (J Jx : List α → World → Prop) (W : World), Below w.heap.size w W → w.heap.size + 2 ≤ W.heap.size → OwnFrom W.heap.size J → OwnFrom W.heap.size Jx →
    (∀ pre x V, J pre V → pre.length < N → YieldAt F (n - 1) P l (encs x) V fun e V' =>
      (e = .returned (.bool true) ∧ J (pre ++ [x]) V' ∧ Kp V V') ∨ (e = .returned (.bool false) ∧ Jx (pre ++ [x]) V' ∧ KeepsFrom (w.heap.size + 2) V V')) →
    J [] W →
    CallsIn F n P g (#[.func (.yield l) #[] #[]] ++ lb) W fun e V => (∃ v, e = .returned v) ∧ ((∃ xs, S xs ∧ J xs V) ∨ (∃ pre, Sp pre ∧ Jx pre V))

/-- A loop's two blocks: its record and its row of deferred calls. -/
structure Books (W : World) (d : Nat) (r : Loop) : Prop where
  rec_ : W.heap[d + 1]? = some (.loop r)
  def_ : W.heap[d]? = some (.deferred (some []))
theorem Books.lt {W : World} {d : Nat} {r : Loop} (h : Books W d r) : d + 1 < W.heap.size := (Array.getElem?_eq_some_iff.1 h.rec_).1
theorem Books.put {W : World} {d : Nat} {r : Loop} (h : Books W d r) (r' : Loop) : Books (W.putObj (d + 1) (.loop r')) d r' :=
  ⟨World.putObj_heap_same h.lt, (World.putObj_heap_other (by omega)).trans h.def_⟩
theorem Books.from {W W' : World} {d : Nat} {r : Loop} (h : Books W d r) {B : Nat} (hB : B ≤ d) (hk : KeepsFrom B W W') : Books W' d r :=
  ⟨hk.same _ _ (by omega) h.rec_ rfl, hk.same _ _ hB h.def_ rfl⟩
theorem Books.own {W W' : World} {d : Nat} {r : Loop} (h : Books W d r) {row : Option Nat} (hg : W.grownBy W' row) (hr : ∀ k, row = some k → d + 1 < k) : Books W' d r :=
  ⟨(hg.block _ h.lt (fun e => by have := hr _ e.symm; omega)).trans h.rec_, (hg.block _ (by have := h.lt; omega) (fun e => by have := hr _ e.symm; omega)).trans h.def_⟩

/-- Every block from B on stays as it was. -/
structure Above (B : Nat) (V V' : World) : Prop where
  size : V.heap.size ≤ V'.heap.size
  same : ∀ k, B ≤ k → k < V.heap.size → V'.heap[k]? = V.heap[k]?
theorem Above.refl (B : Nat) (V : World) : Above B V V := ⟨Nat.le_refl _, fun _ _ _ => rfl⟩
theorem Above.trans {B : Nat} {A V C : World} (h : Above B A V) (k : Above B V C) : Above B A C := ⟨Nat.le_trans h.size k.size, fun i hi hl => (k.same i hi (Nat.lt_of_lt_of_le hl h.size)).trans (h.same i hi hl)⟩
theorem Above.boxed {B : Nat} {V V' : World} (h : Above B V V') {b : Nat} {t : TypeId} {v : Value} (hb : Boxed V b t v) (hB : B ≤ b) : Boxed V' b t v := (h.same b hB hb.lt).trans hb
theorem Above.keeps {B C : Nat} {V V' : World} (h : Above B V V') (hBC : B ≤ C) : KeepsFrom C V V' := ⟨h.size, fun k o hk h0 _ => (h.same k (by omega) (Array.getElem?_eq_some_iff.1 h0).1).trans h0⟩
theorem Above.put {B l : Nat} (V : World) (o : Obj) (hl : l < B) : Above B V (V.putObj l o) := ⟨by simp [World.putObj], fun k hk _ => World.putObj_heap_other (by omega)⟩
theorem Above.below {B : Nat} {V V' : World} (h : Below V.heap.size V V') : Above B V V' := ⟨h.size, fun k _ hl => h.block k hl⟩
theorem Above.set {B b : Nat} (V : World) (u : Value) (hb : b < B) : Above B V (V.setCell ⟨b, 0, none⟩ u) := ⟨by simp [World.setCell], fun k hk _ => Below.heap_setCell _ _ _ _ (by simp; omega)⟩
theorem keepsUp {B C : Nat} {V V' : World} (h : KeepsFrom B V V') (hBC : B ≤ C) : KeepsFrom C V V' := ⟨h.size, fun k o hk => h.same k o (by omega)⟩
variable {F : Fence} {n : Nat} {P : Program}
theorem range_own {α : Type} {g : Operand} {ps : Array Tmp} {assign body : Code} {Q : Exit → Act → World → Prop} {a : Act} {w : World}
    (hro : F.round = none) (h1 : 1 ≤ n) {gf : Nat} {lb : Array Value} (hg : a.eval g = .func (.func gf) #[] lb) (hFg : F.fn gf) (eg : ∀ args w, (callFunc gf args).run P w = .ok (.enter gf args) w)
    {encs : α → Array Value} {Kp : World → World → Prop} {S Sp : List α → Prop} {N : Nat} (hseq : SeqO F (n - 1) P gf lb encs Kp S Sp N w)
    (hKt : ∀ {A B C : World}, Kp A B → Kp B C → Kp A C) (hKb : ∀ (W : World) (o o' : Obj), W.heap[w.heap.size + 1]? = some o → o.isCells = false → Kp W (W.putObj (w.heap.size + 1) o')) (hps : ∀ x, (encs x).size = ps.size)
    (I : List α → World → Prop) (Ix : Code → List α → World → Prop) (hI : OwnFrom w.heap.size I) (hIx : ∀ c, OwnFrom w.heap.size (Ix c)) (h0 : I [] w) (Ax : α → Act → World → Prop) (hAx : ∀ x a', OwnFrom w.heap.size (fun (_ : Unit) W => Ax x a' W))
    (hassign : ∀ (l : Nat) (pre : List α) (x : α) (W : World) (K : Act → World → Prop), I pre W → (∀ a' W', KeepsFrom w.heap.size W W' → Kp W W' → I pre W' → Ax x a' W' → K a' W') →
      assign.wpIn (F.inRound l) (n - 1 - 1) P (Exit.then K (fun _ _ _ => False)) { tmps := (ps.zip (encs x)).foldl (fun t (p, v) => t.setIfInBounds p v) a.tmps, defers := [] } W)
    (hbody : ∀ (l : Nat) (pre : List α) (x : α) (a' : Act) (W : World), w.heap.size ≤ l → (∃ r, W.heap[l]? = some (.loop r)) → I pre W → Ax x a' W → pre.length < N → body.wpIn (F.inRound l) (n - 1 - 1) P (ownPostG w.heap.size Kp I Ix (pre ++ [x]) W) a' W)
    (hdone : ∀ (D : Nat) (xs : List α) (W : World), w.heap.size ≤ D → S xs → I xs W → W.heap[D]? = some (.deferred (some [])) → Q .normal { a with defers := { target := .collected D, args := #[] } :: a.defers } W)
    (hstop : ∀ (D : Nat) (c : Code) (pre : List α) (W : World), w.heap.size ≤ D → Sp pre → Ix c pre W → W.heap[D]? = some (.deferred (some [])) → c.wpIn F n P Q { a with defers := { target := .collected D, args := #[] } :: a.defers } W) :
    (Code.rangeFunc g ps assign body).wpIn F n P Q a w := by
  refine wpIn_rangeFunc fun fn hfn => ?_
  rw [hro]
  obtain ⟨d, hd⟩ : ∃ d, w.heap.size = d := ⟨_, rfl⟩
  obtain ⟨R, hR⟩ : ∃ R : LoopState → Option Code → Loop, R = fun st pe => { state := st, pending := pe, fn, tmps := a.tmps, params := ps, assign, body, defers := d } := ⟨_, rfl⟩
  obtain ⟨W1, hW1⟩ : ∃ W1, (w.alloc (.deferred (some []))).alloc (.loop (R .ready none)) = W1 := ⟨_, rfl⟩
  have b1 : Books W1 d (R .ready none) := by
    subst hd
    rw [← hW1]
    refine ⟨?_, (Below.heap_alloc _ _ _ (by simp)).trans (World.alloc_heap_new w _)⟩
    have := World.alloc_heap_new (w.alloc (.deferred (some []))) (.loop (R .ready none))
    rwa [World.size_alloc] at this
  have s1 : W1.heap.size = d + 2 := by rw [← hW1]; simp [hd]
  have i1 : I [] W1 := by rw [← hW1]; exact hI.alloc _ (hI.alloc _ h0)
  have e1 : Below d w W1 := by rw [← hW1, ← hd]; exact ((Below.refl _ w).alloc (Nat.le_refl _) _).alloc (by simp) _
  rw [hd] at hI hIx hAx hassign hbody hdone hstop hKb
  unfold SeqO at hseq
  rw [hd] at hseq
  refine ⟨d + 1, [{ target := .collected d, args := #[] }], W1, { target := .fn (.func gf) lb, args := #[.func (.yield (d + 1)) #[] #[]] }, W1, gf, #[.func (.yield (d + 1)) #[] #[]] ++ lb, W1, ?_, ?_, ?_, ?_, fun _ => h1, ?_⟩
  · rw [← hW1, hR, ← hd]; exact run_enterLoop_outer _ _ _ _ _
  · simp only [resolve, hg]; simp [go_sem]
  · intro f hf; simp [Target.leads] at hf; subst hf; exact hFg
  · simp [invoke, go_sem, eg]
  -- what stands between two rounds, and behind a round that said 'no more'
  have up : ∀ {A : World} {row : Option Nat}, (∀ r, row = some r → W1.heap.size ≤ r ∧ ∃ o : Obj, A.heap[r]? = some o ∧ o.isCells = false) → (∀ r, row = some r → d ≤ r ∧ ∃ o : Obj, A.heap[r]? = some o ∧ o.isCells = false) := fun h r e => ⟨by have := (h r e).1; omega, (h r e).2⟩
  refine (hseq (d + 1) (fun pre W => I pre W ∧ Books W d (R .ready none)) (fun pre W => ∃ c, Ix c pre W ∧ Books W d (R .done (some c))) W1 e1 (by omega)
    (fun s A B row hs hgr hr => ⟨hI s A B row hs.1 hgr (up hr), hs.2.own hgr (fun k e => by have := (hr k e).1; omega)⟩)
    (fun s A B row hs hgr hr => by obtain ⟨c, hc, hb⟩ := hs; exact ⟨c, hIx c s A B row hc hgr (up hr), hb.own hgr (fun k e => by have := (hr k e).1; omega)⟩)
    (fun pre x W hs hlen => ?_) ⟨i1, b1⟩).mono ?_
  · obtain ⟨hi, hb⟩ := hs
    have hy := run_yield (P := P) (args := encs x) hb.rec_ (by rw [hR]; exact hps x)
    rw [hR] at hy
    refine ⟨fn, _, assign, body, hy, roundIn_of_wpIn hfn (hassign _ pre x W _ hi fun a' V kf kp iv av => ?_)⟩
    clear hy
    have hv := hb.from (Nat.le_refl _) kf
    have hv2 := hv.put { R .ready none with state := .busy }
    refine ⟨_, run_beginRound hv.rec_ (by rw [hR]), ?_⟩
    refine wpIn_mono (hbody _ pre x a' _ (by omega) ⟨_, hv2.rec_⟩ (hI.putObj _ iv (by omega) hv.rec_ rfl) ((hAx x a').putObj (s := ()) _ av (by omega) hv.rec_ rfl) hlen) ?_
    have kp2 : Kp V (V.putObj (d + 1) (.loop { R .ready none with state := .busy })) := hKb _ _ _ hv.rec_ rfl
    have ends : ∀ (jump : Option Code) (U : World), Books U d { R .ready none with state := .busy } →
        (Instr.endRound (d + 1) jump).run P U = .ok (.bool jump.isNone) (U.putObj (d + 1) (.loop (R (if jump.isNone then .ready else .done) jump))) ∧ Books (U.putObj (d + 1) (.loop (R (if jump.isNone then .ready else .done) jump))) d (R (if jump.isNone then .ready else .done) jump) := fun jump U hU => by
      refine ⟨?_, hU.put _⟩
      have := run_endRound (P := P) jump hU.rec_
      rw [hR] at this ⊢
      exact this
    intro e a3 U hp
    have leave : ∀ c, KeepsFrom d (V.putObj (d + 1) (.loop { R .ready none with state := .busy })) U → Ix c (pre ++ [x]) U → ∃ v U', (Instr.endRound (d + 1) (some c)).run P U = .ok v U' ∧ ((Ending.returned v = .returned (.bool true) ∧ (I (pre ++ [x]) U' ∧ Books U' d (R .ready none)) ∧ Kp W U') ∨ (Ending.returned v = .returned (.bool false) ∧ (∃ c, Ix c (pre ++ [x]) U' ∧ Books U' d (R .done (some c))) ∧ KeepsFrom (d + 2) W U')) := fun c hk hx => by
      have hU := hv2.from (Nat.le_refl _) hk
      obtain ⟨q1, q2⟩ := ends (some c) U hU
      exact ⟨_, _, q1, .inr ⟨rfl, ⟨c, (hIx c).putObj _ hx (by omega) hU.rec_ rfl, q2⟩, (((keepsUp kf (by omega)).trans ((Above.put (B := d + 2) V _ (by omega)).keeps (Nat.le_refl _))).trans (keepsUp hk (by omega))).trans ((Above.put (B := d + 2) U _ (by omega)).keeps (Nat.le_refl _))⟩⟩
    cases e with
    | normal =>
      obtain ⟨k3, p3, j3⟩ := hp
      have hU := hv2.from (Nat.le_refl _) k3
      obtain ⟨q1, q2⟩ := ends none U hU
      exact ⟨_, _, q1, .inl ⟨rfl, ⟨hI.putObj _ j3 (by omega) hU.rec_ rfl, q2⟩, hKt kp (hKt (hKt kp2 p3) (hKb _ _ _ hU.rec_ rfl))⟩⟩
    | ret => exact leave .ret hp.1 hp.2
    | exit id => exact leave (.exit id) hp.1 hp.2
    | goto t => exact leave (.goto t) hp.1 hp.2
    | panic ch => exact hp.elim
    | outgrown => exact hp.elim
  · rintro e W2 ⟨⟨v, rfl⟩, (⟨xs, hS, hi, hb⟩ | ⟨pre, hSp, c, hi, hb⟩)⟩
    · exact ⟨none, _, by have := run_endLoop (P := P) hb.rec_ (by rw [hR]; simp); rw [hR] at this; exact this, hdone _ xs _ (Nat.le_refl _) hS (hI.putObj _ hi (by omega) hb.rec_ rfl) ((World.putObj_heap_other (by omega)).trans hb.def_)⟩
    · exact ⟨some c, _, by have := run_endLoop (P := P) hb.rec_ (by rw [hR]; simp); rw [hR] at this; exact this, hstop _ c pre _ (Nat.le_refl _) hSp ((hIx c).putObj _ hi (by omega) hb.rec_ rfl) ((World.putObj_heap_other (by omega)).trans hb.def_)⟩

end Go.Proofs.Ytlkpgbilepehmaa
