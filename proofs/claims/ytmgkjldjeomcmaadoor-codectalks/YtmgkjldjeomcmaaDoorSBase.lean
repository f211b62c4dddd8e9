/- Layer stream, the ground: blocks known whole; variables of many cells; lists of words and of bytes. -/
import Derived.Test.YtmgkjldjeomcmaaDoorOPut
import Derived.Deep.WholeRow
import Derived.Deep.MidRow
namespace Go.Proofs.YtmgkjldjeomcmaaDoor
open Go.RowKit
set_option linter.unusedVariables false
set_option linter.unusedSimpArgs false

/-- Block g is of type t and holds just these values. -/
def Blk (w : World) (g : Nat) (t : TypeId) (vs : List Value) : Prop := w.heap[g]? = some (.cells vs.toArray t (0, 0))
theorem Blk.cell {w : World} {g : Nat} {t : TypeId} {vs : List Value} (h : Blk w g t vs) (j : Nat) : w.cell? ⟨g, j, none⟩ = vs[j]? := by
  rw [cell_of_row w g j _ t (0, 0) h]; simp
theorem Blk.frozen {w : World} {g : Nat} {t : TypeId} {vs : List Value} (h : Blk w g t vs) (j : Nat) : w.frozen? ⟨g, j, none⟩ = false := frozen_of_row w g j _ t h
theorem Blk.lt {w : World} {g : Nat} {t : TypeId} {vs : List Value} (h : Blk w g t vs) : g < w.heap.size := by
  rcases Nat.lt_or_ge g w.heap.size with h' | h'
  · exact h'
  · unfold Blk at h; rw [Array.getElem?_eq_none h'] at h; cases h
theorem Blk.block {w w' : World} {g : Nat} {t : TypeId} {vs : List Value} (h : Blk w g t vs) (e : w'.heap[g]? = w.heap[g]?) : Blk w' g t vs := e.trans h
theorem Blk.later {w w' : World} {g : Nat} {t : TypeId} {vs : List Value} (h : Blk w g t vs) {B : Nat} (hb : Below B w w') (hB : g < B) : Blk w' g t vs := h.block (hb.block g hB)
theorem Blk.kept {S : Nat → Prop} {w w' : World} {g : Nat} {t : TypeId} {vs : List Value} (h : Blk w g t vs) (hk : Kept S w w') (hS : ¬ S g) : Blk w' g t vs := h.block (hk.block g h.lt hS)
theorem Blk.drewN {w : World} {g : Nat} {t : TypeId} {vs : List Value} (h : Blk w g t vs) (k : Nat) : Blk (w.drewN k) g t vs := h
theorem Blk.drew {w : World} {g : Nat} {t : TypeId} {vs : List Value} (h : Blk w g t vs) : Blk w.drew g t vs := h
theorem Blk.set {w : World} {g : Nat} {t : TypeId} {vs : List Value} (h : Blk w g t vs) (j : Nat) (u : Value) : Blk (w.setCell ⟨g, j, none⟩ u) g t (vs.set j u) := by
  unfold Blk
  rw [heap_setCell_same w g j _ t _ h]; simp
theorem Blk.other {w : World} {g : Nat} {t : TypeId} {vs : List Value} (h : Blk w g t vs) {p : Addr} (hp : g ≠ p.block) (u : Value) : Blk (w.setCell p u) g t vs := h.block (Below.heap_setCell _ _ _ _ hp)
theorem Blk.range {w : World} {g : Nat} {t : TypeId} {xs ys zs : List Value} (h : Blk w g t (xs ++ (ys ++ zs))) : w.rangeAt g xs.length ys := fun j v hv => by
  have hj : j < ys.length := (List.getElem?_eq_some_iff.1 hv).1
  rw [h.cell, List.getElem?_append_right (Nat.le_add_right _ _), Nat.add_sub_cancel_left, List.getElem?_append_left hj]; exact hv
theorem Blk.there {w : World} {g : Nat} {t : TypeId} {vs : List Value} (h : Blk w g t vs) {o n : Nat} (hn : o + n ≤ vs.length) : w.there g o n := fun j hj =>
  ⟨by rw [h.cell, List.getElem?_eq_getElem (by omega)]; rfl, h.frozen _⟩

/-- setCells over a block that is known whole. -/
theorem set_mid (xs ys zs : List Value) (v y : Value) : (xs ++ (y :: (ys ++ zs))).set xs.length v = xs ++ [v] ++ (ys ++ zs) := by
  rw [List.set_append_right _ _ (Nat.le_refl _), Nat.sub_self, List.set_cons_zero]; simp
theorem Blk.setCells {g : Nat} {t : TypeId} : ∀ (us ys : List Value) {w : World} {xs zs : List Value}, us.length = ys.length → Blk w g t (xs ++ (ys ++ zs)) → Blk (w.setCells g xs.length us) g t (xs ++ (us ++ zs))
  | [], [], w, xs, zs, _, h => h
  | u :: us, y :: ys, w, xs, zs, hl, h => by
    have h1 := h.set xs.length u
    rw [List.cons_append, set_mid] at h1
    have := Blk.setCells us ys (xs := xs ++ [u]) (zs := zs) (by simpa using hl) h1
    rw [List.length_append] at this
    simpa [World.setCells] using this
theorem setCells_heap_other (b : Nat) : ∀ (vs : List Value) (o : Nat) (w : World) (k : Nat), k ≠ b → (w.setCells b o vs).heap[k]? = w.heap[k]?
  | [], _, _, _, _ => rfl
  | v :: r, o, w, k, h => by
    rw [World.setCells, setCells_heap_other b r _ _ k h]
    exact Below.heap_setCell _ _ _ _ h
theorem setCells_size (b : Nat) : ∀ (vs : List Value) (o : Nat) (w : World), (w.setCells b o vs).heap.size = w.heap.size
  | [], _, _ => rfl
  | v :: r, o, w => by
    rw [World.setCells, setCells_size b r]
    simp [World.setCell]
theorem setCells_rest (b : Nat) : ∀ (vs : List Value) (o : Nat) (w : World), (w.setCells b o vs).os = w.os ∧ (w.setCells b o vs).tape = w.tape ∧ (w.setCells b o vs).output = w.output
  | [], _, _ => ⟨rfl, rfl, rfl⟩
  | v :: r, o, w => by
    rw [World.setCells]
    exact setCells_rest b r _ _
theorem Kept.setCells {S : Nat → Prop} {a w : World} (h : Kept S a w) {b : Nat} (hb : S b) (o : Nat) (vs : List Value) : Kept S a (w.setCells b o vs) :=
  h.trans ⟨(setCells_rest b vs o w).1, (setCells_rest b vs o w).2.1, (setCells_rest b vs o w).2.2, by rw [setCells_size]; exact Nat.le_refl _, fun k _ hs => setCells_heap_other b vs o w k (fun e => hs (e ▸ hb))⟩
theorem Kept.drewN {S : Nat → Prop} {a w : World} (h : Kept S a w) (n : Nat) : Kept S a (w.drewN n) := ⟨h.os, h.tape, h.output, h.size, h.block⟩
theorem Kept.of_below {S : Nat → Prop} {w w' : World} {B : Nat} (h : Below B w w') (hS : ∀ k, k < w.heap.size → B ≤ k → S k) : Kept S w w' :=
  ⟨h.os, h.tape, h.output, h.size, fun k hk hs => h.block k (by
    rcases Nat.lt_or_ge k B with h1 | h1
    · exact h1
    · exact absurd (hS k hk h1) hs)⟩
theorem Kept.new {w w' : World} (S : Nat → Prop) (h : Below w.heap.size w w') : Kept S w w' := Kept.of_below h (fun k h1 h2 => by omega)
theorem one_ints (k : IntKind) (zs : List Int) : ∀ v ∈ zs.map (Value.int k), v.oneCell' = true := by
  intro v hv
  obtain ⟨z, _, rfl⟩ := List.mem_map.1 hv
  rfl

/-- A new variable of zeros. -/
theorem wpList_alloc_new {ops : Array Oper} {rest : List Oper} {o : Oper} {a : Act} {Q : Exit → Act → World → Prop} {w : World} (hgd : o.guard = none) (t : TypeId) (ho : o.op = .alloc t) (n : Nat) (vs : List Value)
    (hz : (Tryd.prog.info? t).map (fun i => (i.zero, i.size)) = some (some (.agg vs.toArray), n))
    (h : ∀ w', Blk w' w.heap.size t vs → w'.heap.size = w.heap.size + 1 → Below w.heap.size w w' → wpList Tryd.prog ops Q rest (a.put o.dst (.pointer (some ⟨w.heap.size, 0, none⟩))) w') : wpList Tryd.prog ops Q (o :: rest) a w := by
  refine wpList_plain hgd fun K hK => ?_
  unfold Oper.wp execOp
  simp only [ho, Sem.run_bind, Instr.alloc, (zero_of_info hz).1, newVar, newRow, run_newObj_alloc, Sem.run_pure, Result.andThen_ok]
  exact hK _ _ (h _ (heap_alloc_new w _) (by simp) ((Below.refl _ _).alloc (Nat.le_refl _) _))
/-- A new variable that holds a value of many cells. -/
theorem wpList_box_new {ops : Array Oper} {rest : List Oper} {o : Oper} {a : Act} {Q : Exit → Act → World → Prop} {w : World} (hgd : o.guard = none) (t : TypeId) (x : Operand) (ho : o.op = .box t x) (vs : List Value) (hx : a.eval x = .agg vs.toArray)
    (h : ∀ w', Blk w' w.heap.size t vs → w'.heap.size = w.heap.size + 1 → Below w.heap.size w w' → wpList Tryd.prog ops Q rest (a.put o.dst (.pointer (some ⟨w.heap.size, 0, none⟩))) w') : wpList Tryd.prog ops Q (o :: rest) a w := by
  refine wpList_plain hgd fun K hK => ?_
  unfold Oper.wp execOp
  simp only [ho, hx, Sem.run_bind, Instr.box, Value.cells, newVar, newRow, run_newObj_alloc, Sem.run_pure, Result.andThen_ok]
  exact hK _ _ (h _ (heap_alloc_new w _) (by simp) ((Below.refl _ _).alloc (Nat.le_refl _) _))
/-- A whole variable read. -/
theorem wpList_load_blk {ops : Array Oper} {rest : List Oper} {o : Oper} {a : Act} {Q : Exit → Act → World → Prop} {w : World} (hgd : o.guard = none) (t : TypeId) (x : Operand) (ho : o.op = .load t x) (g : Nat) (hx : a.eval x = .pointer (some ⟨g, 0, none⟩))
    (vs : List Value) (d : TypeDesc) (hb : Blk w g t vs) (hu : Tryd.prog.underlying t = some d) (hd : d.isRow = true) (hi : (Tryd.prog.info? t).map (·.size) = some vs.length)
    (h : wpList Tryd.prog ops Q rest (a.put o.dst (.agg vs.toArray)) w) : wpList Tryd.prog ops Q (o :: rest) a w :=
  wpList_load_mid hgd t x ho g 0 hx vs d (fun j v hv => by rw [Nat.zero_add, hb.cell]; exact hv) hu hd hi h
/-- A whole variable written. -/
theorem wpList_store_blk {ops : Array Oper} {rest : List Oper} {o : Oper} {a : Act} {Q : Exit → Act → World → Prop} {w : World} (hgd : o.guard = none) (t t' : TypeId) (x y : Operand) (ho : o.op = .store t x y) (g : Nat) (hx : a.eval x = .pointer (some ⟨g, 0, none⟩))
    (vs us : List Value) (hy : a.eval y = .agg us.toArray) (hb : Blk w g t' vs) (hl : us.length = vs.length) (hi : (Tryd.prog.info? t).map (·.size) = some us.length) (h1 : ∀ v ∈ us, v.oneCell' = true)
    (h : ∀ w', Blk w' g t' us → w'.heap.size = w.heap.size → Kept (fun k => k = g) w w' → wpList Tryd.prog ops Q rest (a.put o.dst undef) w') : wpList Tryd.prog ops Q (o :: rest) a w := by
  refine wpList_store_mid hgd t x y ho g 0 us.toArray hx hy (hb.there (by simp; omega)) (by simpa using hi) (all_oneCell_toArray h1) (h _ ?_ ?_ ?_)
  · have := Blk.setCells (xs := []) (zs := []) us vs hl (by simpa using hb)
    simpa using this
  · exact setCells_size ..
  · exact (Kept.refl _ _).setCells (S := fun k => k = g) rfl _ _
/-- In a region that draws: an operation that yields its value in whatever world is taken first. -/
theorem take_op {md : Region.Mode} {ops : Array Oper} {Q : Exit → Act → World → Prop} {oi : Oper} {fuel : Nat} {listed : Array Bool} {a : Act} {w : World} (i : Nat) (d : Option Tmp) (v : Value) (hi : ops[i]? = some oi) (hd : oi.dst = d)
    (hs : Region.noSelect ops = true) (hf : Region.free md ops listed i = true) (hr : (Region.ready md ops listed).contains i = true) (hQ : ∀ c a w, Q (.panic c) (a.put d v) w → Q (.panic c) a w)
    (hw : Region.wanted oi (yielded ops a.tmps) = true) (hy : ∀ w, (execOp a.eval oi).run Tryd.prog w = .ok (.value v) w)
    (h : wpAny Tryd.prog md ops Q fuel (listed.setIfInBounds i true) (a.put d v) w) : wpAny Tryd.prog md ops Q (fuel + 1) listed a w := by
  subst hd
  exact wpAny_take hi hs hf hr hQ (Or.inl ⟨hw, hy⟩) h
/-- In a region that draws: many cells read, many cells written. -/
theorem step_load {ops : Array Oper} {Q : Exit → Act → World → Prop} {o : Oper} {a : Act} {w : World} {K : Act → World → Prop} {E : Prop} (d : Option Tmp) (hdst : o.dst = d) (hw : Region.wanted o (yielded ops a.tmps) = true) (ty : TypeId) (x : Operand) (ho : o.op = .load ty x)
    (b off : Nat) (hx : a.eval x = .pointer (some ⟨b, off, none⟩)) (cs : List Value) (ds : TypeDesc) (hc : w.rangeAt b off cs) (hu : Tryd.prog.underlying ty = some ds) (hd : ds.isRow = true) (hi : (Tryd.prog.info? ty).map (·.size) = some cs.length)
    (h : K (a.put d (.agg cs.toArray)) w) : if Region.wanted o (yielded ops a.tmps) = true then Oper.wp Tryd.prog o a w K Q else E := by
  subst hdst
  rw [if_pos hw]
  exact wp_load_mid ty x ho b off hx cs ds hc hu hd hi h
theorem step_store {ops : Array Oper} {Q : Exit → Act → World → Prop} {o : Oper} {a : Act} {w : World} {K : Act → World → Prop} {E : Prop} (hdst : o.dst = none) (hw : Region.wanted o (yielded ops a.tmps) = true) (ty : TypeId) (x y : Operand) (ho : o.op = .store ty x y)
    (b off : Nat) (hx : a.eval x = .pointer (some ⟨b, off, none⟩)) (cs : List Value) (hy : a.eval y = .agg cs.toArray) (ht : w.there b off cs.length) (hi : (Tryd.prog.info? ty).map (·.size) = some cs.length) (h1 : ∀ v ∈ cs, v.oneCell' = true)
    (h : K a (w.setCells b off cs)) : if Region.wanted o (yielded ops a.tmps) = true then Oper.wp Tryd.prog o a w K Q else E := by
  rw [if_pos hw]
  refine wp_store_mid ty x y ho b off cs.toArray hx hy (by simpa using ht) (by simpa using hi) (all_oneCell_toArray h1) ?_
  rw [hdst]
  exact h
/-- One operation of a region that draws, carried out. -/
def Stp (ops : Array Oper) (Q : Exit → Act → World → Prop) (o : Oper) (a : Act) (w : World) (a' : Act) (w' : World) : Prop :=
  ∀ K : Act → World → Prop, K a' w' → if Region.wanted o (yielded ops a.tmps) = true then Oper.wp Tryd.prog o a w K Q else K (a.put o.dst undef) w
theorem one_step {md : Region.Mode} {ops : Array Oper} {Q : Exit → Act → World → Prop} {fuel : Nat} {listed : Array Bool} {a a' : Act} {w w' : World} (i : Nat) {oi : Oper} (hi : ops[i]? = some oi) (hr : Region.ready md ops listed = [i])
    (s : Stp ops Q oi a w a' w') (h : wpAny Tryd.prog md ops Q fuel (listed.setIfInBounds i true) a' w') : wpAny Tryd.prog md ops Q (fuel + 1) listed a w :=
  wpAny_ready hr (by simp) (AllReady.cons hi (fun K hK => s K (hK _ _ h)) AllReady.nil)
/-- Two operations that may come in either order, and come to one end. -/
theorem two_steps {md : Region.Mode} {ops : Array Oper} {Q : Exit → Act → World → Prop} {fuel : Nat} {listed : Array Bool} {a a1 a2 a3 : Act} {w : World} (i j : Nat) {oi oj : Oper} (hi : ops[i]? = some oi) (hj : ops[j]? = some oj) (hij : i ≠ j)
    (hr : Region.ready md ops listed = [i, j]) (hr1 : Region.ready md ops (listed.setIfInBounds i true) = [j]) (hr2 : Region.ready md ops (listed.setIfInBounds j true) = [i])
    (s1 : Stp ops Q oi a w a1 w) (s2 : Stp ops Q oj a1 w a3 w) (t1 : Stp ops Q oj a w a2 w) (t2 : Stp ops Q oi a2 w a3 w)
    (h : wpAny Tryd.prog md ops Q fuel ((listed.setIfInBounds i true).setIfInBounds j true) a3 w) : wpAny Tryd.prog md ops Q (fuel + 2) listed a w := by
  have e : (listed.setIfInBounds i true).setIfInBounds j true = (listed.setIfInBounds j true).setIfInBounds i true := by
    apply Array.ext_getElem?
    intro k
    simp only [Array.getElem?_setIfInBounds, Array.size_setIfInBounds]
    by_cases h1 : i = k <;> by_cases h2 : j = k <;> simp_all
  refine wpAny_ready hr (by simp) (AllReady.cons hi (fun K hK => s1 K (hK _ _ (one_step j hj hr1 s2 h))) (AllReady.cons hj (fun K hK => t1 K (hK _ _ (one_step i hi hr2 t2 ?_))) AllReady.nil))
  rw [← e]; exact h
/-- A value built of parts. -/
theorem wpList_build {ops : Array Oper} {rest : List Oper} {o : Oper} {a : Act} {Q : Exit → Act → World → Prop} {w : World} (hgd : o.guard = none) (t : TypeId) (parts : Array (Nat × Operand)) (ho : o.op = .build t parts) (ps : Array (Nat × Value))
    (hp : (parts.map fun (i, x) => (i, a.eval x)) = ps) (v : Value) (hrun : (Instr.build t ps).run Tryd.prog w = .ok v w) (h : wpList Tryd.prog ops Q rest (a.put o.dst v) w) : wpList Tryd.prog ops Q (o :: rest) a w := by
  refine wpList_plain hgd fun K hK => ?_
  unfold Oper.wp execOp
  simp only [ho, hp, Sem.run_bind, hrun, Sem.run_pure, Result.andThen_ok]
  exact hK _ _ h
/-- A call that ends with its result in a variable of many cells. -/
theorem ret_blk {fn : Func} {p : Tmp} {ty : TypeId} (h : fn.results = #[.cell p ty]) {R : Ending → World → Prop} {a : Act} {w : World} (g : Nat) (vs : List Value) (d : TypeDesc) (hp : a.tmps.getD p undef = .pointer (some ⟨g, 0, none⟩))
    (hb : Blk w g ty vs) (hu : Tryd.prog.underlying ty = some d) (hd : d.isRow = true) (hi : (Tryd.prog.info? ty).map (·.size) = some vs.length) (hdef : a.defers = []) (hR : R (.returned (.agg vs.toArray)) w) : bodyPost Tryd.prog fn R .ret a w :=
  bodyPost_ret (results_cell_row h _ _ g ty vs.toArray (0, 0) d hp hb hu (by cases d <;> simp_all) (by simpa using hi)) hdef hR
theorem below_kept {S : Nat → Prop} {w w1 w2 : World} {B : Nat} (h : Below B w w1) (k : Kept S w1 w2) (hB : B ≤ w1.heap.size) (hS : ∀ j, j < B → ¬ S j) : Below B w w2 :=
  ⟨by rw [k.os, h.os], by rw [k.tape, h.tape], by rw [k.output, h.output], Nat.le_trans h.size k.size, fun j hj => by rw [k.block j (by omega) (hS j hj), h.block j hj]⟩
theorem below_chain {w w1 w2 : World} {B C : Nat} (h : Below B w w1) (k : Below C w1 w2) (hB : B ≤ C) : Below B w w2 :=
  ⟨by rw [k.os, h.os], by rw [k.tape, h.tape], by rw [k.output, h.output], Nat.le_trans h.size k.size, fun j hj => by rw [k.block j (by omega), h.block j hj]⟩
def u32s (zs : List Int) : List Value := zs.map (Value.int .u32)
def u8s (zs : List Int) : List Value := zs.map (Value.int .u8)
theorem u32s_length (zs : List Int) : (u32s zs).length = zs.length := by simp [u32s]
theorem u8s_length (zs : List Int) : (u8s zs).length = zs.length := by simp [u8s]
theorem u32s_one (zs : List Int) : ∀ v ∈ u32s zs, v.oneCell' = true := one_ints _ _
theorem u8s_one (zs : List Int) : ∀ v ∈ u8s zs, v.oneCell' = true := one_ints _ _
theorem u32s_set (zs : List Int) (j : Nat) (z : Int) : (u32s zs).set j (.int .u32 z) = u32s (zs.set j z) := by simp [u32s, List.map_set]
theorem u8s_set (zs : List Int) (j : Nat) (z : Int) : (u8s zs).set j (.int .u8 z) = u8s (zs.set j z) := by simp [u8s, List.map_set]
theorem u8s_cell {w : World} {g : Nat} {t : TypeId} {zs : List Int} (h : Blk w g t (u8s zs)) (j : Nat) (hj : j < zs.length) : w.cell? ⟨g, j, none⟩ = some (.int .u8 (zs.getD j 0)) := by
  rw [h.cell]; simp [u8s, hj, List.getD]
theorem u32s_cell {w : World} {g : Nat} {t : TypeId} {zs : List Int} (h : Blk w g t (u32s zs)) (j : Nat) (hj : j < zs.length) : w.cell? ⟨g, j, none⟩ = some (.int .u32 (zs.getD j 0)) := by
  rw [h.cell]; simp [u32s, hj, List.getD]
theorem set_next (xs : List Int) (n : Nat) (z y : Int) : (xs ++ List.replicate (n + 1) y).set xs.length z = (xs ++ [z]) ++ List.replicate n y := by
  rw [List.set_append_right _ _ (Nat.le_refl _), Nat.sub_self, List.replicate_succ, List.set_cons_zero]; simp
theorem getD_front (xs ys : List Int) (j : Nat) (hj : j < xs.length) : (xs ++ ys).getD j 0 = xs.getD j 0 := by
  simp [List.getD, List.getElem?_append_left hj]

def addW (xs ys : List Int) : List Int := List.zipWith (fun x y => (x + y) % 4294967296) xs ys
theorem addW_length (xs ys : List Int) (n : Nat) (hx : xs.length = n) (hy : ys.length = n) : (addW xs ys).length = n := by simp [addW, hx, hy]
theorem addW_at (xs ys : List Int) (n i : Nat) (hx : xs.length = n) (hy : ys.length = n) (hi : i < n) : (addW xs ys).getD i 0 = (xs.getD i 0 + ys.getD i 0) % 4294967296 := by
  have h1 : i < xs.length := by omega
  have h2 : i < ys.length := by omega
  have h3 : i < (List.zipWith (fun x y => (x + y) % 4294967296) xs ys).length := by simp; omega
  simp only [addW, List.getD]
  rw [List.getElem?_eq_getElem h3, List.getElem?_eq_getElem h1, List.getElem?_eq_getElem h2]
  simp
theorem half_set (xs ys : List Int) (n i : Nat) (hx : xs.length = n) (hy : ys.length = n) (hi : i < n) : (xs.take i ++ ys.drop i).set i (xs.getD i 0) = xs.take (i + 1) ++ ys.drop (i + 1) := by
  have e : (xs.take i).length = i := by simp; omega
  have h1 : i < xs.length := by omega
  have h2 : xs.getD i 0 = xs[i] := by simp [List.getD, h1]
  rw [List.set_append_right _ _ (by omega), e, Nat.sub_self, List.drop_eq_getElem_cons (by omega : i < ys.length), List.set_cons_zero, List.take_succ_eq_append_getElem h1, h2, List.append_assoc]
  rfl
theorem half_at (xs ys : List Int) (n i : Nat) (hx : xs.length = n) (hy : ys.length = n) (hi : i < n) : (xs.take i ++ ys.drop i).getD i 0 = ys.getD i 0 := by
  have e : (xs.take i).length = i := by simp; omega
  simp only [List.getD]
  rw [List.getElem?_append_right (by omega), e, Nat.sub_self, List.getElem?_drop, Nat.add_zero]
theorem half_length (xs ys : List Int) (n i : Nat) (hx : xs.length = n) (hy : ys.length = n) (hi : i ≤ n) : (xs.take i ++ ys.drop i).length = n := by simp; omega
end Go.Proofs.YtmgkjldjeomcmaaDoor
