/- Regions that draw: one walk for all orders. Each operation yields what is expected of it, whatever order is picked, and the blocks that were there stay. -/
import Derived.Test.YtmgkjldjeomcmaaDoorSBase
namespace Go.Proofs.YtmgkjldjeomcmaaDoor
open Go.RowKit
set_option linter.unusedVariables false
set_option linter.unusedSimpArgs false

/-- What is expected of an operation: a value; a new block that holds values; or whatever stays true as memory grows. -/
inductive Exp where
  | val (v : Value)
  | blk (t : TypeId) (vs : List Value)
  | any (p : Value → World → Prop) (hp : ∀ v w w', Below w.heap.size w w' → p v w → p v w')
def Exp.ok (base : Nat) : Exp → Value → World → Prop
  | .val u, v, _ => v = u
  | .blk t vs, v, w => ∃ g, v = .pointer (some ⟨g, 0, none⟩) ∧ base ≤ g ∧ Blk w g t vs
  | .any p _, v, w => p v w
theorem Exp.ok_later {base : Nat} : ∀ (E : Exp) {v : Value} {w w' : World}, Below w.heap.size w w' → E.ok base v w → E.ok base v w'
  | .val _, _, _, _, _, h => h
  | .blk _ _, _, _, _, hb, ⟨g, h1, h2, h3⟩ => ⟨g, h1, h2, h3.later hb h3.lt⟩
  | .any _ hp, _, _, _, hb, h => hp _ _ _ hb h
/-- An operation with these operands does what is expected of it. -/
def Does (base : Nat) (E : Exp) (ρ : Operand → Value) (o : Oper) (w : World) : Prop :=
  match (execOp ρ o).run Tryd.prog w with
  | .ok (.value v) w' => E.ok base v w' ∧ Below w.heap.size w w'
  | .ok (.enter f args) w' => Calls Tryd.prog f args w' fun e w'' => ∃ v, e = .returned v ∧ E.ok base v w'' ∧ Below w.heap.size w w''
  | _ => False
theorem Does.wp {base : Nat} {E : Exp} {a : Act} {o : Oper} {w : World} (h : Does base E a.eval o w) {K : Act → World → Prop} {Q : Exit → Act → World → Prop} (hK : ∀ v w', E.ok base v w' → Below w.heap.size w w' → K (a.put o.dst v) w') : o.wp Tryd.prog a w K Q := by
  unfold Does at h
  unfold Oper.wp
  generalize (execOp a.eval o).run Tryd.prog w = r at h ⊢
  match r, h with
  | .ok (.value v) w', h => exact hK _ _ h.1 h.2
  | .ok (.enter f args) w', h =>
    rw [Oper.upon_enter]
    refine h.mono ?_
    rintro e w'' ⟨v, rfl, h1, h2⟩
    exact hK _ _ h1 h2
theorem Does.value {base : Nat} {E : Exp} {ρ : Operand → Value} {o : Oper} {w : World} (v : Value) (h : (execOp ρ o).run Tryd.prog w = .ok (.value v) w) (hE : E.ok base v w) : Does base E ρ o w := by
  unfold Does; rw [h]; exact ⟨hE, Below.refl _ _⟩
theorem Does.call {base : Nat} {E : Exp} {ρ : Operand → Value} {o : Oper} {w : World} (f : FuncId) (args : Array Value) (h : (execOp ρ o).run Tryd.prog w = .ok (.enter f args) w) (hC : Calls Tryd.prog f args w fun e w'' => ∃ v, e = .returned v ∧ E.ok base v w'' ∧ Below w.heap.size w w'') : Does base E ρ o w := by
  unfold Does; rw [h]; exact hC
theorem Does.alloc {base : Nat} {ρ : Operand → Value} {o : Oper} {w : World} (t : TypeId) (ho : o.op = .alloc t) (n : Nat) (vs : List Value) (hz : (Tryd.prog.info? t).map (fun i => (i.zero, i.size)) = some (some (.agg vs.toArray), n)) (hb : base ≤ w.heap.size) : Does base (.blk t vs) ρ o w := by
  unfold Does execOp
  simp only [ho, Sem.run_bind, Instr.alloc, (zero_of_info hz).1, newVar, newRow, run_newObj_alloc, Sem.run_pure, Result.andThen_ok]
  exact ⟨⟨_, rfl, hb, heap_alloc_new w _⟩, (Below.refl _ _).alloc (Nat.le_refl _) _⟩
theorem Does.box {base : Nat} {ρ : Operand → Value} {o : Oper} {w : World} (t : TypeId) (x : Operand) (ho : o.op = .box t x) (vs : List Value) (hx : ρ x = .agg vs.toArray) (hb : base ≤ w.heap.size) : Does base (.blk t vs) ρ o w := by
  unfold Does execOp
  simp only [ho, hx, Sem.run_bind, Instr.box, Value.cells, newVar, newRow, run_newObj_alloc, Sem.run_pure, Result.andThen_ok]
  exact ⟨⟨_, rfl, hb, heap_alloc_new w _⟩, (Below.refl _ _).alloc (Nat.le_refl _) _⟩
/-- Many cells read. -/
theorem Does.load {base : Nat} {ρ : Operand → Value} {o : Oper} {w : World} (t : TypeId) (x : Operand) (ho : o.op = .load t x) (b off : Nat) (hx : ρ x = .pointer (some ⟨b, off, none⟩)) (cs : List Value) (d : TypeDesc) (hc : w.rangeAt b off cs) (hu : Tryd.prog.underlying t = some d) (hd : d.isRow = true) (hi : (Tryd.prog.info? t).map (·.size) = some cs.length) :
    Does base (.val (.agg cs.toArray)) ρ o w := by
  refine Does.value _ ?_ rfl
  unfold execOp
  simp only [ho, hx, Instr.loadAt, Instr.sureAddr, Sem.run_bind, Sem.run_pure, Result.andThen_ok, run_loadVar_mid w b off t cs d hc hu hd hi]
/-- One cell read. -/
theorem Does.cell {base : Nat} {ρ : Operand → Value} {o : Oper} {w : World} (t : TypeId) (x : Operand) (ho : o.op = .load t x) (p : Addr) (hx : ρ x = .pointer (some p)) (v : Value) (hv : w.cell? p = some v) (hu : ∀ w', w'.cell? p = some v → (Instr.loadAt t (.pointer (some p))).run Tryd.prog w' = .ok v w') : Does base (.val v) ρ o w := by
  refine Does.value _ ?_ rfl
  unfold execOp
  simp only [ho, hx, Sem.run_bind, hu w hv, Sem.run_pure, Result.andThen_ok]

theorem Does.build {base : Nat} {ρ : Operand → Value} {o : Oper} {w : World} (t : TypeId) (parts : Array (Nat × Operand)) (ho : o.op = .build t parts) (ps : Array (Nat × Value)) (hp : (parts.map fun (i, x) => (i, ρ x)) = ps) (v : Value) (hrun : (Instr.build t ps).run Tryd.prog w = .ok v w) : Does base (.val v) ρ o w := by
  refine Does.value _ ?_ rfl
  unfold execOp
  simp only [ho, hp, Sem.run_bind, hrun, Sem.run_pure, Result.andThen_ok]
/-- The slot of operation k, what is expected of it, for those operations for which operation j waits. -/
def Deps (base : Nat) (ops : Array Oper) (E : List Exp) (j : Nat) (a : Act) (w : World) : Prop :=
  ∀ k t, ((ops[k]?).bind (·.dst)) = some t → ((ops[j]?).map (fun o => o.after.any fun e => Region.binds .any e && e.on == k)).getD false = true → k + 1 < ops.size → (E.getD k (.val undef)).ok base (a.tmps.getD t undef) w
/-- Each operation but the last. -/
def Steps' (base : Nat) (ops : Array Oper) (E : List Exp) (a0 : Act) (w0 : World) : Nat → List Oper → Prop
  | _, [] => True
  | _, [_] => True
  | j, o :: rest => (∀ a w, Below w0.heap.size w0 w → (∀ t, ((List.range (ops.size - 1)).all fun k => ((ops[k]?).bind (·.dst)) != some t) = true → a.tmps.getD t undef = a0.tmps.getD t undef) → Deps base ops E j a w → Does base (E.getD j (.val undef)) a.eval o w) ∧ Steps' base ops E a0 w0 (j + 1) rest
theorem Steps'.one (base : Nat) (ops : Array Oper) (E : List Exp) (a0 : Act) (w0 : World) (j : Nat) (o : Oper) : Steps' base ops E a0 w0 j [o] := trivial
theorem Steps'.cons {base : Nat} {ops : Array Oper} {E : List Exp} {a0 : Act} {w0 : World} {j : Nat} {o o' : Oper} {rest : List Oper}
    (h : ∀ a w, Below w0.heap.size w0 w → (∀ t, ((List.range (ops.size - 1)).all fun k => ((ops[k]?).bind (·.dst)) != some t) = true → a.tmps.getD t undef = a0.tmps.getD t undef) → Deps base ops E j a w → Does base (E.getD j (.val undef)) a.eval o w)
    (hr : Steps' base ops E a0 w0 (j + 1) (o' :: rest)) : Steps' base ops E a0 w0 j (o :: o' :: rest) := ⟨h, hr⟩
theorem Steps'.at {base : Nat} {ops : Array Oper} {E : List Exp} {a0 : Act} {w0 : World} : ∀ {l : List Oper} {j : Nat}, Steps' base ops E a0 w0 j l → ∀ i o, l[i]? = some o → i + 1 < l.length →
    ∀ a w, Below w0.heap.size w0 w → (∀ t, ((List.range (ops.size - 1)).all fun k => ((ops[k]?).bind (·.dst)) != some t) = true → a.tmps.getD t undef = a0.tmps.getD t undef) → Deps base ops E (j + i) a w → Does base (E.getD (j + i) (.val undef)) a.eval o w
  | [], _, _, i, o, hi, _ => by cases hi
  | [_], _, _, i, o, _, hl => by simp at hl
  | x :: y :: rest, j, h, 0, o, hi, _ => by
    simp at hi; subst hi; exact h.1
  | x :: y :: rest, j, h, i + 1, o, hi, hl => by
    have := Steps'.at h.2 i o (by simpa using hi) (by simpa using hl)
    rwa [show j + 1 + i = j + (i + 1) by omega] at this
/-- Behind all but the last operation. -/
def Ends (base : Nat) (E : List Exp) (Q : Exit → Act → World → Prop) (w : World) : Nat → List Oper → Act → Prop
  | _, [], _ => False
  | _, [o], a => o.wp Tryd.prog a w (fun a' w' => Q .normal a' w') (NoPanic Q)
  | j, o :: rest, a => ∀ v, (E.getD j (.val undef)).ok base v w → Ends base E Q w (j + 1) rest (a.put o.dst v)
theorem Ends.cons {base : Nat} {E : List Exp} {Q : Exit → Act → World → Prop} {w : World} {j : Nat} {o o' : Oper} {rest : List Oper} {a : Act}
    (h : ∀ v, (E.getD j (.val undef)).ok base v w → Ends base E Q w (j + 1) (o' :: rest) (a.put o.dst v)) : Ends base E Q w j (o :: o' :: rest) a := h
theorem Ends.one {base : Nat} {E : List Exp} {Q : Exit → Act → World → Prop} {w : World} {j : Nat} {o : Oper} {a : Act} (h : o.wp Tryd.prog a w (fun a' w' => Q .normal a' w') (NoPanic Q)) : Ends base E Q w j [o] a := h
theorem Ends.val {base : Nat} {E : List Exp} {Q : Exit → Act → World → Prop} {w : World} {j : Nat} {o o' : Oper} {rest : List Oper} {a : Act} (V : Value) (hE : E.getD j (.val undef) = .val V)
    (h : Ends base E Q w (j + 1) (o' :: rest) (a.put o.dst V)) : Ends base E Q w j (o :: o' :: rest) a := Ends.cons fun v hv => by
  rw [hE] at hv
  have : v = V := hv
  rw [this]; exact h
theorem Ends.blk {base : Nat} {E : List Exp} {Q : Exit → Act → World → Prop} {w : World} {j : Nat} {o o' : Oper} {rest : List Oper} {a : Act} (t : TypeId) (vs : List Value) (hE : E.getD j (.val undef) = .blk t vs)
    (h : ∀ g, base ≤ g → Blk w g t vs → Ends base E Q w (j + 1) (o' :: rest) (a.put o.dst (.pointer (some ⟨g, 0, none⟩)))) : Ends base E Q w j (o :: o' :: rest) a := Ends.cons fun v hv => by
  rw [hE] at hv
  obtain ⟨g, rfl, h1, h2⟩ := hv
  exact h g h1 h2
theorem Ends.any {base : Nat} {E : List Exp} {Q : Exit → Act → World → Prop} {w : World} {j : Nat} {o o' : Oper} {rest : List Oper} {a : Act} (p : Value → World → Prop) (hp : ∀ v w w', Below w.heap.size w w' → p v w → p v w') (hE : E.getD j (.val undef) = .any p hp)
    (h : ∀ v, p v w → Ends base E Q w (j + 1) (o' :: rest) (a.put o.dst v)) : Ends base E Q w j (o :: o' :: rest) a := Ends.cons fun v hv => by
  rw [hE] at hv
  exact h v hv
/-- The frame behind operations j .., with what the slots of b hold. -/
def fills (b : Act) : List Oper → Act → Act
  | [], a => a
  | [_], a => a
  | o :: rest, a => fills b rest (a.put o.dst ((o.dst.map (b.tmps.getD · undef)).getD undef))
theorem Ends.at {base : Nat} {E : List Exp} {Q : Exit → Act → World → Prop} {w : World} (b : Act) : ∀ {l : List Oper} {j : Nat} {a : Act}, l ≠ [] → Ends base E Q w j l a →
    (∀ i o, l[i]? = some o → i + 1 < l.length → ∃ t, o.dst = some t ∧ (E.getD (j + i) (.val undef)).ok base (b.tmps.getD t undef) w) →
    ∃ o, l.getLast? = some o ∧ o.wp Tryd.prog (fills b l a) w (fun a' w' => Q .normal a' w') (NoPanic Q)
  | [], _, _, h, _, _ => absurd rfl h
  | [o], _, _, _, h, _ => ⟨o, rfl, h⟩
  | x :: y :: rest, j, a, _, h, hv => by
    obtain ⟨t, h1, h2⟩ := hv 0 x rfl (by simp)
    have := Ends.at b (l := y :: rest) (j := j + 1) (by simp) (h _ h2) (fun i o hi hl => by
      have := hv (i + 1) o (by simpa using hi) (by simpa using hl)
      rwa [show j + (i + 1) = j + 1 + i by omega] at this)
    obtain ⟨o, ho, hw⟩ := this
    refine ⟨o, by simpa using ho, ?_⟩
    simpa [fills, h1] using hw
theorem fills_size (b : Act) : ∀ (l : List Oper) (a : Act), (fills b l a).tmps.size = a.tmps.size ∧ (fills b l a).defers = a.defers
  | [], a => ⟨rfl, rfl⟩
  | [_], a => ⟨rfl, rfl⟩
  | o :: y :: rest, a => by
    rw [fills]
    · have := fills_size b (y :: rest) (a.put o.dst ((o.dst.map (b.tmps.getD · undef)).getD undef))
      rw [this.1, this.2]
      cases o.dst <;> simp [Act.put]
    · simp
theorem fills_slot (b : Act) (t : Nat) : ∀ (l : List Oper) (a : Act), b.tmps.size = a.tmps.size → (b.tmps.getD t undef = a.tmps.getD t undef ∨ ∃ i o, l[i]? = some o ∧ i + 1 < l.length ∧ o.dst = some t) → (fills b l a).tmps.getD t undef = b.tmps.getD t undef
  | [], a, _, h => by
    rcases h with h | ⟨i, o, h, _⟩
    · exact h.symm
    · cases h
  | [_], a, _, h => by
    rcases h with h | ⟨i, o, h, h2, _⟩
    · exact h.symm
    · simp at h2
  | x :: y :: rest, a, hs, h => by
    rw [fills]
    · refine fills_slot b t (y :: rest) _ ?_ ?_
      · cases x.dst <;> simp [Act.put, hs]
      · by_cases hx : x.dst = some t
        · left
          rw [hx]
          simp only [Act.put, Option.map_some, Option.getD_some]
          simp only [Array.getD_eq_getD_getElem?, Array.getElem?_setIfInBounds]
          by_cases hlt : t < a.tmps.size
          · simp [hlt]
          · simp [hlt, hs]
        · rcases h with h | ⟨i, o, h1, h2, h3⟩
          · left
            rw [h]
            cases hd : x.dst with
            | none => simp [Act.put]
            | some d =>
              have : d ≠ t := fun e => hx (by rw [hd, e])
              simp only [Act.put, Array.getD_eq_getD_getElem?, Array.getElem?_setIfInBounds]
              simp [this]
          · cases i with
            | zero => simp at h1; subst h1; exact absurd h3 hx
            | succ i => right; exact ⟨i, o, by simpa using h1, by simpa using h2, h3⟩
    · simp
theorem act_ext {a b : Act} (hs : a.tmps.size = b.tmps.size) (ht : ∀ t, a.tmps.getD t undef = b.tmps.getD t undef) (hd : a.defers = b.defers) : a = b := by
  cases a; cases b
  simp only [Act.mk.injEq] at *
  refine ⟨Array.ext hs fun i h1 h2 => ?_, hd⟩
  have := ht i
  simpa [Array.getD, h1, h2] using this
/-- All operations but the last have slots of their own and no guard, each waits for earlier ones alone, and the last one waits for all. -/
def plainOps (ops : Array Oper) : Bool :=
  (List.range (ops.size - 1)).all (fun j => ((ops[j]?).map (fun o => o.guard.isNone && o.dst.isSome)).getD false) &&
  (List.range (ops.size - 1)).all (fun j => (List.range (ops.size - 1)).all fun k => j == k || ((ops[j]?).bind (·.dst)) != ((ops[k]?).bind (·.dst))) &&
  ((ops[ops.size - 1]?).map (fun o => o.guard.isNone && (List.range (ops.size - 1)).all (fun k => o.after.any fun e => Region.binds .any e && e.on == k))).getD false &&
  (List.range ops.size).all (fun j => ((ops[j]?).map (fun o => o.after.all fun e => !Region.binds .any e || decide (e.on < j))).getD false)
theorem range_all {n : Nat} {p : Nat → Bool} (h : (List.range n).all p = true) (j : Nat) (hj : j < n) : p j = true := List.all_eq_true.1 h j (List.mem_range.2 hj)
theorem wanted_plain {o : Oper} (h : o.guard.isNone = true) (f : Nat → Option Bool) : Region.wanted o f = true := by
  have : o.guard = none := Option.isNone_iff_eq_none.1 h
  simp [Region.wanted, this]
theorem least_false (f : Nat → Bool) : ∀ (n : Nat), f n = false → ∃ i, i ≤ n ∧ f i = false ∧ ∀ k, k < i → f k = true
  | 0, h => ⟨0, Nat.le_refl _, h, fun k hk => by omega⟩
  | n + 1, h => by
    by_cases h' : ∃ k, k ≤ n ∧ f k = false
    · obtain ⟨k, hk, hf⟩ := h'
      obtain ⟨i, h1, h2, h3⟩ := least_false f k hf
      exact ⟨i, by omega, h2, h3⟩
    · refine ⟨n + 1, Nat.le_refl _, h, fun k hk => ?_⟩
      cases hf : f k with
      | true => rfl
      | false => exact absurd ⟨k, by omega, hf⟩ h'
theorem region_inv {id : Nat} {ops : Array Oper} {Q : Exit → Act → World → Prop} {a0 : Act} {w0 : World} (E : List Exp) (hm : Tryd.prog.follows .mixedOrders = true) (hp : plainOps ops = true)
    (hin : (List.range (ops.size - 1)).all (fun j => ((ops[j]?).map (fun o => (o.dst.map (fun t => decide (t < a0.tmps.size))).getD false)).getD false) = true)
    (hs : Steps' w0.heap.size ops E a0 w0 0 ops.toList) (he : ∀ w, Below w0.heap.size w0 w → Ends w0.heap.size E Q w 0 ops.toList a0) : (Code.region id ops true).wp Tryd.prog Q a0 w0 := by
  simp only [plainOps, Bool.and_eq_true] at hp
  obtain ⟨⟨⟨hp1, hp2⟩, hp3⟩, hp4⟩ := hp
  have hne : ops.size - 1 < ops.size := by
    rcases Nat.eq_zero_or_pos ops.size with h | h
    · rw [Array.getElem?_eq_none (by omega)] at hp3; simp at hp3
    · omega
  have own : ∀ j o, ops[j]? = some o → j + 1 < ops.size → o.guard.isNone = true ∧ ∃ t, o.dst = some t ∧ t < a0.tmps.size := by
    intro j o ho hj
    have h1 := range_all hp1 j (by omega)
    have h2 := range_all hin j (by omega)
    simp only [ho, Option.map_some, Option.getD_some, Bool.and_eq_true] at h1 h2
    obtain ⟨t, ht⟩ := Option.isSome_iff_exists.1 h1.2
    rw [ht] at h2
    exact ⟨h1.1, t, ht, by simpa using h2⟩
  have apart : ∀ j k o o' t, ops[j]? = some o → ops[k]? = some o' → j + 1 < ops.size → k + 1 < ops.size → o.dst = some t → o'.dst = some t → j = k := by
    intro j k o o' t ho ho' hj hk ht ht'
    have h1 := range_all (range_all hp2 j (by omega)) k (by omega)
    simp only [ho, ho', Option.bind_some, ht, ht', Bool.or_eq_true, beq_iff_eq] at h1
    rcases h1 with h1 | h1
    · exact h1
    · simp at h1
  refine wp_region_noPanic (wp_region_any hm ?_)
  have main : ∀ (n : Nat) (l : Array Bool) (a : Act) (w : World), l.size = ops.size → Below w0.heap.size w0 w → a.tmps.size = a0.tmps.size → a.defers = a0.defers →
      l.getD (ops.size - 1) true = false →
      (∀ t, (∀ j o, ops[j]? = some o → j + 1 < ops.size → o.dst = some t → l.getD j true = false) → a.tmps.getD t undef = a0.tmps.getD t undef) →
      (∀ j o t, ops[j]? = some o → j + 1 < ops.size → o.dst = some t → l.getD j true = true → (E.getD j (.val undef)).ok w0.heap.size (a.tmps.getD t undef) w) →
      ((List.range ops.size).filter fun i => !l.getD i true).length ≤ n →
      wpAny Tryd.prog .any ops (NoPanic Q) n l a w := by
    intro n
    induction n with
    | zero =>
      intro l a w hl hb hsz hdf hlast hold hnew hc
      have : ops.size - 1 ∈ (List.range ops.size).filter fun i => !l.getD i true := List.mem_filter.2 ⟨List.mem_range.2 hne, by rw [hlast]; rfl⟩
      have := List.length_pos_of_mem this
      omega
    | succ n ih =>
      intro l a w hl hb hsz hdf hlast hold hnew hc
      have hcount : ∀ i, i < ops.size → l.getD i true = false → ((List.range ops.size).filter fun k => !(l.setIfInBounds i true).getD k true).length ≤ n := by
        intro i hi hli
        have hlt : ((List.range ops.size).filter fun k => !(l.setIfInBounds i true).getD k true).length < ((List.range ops.size).filter fun k => !l.getD k true).length := by
          have e : ((List.range ops.size).filter fun k => !(l.setIfInBounds i true).getD k true) = ((List.range ops.size).filter fun k => !l.getD k true).filter (fun k => k != i) := by
            rw [List.filter_filter]
            refine List.filter_congr fun k hk => ?_
            by_cases hki : k = i
            · subst hki; simp [Array.getD, hl, hi]
            · rw [getD_set_ne true (Ne.symm hki)]; simp [hki]
          rw [e]
          refine List.length_filter_lt_length_iff_exists.2 ⟨i, List.mem_filter.2 ⟨List.mem_range.2 hi, by rw [hli]; rfl⟩, by simp⟩
        omega
      refine ⟨fun h0 => ?_, fun i hi => ?_⟩
      · exfalso
        obtain ⟨i, h1, h2, h3⟩ := least_false (fun k => l.getD k true) (ops.size - 1) hlast
        have hi : i < ops.size := by omega
        have : i ∈ Region.ready .any ops l := by
          refine mem_ready.2 ⟨h2, ops[i], by simp [hi], fun e he hbd => ?_⟩
          have h4 := range_all hp4 i hi
          simp only [Array.getElem?_eq_getElem hi, Option.map_some, Option.getD_some] at h4
          have h5 := Array.all_eq_true_iff_forall_mem.1 h4 e he
          simp only [hbd, Bool.not_true, Bool.false_or, decide_eq_true_eq] at h5
          have h6 := h3 e.on h5
          simp only [Array.getD] at h6 ⊢
          rw [dif_pos (by omega)] at h6 ⊢
          exact h6
        rw [h0] at this
        cases this
      · obtain ⟨hun, o, ho, hall⟩ := mem_ready.1 hi
        have hilt : i < ops.size := (Array.getElem?_eq_some_iff.1 ho).1
        by_cases hil : i + 1 < ops.size
        · obtain ⟨hgd, t, hdt, htl⟩ := own i o ho hil
          have hdo := Steps'.at hs i o (by simpa using ho) (by simpa using hil) a w hb (fun t' ht' => hold t' fun j oj hoj hj hdj => by
              have := range_all ht' j (by omega)
              simp only [hoj, Option.bind_some, hdj] at this
              simp at this) (fun k t' hk hdep hkl => by
              obtain ⟨ok, hok⟩ : ∃ ok, ops[k]? = some ok := ⟨ops[k]'(by omega), by simp⟩
              rw [hok] at hk
              refine hnew k ok t' hok hkl hk ?_
              rw [Nat.zero_add, ho] at hdep
              simp only [Option.map_some, Option.getD_some, Array.any_eq_true, Bool.and_eq_true, beq_iff_eq] at hdep
              obtain ⟨x, hx, hbd, hon⟩ := hdep
              have := hall _ (Array.getElem_mem hx) hbd
              rw [hon] at this
              simp only [Array.getD] at this ⊢
              rw [dif_pos (by omega)] at this ⊢
              exact this)
          rw [Nat.zero_add] at hdo
          unfold wpOp
          rw [ho]
          simp only [wanted_plain hgd, if_true]
          refine .inl (hdo.wp fun v w' hv hbw => ?_)
          rw [hdt]
          refine ih _ _ _ (by simpa using hl) (below_chain hb hbw hb.size) (by simpa [Act.put] using hsz) (by simpa [Act.put] using hdf) ?_ ?_ ?_ (hcount i hilt hun)
          · rw [getD_set_ne true (by omega)]; exact hlast
          · intro t' ht'
            have htt : t ≠ t' := fun e => by
              have := ht' i o ho hil (by rw [hdt, e])
              simp [Array.getD, hl, hilt] at this
            simp only [Act.put, Array.getD_eq_getD_getElem?, Array.getElem?_setIfInBounds, if_neg htt]
            rw [← Array.getD_eq_getD_getElem?, ← Array.getD_eq_getD_getElem?]
            refine hold t' fun j oj hoj hj hdj => ?_
            have h1 := ht' j oj hoj hj hdj
            by_cases hji : i = j
            · subst hji; exact hun
            · rwa [getD_set_ne true hji] at h1
          · intro j oj t' hoj hj hdj hlj
            by_cases hji : i = j
            · subst hji
              rw [ho] at hoj
              cases hoj
              rw [hdt] at hdj
              cases hdj
              have : (a.put (some t) v).tmps.getD t undef = v := by simp [Act.put, Array.getD, hsz, htl]
              rw [this]; exact hv
            · rw [getD_set_ne true hji] at hlj
              have htt : t ≠ t' := fun e => hji (apart i j o oj t ho hoj hil hj hdt (by rw [hdj, e]))
              have h1 := hnew j oj t' hoj hj hdj hlj
              have : (a.put (some t) v).tmps.getD t' undef = a.tmps.getD t' undef := by
                simp only [Act.put, Array.getD_eq_getD_getElem?, Array.getElem?_setIfInBounds, if_neg htt]
              rw [this]
              exact Exp.ok_later _ hbw h1
        · obtain rfl : i = ops.size - 1 := by omega
          simp only [ho, Option.map_some, Option.getD_some, Bool.and_eq_true] at hp3
          have hlisted : ∀ k, k + 1 < ops.size → l.getD k true = true := by
            intro k hk
            have h1 := range_all hp3.2 k (by omega)
            simp only [Array.any_eq_true, Bool.and_eq_true, beq_iff_eq] at h1
            obtain ⟨x, hx, hbd, hon⟩ := h1
            have := hall _ (Array.getElem_mem hx) hbd
            rw [hon] at this
            simp only [Array.getD] at this ⊢
            rw [dif_pos (by omega)] at this ⊢
            exact this
          obtain ⟨o', ho', hw⟩ := Ends.at a (l := ops.toList) (j := 0) (a := a0) (fun h => by rw [Array.toList_eq_nil_iff] at h; subst h; simp at hne) (he w hb) (fun k ok hk hkl => by
            have hk' : ops[k]? = some ok := by simpa using hk
            have hkl' : k + 1 < ops.size := by simpa using hkl
            obtain ⟨_, t, hdt, htl⟩ := own k ok hk' hkl'
            refine ⟨t, hdt, ?_⟩
            rw [Nat.zero_add]
            exact hnew k ok t hk' hkl' hdt (hlisted k hkl'))
          have hoo : o' = o := by
            rw [List.getLast?_eq_getElem?] at ho'
            have h2 : ops[ops.size - 1]? = some o' := by simpa using ho'
            rw [ho] at h2
            exact (Option.some.inj h2).symm
          subst hoo
          have hfill : fills a ops.toList a0 = a := by
            have hz := fills_size a ops.toList a0
            refine act_ext (by rw [hz.1, hsz]) (fun t => ?_) (by rw [hz.2, hdf])
            refine fills_slot a t ops.toList a0 hsz ?_
            by_cases hx : ∃ k ok, ops[k]? = some ok ∧ k + 1 < ops.size ∧ ok.dst = some t
            · obtain ⟨k, ok, h1, h2, h3⟩ := hx
              exact .inr ⟨k, ok, by simpa using h1, by simpa using h2, h3⟩
            · exact .inl (hold t fun j oj hoj hj hdj => absurd ⟨j, oj, hoj, hj, hdj⟩ hx)
          rw [hfill] at hw
          unfold wpOp
          rw [ho]
          simp only [wanted_plain hp3.1, if_true]
          refine .inl (Oper.wp_mono (fun a' w' hq => wpAny_done ?_ (NoPanic.normal hq) _) hw)
          refine List.filter_eq_nil_iff.2 fun k hk => ?_
          have hk' : k < ops.size := List.mem_range.1 hk
          have : (l.setIfInBounds (ops.size - 1) true).getD k true = true := by
            by_cases hkl : k + 1 < ops.size
            · rw [getD_set_ne true (by omega)]; exact hlisted k hkl
            · obtain rfl : k = ops.size - 1 := by omega
              simp [Array.getD, hl, hne]
          rw [this]; simp
  refine main _ _ _ _ (by simp) ⟨rfl, rfl, rfl, Nat.le_refl _, fun _ _ => rfl⟩ rfl rfl (by simp [Array.getD, hne]) (fun t _ => rfl) (fun j o t ho hj hd hl => ?_) ?_
  · exfalso
    have : j < ops.size := by omega
    simp [Array.getD, this] at hl
  · have := List.length_filter_le (fun i => !(Array.replicate ops.size false).getD i true) (List.range ops.size)
    simpa using this
/-- The last operation of a region: a whole variable is written; a slot is. -/
theorem last_store {o : Oper} {a : Act} {w : World} {K : Act → World → Prop} {Q : Exit → Act → World → Prop} (ty : TypeId) (x y : Operand) (ho : o.op = .store ty x y) (hdst : o.dst = none) (b : Nat) (hx : a.eval x = .pointer (some ⟨b, 0, none⟩)) (t : TypeId) (vs cs : List Value) (hy : a.eval y = .agg cs.toArray) (hb : Blk w b t vs) (hl : cs.length = vs.length)
    (hi : (Tryd.prog.info? ty).map (·.size) = some cs.length) (h1 : ∀ v ∈ cs, v.oneCell' = true) (h : ∀ w', Blk w' b t cs → w'.heap.size = w.heap.size → Kept (fun k => k = b) w w' → K a w') : o.wp Tryd.prog a w K Q := by
  refine wp_store_mid ty x y ho b 0 cs.toArray hx hy (by have := hb.there (o := 0) (n := cs.toArray.size) (by simp; omega); simpa using this) (by simpa using hi) (all_oneCell_toArray h1) ?_
  rw [hdst]
  refine h _ ?_ (setCells_size ..) ((Kept.refl _ _).setCells (S := fun k => k = b) rfl _ _)
  have := Blk.setCells (xs := []) (zs := []) cs vs hl (by simpa using hb)
  simpa using this
theorem last_assign {o : Oper} {a : Act} {w : World} {K : Act → World → Prop} {Q : Exit → Act → World → Prop} (x : Operand) (ho : o.op = .assign x) (d : Option Tmp) (hdst : o.dst = d) (v : Value) (hx : a.eval x = v) (h : K (a.put d v) w) : o.wp Tryd.prog a w K Q := by
  subst hdst
  unfold Oper.wp execOp
  simp only [ho, hx, Sem.run_pure]
  exact h
end Go.Proofs.YtmgkjldjeomcmaaDoor
