/- region_inv for a region whose last operations, from place c on, wait for all that come ahead of c: what is ahead in any order, then the rest by hand. -/
import Derived.Test.YtabdjoljdefjdaaRInvT
namespace Go.Proofs.Ytabdjoljdefjdaa
open Go.RowKit
set_option linter.unusedVariables false
set_option linter.unusedSimpArgs false
def preOps (c : Nat) (ops : Array Oper) : Bool :=
  (List.range c).all (fun j => ((ops[j]?).map (fun o => o.guard.isNone && o.dst.isSome)).getD false) &&
  (List.range c).all (fun j => (List.range c).all fun k => j == k || ((ops[j]?).bind (·.dst)) != ((ops[k]?).bind (·.dst))) &&
  (List.range ops.size).all (fun i => decide (i < c) || (List.range c).all (fun k => leansOn ops ops.size i k)) &&
  (List.range ops.size).all (fun j => ((ops[j]?).map (fun o => o.after.all fun e => !Region.binds .any e || decide (e.on < j))).getD false) && decide (c < ops.size)
def flags (c n : Nat) : Array Bool := ((List.range n).map fun i => decide (i < c)).toArray
/-- Behind the operations of the list. -/
def EndsP (base : Nat) (E : List Exp) (K : Act → Prop) (w : World) : Nat → List Oper → Act → Prop
  | _, [], a => K a
  | j, o :: rest, a => ∀ v, (E.getD j (.val undef)).ok base v w → EndsP base E K w (j + 1) rest (a.put o.dst v)
theorem EndsP.val {base : Nat} {E : List Exp} {K : Act → Prop} {w : World} {j : Nat} {o : Oper} {rest : List Oper} {a : Act} (V : Value) (hE : E.getD j (.val undef) = .val V)
    (h : EndsP base E K w (j + 1) rest (a.put o.dst V)) : EndsP base E K w j (o :: rest) a := fun v hv => by
  rw [hE] at hv
  have : v = V := hv
  rw [this]; exact h
theorem EndsP.blk {base : Nat} {E : List Exp} {K : Act → Prop} {w : World} {j : Nat} {o : Oper} {rest : List Oper} {a : Act} (t : TypeId) (vs : List Value) (hE : E.getD j (.val undef) = .blk t vs)
    (h : ∀ g, base ≤ g → Blk w g t vs → EndsP base E K w (j + 1) rest (a.put o.dst (.pointer (some ⟨g, 0, none⟩)))) : EndsP base E K w j (o :: rest) a := fun v hv => by
  rw [hE] at hv
  obtain ⟨g, rfl, h1, h2⟩ := hv
  exact h g h1 h2
theorem EndsP.any {base : Nat} {E : List Exp} {K : Act → Prop} {w : World} {j : Nat} {o : Oper} {rest : List Oper} {a : Act} (p : Value → World → Prop) (hp : ∀ v w w', Below w.heap.size w w' → p v w → p v w') (hE : E.getD j (.val undef) = .any p hp)
    (h : ∀ v, p v w → EndsP base E K w (j + 1) rest (a.put o.dst v)) : EndsP base E K w j (o :: rest) a := fun v hv => by
  rw [hE] at hv
  exact h v hv
def fillsP (b : Act) : List Oper → Act → Act
  | [], a => a
  | o :: rest, a => fillsP b rest (a.put o.dst ((o.dst.map (b.tmps.getD · undef)).getD undef))
theorem EndsP.at {base : Nat} {E : List Exp} {K : Act → Prop} {w : World} (b : Act) : ∀ {l : List Oper} {j : Nat} {a : Act}, EndsP base E K w j l a →
    (∀ i o, l[i]? = some o → ∃ t, o.dst = some t ∧ (E.getD (j + i) (.val undef)).ok base (b.tmps.getD t undef) w) → K (fillsP b l a)
  | [], _, _, h, _ => h
  | x :: rest, j, a, h, hv => by
    obtain ⟨t, h1, h2⟩ := hv 0 x rfl
    have := EndsP.at b (l := rest) (j := j + 1) (h _ h2) (fun i o hi => by
      have := hv (i + 1) o (by simpa using hi)
      rwa [show j + (i + 1) = j + 1 + i by omega] at this)
    simpa [fillsP, h1] using this
theorem fillsP_size (b : Act) : ∀ (l : List Oper) (a : Act), (fillsP b l a).tmps.size = a.tmps.size ∧ (fillsP b l a).defers = a.defers
  | [], a => ⟨rfl, rfl⟩
  | o :: rest, a => by
    have := fillsP_size b rest (a.put o.dst ((o.dst.map (b.tmps.getD · undef)).getD undef))
    rw [fillsP, this.1, this.2]
    cases h : o.dst <;> simp [Act.put]
theorem fillsP_slot (b : Act) (t : Nat) : ∀ (l : List Oper) (a : Act), b.tmps.size = a.tmps.size → (b.tmps.getD t undef = a.tmps.getD t undef ∨ ∃ (i : Nat) (o : Oper), l[i]? = some o ∧ o.dst = some t) → (fillsP b l a).tmps.getD t undef = b.tmps.getD t undef
  | [], a, hs, h => by
    rcases h with h | ⟨i, o, hi, _⟩
    · exact h.symm
    · simp at hi
  | o :: rest, a, hs, h => by
    rw [fillsP]
    refine fillsP_slot b t rest _ (by rw [hs]; cases o.dst <;> simp [Act.put]) ?_
    cases hd : o.dst with
    | none =>
      rcases h with h | ⟨i, o', hi, ho'⟩
      · left; simpa [Act.put] using h
      · cases i with
        | zero => simp at hi; subst hi; rw [hd] at ho'; cases ho'
        | succ i => exact .inr ⟨i, o', by simpa using hi, ho'⟩
    | some u =>
      by_cases hu : u = t
      · left
        subst hu
        simp only [Act.put, Option.map_some, Option.getD_some]
        by_cases hlt : u < a.tmps.size
        · simp [Array.getD, hlt, hs]
        · simp [Array.getD, hlt, hs]
      · rcases h with h | ⟨i, o', hi, ho'⟩
        · left
          simp only [Act.put, Array.getD_eq_getD_getElem?, Array.getElem?_setIfInBounds, if_neg hu]
          rw [← Array.getD_eq_getD_getElem?, ← Array.getD_eq_getD_getElem?]
          exact h
        · cases i with
          | zero => simp at hi; subst hi; rw [hd] at ho'; exact absurd (Option.some.inj ho') hu
          | succ i => exact .inr ⟨i, o', by simpa using hi, ho'⟩
/-- The slots of ts are those of new variables. -/
def Als (E : List Exp) (ts : List Nat) : Nat → List Oper → Prop
  | _, [] => True
  | j, o :: rest => ((o.dst.map (fun t => ts.contains t)).getD false = false ∨ ∃ ty vs n, o.op = .alloc ty ∧ E.getD j (.val undef) = .blk ty vs ∧ (Try.prog.info? ty).map (fun i => (i.zero, i.size)) = some (some (.agg vs.toArray), n)) ∧ Als E ts (j + 1) rest
theorem Als.at {E : List Exp} {ts : List Nat} : ∀ {l : List Oper} {j : Nat}, Als E ts j l → ∀ (i : Nat) (o : Oper) (t : Nat), l[i]? = some o → o.dst = some t → t ∈ ts → ∃ ty vs n, o.op = .alloc ty ∧ E.getD (j + i) (.val undef) = .blk ty vs ∧ (Try.prog.info? ty).map (fun i => (i.zero, i.size)) = some (some (.agg vs.toArray), n)
  | [], _, _, i, o, t, hi, _, _ => by simp at hi
  | x :: rest, j, h, 0, o, t, hi, hd, ht => by
    simp at hi
    subst hi
    rcases h.1 with h1 | h1
    · rw [hd] at h1
      simp [ht] at h1
    · exact h1
  | x :: rest, j, h, i + 1, o, t, hi, hd, ht => by
    have := Als.at h.2 i o t (by simpa using hi) hd ht
    rwa [show j + 1 + i = j + (i + 1) by omega] at this
/-- The slots of ts hold variables that are apart. -/
def Dist (ts : List Nat) (a : Act) : Prop := ∀ t ∈ ts, ∀ u ∈ ts, t ≠ u → a.tmps.getD t undef ≠ a.tmps.getD u undef
theorem region_invP {id : Nat} {ops : Array Oper} {Q : Exit → Act → World → Prop} {a0 : Act} {w0 : World} (c : Nat) (E : List Exp) (hm : Try.prog.follows .mixedOrders = true) (hp : preOps c ops = true)
    (hin : (List.range c).all (fun j => ((ops[j]?).map (fun o => (o.dst.map (fun t => decide (t < a0.tmps.size))).getD false)).getD false) = true)
    (ts : List Nat) (hts : Als E ts 0 (ops.toList.take c)) (hall' : ts.all (fun t => (List.range c).any fun j => ((ops[j]?).bind (·.dst)) == some t) = true)
    (hs : Steps' w0.heap.size ops E a0 w0 0 (ops.toList.take (c + 1))) (he : ∀ w, Below w0.heap.size w0 w → EndsP w0.heap.size E (fun a => Dist ts a → ∀ n, ops.size - c ≤ n → wpAny Try.prog .any ops (NoPanic Q) n (flags c ops.size) a w) w 0 (ops.toList.take c) a0) : (Code.region id ops true).wp Try.prog Q a0 w0 := by
  simp only [preOps, Bool.and_eq_true, decide_eq_true_eq] at hp
  obtain ⟨⟨⟨⟨hp1, hp2⟩, hp3⟩, hp4⟩, hcs⟩ := hp
  have own : ∀ j o, ops[j]? = some o → j < c → o.guard.isNone = true ∧ ∃ t, o.dst = some t ∧ t < a0.tmps.size := by
    intro j o ho hj
    have h1 := range_all hp1 j (by omega)
    have h2 := range_all hin j (by omega)
    simp only [ho, Option.map_some, Option.getD_some, Bool.and_eq_true] at h1 h2
    obtain ⟨t, ht⟩ := Option.isSome_iff_exists.1 h1.2
    rw [ht] at h2
    exact ⟨h1.1, t, ht, by simpa using h2⟩
  have apart : ∀ j k o o' t, ops[j]? = some o → ops[k]? = some o' → j < c → k < c → o.dst = some t → o'.dst = some t → j = k := by
    intro j k o o' t ho ho' hj hk ht ht'
    have h1 := range_all (range_all hp2 j (by omega)) k (by omega)
    simp only [ho, ho', Option.bind_some, ht, ht', Bool.or_eq_true, beq_iff_eq] at h1
    rcases h1 with h1 | h1
    · exact h1
    · simp at h1
  refine wp_region_noPanic (wp_region_any hm ?_)
  have main : ∀ (n : Nat) (l : Array Bool) (a : Act) (w : World), l.size = ops.size → Below w0.heap.size w0 w → a.tmps.size = a0.tmps.size → a.defers = a0.defers →
      (∀ i, c ≤ i → i < ops.size → l.getD i true = false) →
      (∀ t, (∀ j o, ops[j]? = some o → j < c → o.dst = some t → l.getD j true = false) → a.tmps.getD t undef = a0.tmps.getD t undef) →
      (∀ j o t, ops[j]? = some o → j < c → o.dst = some t → l.getD j true = true → (E.getD j (.val undef)).ok w0.heap.size (a.tmps.getD t undef) w) →
      (∀ j o, ops[j]? = some o → l.getD j true = true → ∀ x ∈ o.after, Region.binds .any x = true → l.getD x.on true = true) →
      (∀ (j k : Nat) (oj ok : Oper) (tj tk : Nat), ops[j]? = some oj → ops[k]? = some ok → j < c → k < c → oj.dst = some tj → ok.dst = some tk → tj ∈ ts → tk ∈ ts → j ≠ k → l.getD j true = true → l.getD k true = true → a.tmps.getD tj undef ≠ a.tmps.getD tk undef) →
      ((List.range ops.size).filter fun i => !l.getD i true).length ≤ n →
      wpAny Try.prog .any ops (NoPanic Q) n l a w := by
    intro n
    induction n with
    | zero =>
      intro l a w hl hb hsz hdf hlast hold hnew hcl hdi hc
      have : c ∈ (List.range ops.size).filter fun i => !l.getD i true := List.mem_filter.2 ⟨List.mem_range.2 hcs, by rw [hlast c (Nat.le_refl _) hcs]; rfl⟩
      have := List.length_pos_of_mem this
      omega
    | succ n ih =>
      intro l a w hl hb hsz hdf hlast hold hnew hcl hdi hc
      have hcount : ∀ i, i < ops.size → l.getD i true = false → ((List.range ops.size).filter fun k => !(l.setIfInBounds i true).getD k true).length ≤ n := by
        intro i hi hli
        have hlt : ((List.range ops.size).filter fun k => !(l.setIfInBounds i true).getD k true).length < ((List.range ops.size).filter fun k => !l.getD k true).length := by
          have e : ((List.range ops.size).filter fun k => !(l.setIfInBounds i true).getD k true) = ((List.range ops.size).filter fun k => !l.getD k true).filter (fun k => k != i) := by
            rw [List.filter_filter]
            refine List.filter_congr fun k hk => ?_
            by_cases hki : k = i
            · subst hki; simp [Array.getD, hl, hi]
            · rw [getD_set_ne true (Ne.symm hki)]; simp [hki]
          rw [e]
          refine List.length_filter_lt_length_iff_exists.2 ⟨i, List.mem_filter.2 ⟨List.mem_range.2 hi, by rw [hli]; rfl⟩, by simp⟩
        omega
      by_cases hdone : ∀ k, k < c → l.getD k true = true
      · have hw := EndsP.at a (l := ops.toList.take c) (j := 0) (a := a0) (he w hb) (fun k ok hk => by
          have hkc : k < c := by
            have := (List.getElem?_eq_some_iff.1 hk).1
            rw [List.length_take] at this
            omega
          have hk' : ops[k]? = some ok := by
            rw [List.getElem?_take_of_lt hkc] at hk
            simpa using hk
          obtain ⟨_, t, hdt, htl⟩ := own k ok hk' hkc
          refine ⟨t, hdt, ?_⟩
          rw [Nat.zero_add]
          exact hnew k ok t hk' hkc hdt (hdone k hkc))
        have hfill : fillsP a (ops.toList.take c) a0 = a := by
          have hz := fillsP_size a (ops.toList.take c) a0
          refine act_ext (by rw [hz.1, hsz]) (fun t => ?_) (by rw [hz.2, hdf])
          refine fillsP_slot a t (ops.toList.take c) a0 hsz ?_
          by_cases hx : ∃ k ok, ops[k]? = some ok ∧ k < c ∧ ok.dst = some t
          · obtain ⟨k, ok, h1, h2, h3⟩ := hx
            exact .inr ⟨k, ok, by rw [List.getElem?_take_of_lt h2]; simpa using h1, h3⟩
          · exact .inl (hold t fun j oj hoj hj hdj => absurd ⟨j, oj, hoj, hj, hdj⟩ hx)
        rw [hfill] at hw
        have hlf : l = flags c ops.size := by
          refine Array.ext (by simp [flags, hl]) fun k h1 h2 => ?_
          have hg : l.getD k true = l[k] := by simp [Array.getD, h1]
          rw [← hg]
          by_cases hkc : k < c
          · rw [hdone k hkc]; simp [flags, hkc]
          · rw [hlast k (by omega) (by omega)]; simp [flags, hkc]
        have hD : Dist ts a := by
          intro t ht u hu htu
          have h1 := List.all_eq_true.1 hall' t ht
          have h2 := List.all_eq_true.1 hall' u hu
          simp only [List.any_eq_true, List.mem_range, beq_iff_eq] at h1 h2
          obtain ⟨j, hj, ej⟩ := h1
          obtain ⟨k, hk, ek⟩ := h2
          obtain ⟨oj, hoj⟩ : ∃ oj, ops[j]? = some oj := ⟨ops[j]'(by omega), by simp⟩
          obtain ⟨ok, hok⟩ : ∃ ok, ops[k]? = some ok := ⟨ops[k]'(by omega), by simp⟩
          rw [hoj] at ej
          rw [hok] at ek
          refine hdi j k oj ok t u hoj hok hj hk ej ek ht hu (fun e => ?_) (hdone j hj) (hdone k hk)
          subst e
          rw [hoj] at hok
          cases hok
          have : some t = some u := by rw [← ej, ← ek]
          exact htu (Option.some.inj this)
        rw [hlf]
        refine hw hD _ ?_
        have hlow : ops.size - c ≤ ((List.range ops.size).filter fun i => !l.getD i true).length := by
          have e : (List.range ops.size).filter (fun i => !l.getD i true) = (List.range ops.size).filter (fun i => decide (c ≤ i)) := by
            refine List.filter_congr fun k hk => ?_
            have hk' : k < ops.size := List.mem_range.1 hk
            by_cases hkc : k < c
            · rw [hdone k hkc]; simp; omega
            · rw [hlast k (by omega) hk']; simp; omega
          rw [e]
          have : ∀ n, c ≤ n → ((List.range n).filter (fun i => decide (c ≤ i))).length = n - c := by
            intro n hn
            induction n with
            | zero => simp
            | succ n ihn =>
              rw [List.range_succ, List.filter_append, List.length_append]
              by_cases h : c ≤ n
              · rw [ihn h]; simp [h]; omega
              · have : c = n + 1 := by omega
                have e2 : (List.range n).filter (fun i => decide (c ≤ i)) = [] := List.filter_eq_nil_iff.2 fun k hk => by
                  have := List.mem_range.1 hk
                  simp; omega
                rw [e2]; simp [h]; omega
          rw [this _ (by omega)]
          exact Nat.le_refl _
        omega
      refine ⟨fun h0 => ?_, fun i hi => ?_⟩
      · exfalso
        obtain ⟨i, h1, h2, h3⟩ := least_false (fun k => l.getD k true) c (hlast c (Nat.le_refl _) hcs)
        have hi : i < ops.size := by omega
        have : i ∈ Region.ready .any ops l := by
          refine mem_ready.2 ⟨h2, ops[i], by simp [hi], fun e he hbd => ?_⟩
          have h4 := range_all hp4 i hi
          simp only [Array.getElem?_eq_getElem hi, Option.map_some, Option.getD_some] at h4
          have h5 := Array.all_eq_true_iff_forall_mem.1 h4 e he
          simp only [hbd, Bool.not_true, Bool.false_or, decide_eq_true_eq] at h5
          have h6 := h3 e.on h5
          simp only [Array.getD] at h6 ⊢
          rw [dif_pos (by omega)] at h6 ⊢
          exact h6
        rw [h0] at this
        cases this
      · obtain ⟨hun, o, ho, hall⟩ := mem_ready.1 hi
        have hilt : i < ops.size := (Array.getElem?_eq_some_iff.1 ho).1
        by_cases hil : i < c
        · obtain ⟨hgd, t, hdt, htl⟩ := own i o ho hil
          have hdo := Steps'.at hs i o (by rw [List.getElem?_take_of_lt (by omega)]; simpa using ho) (by rw [List.length_take]; simp; omega) a w hb (fun t' ht' => hold t' fun j oj hoj hj hdj => by
              have := range_all ht' j (by omega)
              simp only [hoj, Option.bind_some, hdj] at this
              simp at this) (fun k t' hk hdep hkl => by
              obtain ⟨ok, hok⟩ : ∃ ok, ops[k]? = some ok := ⟨ops[k]'(by omega), by simp⟩
              rw [hok] at hk
              rw [Nat.zero_add, ho] at hdep
              simp only [Option.map_some, Option.getD_some, Array.any_eq_true, Bool.and_eq_true, beq_iff_eq] at hdep
              obtain ⟨x, hx, hbd, hon⟩ := hdep
              have hki : k < i := by
                have h4 := range_all hp4 i hilt
                simp only [ho, Option.map_some, Option.getD_some] at h4
                have h5 := Array.all_eq_true_iff_forall_mem.1 h4 _ (Array.getElem_mem hx)
                simp only [hbd, Bool.not_true, Bool.false_or, decide_eq_true_eq] at h5
                omega
              refine hnew k ok t' hok (by omega) hk ?_
              have := hall _ (Array.getElem_mem hx) hbd
              rw [hon] at this
              simp only [Array.getD] at this ⊢
              rw [dif_pos (by omega)] at this ⊢
              exact this)
          rw [Nat.zero_add] at hdo
          unfold wpOp
          rw [ho]
          simp only [wanted_plain hgd, if_true]
          suffices cont : ∀ v w', (E.getD i (.val undef)).ok w0.heap.size v w' → Below w.heap.size w w' → (t ∈ ts → ∃ g, v = .pointer (some ⟨g, 0, none⟩) ∧ w.heap.size ≤ g) → wpAny Try.prog .any ops (NoPanic Q) n (l.setIfInBounds i true) (a.put o.dst v) w' by
            by_cases htt : t ∈ ts
            · obtain ⟨ty, vs, m, a1, a2, a3⟩ := Als.at hts i o t (by rw [List.getElem?_take_of_lt hil]; simpa using ho) hdt htt
              rw [Nat.zero_add] at a2
              have hd2 : Does w.heap.size (.blk ty vs) a.eval o w := Does.alloc ty a1 m vs a3 (Nat.le_refl _)
              refine .inl (hd2.wp fun v w' hv hbw => ?_)
              obtain ⟨g, e1, e2, e3⟩ := hv
              exact cont v w' (by rw [a2]; exact ⟨g, e1, Nat.le_trans hb.size e2, e3⟩) hbw fun _ => ⟨g, e1, e2⟩
            · exact .inl (hdo.wp fun v w' hv hbw => cont v w' hv hbw fun h => absurd h htt)
          intro v w' hv hbw hgv
          rw [hdt]
          refine ih _ _ _ (by simpa using hl) (below_chain hb hbw hb.size) (by simpa [Act.put] using hsz) (by simpa [Act.put] using hdf) ?_ ?_ ?_ ?_ ?_ (hcount i hilt hun)
          · intro i' h1 h2; rw [getD_set_ne true (by omega)]; exact hlast i' h1 h2
          · intro t' ht'
            have htt : t ≠ t' := fun e => by
              have := ht' i o ho hil (by rw [hdt, e])
              simp [Array.getD, hl, hilt] at this
            simp only [Act.put, Array.getD_eq_getD_getElem?, Array.getElem?_setIfInBounds, if_neg htt]
            rw [← Array.getD_eq_getD_getElem?, ← Array.getD_eq_getD_getElem?]
            refine hold t' fun j oj hoj hj hdj => ?_
            have h1 := ht' j oj hoj hj hdj
            by_cases hji : i = j
            · subst hji; exact hun
            · rwa [getD_set_ne true hji] at h1
          · intro j oj t' hoj hj hdj hlj
            by_cases hji : i = j
            · subst hji
              rw [ho] at hoj
              cases hoj
              rw [hdt] at hdj
              cases hdj
              have : (a.put (some t) v).tmps.getD t undef = v := by simp [Act.put, Array.getD, hsz, htl]
              rw [this]; exact hv
            · rw [getD_set_ne true hji] at hlj
              have htt : t ≠ t' := fun e => hji (apart i j o oj t ho hoj hil hj hdt (by rw [hdj, e]))
              have h1 := hnew j oj t' hoj hj hdj hlj
              have : (a.put (some t) v).tmps.getD t' undef = a.tmps.getD t' undef := by
                simp only [Act.put, Array.getD_eq_getD_getElem?, Array.getElem?_setIfInBounds, if_neg htt]
              rw [this]
              exact Exp.ok_later _ hbw h1
          · intro j oj hoj hlj x hx hbx
            have hdone : l.getD x.on true = true := by
              by_cases hji : i = j
              · subst hji
                rw [ho] at hoj
                cases hoj
                have := hall _ hx hbx
                by_cases hxl : x.on < l.size
                · simp only [Array.getD] at this ⊢
                  rw [dif_pos hxl] at this ⊢
                  exact this
                · simp [Array.getD, hxl]
              · rw [getD_set_ne true hji] at hlj
                exact hcl j oj hoj hlj x hx hbx
            by_cases hxi : i = x.on
            · rw [← hxi, hun] at hdone; cases hdone
            · rw [getD_set_ne true hxi]; exact hdone
          · have same : ∀ (j : Nat) (oj : Oper) (tj : Nat), ops[j]? = some oj → j < c → oj.dst = some tj → i ≠ j → (a.put (some t) v).tmps.getD tj undef = a.tmps.getD tj undef := by
              intro j oj tj hoj hj hdj hij
              have htt : t ≠ tj := fun e => hij (apart i j o oj t ho hoj hil hj hdt (by rw [hdj, e]))
              simp only [Act.put, Array.getD_eq_getD_getElem?, Array.getElem?_setIfInBounds, if_neg htt]
            have mine : (a.put (some t) v).tmps.getD t undef = v := by simp [Act.put, Array.getD, hsz, htl]
            have old : ∀ (k : Nat) (ok : Oper) (tk : Nat), ops[k]? = some ok → k < c → ok.dst = some tk → tk ∈ ts → l.getD k true = true → ∀ g, w.heap.size ≤ g → a.tmps.getD tk undef ≠ .pointer (some ⟨g, 0, none⟩) := by
              intro k ok tk hok hk hdk htk hlk g hg e
              obtain ⟨ty, vs, m, a1, a2, a3⟩ := Als.at hts k ok tk (by rw [List.getElem?_take_of_lt hk]; simpa using hok) hdk htk
              rw [Nat.zero_add] at a2
              have h1 := hnew k ok tk hok hk hdk hlk
              rw [a2] at h1
              obtain ⟨g', e1, _, e3⟩ := h1
              rw [e1] at e
              have hg' : g' = g := by simpa using e
              have := e3.lt
              omega
            intro j k oj ok tj tk hoj hok hj hk hdj hdk htj htk hjk hlj hlk
            by_cases hij : i = j
            · subst hij
              rw [ho] at hoj
              cases hoj
              rw [hdt] at hdj
              cases hdj
              rw [mine, same k ok tk hok hk hdk hjk]
              rw [getD_set_ne true hjk] at hlk
              obtain ⟨g, e1, e2⟩ := hgv htj
              rw [e1]
              exact (old k ok tk hok hk hdk htk hlk g e2).symm
            · rw [getD_set_ne true hij] at hlj
              rw [same j oj tj hoj hj hdj hij]
              by_cases hik : i = k
              · subst hik
                rw [ho] at hok
                cases hok
                rw [hdt] at hdk
                cases hdk
                rw [mine]
                obtain ⟨g, e1, e2⟩ := hgv htk
                rw [e1]
                exact old j oj tj hoj hj hdj htj hlj g e2
              · rw [getD_set_ne true hik] at hlk
                rw [same k ok tk hok hk hdk hik]
                exact hdi j k oj ok tj tk hoj hok hj hk hdj hdk htj htk hjk hlj hlk
        · exfalso
          refine hdone fun k hk => ?_
          have h1 := range_all hp3 i hilt
          simp only [hil, decide_false, Bool.false_or] at h1
          have h2 := range_all h1 k hk
          refine behind_done hcl (fun x hx hbx => ?_) ho h2
          have := hall _ hx hbx
          by_cases hxl : x.on < l.size
          · simp only [Array.getD] at this ⊢
            rw [dif_pos hxl] at this ⊢
            exact this
          · simp [Array.getD, hxl]
  refine main _ _ _ _ (by simp) ⟨rfl, rfl, rfl, Nat.le_refl _, fun _ _ => rfl⟩ rfl rfl (fun i h1 h2 => by simp [Array.getD, h2]) (fun t _ => rfl) (fun j o t ho hj hd hl => ?_) (fun j o ho hl => ?_) (fun j k oj ok tj tk hoj _ hj _ _ _ _ _ _ hl _ => ?_) ?_
  · exfalso
    have : j < ops.size := by omega
    simp [Array.getD, this] at hl
  · exfalso
    have : j < ops.size := (Array.getElem?_eq_some_iff.1 ho).1
    simp [Array.getD, this] at hl
  · exfalso
    have : j < ops.size := by omega
    simp [Array.getD, this] at hl
  · have := List.length_filter_le (fun i => !(Array.replicate ops.size false).getD i true) (List.range ops.size)
    simpa using this
end Go.Proofs.Ytabdjoljdefjdaa
