/- Joined by program: what the theorem reaches. -/
import Derived.Maps.OwnSet
import Derived.Maps.AppendAt
import Derived.Deep.AppendSrc
import Derived.Deep.OwnRows
import Derived.Test.YtpanagghppdiiaaGreatJA
namespace Go.Proofs.YtpanagghppdiiaaGreat
open Go.RowKit
set_option linter.unusedVariables false
set_option linter.unusedSimpArgs false
set_option maxRecDepth 20000
set_option maxHeartbeats 2000000
def leansOn (ops : Array Oper) : Nat → Nat → Nat → Bool
 | 0, _, _ => false
 | n + 1, j, k => ((ops[j]?).map fun o => o.after.any fun e => Region.binds .any e && (e.on == k || leansOn ops n e.on k)).getD false
theorem behind_done {ops : Array Oper} {l : Array Bool} (hcl : ∀ j o, ops[j]? = some o → l.getD j true = true → ∀ x ∈ o.after, Region.binds .any x = true → l.getD x.on true = true) :
  ∀ {n j k : Nat} {o : Oper}, (∀ x ∈ o.after, Region.binds .any x = true → l.getD x.on true = true) → ops[j]? = some o → leansOn ops n j k = true → l.getD k true = true
 | 0, _, _, _, _, _, h => by cases h
 | n + 1, j, k, o, hd, ho, h => by
  simp only [leansOn, ho, Option.map_some, Option.getD_some, Array.any_eq_true, Bool.and_eq_true, Bool.or_eq_true, beq_iff_eq] at h
  obtain ⟨x, hx, hbd, h⟩ := h
  have h1 := hd _ (Array.getElem_mem hx) hbd
  rcases h with h | h
  ·rwa [h] at h1
  ·cases ho' : ops[o.after[x].on]? with
   | none => cases n <;> simp [leansOn, ho'] at h
   | some o' => exact behind_done hcl (hcl _ o' ho' h1) ho' h
def chainOps (ops : Array Oper) : Bool :=
 (List.range (ops.size - 1)).all (fun j => ((ops[j]?).map (fun o => o.guard.isNone && o.dst.isSome)).getD false) &&
 (List.range (ops.size - 1)).all (fun j => (List.range (ops.size - 1)).all fun k => j == k || ((ops[j]?).bind (·.dst)) != ((ops[k]?).bind (·.dst))) &&
 ((ops[ops.size - 1]?).map (fun o => o.guard.isNone && (List.range (ops.size - 1)).all (fun k => leansOn ops ops.size (ops.size - 1) k))).getD false &&
 (List.range ops.size).all (fun j => ((ops[j]?).map (fun o => o.after.all fun e => !Region.binds .any e || decide (e.on < j))).getD false)
theorem region_invT {id : Nat} {ops : Array Oper} {Q : Exit → Act → World → Prop} {a0 : Act} {w0 : World} (E : List Exp) (hm : Tryz.prog.follows .mixedOrders = true) (hp : chainOps ops = true)
  (hin : (List.range (ops.size - 1)).all (fun j => ((ops[j]?).map (fun o => (o.dst.map (fun t => decide (t < a0.tmps.size))).getD false)).getD false) = true)
  (hs : Steps' w0.heap.size ops E a0 w0 0 ops.toList) (he : ∀ w, Below w0.heap.size w0 w → Ends w0.heap.size E Q w 0 ops.toList a0) : (Code.region id ops true).wp Tryz.prog Q a0 w0 := by
 simp only [chainOps, Bool.and_eq_true] at hp
 obtain ⟨⟨⟨hp1, hp2⟩, hp3⟩, hp4⟩ := hp
 have hne : ops.size - 1 < ops.size := by
  rcases Nat.eq_zero_or_pos ops.size with h | h
  ·rw [Array.getElem?_eq_none (by omega)] at hp3; simp at hp3
  ·omega
 have own : ∀ j o, ops[j]? = some o → j + 1 < ops.size → o.guard.isNone = true ∧ ∃ t, o.dst = some t ∧ t < a0.tmps.size := by
  intro j o ho hj
  have h1 := range_all hp1 j (by omega)
  have h2 := range_all hin j (by omega)
  simp only [ho, Option.map_some, Option.getD_some, Bool.and_eq_true] at h1 h2
  obtain ⟨t, ht⟩ := Option.isSome_iff_exists.1 h1.2
  rw [ht] at h2
  exact ⟨h1.1, t, ht, by simpa using h2⟩
 have apart : ∀ j k o o' t, ops[j]? = some o → ops[k]? = some o' → j + 1 < ops.size → k + 1 < ops.size → o.dst = some t → o'.dst = some t → j = k := by
  intro j k o o' t ho ho' hj hk ht ht'
  have h1 := range_all (range_all hp2 j (by omega)) k (by omega)
  simp only [ho, ho', Option.bind_some, ht, ht', Bool.or_eq_true, beq_iff_eq] at h1
  rcases h1 with h1 | h1
  ·exact h1
  ·simp at h1
 refine wp_region_noPanic (wp_region_any hm ?_)
 have main : ∀ (n : Nat) (l : Array Bool) (a : Act) (w : World), l.size = ops.size → Below w0.heap.size w0 w → a.tmps.size = a0.tmps.size → a.defers = a0.defers →
   l.getD (ops.size - 1) true = false →
   (∀ t, (∀ j o, ops[j]? = some o → j + 1 < ops.size → o.dst = some t → l.getD j true = false) → a.tmps.getD t undef = a0.tmps.getD t undef) →
   (∀ j o t, ops[j]? = some o → j + 1 < ops.size → o.dst = some t → l.getD j true = true → (E.getD j (.val undef)).ok w0.heap.size (a.tmps.getD t undef) w) →
   (∀ j o, ops[j]? = some o → l.getD j true = true → ∀ x ∈ o.after, Region.binds .any x = true → l.getD x.on true = true) →
   ((List.range ops.size).filter fun i => !l.getD i true).length ≤ n →
   wpAny Tryz.prog .any ops (NoPanic Q) n l a w := by
  intro n
  induction n with
  | zero =>
   intro l a w hl hb hsz hdf hlast hold hnew hcl hc
   have : ops.size - 1 ∈ (List.range ops.size).filter fun i => !l.getD i true := List.mem_filter.2 ⟨List.mem_range.2 hne, by rw [hlast]; rfl⟩
   have := List.length_pos_of_mem this
   omega
  | succ n ih =>
   intro l a w hl hb hsz hdf hlast hold hnew hcl hc
   have hcount : ∀ i, i < ops.size → l.getD i true = false → ((List.range ops.size).filter fun k => !(l.setIfInBounds i true).getD k true).length ≤ n := by
    intro i hi hli
    have hlt : ((List.range ops.size).filter fun k => !(l.setIfInBounds i true).getD k true).length < ((List.range ops.size).filter fun k => !l.getD k true).length := by
     have e : ((List.range ops.size).filter fun k => !(l.setIfInBounds i true).getD k true) = ((List.range ops.size).filter fun k => !l.getD k true).filter (fun k => k != i) := by
      rw [List.filter_filter]
      refine List.filter_congr fun k hk => ?_
      by_cases hki : k = i
      ·subst hki; simp [Array.getD, hl, hi]
      ·rw [getD_set_ne true (Ne.symm hki)]; simp [hki]
     rw [e]
     refine List.length_filter_lt_length_iff_exists.2 ⟨i, List.mem_filter.2 ⟨List.mem_range.2 hi, by rw [hli]; rfl⟩, by simp⟩
    omega
   refine ⟨fun h0 => ?_, fun i hi => ?_⟩
   ·exfalso
    obtain ⟨i, h1, h2, h3⟩ := least_false (fun k => l.getD k true) (ops.size - 1) hlast
    have hi : i < ops.size := by omega
    have : i ∈ Region.ready .any ops l := by
     refine mem_ready.2 ⟨h2, ops[i], by simp [hi], fun e he hbd => ?_⟩
     have h4 := range_all hp4 i hi
     simp only [Array.getElem?_eq_getElem hi, Option.map_some, Option.getD_some] at h4
     have h5 := Array.all_eq_true_iff_forall_mem.1 h4 e he
     simp only [hbd, Bool.not_true, Bool.false_or, decide_eq_true_eq] at h5
     have h6 := h3 e.on h5
     simp only [Array.getD] at h6 ⊢
     rw [dif_pos (by omega)] at h6 ⊢
     exact h6
    rw [h0] at this
    cases this
   ·obtain ⟨hun, o, ho, hall⟩ := mem_ready.1 hi
    have hilt : i < ops.size := (Array.getElem?_eq_some_iff.1 ho).1
    by_cases hil : i + 1 < ops.size
    ·obtain ⟨hgd, t, hdt, htl⟩ := own i o ho hil
     have hdo := Steps'.at hs i o (by simpa using ho) (by simpa using hil) a w hb (fun t' ht' => hold t' fun j oj hoj hj hdj => by
       have := range_all ht' j (by omega)
       simp only [hoj, Option.bind_some, hdj] at this
       simp at this) (fun k t' hk hdep hkl => by
       obtain ⟨ok, hok⟩ : ∃ ok, ops[k]? = some ok := ⟨ops[k]'(by omega), by simp⟩
       rw [hok] at hk
       refine hnew k ok t' hok hkl hk ?_
       rw [Nat.zero_add, ho] at hdep
       simp only [Option.map_some, Option.getD_some, Array.any_eq_true, Bool.and_eq_true, beq_iff_eq] at hdep
       obtain ⟨x, hx, hbd, hon⟩ := hdep
       have := hall _ (Array.getElem_mem hx) hbd
       rw [hon] at this
       simp only [Array.getD] at this ⊢
       rw [dif_pos (by omega)] at this ⊢
       exact this)
     rw [Nat.zero_add] at hdo
     unfold wpOp
     rw [ho]
     simp only [wanted_plain hgd, if_true]
     refine .inl (hdo.wp fun v w' hv hbw => ?_)
     rw [hdt]
     refine ih _ _ _ (by simpa using hl) (below_chain hb hbw hb.size) (by simpa [Act.put] using hsz) (by simpa [Act.put] using hdf) ?_ ?_ ?_ ?_ (hcount i hilt hun)
     ·rw [getD_set_ne true (by omega)]; exact hlast
     ·intro t' ht'
      have htt : t ≠ t' := fun e => by
       have := ht' i o ho hil (by rw [hdt, e])
       simp [Array.getD, hl, hilt] at this
      simp only [Act.put, Array.getD_eq_getD_getElem?, Array.getElem?_setIfInBounds, if_neg htt]
      rw [← Array.getD_eq_getD_getElem?, ← Array.getD_eq_getD_getElem?]
      refine hold t' fun j oj hoj hj hdj => ?_
      have h1 := ht' j oj hoj hj hdj
      by_cases hji : i = j
      ·subst hji; exact hun
      ·rwa [getD_set_ne true hji] at h1
     ·intro j oj t' hoj hj hdj hlj
      by_cases hji : i = j
      ·subst hji
       rw [ho] at hoj
       cases hoj
       rw [hdt] at hdj
       cases hdj
       have : (a.put (some t) v).tmps.getD t undef = v := by simp [Act.put, Array.getD, hsz, htl]
       rw [this]; exact hv
      ·rw [getD_set_ne true hji] at hlj
       have htt : t ≠ t' := fun e => hji (apart i j o oj t ho hoj hil hj hdt (by rw [hdj, e]))
       have h1 := hnew j oj t' hoj hj hdj hlj
       have : (a.put (some t) v).tmps.getD t' undef = a.tmps.getD t' undef := by
        simp only [Act.put, Array.getD_eq_getD_getElem?, Array.getElem?_setIfInBounds, if_neg htt]
       rw [this]
       exact Exp.ok_later _ hbw h1
     ·intro j oj hoj hlj x hx hbx
      have hdone : l.getD x.on true = true := by
       by_cases hji : i = j
       ·subst hji
        rw [ho] at hoj
        cases hoj
        have := hall _ hx hbx
        by_cases hxl : x.on < l.size
        ·simp only [Array.getD] at this ⊢
         rw [dif_pos hxl] at this ⊢
         exact this
        ·simp [Array.getD, hxl]
       ·rw [getD_set_ne true hji] at hlj
        exact hcl j oj hoj hlj x hx hbx
      by_cases hxi : i = x.on
      ·rw [← hxi, hun] at hdone; cases hdone
      ·rw [getD_set_ne true hxi]; exact hdone
    ·obtain rfl : i = ops.size - 1 := by omega
     simp only [ho, Option.map_some, Option.getD_some, Bool.and_eq_true] at hp3
     have hlisted : ∀ k, k + 1 < ops.size → l.getD k true = true := by
      intro k hk
      have h1 := range_all hp3.2 k (by omega)
      refine behind_done hcl (fun x hx hbx => ?_) ho h1
      have := hall _ hx hbx
      by_cases hxl : x.on < l.size
      ·simp only [Array.getD] at this ⊢
       rw [dif_pos hxl] at this ⊢
       exact this
      ·simp [Array.getD, hxl]
     obtain ⟨o', ho', hw⟩ := Ends.at a (l := ops.toList) (j := 0) (a := a0) (fun h => by rw [Array.toList_eq_nil_iff] at h; subst h; simp at hne) (he w hb) (fun k ok hk hkl => by
      have hk' : ops[k]? = some ok := by simpa using hk
      have hkl' : k + 1 < ops.size := by simpa using hkl
      obtain ⟨_, t, hdt, htl⟩ := own k ok hk' hkl'
      refine ⟨t, hdt, ?_⟩
      rw [Nat.zero_add]
      exact hnew k ok t hk' hkl' hdt (hlisted k hkl'))
     have hoo : o' = o := by
      rw [List.getLast?_eq_getElem?] at ho'
      have h2 : ops[ops.size - 1]? = some o' := by simpa using ho'
      rw [ho] at h2
      exact (Option.some.inj h2).symm
     subst hoo
     have hfill : fills a ops.toList a0 = a := by
      have hz := fills_size a ops.toList a0
      refine act_ext (by rw [hz.1, hsz]) (fun t => ?_) (by rw [hz.2, hdf])
      refine fills_slot a t ops.toList a0 hsz ?_
      by_cases hx : ∃ k ok, ops[k]? = some ok ∧ k + 1 < ops.size ∧ ok.dst = some t
      ·obtain ⟨k, ok, h1, h2, h3⟩ := hx
       exact .inr ⟨k, ok, by simpa using h1, by simpa using h2, h3⟩
      ·exact .inl (hold t fun j oj hoj hj hdj => absurd ⟨j, oj, hoj, hj, hdj⟩ hx)
     rw [hfill] at hw
     unfold wpOp
     rw [ho]
     simp only [wanted_plain hp3.1, if_true]
     refine .inl (Oper.wp_mono (fun a' w' hq => wpAny_done ?_ (NoPanic.normal hq) _) hw)
     refine List.filter_eq_nil_iff.2 fun k hk => ?_
     have hk' : k < ops.size := List.mem_range.1 hk
     have : (l.setIfInBounds (ops.size - 1) true).getD k true = true := by
      by_cases hkl : k + 1 < ops.size
      ·rw [getD_set_ne true (by omega)]; exact hlisted k hkl
      ·obtain rfl : k = ops.size - 1 := by omega
       simp [Array.getD, hl, hne]
     rw [this]; simp
 refine main _ _ _ _ (by simp) ⟨rfl, rfl, rfl, Nat.le_refl _, fun _ _ => rfl⟩ rfl rfl (by simp [Array.getD, hne]) (fun t _ => rfl) (fun j o t ho hj hd hl => ?_) (fun j o ho hl => ?_) ?_
 ·exfalso
  have : j < ops.size := by omega
  simp [Array.getD, this] at hl
 ·exfalso
  have : j < ops.size := (Array.getElem?_eq_some_iff.1 ho).1
  simp [Array.getD, this] at hl
 ·have := List.length_filter_le (fun i => !(Array.replicate ops.size false).getD i true) (List.range ops.size)
  simpa using this
def preOps (c : Nat) (ops : Array Oper) : Bool :=
 (List.range c).all (fun j => ((ops[j]?).map (fun o => o.guard.isNone && o.dst.isSome)).getD false) &&
 (List.range c).all (fun j => (List.range c).all fun k => j == k || ((ops[j]?).bind (·.dst)) != ((ops[k]?).bind (·.dst))) &&
 (List.range ops.size).all (fun i => decide (i < c) || (List.range c).all (fun k => leansOn ops ops.size i k)) &&
 (List.range ops.size).all (fun j => ((ops[j]?).map (fun o => o.after.all fun e => !Region.binds .any e || decide (e.on < j))).getD false) && decide (c < ops.size)
def flags (c n : Nat) : Array Bool := ((List.range n).map fun i => decide (i < c)).toArray
def EndsP (base : Nat) (E : List Exp) (K : Act → Prop) (w : World) : Nat → List Oper → Act → Prop
 | _, [], a => K a
 | j, o :: rest, a => ∀ v, (E.getD j (.val undef)).ok base v w → EndsP base E K w (j + 1) rest (a.put o.dst v)
theorem EndsP.val {base : Nat} {E : List Exp} {K : Act → Prop} {w : World} {j : Nat} {o : Oper} {rest : List Oper} {a : Act} (V : Value) (hE : E.getD j (.val undef) = .val V)
  (h : EndsP base E K w (j + 1) rest (a.put o.dst V)) : EndsP base E K w j (o :: rest) a := fun v hv => by
 rw [hE] at hv
 have : v = V := hv
 rw [this]; exact h
theorem EndsP.blk {base : Nat} {E : List Exp} {K : Act → Prop} {w : World} {j : Nat} {o : Oper} {rest : List Oper} {a : Act} (t : TypeId) (vs : List Value) (hE : E.getD j (.val undef) = .blk t vs)
  (h : ∀ g, base ≤ g → Blk w g t vs → EndsP base E K w (j + 1) rest (a.put o.dst (.pointer (some ⟨g, 0, none⟩)))) : EndsP base E K w j (o :: rest) a := fun v hv => by
 rw [hE] at hv
 obtain ⟨g, rfl, h1, h2⟩ := hv
 exact h g h1 h2
theorem EndsP.any {base : Nat} {E : List Exp} {K : Act → Prop} {w : World} {j : Nat} {o : Oper} {rest : List Oper} {a : Act} (p : Value → World → Prop) (hp : ∀ v w w', Below w.heap.size w w' → p v w → p v w') (hE : E.getD j (.val undef) = .any p hp)
  (h : ∀ v, p v w → EndsP base E K w (j + 1) rest (a.put o.dst v)) : EndsP base E K w j (o :: rest) a := fun v hv => by
 rw [hE] at hv
 exact h v hv
def fillsP (b : Act) : List Oper → Act → Act
 | [], a => a
 | o :: rest, a => fillsP b rest (a.put o.dst ((o.dst.map (b.tmps.getD · undef)).getD undef))
theorem EndsP.at {base : Nat} {E : List Exp} {K : Act → Prop} {w : World} (b : Act) : ∀ {l : List Oper} {j : Nat} {a : Act}, EndsP base E K w j l a →
  (∀ i o, l[i]? = some o → ∃ t, o.dst = some t ∧ (E.getD (j + i) (.val undef)).ok base (b.tmps.getD t undef) w) → K (fillsP b l a)
 | [], _, _, h, _ => h
 | x :: rest, j, a, h, hv => by
  obtain ⟨t, h1, h2⟩ := hv 0 x rfl
  have := EndsP.at b (l := rest) (j := j + 1) (h _ h2) (fun i o hi => by
   have := hv (i + 1) o (by simpa using hi)
   rwa [show j + (i + 1) = j + 1 + i by omega] at this)
  simpa [fillsP, h1] using this
theorem fillsP_size (b : Act) : ∀ (l : List Oper) (a : Act), (fillsP b l a).tmps.size = a.tmps.size ∧ (fillsP b l a).defers = a.defers
 | [], a => ⟨rfl, rfl⟩
 | o :: rest, a => by
  have := fillsP_size b rest (a.put o.dst ((o.dst.map (b.tmps.getD · undef)).getD undef))
  rw [fillsP, this.1, this.2]
  cases h : o.dst <;> simp [Act.put]
theorem fillsP_slot (b : Act) (t : Nat) : ∀ (l : List Oper) (a : Act), b.tmps.size = a.tmps.size → (b.tmps.getD t undef = a.tmps.getD t undef ∨ ∃ (i : Nat) (o : Oper), l[i]? = some o ∧ o.dst = some t) → (fillsP b l a).tmps.getD t undef = b.tmps.getD t undef
 | [], a, hs, h => by
  rcases h with h | ⟨i, o, hi, _⟩
  ·exact h.symm
  ·simp at hi
 | o :: rest, a, hs, h => by
  rw [fillsP]
  refine fillsP_slot b t rest _ (by rw [hs]; cases o.dst <;> simp [Act.put]) ?_
  cases hd : o.dst with
  | none =>
   rcases h with h | ⟨i, o', hi, ho'⟩
   ·left; simpa [Act.put] using h
   ·cases i with
    | zero => simp at hi; subst hi; rw [hd] at ho'; cases ho'
    | succ i => exact .inr ⟨i, o', by simpa using hi, ho'⟩
  | some u =>
   by_cases hu : u = t
   ·left
    subst hu
    simp only [Act.put, Option.map_some, Option.getD_some]
    by_cases hlt : u < a.tmps.size
    ·simp [Array.getD, hlt, hs]
    ·simp [Array.getD, hlt, hs]
   ·rcases h with h | ⟨i, o', hi, ho'⟩
    ·left
     simp only [Act.put, Array.getD_eq_getD_getElem?, Array.getElem?_setIfInBounds, if_neg hu]
     rw [← Array.getD_eq_getD_getElem?, ← Array.getD_eq_getD_getElem?]
     exact h
    ·cases i with
     | zero => simp at hi; subst hi; rw [hd] at ho'; exact absurd (Option.some.inj ho') hu
     | succ i => exact .inr ⟨i, o', by simpa using hi, ho'⟩
def Als (E : List Exp) (ts : List Nat) : Nat → List Oper → Prop
 | _, [] => True
 | j, o :: rest => ((o.dst.map (fun t => ts.contains t)).getD false = false ∨ ∃ ty vs n, o.op = .alloc ty ∧ E.getD j (.val undef) = .blk ty vs ∧ (Tryz.prog.info? ty).map (fun i => (i.zero, i.size)) = some (some (.agg vs.toArray), n)) ∧ Als E ts (j + 1) rest
theorem Als.at {E : List Exp} {ts : List Nat} : ∀ {l : List Oper} {j : Nat}, Als E ts j l → ∀ (i : Nat) (o : Oper) (t : Nat), l[i]? = some o → o.dst = some t → t ∈ ts → ∃ ty vs n, o.op = .alloc ty ∧ E.getD (j + i) (.val undef) = .blk ty vs ∧ (Tryz.prog.info? ty).map (fun i => (i.zero, i.size)) = some (some (.agg vs.toArray), n)
 | [], _, _, i, o, t, hi, _, _ => by simp at hi
 | x :: rest, j, h, 0, o, t, hi, hd, ht => by
  simp at hi
  subst hi
  rcases h.1 with h1 | h1
  ·rw [hd] at h1
   simp [ht] at h1
  ·exact h1
 | x :: rest, j, h, i + 1, o, t, hi, hd, ht => by
  have := Als.at h.2 i o t (by simpa using hi) hd ht
  rwa [show j + 1 + i = j + (i + 1) by omega] at this
def Dist (ts : List Nat) (a : Act) : Prop := ∀ t ∈ ts, ∀ u ∈ ts, t ≠ u → a.tmps.getD t undef ≠ a.tmps.getD u undef
theorem region_invP {id : Nat} {ops : Array Oper} {Q : Exit → Act → World → Prop} {a0 : Act} {w0 : World} (c : Nat) (E : List Exp) (hm : Tryz.prog.follows .mixedOrders = true) (hp : preOps c ops = true)
  (hin : (List.range c).all (fun j => ((ops[j]?).map (fun o => (o.dst.map (fun t => decide (t < a0.tmps.size))).getD false)).getD false) = true)
  (ts : List Nat) (hts : Als E ts 0 (ops.toList.take c)) (hall' : ts.all (fun t => (List.range c).any fun j => ((ops[j]?).bind (·.dst)) == some t) = true)
  (hs : Steps' w0.heap.size ops E a0 w0 0 (ops.toList.take (c + 1))) (he : ∀ w, Below w0.heap.size w0 w → EndsP w0.heap.size E (fun a => Dist ts a → ∀ n, ops.size - c ≤ n → wpAny Tryz.prog .any ops (NoPanic Q) n (flags c ops.size) a w) w 0 (ops.toList.take c) a0) : (Code.region id ops true).wp Tryz.prog Q a0 w0 := by
 simp only [preOps, Bool.and_eq_true, decide_eq_true_eq] at hp
 obtain ⟨⟨⟨⟨hp1, hp2⟩, hp3⟩, hp4⟩, hcs⟩ := hp
 have own : ∀ j o, ops[j]? = some o → j < c → o.guard.isNone = true ∧ ∃ t, o.dst = some t ∧ t < a0.tmps.size := by
  intro j o ho hj
  have h1 := range_all hp1 j (by omega)
  have h2 := range_all hin j (by omega)
  simp only [ho, Option.map_some, Option.getD_some, Bool.and_eq_true] at h1 h2
  obtain ⟨t, ht⟩ := Option.isSome_iff_exists.1 h1.2
  rw [ht] at h2
  exact ⟨h1.1, t, ht, by simpa using h2⟩
 have apart : ∀ j k o o' t, ops[j]? = some o → ops[k]? = some o' → j < c → k < c → o.dst = some t → o'.dst = some t → j = k := by
  intro j k o o' t ho ho' hj hk ht ht'
  have h1 := range_all (range_all hp2 j (by omega)) k (by omega)
  simp only [ho, ho', Option.bind_some, ht, ht', Bool.or_eq_true, beq_iff_eq] at h1
  rcases h1 with h1 | h1
  ·exact h1
  ·simp at h1
 refine wp_region_noPanic (wp_region_any hm ?_)
 have main : ∀ (n : Nat) (l : Array Bool) (a : Act) (w : World), l.size = ops.size → Below w0.heap.size w0 w → a.tmps.size = a0.tmps.size → a.defers = a0.defers →
   (∀ i, c ≤ i → i < ops.size → l.getD i true = false) →
   (∀ t, (∀ j o, ops[j]? = some o → j < c → o.dst = some t → l.getD j true = false) → a.tmps.getD t undef = a0.tmps.getD t undef) →
   (∀ j o t, ops[j]? = some o → j < c → o.dst = some t → l.getD j true = true → (E.getD j (.val undef)).ok w0.heap.size (a.tmps.getD t undef) w) →
   (∀ j o, ops[j]? = some o → l.getD j true = true → ∀ x ∈ o.after, Region.binds .any x = true → l.getD x.on true = true) →
   (∀ (j k : Nat) (oj ok : Oper) (tj tk : Nat), ops[j]? = some oj → ops[k]? = some ok → j < c → k < c → oj.dst = some tj → ok.dst = some tk → tj ∈ ts → tk ∈ ts → j ≠ k → l.getD j true = true → l.getD k true = true → a.tmps.getD tj undef ≠ a.tmps.getD tk undef) →
   ((List.range ops.size).filter fun i => !l.getD i true).length ≤ n →
   wpAny Tryz.prog .any ops (NoPanic Q) n l a w := by
  intro n
  induction n with
  | zero =>
   intro l a w hl hb hsz hdf hlast hold hnew hcl hdi hc
   have : c ∈ (List.range ops.size).filter fun i => !l.getD i true := List.mem_filter.2 ⟨List.mem_range.2 hcs, by rw [hlast c (Nat.le_refl _) hcs]; rfl⟩
   have := List.length_pos_of_mem this
   omega
  | succ n ih =>
   intro l a w hl hb hsz hdf hlast hold hnew hcl hdi hc
   have hcount : ∀ i, i < ops.size → l.getD i true = false → ((List.range ops.size).filter fun k => !(l.setIfInBounds i true).getD k true).length ≤ n := by
    intro i hi hli
    have hlt : ((List.range ops.size).filter fun k => !(l.setIfInBounds i true).getD k true).length < ((List.range ops.size).filter fun k => !l.getD k true).length := by
     have e : ((List.range ops.size).filter fun k => !(l.setIfInBounds i true).getD k true) = ((List.range ops.size).filter fun k => !l.getD k true).filter (fun k => k != i) := by
      rw [List.filter_filter]
      refine List.filter_congr fun k hk => ?_
      by_cases hki : k = i
      ·subst hki; simp [Array.getD, hl, hi]
      ·rw [getD_set_ne true (Ne.symm hki)]; simp [hki]
     rw [e]
     refine List.length_filter_lt_length_iff_exists.2 ⟨i, List.mem_filter.2 ⟨List.mem_range.2 hi, by rw [hli]; rfl⟩, by simp⟩
    omega
   by_cases hdone : ∀ k, k < c → l.getD k true = true
   ·have hw := EndsP.at a (l := ops.toList.take c) (j := 0) (a := a0) (he w hb) (fun k ok hk => by
     have hkc : k < c := by
      have := (List.getElem?_eq_some_iff.1 hk).1
      rw [List.length_take] at this
      omega
     have hk' : ops[k]? = some ok := by
      rw [List.getElem?_take_of_lt hkc] at hk
      simpa using hk
     obtain ⟨_, t, hdt, htl⟩ := own k ok hk' hkc
     refine ⟨t, hdt, ?_⟩
     rw [Nat.zero_add]
     exact hnew k ok t hk' hkc hdt (hdone k hkc))
    have hfill : fillsP a (ops.toList.take c) a0 = a := by
     have hz := fillsP_size a (ops.toList.take c) a0
     refine act_ext (by rw [hz.1, hsz]) (fun t => ?_) (by rw [hz.2, hdf])
     refine fillsP_slot a t (ops.toList.take c) a0 hsz ?_
     by_cases hx : ∃ k ok, ops[k]? = some ok ∧ k < c ∧ ok.dst = some t
     ·obtain ⟨k, ok, h1, h2, h3⟩ := hx
      exact .inr ⟨k, ok, by rw [List.getElem?_take_of_lt h2]; simpa using h1, h3⟩
     ·exact .inl (hold t fun j oj hoj hj hdj => absurd ⟨j, oj, hoj, hj, hdj⟩ hx)
    rw [hfill] at hw
    have hlf : l = flags c ops.size := by
     refine Array.ext (by simp [flags, hl]) fun k h1 h2 => ?_
     have hg : l.getD k true = l[k] := by simp [Array.getD, h1]
     rw [← hg]
     by_cases hkc : k < c
     ·rw [hdone k hkc]; simp [flags, hkc]
     ·rw [hlast k (by omega) (by omega)]; simp [flags, hkc]
    have hD : Dist ts a := by
     intro t ht u hu htu
     have h1 := List.all_eq_true.1 hall' t ht
     have h2 := List.all_eq_true.1 hall' u hu
     simp only [List.any_eq_true, List.mem_range, beq_iff_eq] at h1 h2
     obtain ⟨j, hj, ej⟩ := h1
     obtain ⟨k, hk, ek⟩ := h2
     obtain ⟨oj, hoj⟩ : ∃ oj, ops[j]? = some oj := ⟨ops[j]'(by omega), by simp⟩
     obtain ⟨ok, hok⟩ : ∃ ok, ops[k]? = some ok := ⟨ops[k]'(by omega), by simp⟩
     rw [hoj] at ej
     rw [hok] at ek
     refine hdi j k oj ok t u hoj hok hj hk ej ek ht hu (fun e => ?_) (hdone j hj) (hdone k hk)
     subst e
     rw [hoj] at hok
     cases hok
     have : some t = some u := by rw [← ej, ← ek]
     exact htu (Option.some.inj this)
    rw [hlf]
    refine hw hD _ ?_
    have hlow : ops.size - c ≤ ((List.range ops.size).filter fun i => !l.getD i true).length := by
     have e : (List.range ops.size).filter (fun i => !l.getD i true) = (List.range ops.size).filter (fun i => decide (c ≤ i)) := by
      refine List.filter_congr fun k hk => ?_
      have hk' : k < ops.size := List.mem_range.1 hk
      by_cases hkc : k < c
      ·rw [hdone k hkc]; simp; omega
      ·rw [hlast k (by omega) hk']; simp; omega
     rw [e]
     have : ∀ n, c ≤ n → ((List.range n).filter (fun i => decide (c ≤ i))).length = n - c := by
      intro n hn
      induction n with
      | zero => simp
      | succ n ihn =>
       rw [List.range_succ, List.filter_append, List.length_append]
       by_cases h : c ≤ n
       ·rw [ihn h]; simp [h]; omega
       ·have : c = n + 1 := by omega
        have e2 : (List.range n).filter (fun i => decide (c ≤ i)) = [] := List.filter_eq_nil_iff.2 fun k hk => by
         have := List.mem_range.1 hk
         simp; omega
        rw [e2]; simp [h]; omega
     rw [this _ (by omega)]
     exact Nat.le_refl _
    omega
   refine ⟨fun h0 => ?_, fun i hi => ?_⟩
   ·exfalso
    obtain ⟨i, h1, h2, h3⟩ := least_false (fun k => l.getD k true) c (hlast c (Nat.le_refl _) hcs)
    have hi : i < ops.size := by omega
    have : i ∈ Region.ready .any ops l := by
     refine mem_ready.2 ⟨h2, ops[i], by simp [hi], fun e he hbd => ?_⟩
     have h4 := range_all hp4 i hi
     simp only [Array.getElem?_eq_getElem hi, Option.map_some, Option.getD_some] at h4
     have h5 := Array.all_eq_true_iff_forall_mem.1 h4 e he
     simp only [hbd, Bool.not_true, Bool.false_or, decide_eq_true_eq] at h5
     have h6 := h3 e.on h5
     simp only [Array.getD] at h6 ⊢
     rw [dif_pos (by omega)] at h6 ⊢
     exact h6
    rw [h0] at this
    cases this
   ·obtain ⟨hun, o, ho, hall⟩ := mem_ready.1 hi
    have hilt : i < ops.size := (Array.getElem?_eq_some_iff.1 ho).1
    by_cases hil : i < c
    ·obtain ⟨hgd, t, hdt, htl⟩ := own i o ho hil
     have hdo := Steps'.at hs i o (by rw [List.getElem?_take_of_lt (by omega)]; simpa using ho) (by rw [List.length_take]; simp; omega) a w hb (fun t' ht' => hold t' fun j oj hoj hj hdj => by
       have := range_all ht' j (by omega)
       simp only [hoj, Option.bind_some, hdj] at this
       simp at this) (fun k t' hk hdep hkl => by
       obtain ⟨ok, hok⟩ : ∃ ok, ops[k]? = some ok := ⟨ops[k]'(by omega), by simp⟩
       rw [hok] at hk
       rw [Nat.zero_add, ho] at hdep
       simp only [Option.map_some, Option.getD_some, Array.any_eq_true, Bool.and_eq_true, beq_iff_eq] at hdep
       obtain ⟨x, hx, hbd, hon⟩ := hdep
       have hki : k < i := by
        have h4 := range_all hp4 i hilt
        simp only [ho, Option.map_some, Option.getD_some] at h4
        have h5 := Array.all_eq_true_iff_forall_mem.1 h4 _ (Array.getElem_mem hx)
        simp only [hbd, Bool.not_true, Bool.false_or, decide_eq_true_eq] at h5
        omega
       refine hnew k ok t' hok (by omega) hk ?_
       have := hall _ (Array.getElem_mem hx) hbd
       rw [hon] at this
       simp only [Array.getD] at this ⊢
       rw [dif_pos (by omega)] at this ⊢
       exact this)
     rw [Nat.zero_add] at hdo
     unfold wpOp
     rw [ho]
     simp only [wanted_plain hgd, if_true]
     suffices cont : ∀ v w', (E.getD i (.val undef)).ok w0.heap.size v w' → Below w.heap.size w w' → (t ∈ ts → ∃ g, v = .pointer (some ⟨g, 0, none⟩) ∧ w.heap.size ≤ g) → wpAny Tryz.prog .any ops (NoPanic Q) n (l.setIfInBounds i true) (a.put o.dst v) w' by
      by_cases htt : t ∈ ts
      ·obtain ⟨ty, vs, m, a1, a2, a3⟩ := Als.at hts i o t (by rw [List.getElem?_take_of_lt hil]; simpa using ho) hdt htt
       rw [Nat.zero_add] at a2
       have hd2 : Does w.heap.size (.blk ty vs) a.eval o w := Does.alloc ty a1 m vs a3 (Nat.le_refl _)
       refine .inl (hd2.wp fun v w' hv hbw => ?_)
       obtain ⟨g, e1, e2, e3⟩ := hv
       exact cont v w' (by rw [a2]; exact ⟨g, e1, Nat.le_trans hb.size e2, e3⟩) hbw fun _ => ⟨g, e1, e2⟩
      ·exact .inl (hdo.wp fun v w' hv hbw => cont v w' hv hbw fun h => absurd h htt)
     intro v w' hv hbw hgv
     rw [hdt]
     refine ih _ _ _ (by simpa using hl) (below_chain hb hbw hb.size) (by simpa [Act.put] using hsz) (by simpa [Act.put] using hdf) ?_ ?_ ?_ ?_ ?_ (hcount i hilt hun)
     ·intro i' h1 h2; rw [getD_set_ne true (by omega)]; exact hlast i' h1 h2
     ·intro t' ht'
      have htt : t ≠ t' := fun e => by
       have := ht' i o ho hil (by rw [hdt, e])
       simp [Array.getD, hl, hilt] at this
      simp only [Act.put, Array.getD_eq_getD_getElem?, Array.getElem?_setIfInBounds, if_neg htt]
      rw [← Array.getD_eq_getD_getElem?, ← Array.getD_eq_getD_getElem?]
      refine hold t' fun j oj hoj hj hdj => ?_
      have h1 := ht' j oj hoj hj hdj
      by_cases hji : i = j
      ·subst hji; exact hun
      ·rwa [getD_set_ne true hji] at h1
     ·intro j oj t' hoj hj hdj hlj
      by_cases hji : i = j
      ·subst hji
       rw [ho] at hoj
       cases hoj
       rw [hdt] at hdj
       cases hdj
       have : (a.put (some t) v).tmps.getD t undef = v := by simp [Act.put, Array.getD, hsz, htl]
       rw [this]; exact hv
      ·rw [getD_set_ne true hji] at hlj
       have htt : t ≠ t' := fun e => hji (apart i j o oj t ho hoj hil hj hdt (by rw [hdj, e]))
       have h1 := hnew j oj t' hoj hj hdj hlj
       have : (a.put (some t) v).tmps.getD t' undef = a.tmps.getD t' undef := by
        simp only [Act.put, Array.getD_eq_getD_getElem?, Array.getElem?_setIfInBounds, if_neg htt]
       rw [this]
       exact Exp.ok_later _ hbw h1
     ·intro j oj hoj hlj x hx hbx
      have hdone : l.getD x.on true = true := by
       by_cases hji : i = j
       ·subst hji
        rw [ho] at hoj
        cases hoj
        have := hall _ hx hbx
        by_cases hxl : x.on < l.size
        ·simp only [Array.getD] at this ⊢
         rw [dif_pos hxl] at this ⊢
         exact this
        ·simp [Array.getD, hxl]
       ·rw [getD_set_ne true hji] at hlj
        exact hcl j oj hoj hlj x hx hbx
      by_cases hxi : i = x.on
      ·rw [← hxi, hun] at hdone; cases hdone
      ·rw [getD_set_ne true hxi]; exact hdone
     ·have same : ∀ (j : Nat) (oj : Oper) (tj : Nat), ops[j]? = some oj → j < c → oj.dst = some tj → i ≠ j → (a.put (some t) v).tmps.getD tj undef = a.tmps.getD tj undef := by
       intro j oj tj hoj hj hdj hij
       have htt : t ≠ tj := fun e => hij (apart i j o oj t ho hoj hil hj hdt (by rw [hdj, e]))
       simp only [Act.put, Array.getD_eq_getD_getElem?, Array.getElem?_setIfInBounds, if_neg htt]
      have mine : (a.put (some t) v).tmps.getD t undef = v := by simp [Act.put, Array.getD, hsz, htl]
      have old : ∀ (k : Nat) (ok : Oper) (tk : Nat), ops[k]? = some ok → k < c → ok.dst = some tk → tk ∈ ts → l.getD k true = true → ∀ g, w.heap.size ≤ g → a.tmps.getD tk undef ≠ .pointer (some ⟨g, 0, none⟩) := by
       intro k ok tk hok hk hdk htk hlk g hg e
       obtain ⟨ty, vs, m, a1, a2, a3⟩ := Als.at hts k ok tk (by rw [List.getElem?_take_of_lt hk]; simpa using hok) hdk htk
       rw [Nat.zero_add] at a2
       have h1 := hnew k ok tk hok hk hdk hlk
       rw [a2] at h1
       obtain ⟨g', e1, _, e3⟩ := h1
       rw [e1] at e
       have hg' : g' = g := by simpa using e
       have := e3.lt
       omega
      intro j k oj ok tj tk hoj hok hj hk hdj hdk htj htk hjk hlj hlk
      by_cases hij : i = j
      ·subst hij
       rw [ho] at hoj
       cases hoj
       rw [hdt] at hdj
       cases hdj
       rw [mine, same k ok tk hok hk hdk hjk]
       rw [getD_set_ne true hjk] at hlk
       obtain ⟨g, e1, e2⟩ := hgv htj
       rw [e1]
       exact (old k ok tk hok hk hdk htk hlk g e2).symm
      ·rw [getD_set_ne true hij] at hlj
       rw [same j oj tj hoj hj hdj hij]
       by_cases hik : i = k
       ·subst hik
        rw [ho] at hok
        cases hok
        rw [hdt] at hdk
        cases hdk
        rw [mine]
        obtain ⟨g, e1, e2⟩ := hgv htk
        rw [e1]
        exact old j oj tj hoj hj hdj htj hlj g e2
       ·rw [getD_set_ne true hik] at hlk
        rw [same k ok tk hok hk hdk hik]
        exact hdi j k oj ok tj tk hoj hok hj hk hdj hdk htj htk hjk hlj hlk
    ·exfalso
     refine hdone fun k hk => ?_
     have h1 := range_all hp3 i hilt
     simp only [hil, decide_false, Bool.false_or] at h1
     have h2 := range_all h1 k hk
     refine behind_done hcl (fun x hx hbx => ?_) ho h2
     have := hall _ hx hbx
     by_cases hxl : x.on < l.size
     ·simp only [Array.getD] at this ⊢
      rw [dif_pos hxl] at this ⊢
      exact this
     ·simp [Array.getD, hxl]
 refine main _ _ _ _ (by simp) ⟨rfl, rfl, rfl, Nat.le_refl _, fun _ _ => rfl⟩ rfl rfl (fun i h1 h2 => by simp [Array.getD, h2]) (fun t _ => rfl) (fun j o t ho hj hd hl => ?_) (fun j o ho hl => ?_) (fun j k oj ok tj tk hoj _ hj _ _ _ _ _ _ hl _ => ?_) ?_
 ·exfalso
  have : j < ops.size := by omega
  simp [Array.getD, this] at hl
 ·exfalso
  have : j < ops.size := (Array.getElem?_eq_some_iff.1 ho).1
  simp [Array.getD, this] at hl
 ·exfalso
  have : j < ops.size := by omega
  simp [Array.getD, this] at hl
 ·have := List.length_filter_le (fun i => !(Array.replicate ops.size false).getD i true) (List.range ops.size)
  simpa using this
abbrev I64 (x : Int) : Prop := -9223372036854775808 ≤ x ∧ x ≤ 9223372036854775807
theorem wf_of_i64 {x : Int} (h : I64 x) : (Lit.int .i64 x).wf = true := by
 simp [Lit.wf, IntKind.min, IntKind.max, IntKind.signed, IntKind.bits]; omega
structure Fl where
 a : Int
 k : Int
 p : Int
 b : Int
 y : Int
 c : Int
deriving DecidableEq
instance : Inhabited Fl := ⟨⟨0, 0, 0, 0, 0, 0⟩⟩
def flC (f : Fl) : List Value := [.int .i64 f.a, .int .i64 f.k, .int .i64 f.p, .int .i64 f.b, .int .u8 f.y, .int .i64 f.c]
def Fl.Good (f : Fl) : Prop := I64 f.a ∧ I64 f.k ∧ I64 f.p ∧ I64 f.b ∧ (0 ≤ f.y ∧ f.y < 256) ∧ I64 f.c
theorem flC_length (f : Fl) : (flC f).length = 6 := rfl
theorem flC_one (f : Fl) : ∀ v ∈ flC f, v.oneCell' = true := by
 intro v hv
 simp only [flC, List.mem_cons, List.not_mem_nil, or_false] at hv
 rcases hv with rfl | rfl | rfl | rfl | rfl | rfl <;> rfl
structure Tc where
 op : Int
 pg : Int
 ln : Int
 hd : List Int
instance : Inhabited Tc := ⟨⟨0, 0, 0, List.replicate 12 0⟩⟩
def tcC (t : Tc) : List Value := .int .i64 t.op :: .int .i64 t.pg :: .int .i64 t.ln :: u8s t.hd
def Tc.Good (t : Tc) : Prop := t.hd.length = 12
theorem tcC_length {t : Tc} (h : t.Good) : (tcC t).length = 15 := by simp [tcC, u8s_length, h]; exact h
theorem tcC_one (t : Tc) : ∀ v ∈ tcC t, v.oneCell' = true := by
 intro v hv
 simp only [tcC, List.mem_cons] at hv
 rcases hv with rfl | rfl | rfl | hv
 ·rfl
 ·rfl
 ·rfl
 ·exact u8s_one _ v hv
def Same (M : Nat → Prop) (w w' : World) : Prop := w.heap.size ≤ w'.heap.size ∧ ∀ k, M k → w'.heap[k]? = w.heap[k]?
theorem Same.below {M : Nat → Prop} {w w' : World} {B : Nat} (h : Below B w w') (hM : ∀ k, M k → k < B) : Same M w w' := ⟨h.size, fun k hk => h.block k (hM k hk)⟩
theorem Same.kept {M S : Nat → Prop} {w w' : World} (h : Kept S w w') (hM : ∀ k, M k → k < w.heap.size ∧ ¬ S k) : Same M w w' := ⟨h.size, fun k hk => h.block k (hM k hk).1 (hM k hk).2⟩
theorem rangeAt_same {w w' : World} {b o : Nat} {cs : List Value} (h : w.rangeAt b o cs) (e : w'.heap[b]? = w.heap[b]?) : w'.rangeAt b o cs := fun j v hv => (World.cell?_of_block (w := w) (w' := w') (a := ⟨b, o + j, none⟩) e).trans (h j v hv)
structure FlS (w : World) (M : Nat → Prop) (v : Value) (fs : List Fl) : Prop where
 top : fs.length ≤ 3000000000000
 good : ∀ f ∈ fs, f.Good
 ex : ∃ ao c, v = .slice ao fs.length c ∧ ∀ i, i < fs.length → ∃ b o, ao = some ⟨b, o, none⟩ ∧ b < w.heap.size ∧ M b ∧ w.rangeAt b (o + i * 6) (flC (fs.getD i default))
theorem FlS.frame {w w' : World} {M : Nat → Prop} {v : Value} {fs : List Fl} (h : FlS w M v fs) (hs : Same M w w') : FlS w' M v fs :=
 ⟨h.top, h.good, by
  obtain ⟨ao, c, e, hx⟩ := h.ex
  refine ⟨ao, c, e, fun i hi => ?_⟩
  obtain ⟨b, o, e1, hb, hM, hr⟩ := hx i hi
  exact ⟨b, o, e1, Nat.lt_of_lt_of_le hb hs.1, hM, rangeAt_same hr (hs.2 b hM)⟩⟩
theorem FlS.mono {w : World} {M M' : Nat → Prop} {v : Value} {fs : List Fl} (h : FlS w M v fs) (hM : ∀ k, M k → M' k) : FlS w M' v fs :=
 ⟨h.top, h.good, by
  obtain ⟨ao, c, e, hx⟩ := h.ex
  refine ⟨ao, c, e, fun i hi => ?_⟩
  obtain ⟨b, o, e1, hb, hm, hr⟩ := hx i hi
  exact ⟨b, o, e1, hb, hM b hm, hr⟩⟩
theorem FlS.nil (w : World) (M : Nat → Prop) : FlS w M (.slice none 0 0) [] := ⟨by decide, fun f hf => (by cases hf), none, 0, rfl, fun i hi => (by cases hi)⟩
theorem Fl.good_at {fs : List Fl} (h : ∀ f ∈ fs, f.Good) (i : Nat) (hi : i < fs.length) : (fs.getD i default).Good := by
 have e : fs.getD i default = fs[i] := by simp [List.getD, hi]
 rw [e]; exact h _ (List.getElem_mem hi)
theorem zeroFl : (Tryz.prog.info? 163).map (fun i => (i.zero, i.size)) = some (some (.agg (flC default).toArray), 6) := by kernel_rfl
theorem sizeFl (f : Fl) : (Tryz.prog.info? 163).map (·.size) = some (flC f).length := by rw [flC_length]; kernel_rfl
theorem zeroTc : (Tryz.prog.info? 97).map (fun i => (i.zero, i.size)) = some (some (.agg (tcC default).toArray), 15) := by kernel_rfl
theorem sizeTc {t : Tc} (h : t.Good) : (Tryz.prog.info? 97).map (·.size) = some (tcC t).length := by rw [tcC_length h]; kernel_rfl
theorem info_rowB : (Tryz.prog.info? 37).map (fun i => (i.zero, i.size, i.bytes)) = some (some (.slice none 0 0), 1, 24) := by kernel_rfl
theorem info_rows : (Tryz.prog.info? 33).map (fun i => (i.zero, i.size, i.bytes)) = some (some (.slice none 0 0), 1, 24) := by kernel_rfl
theorem info_tc : (Tryz.prog.info? 97).map (fun i => (i.zero, i.size, i.bytes)) = some (some (.agg (tcC default).toArray), 15, 40) := by kernel_rfl
theorem info_fl : (Tryz.prog.info? 163).map (fun i => (i.zero, i.size, i.bytes)) = some (some (.agg (flC default).toArray), 6, 48) := by kernel_rfl
structure LogS (w : World) (M : Nat → Prop) (v : Value) (l : List Tc) : Prop where
 good : ∀ t ∈ l, t.Good
 own : w.ownsRow 0 97 15 v l.length (l.flatMap tcC)
 foot : ∀ g, v.ownBlock = some g → M g
theorem LogS.frame {w w' : World} {M : Nat → Prop} {v : Value} {l : List Tc} (h : LogS w M v l) (hs : Same M w w') : LogS w' M v l :=
 ⟨h.good, ⟨h.own.1, by
  rcases h.own.2 with h2 | ⟨g, cap, cur, hv, hg, hh, r⟩
  ·exact .inl h2
  ·exact .inr ⟨g, cap, cur, hv, hg, by rw [hs.2 g (h.foot g (by rw [hv]; rfl))]; exact hh, r⟩⟩, h.foot⟩
theorem LogS.mono {w : World} {M M' : Nat → Prop} {v : Value} {l : List Tc} (h : LogS w M v l) (hM : ∀ k, M k → M' k) : LogS w M' v l := ⟨h.good, h.own, fun g hg => hM g (h.foot g hg)⟩
def rowBlk : Value → Option Nat
 | .slice (some a) _ _ => some a.block
 | _ => none
def RowP (w : World) (M : Nat → Prop) (v : Value) (L : List (List Int)) : Prop :=
 (v = .slice none 0 0 ∧ L = []) ∨ ∃ g o cap vs, v = .slice (some ⟨g, o, none⟩) L.length cap ∧ Blk w g 37 vs ∧ M g ∧ L.length ≤ cap ∧ o + cap ≤ vs.length ∧
  ∀ i, i < L.length → ∃ b c, vs[o + i]? = some (.slice (some ⟨b, 0, none⟩) (L.getD i []).length c) ∧ RowAt w b (L.getD i []) ∧ M b ∧ Bytes (L.getD i []) ∧ (L.getD i []).length ≤ 8192
theorem RowP.frame {w w' : World} {M : Nat → Prop} {v : Value} {L : List (List Int)} (h : RowP w M v L) (hs : Same M w w') : RowP w' M v L := by
 rcases h with h | ⟨g, o, cap, vs, e, hb, hM, hc, ho, hx⟩
 ·exact .inl h
 ·refine .inr ⟨g, o, cap, vs, e, hb.block (hs.2 g hM), hM, hc, ho, fun i hi => ?_⟩
  obtain ⟨b, c, e1, hr, hm, r⟩ := hx i hi
  exact ⟨b, c, e1, hr.block (hs.2 b hm), hm, r⟩
theorem RowP.mono {w : World} {M M' : Nat → Prop} {v : Value} {L : List (List Int)} (h : RowP w M v L) (hM : ∀ k, M k → M' k) : RowP w M' v L := by
 rcases h with h | ⟨g, o, cap, vs, e, hb, hm, hc, ho, hx⟩
 ·exact .inl h
 ·refine .inr ⟨g, o, cap, vs, e, hb, hM g hm, hc, ho, fun i hi => ?_⟩
  obtain ⟨b, c, e1, hr, hm, r⟩ := hx i hi
  exact ⟨b, c, e1, hr, hM b hm, r⟩
def FT (w : World) (M : Nat → Prop) (b : Nat) : Prop := M b ∧ ∃ vs, Blk w b 163 vs
theorem blk_ne {w : World} {a b : Nat} {t t' : TypeId} {vs us : List Value} (ha : Blk w a t vs) (hb : Blk w b t' us) (ht : t ≠ t') : a ≠ b := fun e => by
 subst e
 unfold Blk at ha hb
 rw [ha] at hb
 simp only [Option.some.injEq, Obj.cells.injEq] at hb
 exact ht hb.2.1
theorem com_kept {w w' : World} {M S : Nat → Prop} {v : Value} {fs : List Fl} (h : FlS w (FT w M) v fs) (hk : Kept S w w') (hS : ∀ b vs, Blk w b 163 vs → ¬ S b) : FlS w' (FT w' M) v fs :=
 ⟨h.top, h.good, by
  obtain ⟨ao, c, e, hx⟩ := h.ex
  refine ⟨ao, c, e, fun i hi => ?_⟩
  obtain ⟨b, o, e1, hb, ⟨hM, vs, hv⟩, hr⟩ := hx i hi
  have he := hk.block b hb (hS b vs hv)
  exact ⟨b, o, e1, Nat.lt_of_lt_of_le hb hk.size, ⟨hM, vs, hv.block he⟩, rangeAt_same hr he⟩⟩
theorem com_mono {w : World} {M M' : Nat → Prop} {v : Value} {fs : List Fl} (h : FlS w (FT w M) v fs) (hM : ∀ k, M k → M' k) : FlS w (FT w M') v fs := h.mono (fun k hk => ⟨hM k hk.1, hk.2⟩)
theorem com_same {w w' : World} {M : Nat → Prop} {v : Value} {fs : List Fl} (h : FlS w (FT w M) v fs) (hs : Same M w w') : FlS w' (FT w' M) v fs :=
 (h.frame ⟨hs.1, fun k hk => hs.2 k hk.1⟩).mono (fun k hk => ⟨hk.1, hk.2.imp fun vs hv => hv.block (hs.2 k hk.1)⟩)
theorem log_kept {w w' : World} {M S : Nat → Prop} {v : Value} {l : List Tc} (h : LogS w M v l) (hk : Kept S w w') (hS : ∀ b vs, Blk w b 97 vs → ¬ S b) : LogS w' M v l :=
 ⟨h.good, ⟨h.own.1, by
  rcases h.own.2 with h2 | ⟨g, cap, cur, hv, hg, hh, r⟩
  ·exact .inl h2
  ·exact .inr ⟨g, cap, cur, hv, hg, by rw [hk.block g (lt_of_block hh) (hS g cur.toList (by simpa [Blk] using hh))]; exact hh, r⟩⟩, h.foot⟩
theorem row_kept {w w' : World} {M S : Nat → Prop} {v : Value} {L : List (List Int)} (h : RowP w M v L) (hk : Kept S w w') (hS : ∀ b, rowBlk v = some b → ¬ S b) (hS' : ∀ b vs, Blk w b 5 vs → ¬ S b) : RowP w' M v L := by
 rcases h with h | ⟨g, o, cap, vs, e, hb, hM, hc, ho, hx⟩
 ·exact .inl h
 ·refine .inr ⟨g, o, cap, vs, e, hb.block (hk.block g hb.lt (hS g (by rw [e]; rfl))), hM, hc, ho, fun i hi => ?_⟩
  obtain ⟨b, c, e1, hr, hm, r⟩ := hx i hi
  obtain ⟨rest, hr'⟩ := hr
  exact ⟨b, c, e1, ⟨rest, by rw [hk.block b (lt_of_block hr') (hS' b _ hr')]; exact hr'⟩, hm, r⟩
def heldR (v : Value) : Option (DataW Value × List MemPlace) := some (.held v, [])
def lookV (D : DataW Value) (k : Int) : Value := match D.atKey (.int .i64 k) (.held (.slice none 0 0)) with
 | .held v => v
 | _ => .slice none 0 0
theorem keysI : Maps.Keyed Tryz.prog 3 := Maps.int_keyed Tryz.underlying3
theorem zeroFs (w : World) : (zeroValue 32).run Tryz.prog w = .ok (.slice none 0 0) w := by kernel_rfl
theorem look_at {w : World} {gm n : Nat} {D : DataW Value} (h : w.ownsMap Tryz.prog 3 heldR gm n D) {k : Int} (hk : I64 k) :
  (Instr.lookup 100 (.map (some gm)) (.int .i64 k) false).run Tryz.prog w = .ok (lookV D k) w := by
 obtain ⟨v, ps, hr, hv⟩ := h.lookup keysI Tryz.underlying100 (zeroFs w) (zd := .held (.slice none 0 0)) (zp := []) rfl (Maps.keyOf_int_mk Tryz.underlying3 (wf_of_i64 hk))
 have e : D.atKey (.int .i64 k) (.held (.slice none 0 0)) = .held v := by
  simp only [heldR, Option.some.injEq, Prod.mk.injEq] at hv
  exact hv.1.symm
 rw [hr]
 simp only [lookV, e]
theorem lookV_put {D : DataW Value} (hD : Maps.IsMap D) (k : Int) (v : Value) : lookV (D.put (.int .i64 k) (.held v)) k = v := by
 simp only [lookV, Maps.atKey_put_same hD (show WideAt.IsKeyLit (.int .i64 k) from trivial)]
theorem lookV_put_other {D : DataW Value} (k j : Int) (h : j ≠ k) (v : Value) : lookV (D.put (.int .i64 k) (.held v)) j = lookV D j := by
 simp only [lookV, Maps.atKey_put_other (D := D) (k := .int .i64 k) (k' := .int .i64 j) (by simpa using h)]
theorem lookV_del (D : DataW Value) (k : Int) : lookV (D.del (.int .i64 k)) k = .slice none 0 0 := by
 simp only [lookV, Maps.atKey_del_same]
theorem lookV_del_other {D : DataW Value} (k j : Int) (h : j ≠ k) : lookV (D.del (.int .i64 k)) j = lookV D j := by
 simp only [lookV, Maps.atKey_del_other (D := D) (k := .int .i64 k) (k' := .int .i64 j) (by simpa using h)]
theorem ownsMap_same {w w' : World} {gm n : Nat} {D : DataW Value} (h : w.ownsMap Tryz.prog 3 heldR gm n D) (e : w'.heap[gm]? = w.heap[gm]?) : w'.ownsMap Tryz.prog 3 heldR gm n D := by
 obtain ⟨es, clock, hb, r⟩ := h
 exact ⟨es, clock, by rw [e]; exact hb, r⟩
structure HSt where
 size : Nat
 pages : Nat
 depth : Nat
 reg : Int
 ops : Nat
 log : List Tc
 down : Bool
 coming : Int → List Fl
 laid : Nat → List (List Int)
structure HSt.Good (s : HSt) : Prop where
 size : 1 ≤ s.size ∧ s.size ≤ 4124
 pages : s.pages ≤ 65536
 depth : s.depth ≤ 9223372036854775807
 reg : Word s.reg
 ops : s.ops ≤ 3000000000000
 log : s.log.length ≤ s.ops
 laid : ∀ p, (s.laid p).length ≤ s.ops
 len : ∀ p, ∀ z ∈ s.laid p, z.length = s.size
def hostC (s : HSt) (gl gm : Nat) (lg : Value) : List Value := [.int .i64 s.size, .slice (some ⟨gl, 0, none⟩) s.pages s.pages, .int .i64 s.depth, .int .u64 s.reg, .map (some gm), .int .i64 s.ops, lg, .bool s.down]
structure HostIn (w : World) (M : Nat → Prop) (h : Nat) (s : HSt) (gl gm : Nat) (lg : Value) (rws : List Value) (n : Nat) (D : DataW Value) : Prop where
 good : s.Good
 blk : Blk w h 102 (hostC s gl gm lg)
 lot : Blk w gl 33 rws
 cnt : rws.length = s.pages
 mh : M h
 ml : M gl
 mm : M gm
 map : w.ownsMap Tryz.prog 3 heldR gm n D
 com : ∀ k, FlS w (FT w M) (lookV D k) (s.coming k)
 log : LogS w M lg s.log
 row : ∀ p, p < s.pages → RowP w M (rws.getD p (.slice none 0 0)) (s.laid p)
 apart : ∀ p q, p < q → q < s.pages → ∀ g, rowBlk (rws.getD p (.slice none 0 0)) = some g → rowBlk (rws.getD q (.slice none 0 0)) ≠ some g
 all : ∀ k, M k → k < w.heap.size
def HostAt (w : World) (M : Nat → Prop) (h : Nat) (s : HSt) : Prop := ∃ gl gm lg rws n D, HostIn w M h s gl gm lg rws n D
theorem HostIn.frame {w w' : World} {M : Nat → Prop} {h : Nat} {s : HSt} {gl gm : Nat} {lg : Value} {rws : List Value} {n : Nat} {D : DataW Value} (x : HostIn w M h s gl gm lg rws n D) (hs : Same M w w') : HostIn w' M h s gl gm lg rws n D :=
 ⟨x.good, x.blk.block (hs.2 _ x.mh), x.lot.block (hs.2 _ x.ml), x.cnt, x.mh, x.ml, x.mm, ownsMap_same x.map (hs.2 _ x.mm), fun k => com_same (x.com k) hs, x.log.frame hs, fun p hp => (x.row p hp).frame hs, x.apart, fun k hk => Nat.lt_of_lt_of_le (x.all k hk) hs.1⟩
theorem HostAt.frame {w w' : World} {M : Nat → Prop} {h : Nat} {s : HSt} (x : HostAt w M h s) (hs : Same M w w') : HostAt w' M h s := by
 obtain ⟨gl, gm, lg, rws, n, D, x⟩ := x
 exact ⟨gl, gm, lg, rws, n, D, x.frame hs⟩
theorem HostIn.later {w w' : World} {M : Nat → Prop} {h : Nat} {s : HSt} {gl gm : Nat} {lg : Value} {rws : List Value} {n : Nat} {D : DataW Value} (x : HostIn w M h s gl gm lg rws n D) (hb : Below w.heap.size w w') : HostIn w' M h s gl gm lg rws n D := x.frame (Same.below hb x.all)
theorem HostAt.all {w : World} {M : Nat → Prop} {h : Nat} {s : HSt} (x : HostAt w M h s) : ∀ k, M k → k < w.heap.size := by
 obtain ⟨gl, gm, lg, rws, n, D, x⟩ := x
 exact x.all
theorem HostAt.later {w w' : World} {M : Nat → Prop} {h : Nat} {s : HSt} (x : HostAt w M h s) (hb : Below w.heap.size w w') : HostAt w' M h s := x.frame (Same.below hb x.all)
theorem HostIn.at {w : World} {M : Nat → Prop} {h : Nat} {s : HSt} {gl gm : Nat} {lg : Value} {rws : List Value} {n : Nat} {D : DataW Value} (x : HostIn w M h s gl gm lg rws n D) : HostAt w M h s := ⟨gl, gm, lg, rws, n, D, x⟩
def MapV (w : World) (g : Nat) (f : Int → Option Value) (sz : Nat) : Prop :=
 ∃ D, w.ownsMap Tryz.prog 3 heldR g sz D ∧ Maps.size D = sz ∧ (∀ k, Maps.has D (.int .i64 k) = (f k).isSome) ∧ ∀ k v, f k = some v → ∀ z, D.atKey (.int .i64 k) z = .held v
theorem owns_shrink {w : World} {g n : Nat} {D : DataW Value} (h : w.ownsMap Tryz.prog 3 heldR g n D) : w.ownsMap Tryz.prog 3 heldR g (Maps.size D) D := by
 obtain ⟨es, clock, hb, F, hs, hD⟩ := h
 have e : Maps.size D = es.size := by rw [hD]; simp [Maps.size, length_sorted]
 exact ⟨es, clock, hb, F, by rw [e]; exact Nat.le_refl _, hD⟩
theorem MapV.lt {w : World} {g : Nat} {f : Int → Option Value} {sz : Nat} (h : MapV w g f sz) : g < w.heap.size := by
 obtain ⟨D, h, _⟩ := h
 exact h.lt
theorem MapV.same {w w' : World} {g : Nat} {f : Int → Option Value} {sz : Nat} (h : MapV w g f sz) (e : w'.heap[g]? = w.heap[g]?) : MapV w' g f sz := by
 obtain ⟨D, h, r⟩ := h
 exact ⟨D, ownsMap_same h e, r⟩
theorem MapV.kept {S : Nat → Prop} {w w' : World} {g : Nat} {f : Int → Option Value} {sz : Nat} (h : MapV w g f sz) (k : Kept S w w') (hS : ¬ S g) : MapV w' g f sz := h.same (k.block g h.lt hS)
theorem MapV.later {w w' : World} {g : Nat} {f : Int → Option Value} {sz : Nat} (h : MapV w g f sz) {B : Nat} (l : Below B w w') (hB : g < B) : MapV w' g f sz := h.same (l.block g hB)
theorem MapV.ne {w : World} {g : Nat} {f : Int → Option Value} {sz : Nat} (h : MapV w g f sz) {b : Nat} {t : TypeId} {vs : List Value} (hb : Blk w b t vs) : b ≠ g := fun e => by
 subst e
 obtain ⟨D, ⟨es, clock, h1, _⟩, _⟩ := h
 unfold Blk at hb
 rw [hb] at h1
 simp at h1
theorem mapV_made (w : World) : MapV (w.alloc (.map #[] 0)) w.heap.size (fun _ => none) 0 :=
 ⟨.map [], World.ownsMap_made w _ _ _, rfl, fun _ => rfl, fun k v h => by cases h⟩
theorem held_inj {v : Value} {d : DataW Value} {ps : List MemPlace} (h : heldR v = some (d, ps)) : d = .held v := by
 simp only [heldR, Option.some.injEq, Prod.mk.injEq] at h
 exact h.1.symm
theorem held_held {a b : Value} (h : (DataW.held a : DataW Value) = .held b) : a = b := by injection h
theorem MapV.look_ok {w : World} {g : Nat} {f : Int → Option Value} {sz : Nat} (h : MapV w g f sz) {t e : TypeId} (ht : Tryz.prog.underlying t = some (.map 3 e)) {z : Value} (hz : (zeroValue e).run Tryz.prog w = .ok z w) {k : Int} (hk : I64 k) :
  (Instr.lookup t (.map (some g)) (.int .i64 k) true).run Tryz.prog w = .ok (.tuple #[(f k).getD z, .bool (f k).isSome]) w := by
 obtain ⟨D, hm, hs, hh, ha⟩ := h
 obtain ⟨v, ps, hr, hv⟩ := hm.look_ok keysI ht hz (zd := .held z) (zp := []) rfl (Maps.keyOf_int_mk Tryz.underlying3 (wf_of_i64 hk))
 rw [hr, hh k]
 have e1 := held_inj hv
 cases hf : f k with
 | some u => rw [ha k u hf] at e1; rw [held_held e1.symm]; rfl
 | none =>
  rw [Maps.atKey_of_not_has (by rw [hh k, hf]; rfl)] at e1
  rw [held_held e1.symm]; rfl
theorem MapV.look {w : World} {g : Nat} {f : Int → Option Value} {sz : Nat} (h : MapV w g f sz) {t e : TypeId} (ht : Tryz.prog.underlying t = some (.map 3 e)) {z : Value} (hz : (zeroValue e).run Tryz.prog w = .ok z w) {k : Int} (hk : I64 k) :
  (Instr.lookup t (.map (some g)) (.int .i64 k) false).run Tryz.prog w = .ok ((f k).getD z) w := by
 obtain ⟨D, hm, hs, hh, ha⟩ := h
 obtain ⟨v, ps, hr, hv⟩ := hm.lookup keysI ht hz (zd := .held z) (zp := []) rfl (Maps.keyOf_int_mk Tryz.underlying3 (wf_of_i64 hk))
 rw [hr]
 have e1 := held_inj hv
 cases hf : f k with
 | some u => rw [ha k u hf] at e1; rw [held_held e1.symm]; rfl
 | none =>
  rw [Maps.atKey_of_not_has (by rw [hh k, hf]; rfl)] at e1
  rw [held_held e1.symm]; rfl
def updF (f : Int → Option Value) (k : Int) (v : Value) : Int → Option Value := fun j => if j = k then some v else f j
def delF (f : Int → Option Value) (k : Int) : Int → Option Value := fun j => if j = k then none else f j
theorem turned_kept {w w' : World} {g : Nat} (h : w.mapTurned w' g) : Kept (fun b => b = g) w w' :=
 have x := h.grown
 ⟨x.os, x.tape, x.output, x.size, fun b hb hs => x.block b hb (fun e => hs (by cases e; rfl))⟩
theorem MapV.store {w : World} {g : Nat} {f : Int → Option Value} {sz : Nat} (h : MapV w g f sz) {t e : TypeId} (ht : Tryz.prog.underlying t = some (.map 3 e)) (hn : sz < maxLen) {k : Int} (hk : I64 k) (v : Value) :
  ∃ w', (Instr.mapUpdate t (.map (some g)) (.int .i64 k) v).run Tryz.prog w = .ok () w' ∧ MapV w' g (updF f k v) (if (f k).isSome then sz else sz + 1) ∧ Kept (fun b => b = g) w w' := by
 obtain ⟨D, hm, hs, hh, ha⟩ := h
 obtain ⟨w', hr, hm', ht'⟩ := hm.store keysI ht hn (Maps.keyOf_int_mk Tryz.underlying3 (wf_of_i64 hk)) (show heldR v = some (.held v, []) from rfl)
 have hz : Maps.size (D.put (.int .i64 k) (.held v)) = if (f k).isSome then sz else sz + 1 := by rw [Maps.size_put (hm.tidy keysI), hh k, hs]
 refine ⟨w', hr, ⟨_, ?_, hz, fun j => ?_, fun j u hu z => ?_⟩, turned_kept ht'⟩
 ·have := owns_shrink hm'; rw [hz] at this; exact this
 ·by_cases e : j = k
  ·subst e; rw [Maps.has_put_same hm.isMap (show WideAt.IsKeyLit (.int .i64 j) from trivial)]; simp [updF]
  ·rw [Maps.has_put_other (by simpa using e), hh j]; simp [updF, e]
 ·by_cases e : j = k
  ·subst e
   simp [updF] at hu
   subst hu
   exact Maps.atKey_put_same hm.isMap (show WideAt.IsKeyLit (.int .i64 j) from trivial) _ _
  ·simp [updF, e] at hu
   rw [Maps.atKey_put_other (by simpa using e)]
   exact ha j u hu z
theorem MapV.drop {w : World} {g : Nat} {f : Int → Option Value} {sz : Nat} (h : MapV w g f sz) {t e : TypeId} (ht : Tryz.prog.underlying t = some (.map 3 e)) {k : Int} (hk : I64 k) (ty : TypeId) :
  ∃ w', (Builtin.delete_ #[t, 3] ty #[.map (some g), .int .i64 k]).run Tryz.prog w = .ok (.tuple #[]) w' ∧ MapV w' g (delF f k) (if (f k).isSome then sz - 1 else sz) ∧ Kept (fun b => b = g) w w' := by
 obtain ⟨D, hm, hs, hh, ha⟩ := h
 obtain ⟨w', hr, hm', ht'⟩ := hm.drop keysI ht (Maps.keyOf_int_mk Tryz.underlying3 (wf_of_i64 hk)) ty
 have hz : Maps.size (D.del (.int .i64 k)) = if (f k).isSome then sz - 1 else sz := by
  have := Maps.size_del (k := .int .i64 k) (hm.tidy keysI)
  rw [hh k, hs] at this
  split at this <;> rename_i hc
  ·rw [if_pos hc]; omega
  ·rw [if_neg hc]; omega
 refine ⟨w', hr, ⟨_, ?_, hz, fun j => ?_, fun j u hu z => ?_⟩, turned_kept ht'⟩
 ·have := owns_shrink hm'; rw [hz] at this; exact this
 ·by_cases e : j = k
  ·subst e; rw [Maps.has_del_same]; simp [delF]
  ·rw [Maps.has_del_other (by simpa using e), hh j]; simp [delF, e]
 ·by_cases e : j = k
  ·subst e; simp [delF] at hu
  ·simp [delF, e] at hu
   rw [Maps.atKey_del_other (by simpa using e)]
   exact ha j u hu z
theorem MapV.len {w : World} {g : Nat} {f : Int → Option Value} {sz : Nat} (h : MapV w g f sz) {t e : TypeId} (ht : Tryz.prog.underlying t = some (.map 3 e)) (ty : TypeId) :
  (Builtin.len_ #[t] ty #[.map (some g)]).run Tryz.prog w = .ok (.int .i64 (sz : Int)) w := by
 obtain ⟨D, hm, hs, _⟩ := h
 rw [hm.len ht, hs]
theorem leafSize : (Tryz.prog.info? 156).map (·.size) = some 2 := by kernel_rfl
theorem Blk.allR {w : World} {g : Nat} {t : TypeId} {vs : List Value} (h : Blk w g t vs) : w.rangeAt g 0 vs := fun j v hv => by rw [Nat.zero_add, h.cell]; exact hv
theorem last_mapU {o : Oper} {a : Act} {w : World} {K : Act → World → Prop} {Q : Exit → Act → World → Prop} (t : TypeId) (m x y : Operand) (ho : o.op = .mapUpdate t m x y) (hdst : o.dst = none) (mv : Value) (hm : a.eval m = mv) (kv : Value) (hx : a.eval x = kv) (v : Value) (hy : a.eval y = v) (w' : World)
  (hr : (Instr.mapUpdate t mv kv v).run Tryz.prog w = .ok () w') (h : K a w') : o.wp Tryz.prog a w K Q := by
 have h2 : K (a.put o.dst undef) w' := by rw [hdst]; exact h
 unfold Oper.wp
 simp [execOp, ho, hm, hx, hy, hr, Result.andThen]
 exact h2
theorem last_oneI {o : Oper} {a : Act} {w : World} {K : Act → World → Prop} {Q : Exit → Act → World → Prop} (x y : Operand) (ho : o.op = .store 3 x y) (hdst : o.dst = none) (b off : Nat) (hx : a.eval x = .pointer (some ⟨b, off, none⟩)) (z : Int) (hy : a.eval y = .int .i64 z) {t : TypeId} {vs : List Value} (hb : Blk w b t vs) (hl : off < vs.length)
  (h : K a (w.setCell ⟨b, off, none⟩ (.int .i64 z))) : o.wp Tryz.prog a w K Q := by
 have hc : w.cell? ⟨b, off, none⟩ = some vs[off] := by rw [hb.cell]; exact List.getElem?_eq_getElem hl
 have hf := hb.frozen off
 unfold Oper.wp execOp
 simp only [ho, hx, hy]
 go_simp
 exact h
theorem maxI (a b : Nat) : (if (b : Int) > (a : Int) then (b : Int) else (a : Int)) = ((max a b : Nat) : Int) := by split <;> omega
theorem put_any (p g : Nat) (v : PgV) (f : Int → Option Value) (sz : Nat) (x : Int) (l0 l1 : Value) (w : World) (h : PgAt w p v) (he : v.held = .map (some g)) (hm : MapV w g f sz) (hx : I64 x) (hs : sz ≤ 1048576) :
  Calls Tryz.prog 104 #[.pointer (some ⟨p, 0, none⟩), .int .i64 x, .agg #[l0, l1]] w fun e w' => e = .returned (.tuple #[]) ∧ PgAt w' p { v with most := max v.most (if (f x).isSome then sz else sz + 1) } ∧ MapV w' g (updF f x (.agg #[l0, l1])) (if (f x).isSome then sz else sz + 1) ∧ Kept (fun b => b = p ∨ b = g) w w' := by
 obtain ⟨sz', hz⟩ : ∃ z, (if (f x).isSome then sz else sz + 1) = z := ⟨_, rfl⟩
 have HZ : Hid ((if (f x).isSome then sz else sz + 1) = sz') := hz
 have HS : Hid (sz ≤ 1048576) := hs
 have HX : Hid (I64 x) := hx
 have HE : Hid (v.held = .map (some g) ∧ p ≠ g) := ⟨he, hm.ne h.blk⟩
 have HP : Hid (PgAt w p v) := h
 have HM0 : Hid (MapV w g f sz) := hm
 have HM : Hid ((if (sz' : Int) > (v.most : Int) then (sz' : Int) else (v.most : Int)) = ((max v.most sz' : Nat) : Int)) := maxI v.most sz'
 rw [hz]
 clear h he hm hx hs hz
 go_enter Tryz.func104, Tryz.ntmps104
 go_wp2_with (refine wpList_box_new rfl 156 _ rfl [l0, l1] rfl ?_; intro w1 b1 s1 l1')
 have P1 : Hid (PgAt w1 p v) := HP.out.later l1' HP.out.blk.lt
 have M1 : Hid (MapV w1 g f sz) := HM0.out.later l1' HM0.out.lt
 have B1 : Hid (Blk w1 w.heap.size 156 [l0, l1]) := b1
 have S1 : Hid (w.heap.size ≤ w1.heap.size) := by have := l1'.size; exact this
 have L1 : Hid (Below w.heap.size w w1) := l1'
 clear b1 s1 l1'
 refine region_inv [.val (.pointer (some ⟨p, 0, none⟩)), .val (.pointer (some ⟨p, 0, none⟩)), .val (.pointer (some ⟨p, 37, none⟩)), .val (.map (some g)), .val (.int .i64 x), .val (.agg #[l0, l1])] (by kernel_rfl) (by kernel_rfl) (by kernel_rfl) ?_ ?_
 ·refine Steps'.cons ?_ (Steps'.cons ?_ (Steps'.cons ?_ (Steps'.cons ?_ (Steps'.cons ?_ (Steps'.cons ?_ (Steps'.one _ _ _ _ _ _ _))))))
  ·intro ax wx hb hs hd
   have h0 : ax.tmps.getD 0 undef = (.pointer (some ⟨p, 0, none⟩)) := hs 0 (by kernel_rfl)
   exact Does.value _ (by clear hs hd; go_simp) rfl
  ·intro ax wx hb hs hd
   have h6 := sqV (hd 0 6 rfl (by kernel_rfl) (by decide))
   exact Does.value _ (by clear hs hd; go_simp) rfl
  ·intro ax wx hb hs hd
   have h7 := sqV (hd 1 7 rfl (by kernel_rfl) (by decide))
   exact Does.value _ (by clear hs hd; go_simp) rfl
  ·intro ax wx hb hs hd
   have h8 := sqV (hd 2 8 rfl (by kernel_rfl) (by decide))
   have c0 : wx.cell? ⟨p, 37, none⟩ = some (.map (some g)) := (P1.out.later hb P1.out.blk.lt).cell 4 _ (by rw [← HE.out.1]; rfl)
   exact Does.value _ (by clear hs hd; go_simp) rfl
  ·intro ax wx hb hs hd
   have h1 : ax.tmps.getD 1 undef = (.int .i64 x) := hs 1 (by kernel_rfl)
   exact Does.value _ (by clear hs hd; go_simp) rfl
  ·intro ax wx hb hs hd
   have h5 : ax.tmps.getD 5 undef = (.pointer (some ⟨w.heap.size, 0, none⟩)) := hs 5 (by kernel_rfl)
   exact Does.load 156 (.tmp 5) rfl w.heap.size 0 h5 [l0, l1] _ ((B1.out.later hb B1.out.lt).allR) Tryz.underlying156 rfl leafSize
 ·intro wx hb
  iterate 6 refine @Ends.val _ _ _ _ _ _ _ _ _ _ rfl ?_
  refine @Ends.one _ _ _ _ _ _ _ ?_
  simp only [Act.put, sqA, sqB, sqC]
  obtain ⟨w2, hr, m2, k2⟩ := (M1.out.later hb M1.out.lt).store (t := 143) Tryz.underlying143 (by have := HS.out; unfold maxLen; omega) HX.out (.agg #[l0, l1])
  refine last_mapU 143 (.tmp 9) (.tmp 10) (.tmp 11) rfl rfl _ rfl _ rfl _ rfl _ hr ?_
  have P2 : Hid (PgAt w2 p v) := (P1.out.later hb P1.out.blk.lt).kept k2 (fun e => HE.out.2 e)
  have M2 : Hid (MapV w2 g (updF f x (.agg #[l0, l1])) sz') := by have := m2; rw [HZ.out] at this; exact this
  have K2 : Hid (Kept (fun b => b = p ∨ b = g) w w2) := ((Kept.new (fun b => b = p ∨ b = g) (below_chain L1.out hb (by have := S1.out; omega)))).trans (k2.mono (fun b e => .inr e))
  clear hr m2 k2
  go_wp2_with fail
  refine region_invT [.val (.pointer (some ⟨p, 0, none⟩)), .val (.pointer (some ⟨p, 0, none⟩)), .val (.pointer (some ⟨p, 0, none⟩)), .val (.pointer (some ⟨p, 40, none⟩)), .val (.int .i64 (v.most : Int)), .val (.pointer (some ⟨p, 0, none⟩)), .val (.pointer (some ⟨p, 0, none⟩)), .val (.pointer (some ⟨p, 37, none⟩)), .val (.map (some g)), .val (.int .i64 (sz' : Int)), .val (.int .i64 ((max v.most sz' : Nat) : Int)), .val (.pointer (some ⟨p, 0, none⟩)), .val (.pointer (some ⟨p, 40, none⟩))] (by kernel_rfl) (by kernel_rfl) (by kernel_rfl) ?_ ?_
  ·refine Steps'.cons ?_ (Steps'.cons ?_ (Steps'.cons ?_ (Steps'.cons ?_ (Steps'.cons ?_ (Steps'.cons ?_ (Steps'.cons ?_ (Steps'.cons ?_ (Steps'.cons ?_ (Steps'.cons ?_ (Steps'.cons ?_ (Steps'.cons ?_ (Steps'.cons ?_ (Steps'.one _ _ _ _ _ _ _)))))))))))))
   ·intro ax wx hb hs hd
    have h0 : ax.tmps.getD 0 undef = (.pointer (some ⟨p, 0, none⟩)) := hs 0 (by kernel_rfl)
    exact Does.value _ (by clear hs hd; go_simp) rfl
   ·intro ax wx hb hs hd
    have h0 : ax.tmps.getD 0 undef = (.pointer (some ⟨p, 0, none⟩)) := hs 0 (by kernel_rfl)
    exact Does.value _ (by clear hs hd; go_simp) rfl
   ·intro ax wx hb hs hd
    have h13 := sqV (hd 1 13 rfl (by kernel_rfl) (by decide))
    exact Does.value _ (by clear hs hd; go_simp) rfl
   ·intro ax wx hb hs hd
    have h14 := sqV (hd 2 14 rfl (by kernel_rfl) (by decide))
    exact Does.value _ (by clear hs hd; go_simp) rfl
   ·intro ax wx hb hs hd
    have h15 := sqV (hd 3 15 rfl (by kernel_rfl) (by decide))
    have c0 : wx.cell? ⟨p, 40, none⟩ = some (.int .i64 (v.most : Int)) := (P2.out.later hb P2.out.blk.lt).cell 7 _ rfl
    exact Does.value _ (by clear hs hd; go_simp) rfl
   ·intro ax wx hb hs hd
    have h0 : ax.tmps.getD 0 undef = (.pointer (some ⟨p, 0, none⟩)) := hs 0 (by kernel_rfl)
    exact Does.value _ (by clear hs hd; go_simp) rfl
   ·intro ax wx hb hs hd
    have h17 := sqV (hd 5 17 rfl (by kernel_rfl) (by decide))
    exact Does.value _ (by clear hs hd; go_simp) rfl
   ·intro ax wx hb hs hd
    have h18 := sqV (hd 6 18 rfl (by kernel_rfl) (by decide))
    exact Does.value _ (by clear hs hd; go_simp) rfl
   ·intro ax wx hb hs hd
    have h19 := sqV (hd 7 19 rfl (by kernel_rfl) (by decide))
    have c0 : wx.cell? ⟨p, 37, none⟩ = some (.map (some g)) := (P2.out.later hb P2.out.blk.lt).cell 4 _ (by rw [← HE.out.1]; rfl)
    exact Does.value _ (by clear hs hd; go_simp) rfl
   ·intro ax wx hb hs hd
    have h20 := sqV (hd 8 20 rfl (by kernel_rfl) (by decide))
    have hL := (M2.out.later hb M2.out.lt).len (t := 143) Tryz.underlying143 3
    exact Does.value _ (by clear hs hd; go_simp) rfl
   ·intro ax wx hb hs hd
    have h16 := sqV (hd 4 16 rfl (by kernel_rfl) (by decide))
    have h21 := sqV (hd 9 21 rfl (by kernel_rfl) (by decide))
    have hX := HM.out
    refine Does.value (.int .i64 ((max v.most sz' : Nat) : Int)) ?_ rfl
    clear hs hd hX
    go_simp
    split <;> omega
   ·intro ax wx hb hs hd
    have h12 := sqV (hd 0 12 rfl (by kernel_rfl) (by decide))
    exact Does.value _ (by clear hs hd; go_simp) rfl
   ·intro ax wx hb hs hd
    have h23 := sqV (hd 11 23 rfl (by kernel_rfl) (by decide))
    exact Does.value _ (by clear hs hd; go_simp) rfl
  ·intro wx hb
   iterate 13 refine @Ends.val _ _ _ _ _ _ _ _ _ _ rfl ?_
   refine @Ends.one _ _ _ _ _ _ _ ?_
   simp only [Act.put, sqA, sqB, sqC]
   have P3 := P2.out.later hb P2.out.blk.lt
   refine last_oneI (.tmp 24) (.tmp 22) rfl rfl p 40 rfl _ rfl P3.blk (by rw [pgC_length _ P3.klen]; decide) ?_
   have K3 := (Kept.refl (fun b => b = p) wx).setCell (p := ⟨p, 40, none⟩) rfl (.int .i64 ((max v.most sz' : Nat) : Int))
   have P4 : Hid (PgAt (wx.setCell ⟨p, 40, none⟩ (.int .i64 ((max v.most sz' : Nat) : Int))) p { v with most := max v.most sz' }) := P3.put 7 _ rfl rfl rfl
   have M4 : Hid (MapV (wx.setCell ⟨p, 40, none⟩ (.int .i64 ((max v.most sz' : Nat) : Int))) g (updF f x (.agg #[l0, l1])) sz') := (M2.out.later hb M2.out.lt).kept K3 (fun e => HE.out.2 e.symm)
   have K4 : Hid (Kept (fun b => b = p ∨ b = g) w (wx.setCell ⟨p, 40, none⟩ (.int .i64 ((max v.most sz' : Nat) : Int)))) := (K2.out.trans (Kept.new (fun b => b = p ∨ b = g) hb)).setCell (.inl rfl) _
   clear P3 K3
   go_end0
   exact ⟨rfl, P4.out, M4.out, K4.out⟩
theorem own_block {w w' : World} {base : Nat} {e : TypeId} {v : Value} {n : Nat} {xs : List Value} (h : w.ownsRow base e 1 v n xs) (hb : ∀ k, v.ownBlock = some k → w'.heap[k]? = w.heap[k]?) : w'.ownsRow base e 1 v n xs := by
 refine ⟨h.1, ?_⟩
 rcases h.2 with h1 | ⟨g, cap, cur, rfl, h1, h2, h3⟩
 ·exact .inl h1
 ·exact .inr ⟨g, cap, cur, rfl, h1, by rw [hb g rfl]; exact h2, h3⟩
theorem own_kept {S : Nat → Prop} {w w' : World} {base : Nat} {e : TypeId} {v : Value} {n : Nat} {xs : List Value} (h : w.ownsRow base e 1 v n xs) (hk : Kept S w w') (hS : ∀ k, v.ownBlock = some k → ¬ S k) : w'.ownsRow base e 1 v n xs :=
 own_block h fun k hk' => hk.block k (h.lt k hk').2 (hS k hk')
theorem own_addr {w : World} {base : Nat} {ao : Option Addr} {n cap : Nat} {xs : List Value} {k : Nat} (h : w.ownsRow base 5 1 (.slice ao n cap) n xs) (hk : (Value.slice ao n cap).ownBlock = some k) : ao = some ⟨k, 0, none⟩ := by
 rcases h.2 with ⟨h1, _⟩ | ⟨g, c, cur, h1, _⟩
 ·simp only [Value.slice.injEq] at h1; rw [h1.1] at hk; cases hk
 ·simp only [Value.slice.injEq] at h1
  rw [h1.1] at hk
  simp [Value.ownBlock] at hk
  rw [h1.1, hk]
structure Rd (w : World) (r : Nat) (ao : Option Addr) (c : Nat) (zs : List Int) (p : Nat) (e : Int) : Prop where
 c0 : w.cell? ⟨r, 0, none⟩ = some (.slice ao zs.length c)
 c1 : w.cell? ⟨r, 1, none⟩ = some (.int .i64 p)
 c2 : w.cell? ⟨r, 2, none⟩ = some (.int .i64 e)
 f1 : w.frozen? ⟨r, 1, none⟩ = false
 f2 : w.frozen? ⟨r, 2, none⟩ = false
 own : w.ownsRow 0 5 1 (.slice ao zs.length c) zs.length (zs.map (Value.int .u8))
 hp : p ≤ zs.length
 ht : zs.length ≤ 140737488355328
 hb : Bytes zs
 ne : ∀ g, ao = some ⟨g, 0, none⟩ → g ≠ r
 lt : r < w.heap.size
theorem Rd.kept {S : Nat → Prop} {w w' : World} {r : Nat} {ao : Option Addr} {c : Nat} {zs : List Int} {p : Nat} {e : Int} (h : Rd w r ao c zs p e) (hk : Kept S w w') (hr : ¬ S r) (hg : ∀ g, ao = some ⟨g, 0, none⟩ → ¬ S g) : Rd w' r ao c zs p e :=
 ⟨(hk.cell (p := ⟨r, 0, none⟩) h.lt hr).trans h.c0, (hk.cell (p := ⟨r, 1, none⟩) h.lt hr).trans h.c1, (hk.cell (p := ⟨r, 2, none⟩) h.lt hr).trans h.c2,
  (World.frozen?_of_block (a := ⟨r, 1, none⟩) (hk.block r h.lt hr)).trans h.f1, (World.frozen?_of_block (a := ⟨r, 2, none⟩) (hk.block r h.lt hr)).trans h.f2,
  own_kept h.own hk (fun k hk' => hg k (own_addr h.own hk')), h.hp, h.ht, h.hb, h.ne, Nat.lt_of_lt_of_le h.lt hk.size⟩
theorem kept_of_below {S : Nat → Prop} {w w' : World} {B : Nat} (h : Below B w w') (hB : w.heap.size ≤ B) : Kept S w w' := ⟨h.os, h.tape, h.output, h.size, fun k hk _ => h.block k (Nat.lt_of_lt_of_le hk hB)⟩
theorem Rd.later {w w' : World} {r : Nat} {ao : Option Addr} {c : Nat} {zs : List Int} {p : Nat} {e : Int} (h : Rd w r ao c zs p e) {B : Nat} (hb : Below B w w') (hB : w.heap.size ≤ B) : Rd w' r ao c zs p e :=
 h.kept (S := fun _ => False) (kept_of_below hb hB) (fun x => x) (fun _ _ x => x)
theorem Rd.drewN {w : World} {r : Nat} {ao : Option Addr} {c : Nat} {zs : List Int} {p : Nat} {e : Int} (h : Rd w r ao c zs p e) (q : Nat) : Rd (w.drewN q) r ao c zs p e := h.later (B := w.heap.size) (below_dn (Below.refl _ _) q) (Nat.le_refl _)
theorem own_form {w : World} {base : Nat} {e : TypeId} {v : Value} {n : Nat} {xs : List Value} (h : w.ownsRow base e 1 v n xs) : ∃ vo cv, v = .slice vo n cv := by
 rcases h.2 with ⟨rfl, rfl⟩ | ⟨g, cap, cur, rfl, _⟩
 ·exact ⟨none, 0, rfl⟩
 ·exact ⟨_, cap, rfl⟩
theorem Rd.new {w1 : World} {base : Nat} {vo : Option Addr} {n cv : Nat} {zs : List Int} (o1 : w1.ownsRow base 5 1 (.slice vo n cv) n (zs.map (Value.int .u8))) (hl : zs.length = n) (hb : Bytes zs) (ht : n ≤ 140737488355328) :
  Rd (w1.alloc (.cells #[.slice vo n cv, .int .i64 0, .int .i64 0] 200)) w1.heap.size vo cv zs 0 0 := by
 subst hl
 have h : (w1.alloc (.cells #[.slice vo zs.length cv, .int .i64 0, .int .i64 0] 200)).heap[w1.heap.size]? = some (.cells #[.slice vo zs.length cv, .int .i64 0, .int .i64 0] 200 (0, 0)) := heap_alloc_new w1 _
 refine ⟨?_, ?_, ?_, ?_, ?_, (ownsRow_base o1 (Nat.zero_le _)).alloc _, Nat.zero_le _, ht, hb, fun g hg => ?_, by simp⟩
 ·rw [cell_of_row _ _ 0 _ 200 (0, 0) h]; rfl
 ·rw [cell_of_row _ _ 1 _ 200 (0, 0) h]; rfl
 ·rw [cell_of_row _ _ 2 _ 200 (0, 0) h]; rfl
 ·exact frozen_of_row _ _ 1 _ 200 h
 ·exact frozen_of_row _ _ 2 _ 200 h
 ·subst hg
  have := (o1.lt g rfl).2
  omega
theorem Rd.setErr {w : World} {r : Nat} {ao : Option Addr} {c : Nat} {zs : List Int} {p : Nat} {e : Int} (h : Rd w r ao c zs p e) (e' : Int) : Rd (w.setCell ⟨r, 2, none⟩ (.int .i64 e')) r ao c zs p e' := by
 refine ⟨?_, ?_, ?_, by simpa using h.f1, by simpa using h.f2, ?_, h.hp, h.ht, h.hb, h.ne, by simpa [World.setCell] using h.lt⟩
 ·rw [World.cell?_setCell_other _ _ _ _ (by simp)]; exact h.c0
 ·rw [World.cell?_setCell_other _ _ _ _ (by simp)]; exact h.c1
 ·exact World.cell?_setCell_same _ _ _ h.c2
 ·exact own_block h.own fun k hk => Below.heap_setCell _ _ _ _ (h.ne k (own_addr h.own hk))
theorem Rd.setPlace {w : World} {r : Nat} {ao : Option Addr} {c : Nat} {zs : List Int} {p : Nat} {e : Int} (h : Rd w r ao c zs p e) (p' : Nat) (hp : p' ≤ zs.length) : Rd (w.setCell ⟨r, 1, none⟩ (.int .i64 p')) r ao c zs p' e := by
 refine ⟨?_, ?_, ?_, by simpa using h.f1, by simpa using h.f2, ?_, hp, h.ht, h.hb, h.ne, by simpa [World.setCell] using h.lt⟩
 ·rw [World.cell?_setCell_other _ _ _ _ (by simp)]; exact h.c0
 ·exact World.cell?_setCell_same _ _ _ h.c1
 ·rw [World.cell?_setCell_other _ _ _ _ (by simp)]; exact h.c2
 ·exact own_block h.own fun k hk => Below.heap_setCell _ _ _ _ (h.ne k (own_addr h.own hk))
theorem newReader_any (ao : Option Addr) (n c : Nat) (zs : List Int) (w : World) (hx : Seen w ao n zs) :
  Calls Tryz.prog 123 #[.slice ao n c] w fun e w' => ∃ r ao' c', e = .returned (.pointer (some ⟨r, 0, none⟩)) ∧ Rd w' r ao' c' zs 0 0 ∧ w.heap.size ≤ r ∧ (∀ g, ao' = some ⟨g, 0, none⟩ → w.heap.size ≤ g) ∧ Below w.heap.size w w' := by
 have HX : Hid (zs.length = n ∧ Bytes zs ∧ n ≤ 140737488355328) := ⟨hx.len, hx.bytes, hx.top⟩
 go_enter Tryz.func123, Tryz.ntmps123
 go_wp2_with fail
 refine (clone_any ao n c zs w hx).mono ?_
 rintro e w1 ⟨v, rfl, o1, b1⟩
 obtain ⟨vo, cv, rfl⟩ := own_form o1
 have HR : Hid (Rd (w1.alloc (.cells #[.slice vo n cv, .int .i64 0, .int .i64 0] 200)) w1.heap.size vo cv zs 0 0) := Rd.new o1 HX.out.1 HX.out.2.1 HX.out.2.2
 have HG : Hid (∀ g, vo = some ⟨g, 0, none⟩ → w.heap.size ≤ g) := fun g hg => by subst hg; exact (o1.lt g rfl).1
 have HB : Hid (Below w.heap.size w (w1.alloc (.cells #[.slice vo n cv, .int .i64 0, .int .i64 0] 200))) := b1.alloc b1.size _
 have zb := b1.size
 clear o1 b1
 go_wp2
 go_ret
 exact ⟨_, vo, cv, rfl, HR.out, zb, HG.out, HB.out⟩
theorem err_any (r : Nat) (ao : Option Addr) (c : Nat) (zs : List Int) (p : Nat) (e : Int) (w : World) (h : Rd w r ao c zs p e) :
  Calls Tryz.prog 136 #[.pointer (some ⟨r, 0, none⟩)] w fun en w' => en = .returned (.int .i64 e) ∧ w = w' := by
 have c2 := h.c2
 clear h
 go_enter Tryz.func136, Tryz.ntmps136
 go_wp2
 go_ret
 exact ⟨rfl, rfl⟩
theorem left_any (r : Nat) (ao : Option Addr) (c : Nat) (zs : List Int) (p : Nat) (e : Int) (w : World) (h : Rd w r ao c zs p e) :
  Calls Tryz.prog 137 #[.pointer (some ⟨r, 0, none⟩)] w fun en w' => en = .returned (.int .i64 ((zs.length : Int) - p)) ∧ ∃ q, w' = w.drewN q := by
 have c0 := h.c0
 have c1 := h.c1
 have hp := h.hp
 have ht := h.ht
 generalize zs.length = n at *
 have i1 : -9223372036854775808 ≤ (n : Int) - p := by omega
 have i2 : (n : Int) - p ≤ 9223372036854775807 := by omega
 clear h
 go_enter Tryz.func137, Tryz.ntmps137
 go_wp2
 go_quiet (fail)
 go_wp2
 go_ret
 exact ⟨rfl, _, rfl⟩
def endE (n p : Nat) (e : Int) : Int := if e ≠ 0 then e else if p < n then 21 else 0
theorem end_any (r : Nat) (ao : Option Addr) (c : Nat) (zs : List Int) (p : Nat) (e : Int) (w : World) (h : Rd w r ao c zs p e) :
  Calls Tryz.prog 126 #[.pointer (some ⟨r, 0, none⟩)] w fun en w' => en = .returned (.int .i64 (endE zs.length p e)) ∧ ∃ q, w' = w.drewN q := by
 by_cases he : e = 0
 ·subst he
  by_cases hlt : p < zs.length
  ·have HE : Hid (endE zs.length p 0 = 21) := by show _ = _; simp [endE, hlt]
   have HL := left_any r ao c zs p 0 w h
   have hpos : (0 : Int) < (zs.length : Int) - p := by omega
   generalize ((zs.length : Int) - p) = D at *
   go_enter Tryz.func126, Tryz.ntmps126
   go_wp2_with fail
   refine (err_any r ao c zs p 0 w h).mono ?_
   rintro e w' ⟨rfl, rfl⟩
   go_wp2_with fail
   refine HL.mono ?_
   rintro e _ ⟨rfl, q, rfl⟩
   go_wp2
   go_ret
   exact ⟨ret_int HE.out.symm, _, rfl⟩
  ·have HE : Hid (endE zs.length p 0 = 0) := by show _ = _; simp [endE, hlt]
   have HL := left_any r ao c zs p 0 w h
   have hpos : ¬ (0 : Int) < (zs.length : Int) - p := by omega
   generalize ((zs.length : Int) - p) = D at *
   go_enter Tryz.func126, Tryz.ntmps126
   go_wp2_with fail
   refine (err_any r ao c zs p 0 w h).mono ?_
   rintro e w' ⟨rfl, rfl⟩
   go_wp2_with fail
   refine HL.mono ?_
   rintro e _ ⟨rfl, q, rfl⟩
   go_wp2
   go_ret
   exact ⟨ret_int HE.out.symm, _, rfl⟩
 ·have HE : Hid (endE zs.length p e = e) := by show _ = _; simp [endE, he]
  have hne : (e != 0) = true := by simpa using he
  go_enter Tryz.func126, Tryz.ntmps126
  go_wp2_with fail
  refine (err_any r ao c zs p e w h).mono ?_
  rintro e' w' ⟨rfl, rfl⟩
  go_wp2
  go_ret
  exact ⟨ret_int HE.out.symm, 0, rfl⟩
def nxL (zs : List Int) (p : Nat) (e n : Int) : List Int := if e ≠ 0 ∨ n < 0 ∨ (zs.length : Int) - p < n then [] else (zs.drop p).take n.toNat
def nxP (zs : List Int) (p : Nat) (e n : Int) : Nat := if e ≠ 0 ∨ n < 0 ∨ (zs.length : Int) - p < n then p else p + n.toNat
def nxE (zs : List Int) (p : Nat) (e n : Int) : Int := if e ≠ 0 then e else if n < 0 then 2 else if (zs.length : Int) - p < n then 20 else 0
theorem nx_err {zs : List Int} {p : Nat} {e n : Int} (h : e ≠ 0) : nxL zs p e n = [] ∧ nxP zs p e n = p ∧ nxE zs p e n = e := by simp [nxL, nxP, nxE, h]
theorem nx_arg {zs : List Int} {p : Nat} {n : Int} (h : n < 0) : nxL zs p 0 n = [] ∧ nxP zs p 0 n = p ∧ nxE zs p 0 n = 2 := by simp [nxL, nxP, nxE, h]
theorem nx_short {zs : List Int} {p : Nat} {n : Int} (h0 : ¬ n < 0) (h : (zs.length : Int) - p < n) : nxL zs p 0 n = [] ∧ nxP zs p 0 n = p ∧ nxE zs p 0 n = 20 := by simp [nxL, nxP, nxE, h0, h]
theorem nx_ok {zs : List Int} {p m : Nat} (h : p + m ≤ zs.length) : nxL zs p 0 (m : Int) = (zs.drop p).take m ∧ nxP zs p 0 (m : Int) = p + m ∧ nxE zs p 0 (m : Int) = 0 := by
 have h1 : ¬ ((m : Int) < 0) := by omega
 have h2 : ¬ ((zs.length : Int) - p < m) := by omega
 simp [nxL, nxP, nxE, h1, h2]
theorem seen_sub {w : World} {g p m : Nat} {zs : List Int} (h : RowAt w g zs) (hp : p + m ≤ zs.length) (ht : m ≤ 140737488355328) (hb : Bytes zs) : Seen w (some ⟨g, p, none⟩) m ((zs.drop p).take m) :=
 ⟨by simp; omega, ht, bytes_take (bytes_drop hb p) m, fun _ => ⟨g, p, rfl, h.lt, fun i hi => by
  rw [h.cell (p + i) (by omega)]
  simp [List.getD, hi]⟩⟩
theorem next_any (r : Nat) (ao : Option Addr) (c : Nat) (zs : List Int) (p : Nat) (e n : Int) (hn : -9223372036854775808 ≤ n ∧ n ≤ 9223372036854775807) (w : World) (h : Rd w r ao c zs p e) :
  Calls Tryz.prog 146 #[.pointer (some ⟨r, 0, none⟩), .int .i64 n] w fun en w' => ∃ so c', en = .returned (.slice so (nxL zs p e n).length c') ∧ Seen w' so (nxL zs p e n).length (nxL zs p e n) ∧ (so = none → c' = 0) ∧ Rd w' r ao c zs (nxP zs p e n) (nxE zs p e n) ∧ Kept (fun k => k = r) w w' := by
 by_cases he : e = 0
 ·subst he
  have HER : ∀ W, Rd W r ao c zs p 0 → Calls Tryz.prog 136 #[.pointer (some ⟨r, 0, none⟩)] W fun en w' => en = .returned (.int .i64 0) ∧ W = w' := fun W hW => err_any r ao c zs p 0 W hW
  by_cases h0 : n < 0
  ·obtain ⟨e1, e2, e3⟩ := @nx_arg zs p n h0
   rw [e1, e2, e3]
   have R1 : Hid _ := h.setErr 2
   have R2 : Hid _ := (Kept.refl (fun k => k = r) w).setCell (p := ⟨r, 2, none⟩) rfl (.int .i64 2)
   have c2 := h.c2
   have f2 := h.f2
   go_enter Tryz.func146, Tryz.ntmps146
   go_wp2_with fail
   refine (HER w h).mono ?_
   rintro e w' ⟨rfl, rfl⟩
   clear h HER
   go_wp2
   go_ret
   exact ⟨none, 0, rfl, Seen.empty _ _, fun _ => rfl, R1.out, R2.out⟩
  ·by_cases h1 : (zs.length : Int) - p < n
   ·obtain ⟨e1, e2, e3⟩ := @nx_short zs p n h0 h1
    rw [e1, e2, e3]
    have HL := left_any r ao c zs p 0 w h
    have HR : Hid (∀ q, Rd ((w.drewN q).setCell ⟨r, 2, none⟩ (.int .i64 20)) r ao c zs p 20 ∧ Kept (fun k => k = r) w ((w.drewN q).setCell ⟨r, 2, none⟩ (.int .i64 20))) := fun q => ⟨(h.drewN q).setErr 20, Kept.setCell (S := fun k => k = r) (a := w) (w := w.drewN q) ⟨rfl, rfl, rfl, Nat.le_refl _, fun _ _ _ => rfl⟩ (p := ⟨r, 2, none⟩) rfl (.int .i64 20)⟩
    have c2 := h.c2
    have f2 := h.f2
    generalize ((zs.length : Int) - p) = D at *
    go_enter Tryz.func146, Tryz.ntmps146
    go_wp2_with fail
    refine (HER w h).mono ?_
    rintro e w' ⟨rfl, rfl⟩
    clear h HER
    go_wp2_with fail
    refine HL.mono ?_
    rintro e _ ⟨rfl, q, rfl⟩
    go_wp2
    go_ret
    exact ⟨none, 0, rfl, Seen.empty _ _, fun _ => rfl, (HR.out q).1, (HR.out q).2⟩
   ·obtain ⟨m, rfl⟩ := Int.eq_ofNat_of_zero_le (show 0 ≤ n by omega)
    have hp := h.hp
    have ht := h.ht
    have hpm : p + m ≤ zs.length := by omega
    obtain ⟨e1, e2, e3⟩ := @nx_ok zs p m hpm
    rw [e1, e2, e3]
    have HL := left_any r ao c zs p 0 w h
    have HR : Hid (∀ q, Rd ((w.drewN q).setCell ⟨r, 1, none⟩ (.int .i64 (p + m : Nat))) r ao c zs (p + m) 0 ∧ Kept (fun k => k = r) w ((w.drewN q).setCell ⟨r, 1, none⟩ (.int .i64 (p + m : Nat)))) := fun q => ⟨(h.drewN q).setPlace (p + m) hpm, Kept.setCell (S := fun k => k = r) (a := w) (w := w.drewN q) ⟨rfl, rfl, rfl, Nat.le_refl _, fun _ _ _ => rfl⟩ (p := ⟨r, 1, none⟩) rfl (.int .i64 (p + m : Nat))⟩
    have c0 := h.c0
    have c1 := h.c1
    have f1 := h.f1
    have HH : Hid (Rd w r ao c zs p 0) := h
    generalize hD : ((zs.length : Int) - p) = D at *
    go_enter Tryz.func146, Tryz.ntmps146
    go_wp2_with fail
    refine (HER w h).mono ?_
    rintro e w' ⟨rfl, rfl⟩
    clear h HER hD
    go_wp2_with fail
    refine HL.mono ?_
    rintro e _ ⟨rfl, q, rfl⟩
    go_wp2
    have hq := HR.out q
    have ec : ((p + m : Nat) : Int) = (p : Int) + (m : Int) := by omega
    rw [ec] at hq
    generalize ((w.drewN q).setCell ⟨r, 1, none⟩ (.int .i64 ((p : Int) + (m : Int)))) = W at hq ⊢
    have d0 := hq.1.c0
    have d1 := hq.1.c1
    rw [ec] at d1
    have hlc : zs.length ≤ c := by
     rcases hq.1.own.2 with ⟨h1, h2⟩ | ⟨g, cap, cur, h1, _, _, h4, _⟩
     ·omega
     ·simp only [Value.slice.injEq] at h1; omega
    have i1 : (0 : Int) ≤ (p : Int) := by omega
    have i2 : (p : Int) ≤ (p : Int) + (m : Int) := by omega
    have i3 : (p : Int) + (m : Int) ≤ (c : Int) := by omega
    have HQ : Hid (Rd W r ao c zs (p + m) 0 ∧ Kept (fun k => k = r) w W) := hq
    have HL2 : Hid (((zs.drop p).take m).length = m) := by show _ = _; simp; omega
    clear hq c0 c1 f1 ec
    by_cases hcp : c = p
    ·have hm0 : m = 0 := by omega
     subst hm0
     subst hcp
     go_quiet (fail)
     go_wp2
     go_ret
     rw [HL2.out]
     exact ⟨ao, 0, rfl, by rw [List.take_zero]; exact Seen.empty _ _, fun _ => rfl, HQ.out.1.drewN _, HQ.out.2.trans ⟨rfl, rfl, rfl, Nat.le_refl _, fun _ _ _ => rfl⟩⟩
    ·obtain ⟨g, rfl⟩ : ∃ g, ao = some ⟨g, 0, none⟩ := by
      rcases HQ.out.1.own.2 with ⟨h1, h2⟩ | ⟨g, cap, cur, h1, _⟩
      ·simp only [Value.slice.injEq] at h1; omega
      ·simp only [Value.slice.injEq] at h1; exact ⟨g, h1.1⟩
     go_quiet (fail)
     go_wp2
     go_ret
     rw [HL2.out]
     refine ⟨some ⟨g, p, none⟩, c - p, ?_, (seen_sub (RowAt.of_own HQ.out.1.own).1 hpm (by omega) HQ.out.1.hb).drewN _, (fun h => by cases h), HQ.out.1.drewN _, HQ.out.2.trans ⟨rfl, rfl, rfl, Nat.le_refl _, fun _ _ _ => rfl⟩⟩
     show Ending.returned (Value.slice (some ⟨g, p, none⟩) (p + m - p) (c - p)) = _
     rw [Nat.add_sub_cancel_left]
 ·obtain ⟨e1, e2, e3⟩ := @nx_err zs p e n he
  rw [e1, e2, e3]
  have hne : (e != 0) = true := by simpa using he
  go_enter Tryz.func146, Tryz.ntmps146
  go_wp2_with fail
  refine (err_any r ao c zs p e w h).mono ?_
  rintro e' w' ⟨rfl, rfl⟩
  go_wp2
  go_ret
  exact ⟨none, 0, rfl, Seen.empty _ _, fun _ => rfl, h, Kept.refl _ _⟩
theorem take_32 (r : Nat) (ao : Option Addr) (c : Nat) (zs : List Int) (p : Nat) (e : Int) (w : World) (h : Rd w r ao c zs p e) :
  Calls Tryz.prog 135 #[.pointer (some ⟨r, 0, none⟩)] w fun en w' => en = .returned (.int .u32 (leV 4 (nxL zs p e 4).length (nxL zs p e 4))) ∧ Rd w' r ao c zs (nxP zs p e 4) (nxE zs p e 4) ∧ Kept (fun k => k = r) w w' := by
 have hn := next_any r ao c zs p e 4 (by decide) w h
 clear h
 generalize nxL zs p e 4 = L at *
 generalize nxP zs p e 4 = P' at *
 generalize nxE zs p e 4 = E' at *
 go_enter Tryz.func135, Tryz.ntmps135
 go_wp2_with fail
 refine (width_32 w).mono ?_
 rintro e w' ⟨rfl, rfl⟩
 go_wp2_with fail
 refine hn.mono ?_
 rintro e w1 ⟨so, c', rfl, sL, _, rd, kp⟩
 clear hn
 go_wp2_with fail
 refine (little_32 so L.length c' L w1 sL).mono ?_
 rintro e w' ⟨rfl, rfl⟩
 have HR : Hid _ := rd
 have HK : Hid _ := kp
 clear rd kp sL
 go_wp2
 go_ret
 exact ⟨rfl, HR.out, HK.out⟩
theorem ru_32 (r : Nat) (ao : Option Addr) (c : Nat) (zs : List Int) (p : Nat) (e : Int) (w : World) (h : Rd w r ao c zs p e) :
  Calls Tryz.prog 125 #[.pointer (some ⟨r, 0, none⟩)] w fun en w' => en = .returned (.int .u32 (leV 4 (nxL zs p e 4).length (nxL zs p e 4))) ∧ Rd w' r ao c zs (nxP zs p e 4) (nxE zs p e 4) ∧ Kept (fun k => k = r) w w' := by
 have hn := take_32 r ao c zs p e w h
 clear h
 go_enter Tryz.func125, Tryz.ntmps125
 go_wp2_with fail
 refine hn.mono ?_
 rintro e w1 ⟨rfl, rd, kp⟩
 have HR : Hid _ := rd
 have HK : Hid _ := kp
 clear rd kp hn
 go_wp2
 go_ret
 exact ⟨rfl, HR.out, HK.out⟩
theorem take_64 (r : Nat) (ao : Option Addr) (c : Nat) (zs : List Int) (p : Nat) (e : Int) (w : World) (h : Rd w r ao c zs p e) :
  Calls Tryz.prog 134 #[.pointer (some ⟨r, 0, none⟩)] w fun en w' => en = .returned (.int .u64 (leV 8 (nxL zs p e 8).length (nxL zs p e 8))) ∧ Rd w' r ao c zs (nxP zs p e 8) (nxE zs p e 8) ∧ Kept (fun k => k = r) w w' := by
 have hn := next_any r ao c zs p e 8 (by decide) w h
 clear h
 generalize nxL zs p e 8 = L at *
 generalize nxP zs p e 8 = P' at *
 generalize nxE zs p e 8 = E' at *
 go_enter Tryz.func134, Tryz.ntmps134
 go_wp2_with fail
 refine (width_64 w).mono ?_
 rintro e w' ⟨rfl, rfl⟩
 go_wp2_with fail
 refine hn.mono ?_
 rintro e w1 ⟨so, c', rfl, sL, _, rd, kp⟩
 clear hn
 go_wp2_with fail
 refine (little_64 so L.length c' L w1 sL).mono ?_
 rintro e w' ⟨rfl, rfl⟩
 have HR : Hid _ := rd
 have HK : Hid _ := kp
 clear rd kp sL
 go_wp2
 go_ret
 exact ⟨rfl, HR.out, HK.out⟩
theorem ru_64 (r : Nat) (ao : Option Addr) (c : Nat) (zs : List Int) (p : Nat) (e : Int) (w : World) (h : Rd w r ao c zs p e) :
  Calls Tryz.prog 124 #[.pointer (some ⟨r, 0, none⟩)] w fun en w' => en = .returned (.int .u64 (leV 8 (nxL zs p e 8).length (nxL zs p e 8))) ∧ Rd w' r ao c zs (nxP zs p e 8) (nxE zs p e 8) ∧ Kept (fun k => k = r) w w' := by
 have hn := take_64 r ao c zs p e w h
 clear h
 go_enter Tryz.func124, Tryz.ntmps124
 go_wp2_with fail
 refine hn.mono ?_
 rintro e w1 ⟨rfl, rd, kp⟩
 have HR : Hid _ := rd
 have HK : Hid _ := kp
 clear rd kp hn
 go_wp2
 go_ret
 exact ⟨rfl, HR.out, HK.out⟩
def rotl (x : Int) (n : Nat) : Int := bits .or .u32 (x * 2 ^ n % 4294967296) (x / 2 ^ (32 - n))
structure Q4 where
 a : Int
 b : Int
 c : Int
 d : Int
def halfD (q : Q4) (n : Nat) : Int := rotl (bits .xor .u32 q.d ((q.a + q.b) % 4294967296)) n
def halfC (q : Q4) (n : Nat) : Int := (q.c + halfD q n) % 4294967296
def halfQ (q : Q4) (n m : Nat) : Q4 := ⟨(q.a + q.b) % 4294967296, rotl (bits .xor .u32 q.b (halfC q n)) m, halfC q n, halfD q n⟩
def quarter (q : Q4) : Q4 := halfQ (halfQ q 16 12) 8 7
def qOf (st : List Int) (i j k l : Nat) : Q4 := ⟨st.getD i 0, st.getD j 0, st.getD k 0, st.getD l 0⟩
def qPut (st : List Int) (q : Q4) (i j k l : Nat) : List Int := (((st.set i q.a).set j q.b).set k q.c).set l q.d
theorem qPut_length (st : List Int) (q : Q4) (i j k l : Nat) : (qPut st q i j k l).length = st.length := by simp [qPut]
def colStep (st : List Int) (s c : Nat) : List Int :=
 qPut st (quarter (qOf st (c % 4) (4 + (c + s) % 4) (8 + (c + 2 * s) % 4) (12 + (c + 3 * s) % 4))) (c % 4) (4 + (c + s) % 4) (8 + (c + 2 * s) % 4) (12 + (c + 3 * s) % 4)
def cols (st : List Int) (s : Nat) : Nat → List Int
 | 0 => st
 | n + 1 => colStep (cols st s n) s n
def slants (st : List Int) : Nat → List Int
 | 0 => st
 | n + 1 => cols (slants st n) n 4
def passN (st : List Int) : Nat → List Int
 | 0 => st
 | n + 1 => slants (passN st n) 2
def stir (st : List Int) : List Int := passN st 10
theorem colStep_length (st : List Int) (s c : Nat) : (colStep st s c).length = st.length := qPut_length ..
theorem cols_length (st : List Int) (s n : Nat) : (cols st s n).length = st.length := by
 induction n with
 | zero => rfl
 | succ n ih => rw [cols, colStep_length, ih]
theorem slants_length (st : List Int) (n : Nat) : (slants st n).length = st.length := by
 induction n with
 | zero => rfl
 | succ n ih => rw [slants, cols_length, ih]
theorem passN_length (st : List Int) (n : Nat) : (passN st n).length = st.length := by
 induction n with
 | zero => rfl
 | succ n ih => rw [passN, slants_length, ih]
theorem stir_length (st : List Int) : (stir st).length = st.length := passN_length ..
def w4 (zs : List Int) (t : Nat) : Int := le ((zs.drop (4 * t)).take 4)
def wds (zs : List Int) (k : Nat) : List Int := (List.range k).map (w4 zs)
theorem wds_length (zs : List Int) (k : Nat) : (wds zs k).length = k := by simp [wds]
theorem wds_succ (zs : List Int) (k : Nat) : wds zs (k + 1) = wds zs k ++ [w4 zs k] := by simp [wds, List.range_succ]
def fixW : List Int := [1634760805, 857760878, 2036477234, 1797285236]
def begW (key : List Int) (ctr : Int) (nonce : List Int) : List Int := fixW ++ (wds key 8 ++ (ctr :: wds nonce 3))
theorem begW_length (key : List Int) (ctr : Int) (nonce : List Int) : (begW key ctr nonce).length = 16 := by simp [begW, fixW, wds_length]
def blkW (key : List Int) (ctr : Int) (nonce : List Int) : List Int := addW (stir (begW key ctr nonce)) (begW key ctr nonce)
theorem blkW_length (key : List Int) (ctr : Int) (nonce : List Int) : (blkW key ctr nonce).length = 16 := addW_length _ _ 16 (by rw [stir_length, begW_length]) (begW_length ..)
def wB (st : List Int) (k : Nat) : List Int := (st.take k).flatMap (leB 4)
theorem wB_succ (st : List Int) (k : Nat) (hk : k < st.length) : wB st (k + 1) = wB st k ++ leB 4 (st.getD k 0) := by
 have e : st.getD k 0 = st[k] := by simp [List.getD, hk]
 rw [wB, List.take_succ_eq_append_getElem hk, List.flatMap_append, e]; simp [wB]
theorem wB_length (st : List Int) (k : Nat) (hk : k ≤ st.length) : (wB st k).length = 4 * k := by
 induction k with
 | zero => simp [wB]
 | succ k ih => rw [wB_succ st k (by omega), List.length_append, ih (by omega), leB_length]; omega
theorem wB_bytes (st : List Int) (k : Nat) : Bytes (wB st k) := by
 intro z hz
 simp only [wB, List.mem_flatMap] at hz
 obtain ⟨x, _, hx⟩ := hz
 exact leB_bytes 4 x z hx
def blkB (key : List Int) (ctr : Int) (nonce : List Int) : List Int := wB (blkW key ctr nonce) 16
theorem blkB_length (key : List Int) (ctr : Int) (nonce : List Int) : (blkB key ctr nonce).length = 64 := wB_length _ 16 (by rw [blkW_length]; omega)
theorem blkB_bytes (key : List Int) (ctr : Int) (nonce : List Int) : Bytes (blkB key ctr nonce) := wB_bytes _ _
def ks (key nonce : List Int) (p : Nat) : Int := (blkB key ((p / 64 : Nat) : Int) nonce).getD (p % 64) 0
theorem ks_byte (key nonce : List Int) (p : Nat) : 0 ≤ ks key nonce p ∧ ks key nonce p < 256 := (blkB_bytes key _ nonce).at _ (by rw [blkB_length]; omega)
def over (key nonce : List Int) (p : Nat) (zs : List Int) : List Int := (List.range zs.length).map (fun i => bits .xor .u8 (zs.getD i 0) (ks key nonce (p + i)))
theorem over_length (key nonce : List Int) (p : Nat) (zs : List Int) : (over key nonce p zs).length = zs.length := by simp [over]
theorem over_at (key nonce : List Int) (p : Nat) (zs : List Int) (i : Nat) (hi : i < zs.length) : (over key nonce p zs).getD i 0 = bits .xor .u8 (zs.getD i 0) (ks key nonce (p + i)) := by
 simp [over, List.getD, hi]
theorem results_tmp4 {fn : Func} {t u v x : Tmp} (h : fn.results = #[.tmp t, .tmp u, .tmp v, .tmp x]) (tmps : Array Value) (P : Program) (w : World) :
  (results fn tmps).run P w = .ok (.tuple #[tmps.getD t undef, tmps.getD u undef, tmps.getD v undef, tmps.getD x undef]) w := by
 simp [results, h]
def TurnL (k : Nat) : Prop := k = 16 ∨ k = 12 ∨ k = 8 ∨ k = 7
theorem rotL_any (x : Int) (k : Nat) (hk : TurnL k) (w : World) :
  Calls Tryz.prog 172 #[.int .u32 x, .int .i64 k] w fun e w' => e = .returned (.int .u32 (rotl x k)) ∧ w = w' := by
 have h1 : bits .and .u64 (k : Int) 31 = k := by
  rcases hk with rfl | rfl | rfl | rfl <;> decide
 rcases hk with rfl | rfl | rfl | rfl
 all_goals
  simp at h1
  go_enter Tryz.func172, Tryz.ntmps172
  go_wp2
  go_ret
  exact ⟨rfl, rfl⟩
theorem half_any (a b c d : Int) (n m : Nat) (hn : TurnL n) (hm : TurnL m) (w : World) :
  Calls Tryz.prog 167 #[.int .u32 a, .int .u32 b, .int .u32 c, .int .u32 d, .int .i64 n, .int .i64 m] w fun e w' => e = .returned (.tuple #[.int .u32 (halfQ ⟨a, b, c, d⟩ n m).a, .int .u32 (halfQ ⟨a, b, c, d⟩ n m).b, .int .u32 (halfQ ⟨a, b, c, d⟩ n m).c, .int .u32 (halfQ ⟨a, b, c, d⟩ n m).d]) ∧ w = w' := by
 go_enter Tryz.func167, Tryz.ntmps167
 go_wp2_with fail
 refine (rotL_any _ n hn _).mono ?_
 rintro e w' ⟨rfl, rfl⟩
 go_wp2_with fail
 refine (rotL_any _ m hm _).mono ?_
 rintro e w' ⟨rfl, rfl⟩
 go_wp2
 refine bodyPost_ret (results_tmp4 rfl _ _ _) rfl ?_
 exact ⟨rfl, rfl⟩
theorem quarter_any (a b c d : Int) (w : World) :
  Calls Tryz.prog 161 #[.int .u32 a, .int .u32 b, .int .u32 c, .int .u32 d] w fun e w' => e = .returned (.tuple #[.int .u32 (quarter ⟨a, b, c, d⟩).a, .int .u32 (quarter ⟨a, b, c, d⟩).b, .int .u32 (quarter ⟨a, b, c, d⟩).c, .int .u32 (quarter ⟨a, b, c, d⟩).d]) ∧ w = w' := by
 go_enter Tryz.func161, Tryz.ntmps161
 go_wp2_with fail
 refine (half_any a b c d 16 12 (by simp [TurnL]) (by simp [TurnL]) _).mono ?_
 rintro e w' ⟨rfl, rfl⟩
 go_wp2_with fail
 refine (half_any _ _ _ _ 8 7 (by simp [TurnL]) (by simp [TurnL]) _).mono ?_
 rintro e w' ⟨rfl, rfl⟩
 go_wp2
 refine bodyPost_ret (results_tmp4 rfl _ _ _) rfl ?_
 exact ⟨rfl, rfl⟩
theorem cell_any (r c : Nat) (hr : r < 4) (hc : c < 100) (w : World) :
  Calls Tryz.prog 160 #[.int .u64 r, .int .u64 c] w fun e w' => e = .returned (.int .u64 ((4 * r + c % 4 : Nat) : Int)) ∧ w = w' := by
 go_enter Tryz.func160, Tryz.ntmps160
 go_wp2
 go_ret
 refine ⟨?_, rfl⟩
 show Ending.returned (.int .u64 ((r : Int) * 4 + (c : Int) % 4)) = _
 exact ret_int (by omega)
theorem cell_at (r : Nat) (X : Int) (c : Nat) (hX : X = c) (hr : r < 4) (hc : c < 100) (w : World) :
  Calls Tryz.prog 160 #[.int .u64 r, .int .u64 X] w fun e w' => e = .returned (.int .u64 ((4 * r + c % 4 : Nat) : Int)) ∧ w = w' := by
 subst hX
 exact cell_any r c hr hc w
theorem zeroSt : (Tryz.prog.info? 226).map (fun i => (i.zero, i.size)) = some (some (.agg (u32s (List.replicate 16 0)).toArray), 16) := by kernel_rfl
theorem sizeSt : (Tryz.prog.info? 226).map (·.size) = some 16 := by kernel_rfl
theorem zero64b : (Tryz.prog.info? 216).map (fun i => (i.zero, i.size)) = some (some (.agg (u8s (List.replicate 64 0)).toArray), 64) := by kernel_rfl
theorem size64b : (Tryz.prog.info? 216).map (·.size) = some 64 := by kernel_rfl
theorem mid_set (xs ys zs : List Int) (y z : Int) (n : Nat) (hn : xs.length = n) : (xs ++ (y :: zs)).set n z = xs ++ (z :: zs) := by
 subst hn
 rw [List.set_append_right _ _ (Nat.le_refl _), Nat.sub_self, List.set_cons_zero]
theorem with_set (st zs : List Int) (f k : Nat) (hk : f + k < st.length) : (st.take f ++ (wds zs k ++ st.drop (f + k))).set (f + k) (w4 zs k) = st.take f ++ (wds zs (k + 1) ++ st.drop (f + (k + 1))) := by
 have h1 : (st.take f ++ wds zs k).length = f + k := by simp [wds_length]; omega
 rw [← List.append_assoc, List.drop_eq_getElem_cons hk, mid_set _ [] _ _ _ _ h1, wds_succ]
 simp [Nat.add_assoc]
theorem little_w4 (zs : List Int) (k : Nat) (ao : Option Addr) (c : Nat) (w : World) (h : Seen w ao 4 ((zs.drop (4 * k)).take 4)) :
  Calls Tryz.prog 102 #[.slice ao 4 c] w fun e w' => e = .returned (.tuple #[.int .u32 (w4 zs k), .int .i64 0]) ∧ w = w' := by
 have := little_32 ao 4 c ((zs.drop (4 * k)).take 4) w h
 rwa [leV_ok, fit_ok] at this
theorem with_any (st : List Int) (hs : st.length = 16) (f n L : Nat) (hf : f + n ≤ 16) (hL : L = 4 * n) (ao : Option Addr) (c : Nat) (zs : List Int) (w : World) (hx : Seen w ao L zs) (hc : L ≤ c) :
  Calls Tryz.prog 159 #[.agg (u32s st).toArray, .int .u64 f, .slice ao L c] w fun e w' => e = .returned (.agg (u32s (st.take f ++ (wds zs n ++ st.drop (f + n)))).toArray) ∧ Below w.heap.size w w' := by
 have HS : Hid (st.length = 16 ∧ L = 4 * n) := ⟨hs, hL⟩
 have HX : Hid (Seen w ao L zs) := hx
 clear hs hx hL
 go_enter Tryz.func159, Tryz.ntmps159
 go_wp2_with (first | (refine wpList_box_new rfl 226 _ rfl (u32s st) rfl ?_; intro w1 b1 s1 l1) | (refine wpList_alloc_new rfl 226 rfl 16 _ zeroSt ?_; intro w2 b2 s2 l2))
 have HB : Hid (Blk w2 w.heap.size 226 (u32s st) ∧ Blk w2 (w.heap.size + 1) 226 (u32s (List.replicate 16 0)) ∧ Below w.heap.size w w2) :=
  ⟨b1.later l2 (by omega), by rwa [s1] at b2, below_chain l1 l2 (by omega)⟩
 have sz : w2.heap.size = w.heap.size + 2 := by omega
 clear b1 s1 l1 b2 s2 l2
 go_loopw [1, 7] (fun v i wr => ∃ k : Nat, k ≤ n ∧ i = .int .i64 ((4 * k : Nat) : Int) ∧ v = .int .u64 ((f + k : Nat) : Int) ∧ Blk wr w.heap.size 226 (u32s (st.take f ++ (wds zs k ++ st.drop (f + k)))) ∧ Kept (fun b => b = w.heap.size) w2 wr) (fun _ i _ => 64 - (intOf i).toNat)
 case atStart => exact ⟨0, by omega, rfl, rfl, by simpa [wds] using HB.out.1, Kept.refl _ _⟩
 case round =>
  obtain ⟨k, hk, rfl, rfl, hb, hkp⟩ := hrel
  obtain ⟨F, hF⟩ : ∃ F, F = f + k := ⟨_, rfl⟩
  rw [← hF]
  obtain ⟨J, hJ⟩ : ∃ J, J = 4 * k := ⟨_, rfl⟩
  rw [← hJ]
  have q1 := HS.out.1
  have q2 := HS.out.2
  by_cases hlt : k < n
  ·have sn : Seen wr (subA ao (4 * k) c) 4 (((zs.drop (4 * k)).take 4)) := by
    have := ((HX.out.later HB.out.2.2 (Nat.le_refl _)).kept hkp (fun b o h0 e => by have := HX.out.old (Nat.le_refl _) b o h0 e; omega)).sub (4 * k) (4 * k + 4) c (by omega) (by omega) (by omega)
    rwa [show 4 * k + 4 - 4 * k = 4 by omega] at this
   have hsl : ∀ w, (Instr.sliceAt 37 (.slice ao L c) (some (.int .i64 (J : Int))) (some (.int .i64 ((J : Int) + 4))) none).run Tryz.prog w = .ok (.slice (subA ao J c) 4 (c - J)) w := fun w => by
    have := sl_lh ao L c (4 * k) (4 * k + 4) (by omega) (by omega) w
    rw [show 4 * k + 4 - 4 * k = 4 by omega] at this
    rw [← hJ] at this
    simpa using this
   have SN : Hid (Seen wr (subA ao J c) 4 (((zs.drop (4 * k)).take 4))) := by rw [hJ]; exact sn
   have hlen : (st.take f ++ (wds zs k ++ st.drop (f + k))).length = 16 := by simp [wds_length]; omega
   have cs := u32s_cell hb F (by omega)
   have fs := hb.frozen F
   have X0 : Hid (Blk wr w.heap.size 226 (u32s (st.take f ++ (wds zs k ++ st.drop (f + k)))) ∧ f + k < st.length) := ⟨hb, by omega⟩
   have i1 : (J : Int) < (L : Int) := by omega
   have i4 : J + 4 ≤ 64 := by omega
   have i2 : (F : Int) < 16 := by omega
   have HF : Hid (F = f + k ∧ J = 4 * k) := ⟨hF, hJ⟩
   clear hb sn hlen q1 q2 hF hJ
   go_wp2_with (first | (go_at_call 102; refine (little_w4 zs k _ _ _ SN.out).mono ?_; rintro e w' ⟨rfl, rfl⟩))
   have R1 := X0.out.1.set F (.int .u32 (w4 zs k))
   have q3 := HF.out.1
   have q4 := HF.out.2
   rw [u32s_set, q3, with_set st zs f k X0.out.2, ← q3] at R1
   exact ⟨⟨k + 1, by omega, by rw [q4]; go_num, by rw [q3]; go_num, R1, hkp.setCell rfl _⟩, by simp [intOf]; omega⟩
  ·obtain rfl : k = n := by omega
   have X3 : Hid (Blk wr w.heap.size 226 (u32s (st.take f ++ (wds zs k ++ st.drop (f + k))))) := hb
   have X4 : Hid (Blk wr (w.heap.size + 1) 226 (u32s (List.replicate 16 0))) := HB.out.2.1.kept hkp (by omega)
   have X5 : Hid (Below w.heap.size w wr) := below_kept HB.out.2.2 hkp (by omega) (fun j hj => by omega)
   have hlen : (u32s (st.take f ++ (wds zs k ++ st.drop (f + k)))).length = 16 := by rw [u32s_length]; simp [wds_length]; omega
   have X6 : Hid ((u32s (st.take f ++ (wds zs k ++ st.drop (f + k)))).length = 16) := hlen
   have i1 : ¬ ((J : Int) < (L : Int)) := by omega
   clear hb hkp hlen hF hJ q1 q2
   go_wp2_with (first | (refine wpList_load_blk rfl 226 _ rfl _ rfl (u32s (st.take f ++ (wds zs k ++ st.drop (f + k)))) _ X3.out Tryz.underlying226 rfl (by rw [X6.out]; exact sizeSt) ?_) | (refine wpList_store_blk rfl 226 226 _ _ rfl _ rfl _ (u32s (st.take f ++ (wds zs k ++ st.drop (f + k)))) rfl X4.out (by rw [X6.out, u32s_length, List.length_replicate]) (by rw [X6.out]; exact sizeSt) (u32s_one _) ?_; intro w5 b5 s5 k5))
   exact ret_blk rfl (w.heap.size + 1) (u32s (st.take f ++ (wds zs k ++ st.drop (f + k)))) _ rfl b5 Tryz.underlying226 rfl (by rw [X6.out]; exact sizeSt) rfl ⟨rfl, below_kept X5.out k5 X5.out.size (fun j hj => by omega)⟩
theorem infoU32 : (Tryz.prog.info? 65).map (fun i => (i.zero, i.size)) = some (some (.int .u32 0), 1) := by kernel_rfl
theorem idx_St (zs : List Int) (hl : zs.length = 16) (k : Nat) (hk : k < 16) (w : World) : (Instr.index 226 (.agg (u32s zs).toArray) (.int .i64 k)).run Tryz.prog w = .ok (.int .u32 (zs.getD k 0)) w := by
 have hsz : ∀ w, (sizeOf 65).run Tryz.prog w = .ok 1 w := fun w => by
  have h := infoU32
  cases hq : Tryz.prog.info? 65 with
  | none => simp [hq] at h
  | some i => simp [hq] at h; simp [sizeOf, typeInfo, hq, h.2]
 have px : (Go.part 65 (u32s zs).toArray (k * 1)).run Tryz.prog w = .ok (.int .u32 (zs.getD k 0)) w := by
  simp [Go.part, isAgg, run_underlying Tryz.underlying65, u32s, List.getD, List.getElem?_eq_getElem (show k < zs.length by omega)]
 rw [Nat.mul_one] at px
 simp [Instr.index, run_underlying Tryz.underlying226, asIntOf, hsz, hk, px]
theorem plus_any (st os : List Int) (hs : st.length = 16) (ho : os.length = 16) (w : World) :
  Calls Tryz.prog 151 #[.agg (u32s st).toArray, .agg (u32s os).toArray] w fun e w' => e = .returned (.agg (u32s (addW st os)).toArray) ∧ Below w.heap.size w w' := by
 have HS : Hid (st.length = 16 ∧ os.length = 16) := ⟨hs, ho⟩
 have HA : Hid ((addW st os).length = 16) := addW_length _ _ 16 hs ho
 clear hs ho
 go_enter Tryz.func151, Tryz.ntmps151
 go_wp2_with (first | (refine wpList_box_new rfl 226 _ rfl (u32s st) rfl ?_; intro w1 b1 s1 l1) | (refine wpList_box_new rfl 226 _ rfl (u32s os) rfl ?_; intro w2 b2 s2 l2) | (refine wpList_alloc_new rfl 226 rfl 16 _ zeroSt ?_; intro w3 b3 s3 l3) | (refine wpList_load_blk rfl 226 _ rfl _ rfl (u32s os) _ (by first | exact b2.later l3 (by omega) | (have := b2.later l3 (by omega); rwa [s1] at this)) Tryz.underlying226 rfl (by rw [u32s_length, HS.out.2]; exact sizeSt) ?_))
 have HB : Hid (Blk w3 w.heap.size 226 (u32s st) ∧ Blk w3 (w.heap.size + 2) 226 (u32s (List.replicate 16 0)) ∧ Below w.heap.size w w3) :=
  ⟨(b1.later l2 (by omega)).later l3 (by omega), by rwa [s2, s1] at b3, below_chain (below_chain l1 l2 (by omega)) l3 (by omega)⟩
 have sz : w3.heap.size = w.heap.size + 3 := by omega
 clear b1 s1 l1 b2 s2 l2 b3 s3 l3
 go_loopw [8] (fun i wr => ∃ k : Nat, k ≤ 16 ∧ i = .int .i64 k ∧ Blk wr w.heap.size 226 (u32s ((addW st os).take k ++ st.drop k)) ∧ Kept (fun b => b = w.heap.size) w3 wr) (fun i _ => 16 - (intOf i).toNat)
 case atStart => exact ⟨0, by omega, rfl, by simpa using HB.out.1, Kept.refl _ _⟩
 case round =>
  obtain ⟨k, hk, rfl, hb, hkp⟩ := hrel
  by_cases hlt : k < 16
  ·have f1 := idx_St os HS.out.2 k hlt
   have hln := half_length (addW st os) st 16 k HA.out HS.out.1 (by omega)
   have cs := u32s_cell hb k (by omega)
   rw [half_at _ _ 16 k HA.out HS.out.1 hlt] at cs
   have fs := hb.frozen k
   have HY : Hid ((addW st os).getD k 0 = (st.getD k 0 + os.getD k 0) % 4294967296) := addW_at _ _ 16 k HS.out.1 HS.out.2 hlt
   obtain ⟨x, hx⟩ : ∃ x, st.getD k 0 = x := ⟨_, rfl⟩
   obtain ⟨y, hy⟩ : ∃ y, os.getD k 0 = y := ⟨_, rfl⟩
   rw [hx] at cs HY
   rw [hy] at f1 HY
   have i1 : (k : Int) < 16 := by omega
   have X0 : Hid (Blk wr w.heap.size 226 (u32s ((addW st os).take k ++ st.drop k))) := hb
   clear hb hx hy hln
   go_wp2_with fail
   have R1 := X0.out.set k (.int .u32 ((addW st os).getD k 0))
   rw [u32s_set, half_set _ _ 16 k HA.out HS.out.1 hlt, HY.out] at R1
   exact ⟨⟨k + 1, by omega, by go_num, R1, hkp.setCell rfl _⟩, by simp [intOf]; omega⟩
  ·obtain rfl : k = 16 := by omega
   rw [show ((16 : Nat) : Int) = 16 from rfl]
   rw [List.take_of_length_le (by have := HA.out; omega), List.drop_eq_nil_of_le (by have := HS.out.1; omega), List.append_nil] at hb
   have X3 : Hid (Blk wr w.heap.size 226 (u32s (addW st os))) := hb
   have X4 : Hid (Blk wr (w.heap.size + 2) 226 (u32s (List.replicate 16 0))) := HB.out.2.1.kept hkp (by omega)
   have X5 : Hid (Below w.heap.size w wr) := below_kept HB.out.2.2 hkp (by omega) (fun j hj => by omega)
   have X6 : Hid ((u32s (addW st os)).length = 16) := by show _ = _; rw [u32s_length]; exact HA.out
   clear hb hkp
   go_wp2_with (first | (refine wpList_load_blk rfl 226 _ rfl _ rfl (u32s (addW st os)) _ X3.out Tryz.underlying226 rfl (by rw [X6.out]; exact sizeSt) ?_) | (refine wpList_store_blk rfl 226 226 _ _ rfl _ rfl _ (u32s (addW st os)) rfl X4.out (by rw [X6.out, u32s_length, List.length_replicate]) (by rw [X6.out]; exact sizeSt) (u32s_one _) ?_; intro w5 b5 s5 k5))
   exact ret_blk rfl (w.heap.size + 2) (u32s (addW st os)) _ rfl b5 Tryz.underlying226 rfl (by rw [X6.out]; exact sizeSt) rfl ⟨rfl, below_kept X5.out k5 X5.out.size (fun j hj => by omega)⟩
theorem bytesOf_any (st : List Int) (hs : st.length = 16) (hw : ∀ z ∈ st, 0 ≤ z ∧ z < 4294967296) (w : World) :
  Calls Tryz.prog 150 #[.agg (u32s st).toArray] w fun e w' => e = .returned (.agg (u8s (wB st 16)).toArray) ∧ Below w.heap.size w w' := by
 have HS : Hid (st.length = 16) := hs
 have HW : Hid (∀ k, k < 16 → 0 ≤ st.getD k 0 ∧ st.getD k 0 < 4294967296) := fun k hk => by
  have e : st.getD k 0 = st[k] := by simp [List.getD, show k < st.length by omega]
  rw [e]; exact hw _ (List.getElem_mem _)
 clear hs hw
 go_enter Tryz.func150, Tryz.ntmps150
 go_wp2_with (first | (refine wpList_box_new rfl 226 _ rfl (u32s st) rfl ?_; intro w1 b1 s1 l1) | ((with_reducible show wpList _ _ _ _ _ w1); refine wpList_alloc_new rfl 216 rfl 64 _ zero64b ?_; intro w2 b2 s2 l2) | (refine wpList_alloc_new rfl 216 rfl 64 _ zero64b ?_; intro w3 b3 s3 l3) | (refine wpList_load_blk rfl 226 _ rfl _ rfl (u32s st) _ ((b1.later l2 (by omega)).later l3 (by omega)) Tryz.underlying226 rfl (by rw [u32s_length, HS.out]; exact sizeSt) ?_))
 have HB : Hid (Blk w3 (w.heap.size + 1) 216 (u8s (List.replicate 64 0)) ∧ Blk w3 (w.heap.size + 2) 216 (u8s (List.replicate 64 0)) ∧ Below w.heap.size w w3) :=
  ⟨by have := b2.later l3 (by omega); rwa [s1] at this, by rwa [s2, s1] at b3, below_chain (below_chain l1 l2 (by omega)) l3 (by omega)⟩
 have sz : w3.heap.size = w.heap.size + 3 := by omega
 clear b1 s1 l1 b2 s2 l2 b3 s3 l3
 go_loopw [7] (fun i wr => ∃ k : Nat, k ≤ 16 ∧ i = .int .i64 k ∧ Blk wr (w.heap.size + 2) 216 (u8s (wB st k ++ List.replicate (64 - 4 * k) 0)) ∧ Kept (fun b => b = w.heap.size + 2) w3 wr) (fun i _ => 16 - (intOf i).toNat)
 case atStart => exact ⟨0, by omega, rfl, HB.out.2.1, Kept.refl _ _⟩
 case round =>
  obtain ⟨k, hk, rfl, hb, hkp⟩ := hrel
  by_cases hlt : k < 16
  ·have f1 := idx_St st HS.out k hlt
   have hx := HW.out k hlt
   have hL : (wB st k).length = 4 * k := wB_length st k (by have := HS.out; omega)
   have hN : wB st (k + 1) = wB st k ++ leB 4 (st.getD k 0) := wB_succ st k (by have := HS.out; omega)
   obtain ⟨x, hxx⟩ : ∃ x, st.getD k 0 = x := ⟨_, rfl⟩
   rw [hxx] at f1 hx hN
   have X0 : Hid (Blk wr (w.heap.size + 2) 216 (u8s (wB st k) ++ (u8s (List.replicate 4 0) ++ u8s (List.replicate (64 - 4 * (k + 1)) 0)))) := by
    show Blk _ _ _ _
    rw [show 64 - 4 * k = 4 + (64 - 4 * (k + 1)) by omega, ← List.replicate_append_replicate] at hb
    simpa [u8s] using hb
   have X1 : Hid ((wB st k).length = 4 * k ∧ wB st (k + 1) = wB st k ++ leB 4 x) := ⟨hL, hN⟩
   have i1 : (k : Int) < 16 := by omega
   have i2 : (64 - 4 * (k : Int)).toNat = 64 - 4 * k := by omega
   have HK : Hid (Kept (fun b => b = w.heap.size + 2) w3 wr) := hkp
   clear hb hxx hL hN hkp
   go_wp2_with fail
   obtain ⟨J, hJ⟩ : ∃ J : Nat, J = 4 * k := ⟨_, rfl⟩
   have v6 : IntKind.i64.wrap ((k : Int) * 4) = (J : Int) := by rw [hJ]; simp only [IntKind.wrap, IntKind.bits, IntKind.signed]; simp; omega
   have j1 : (J : Int) ≤ 64 := by omega
   have j2 : J ≤ 60 := by omega
   have HJ : Hid (J = 4 * k) := hJ
   clear hJ
   obtain ⟨wd, hwd⟩ : ∃ x, wr.drew = x := ⟨_, rfl⟩
   have Y0 : Hid (Blk wd (w.heap.size + 2) 216 (u8s (wB st k) ++ (u8s (List.replicate 4 0) ++ u8s (List.replicate (64 - 4 * (k + 1)) 0))) ∧ Kept (fun b => b = w.heap.size + 2) w3 wd) := by rw [← hwd]; exact ⟨X0.out.drew, HK.out.drew⟩
   clear X0 HK
   refine wp_region_noPanic (wp_region_any (by kernel_rfl) ?_)
   change wpAny _ _ _ _ _ _ _ wr.drew
   rw [hwd]
   clear hwd
   refine take_op 0 (some 11) (.int .i64 k) rfl rfl (by kernel_rfl) (by kernel_rfl) (by kernel_rfl) (fun _ _ _ h => h) (by rfl) (fun _ => by rfl) ?_
   simp only [Act.put, sqA, sqB, sqC]
   refine take_op 1 (some 12) (.int .i64 J) rfl rfl (by kernel_rfl) (by kernel_rfl) (by kernel_rfl) (fun _ _ _ h => h) (by rfl) (fun _ => by go_simp) ?_
   simp only [Act.put, sqA, sqB, sqC]
   refine take_op 2 (some 13) (.slice (some ⟨w.heap.size + 1 + 1, J, none⟩) (64 - J) (64 - J)) rfl rfl (by kernel_rfl) (by kernel_rfl) (by kernel_rfl) (fun _ _ _ h => h) (by rfl) (fun _ => by go_simp; omega) ?_
   simp only [Act.put, sqA, sqB, sqC]
   refine take_op 3 (some 14) (.int .u32 x) rfl rfl (by kernel_rfl) (by kernel_rfl) (by kernel_rfl) (fun _ _ _ h => h) (by rfl) (fun _ => by rfl) ?_
   simp only [Act.put, sqA, sqB, sqC]
   refine wpAny_ready (rs := [4]) (by kernel_rfl) (by simp) (AllReady.cons rfl (fun K hK => ?_) AllReady.nil)
   go_simp
   go_wp2_with (go_at_call 90; refine (put_32 none 0 0 [] x _ (Seen.empty _ _) (fun _ => rfl) (by omega) hx).mono ?_; rintro e w4 ⟨v, rfl, ho, l4⟩; obtain ⟨vo, vc, rfl, sv, hv⟩ := own_seen (zs := leB 4 x) (leB_length _ _) (leB_bytes _ _) (by decide) (by simpa using ho))
   have q2 := l4.size
   have Y1 : Hid (Blk w4 (w.heap.size + 2) 216 (u8s (wB st k) ++ (u8s (List.replicate 4 0) ++ u8s (List.replicate (64 - 4 * (k + 1)) 0))) ∧ Kept (fun b => b = w.heap.size + 2) w3 w4) :=
    ⟨Y0.out.1.later l4 Y0.out.1.lt, Y0.out.2.trans (Kept.new _ l4)⟩
   refine wpAny_ready (rs := [5]) (by kernel_rfl) (by simp) (AllReady.cons rfl (fun K hK => ?_) AllReady.nil)
   refine step_copy_seen rfl (.tmp 13) (.tmp 15) rfl (w.heap.size + 1 + 1) J (64 - J) (64 - J) (some ⟨w.heap.size + 1 + 1, J, none⟩) vo 4 vc rfl rfl (leB 4 x) sv 216 (u8s (wB st k)) (u8s (List.replicate 4 0)) (u8s (List.replicate (64 - 4 * (k + 1)) 0)) Y1.out.1 (by rw [u8s_length, X1.out.1, HJ.out]) 4 (Nat.min_eq_left (by omega)) (by rw [u8s_length, List.length_replicate]) (fun _ => rfl) (some 16) rfl ?_
   intro w6 b6 s6 k6
   refine hK _ _ ?_
   clear hK K
   have Y2 : Hid (Blk w6 (w.heap.size + 2) 216 (u8s (wB st (k + 1) ++ List.replicate (64 - 4 * (k + 1)) 0)) ∧ Kept (fun b => b = w.heap.size + 2) w3 w6) := by
    refine ⟨?_, Y1.out.2.trans k6⟩
    rw [List.take_of_length_le (by rw [leB_length]; exact Nat.le_refl _)] at b6
    rw [X1.out.2]
    simpa [u8s] using b6
   clear b6 s6 k6 sv hv ho l4
   refine wpAny_done (by kernel_rfl) (NoPanic.normal ?_) _
   simp only [Act.put, sqA, sqB, sqC]
   go_wp2_with fail
   exact ⟨⟨k + 1, by omega, by go_num, Y2.out⟩, by simp [intOf]; omega⟩
  ·obtain rfl : k = 16 := by omega
   rw [show ((16 : Nat) : Int) = 16 from rfl]
   rw [show 64 - 4 * 16 = 0 from rfl, List.replicate_zero, List.append_nil] at hb
   have X3 : Hid (Blk wr (w.heap.size + 2) 216 (u8s (wB st 16))) := hb
   have X4 : Hid (Blk wr (w.heap.size + 1) 216 (u8s (List.replicate 64 0))) := HB.out.1.kept hkp (by omega)
   have X5 : Hid (Below w.heap.size w wr) := below_kept HB.out.2.2 hkp (by omega) (fun j hj => by omega)
   have X6 : Hid ((u8s (wB st 16)).length = 64) := by show _ = _; rw [u8s_length, wB_length st 16 (by have := HS.out; omega)]
   clear hb hkp
   rw [show w.heap.size + 1 + 1 = w.heap.size + 2 from rfl]
   go_wp2_with (first | (refine wpList_load_blk rfl 216 _ rfl _ rfl (u8s (wB st 16)) _ X3.out Tryz.underlying216 rfl (by rw [X6.out]; exact size64b) ?_) | (refine wpList_store_blk rfl 216 216 _ _ rfl _ rfl _ (u8s (wB st 16)) rfl X4.out (by rw [X6.out, u8s_length, List.length_replicate]) (by rw [X6.out]; exact size64b) (u8s_one _) ?_; intro w5 b5 s5 k5))
   exact ret_blk rfl (w.heap.size + 1) (u8s (wB st 16)) _ rfl b5 Tryz.underlying216 rfl (by rw [X6.out]; exact size64b) rfl ⟨rfl, below_kept X5.out k5 X5.out.size (fun j hj => by omega)⟩
def wpTill (md : Region.Mode) (ops : Array Oper) (Q : Exit → Act → World → Prop) (c : Nat) (S : World → Prop) : Nat → Array Bool → Act → World → Prop
 | 0, l, a, w => Region.ready md ops l = [] ∧ Q .normal a w
 | n + 1, l, a, w =>
  (Region.ready md ops l = [] → Q .normal a w) ∧
  ∀ i ∈ Region.ready md ops l, wpOp Tryz.prog ops Q i (fun a' w' => (i ≠ c → l.getD c true = false → S w') ∧ wpTill md ops Q c S n (l.setIfInBounds i true) a' w') a w
theorem till_any {md : Region.Mode} {ops : Array Oper} {Q : Exit → Act → World → Prop} {c : Nat} {S : World → Prop} : ∀ (n : Nat) (l : Array Bool) (a : Act) (w : World), wpTill md ops Q c S n l a w → wpAny Tryz.prog md ops Q n l a w
 | 0, _, _, _, h => h
 | n + 1, _, _, _, h => ⟨h.1, fun i hi => wpOp_mono (fun a' w' h' => till_any n _ a' w' h'.2) (h.2 i hi)⟩
theorem any_till {md : Region.Mode} {ops : Array Oper} {Q : Exit → Act → World → Prop} {c : Nat} {S : World → Prop} : ∀ (n : Nat) (l : Array Bool) (a : Act) (w : World), l.getD c true = true → wpAny Tryz.prog md ops Q n l a w → wpTill md ops Q c S n l a w
 | 0, _, _, _, _, h => h
 | n + 1, l, _, _, hc, h => ⟨h.1, fun i hi => wpOp_mono (fun a' w' h' => ⟨fun _ h0 => absurd (hc.symm.trans h0) (by decide), any_till n _ a' w' (by
   by_cases e : i = c
   ·subst e; by_cases hs : i < l.size <;> simp [Array.getD, hs]
   ·rw [getD_set_ne true e]; exact hc) h'⟩) (h.2 i hi)⟩
theorem till_at {md : Region.Mode} {ops : Array Oper} {Q : Exit → Act → World → Prop} {c : Nat} {S : World → Prop} {n : Nat} {l : Array Bool} {a : Act} {w : World} (hr : Region.ready md ops l = [c])
  (h : wpAny Tryz.prog md ops Q (n + 1) l a w) : wpTill md ops Q c S (n + 1) l a w := by
 refine ⟨h.1, fun i hi => ?_⟩
 have h1 := h.2 i hi
 rw [hr] at hi
 obtain rfl : i = c := by simpa using hi
 exact wpOp_mono (fun a' w' h' => ⟨fun h0 => absurd rfl h0, any_till n _ a' w' (by by_cases hs : i < l.size <;> simp [Array.getD, hs]) h'⟩) h1
theorem till_region {ops : Array Oper} {Q : Exit → Act → World → Prop} {id : Nat} {a : Act} {w : World} (c : Nat) (S : World → Prop) (hm : Tryz.prog.follows .mixedOrders = true)
  (h : wpTill .any ops Q c S ops.size (Array.replicate ops.size false) a { w with drawn := w.drawn + 1 }) : (Code.region id ops true).wp Tryz.prog Q a w :=
 wp_region_any hm (till_any _ _ _ _ h)
def Leans (md : Region.Mode) (ops : Array Oper) (c : Nat) (S T : World → Prop) (i : Nat) (l : Array Bool) : Prop :=
 (∀ w, T w) ∨ ((∀ w, S w → T w) ∧ l.getD c true = false ∧ ∀ l' : Array Bool, l'.getD i true = false → c ∉ Region.ready md ops l')
theorem till_first {md : Region.Mode} {ops : Array Oper} {Q : Exit → Act → World → Prop} {c : Nat} {S T : World → Prop} {i : Nat} {oi : Oper} {v : Value} (hi : ops[i]? = some oi) (hsel : ∀ (j : Nat) (o : Oper) cs b, ops[j]? = some o → o.op ≠ .select cs b) (hic : i ≠ c)
  (hQ : ∀ c a w, Q (.panic c) (a.put oi.dst v) w → Q (.panic c) a w) :
  ∀ (n : Nat) (l : Array Bool) (a : Act) (w : World),
   (∀ j oj, ops[j]? = some oj → j ≠ i → l.getD j true = false → (∀ e ∈ oj.after, Region.binds md e = true → e.on ≠ i) → oi.apart ops oj = true) →
   i ∈ Region.ready md ops l → YieldsIf Tryz.prog ops T oi v a → T w → Leans md ops c S T i l → (l.getD c true = false → S w) →
   wpTill md ops Q c S n (l.setIfInBounds i true) (a.put oi.dst v) w → wpTill md ops Q c S (n + 1) l a w := by
 intro n
 induction n with
 | zero =>
  intro l a w _ hr hy hT _ hS H
  refine ⟨fun h => (by rw [h] at hr; cases hr), fun j hj => ?_⟩
  by_cases hji : j = i
  ·subst hji; exact hy.wpOp hi hT ⟨fun _ h0 => hS h0, H⟩
  ·have := ready_mono hj hji
   rw [H.1] at this
   cases this
 | succ n ih =>
  intro l a w hfree hr hy hT hL hS H
  refine ⟨fun h => (by rw [h] at hr; cases hr), fun j hj => ?_⟩
  by_cases hji : j = i
  ·subst hji; exact hy.wpOp hi hT ⟨fun _ h0 => hS h0, H⟩
  ·have h1 := H.2 j (ready_mono hj hji)
   obtain ⟨hjun, oj, hoj, hall⟩ := mem_ready.1 hj
   have hun := (mem_ready.1 hr).1
   have hnot : ∀ e ∈ oj.after, Region.binds md e = true → e.on ≠ i := fun e he hb heq => by
    have h1 := hall e he hb
    rw [heq] at h1
    rcases Nat.lt_or_ge i l.size with h' | h'
    ·simp [h'] at hun h1; rw [hun] at h1; cases h1
    ·simp [Array.getElem?_eq_none h'] at h1
   have h2 := wpOp_putIf hoj (hfree j oj hoj hji hjun hnot) (fun cs b => hsel i oi cs b hi) (fun cs b => hsel j oj cs b hoj) hQ hy h1
   have hfree' : ∀ k ok, ops[k]? = some ok → k ≠ i → (l.setIfInBounds j true).getD k true = false →
     (∀ e ∈ ok.after, Region.binds md e = true → e.on ≠ i) → oi.apart ops ok = true := fun k ok hk hki hkun hno => by
    refine hfree k ok hk hki ?_ hno
    by_cases hjk : j = k
    ·subst hjk; exact hjun
    ·rw [getD_set_ne true hjk] at hkun; exact hkun
   refine wpOp_mono (fun a' w' h3 => ?_) h2
   obtain ⟨h31, h32, h33⟩ := h3
   rw [getD_set_ne true hic] at h32
   have hS' : (l.setIfInBounds j true).getD c true = false → S w' := fun h0 => by
    by_cases hjc : j = c
    ·subst hjc
     exfalso
     by_cases hs : j < l.size <;> simp [Array.getD, hs] at h0
    ·rw [getD_set_ne true hjc] at h0; exact h32 hjc h0
   refine ⟨h32, ih (l.setIfInBounds j true) a' w' hfree' (ready_mono hr (Ne.symm hji)) h31 ?_ ?_ hS' ?_⟩
   ·rcases hL with hL | ⟨hL1, hL2, hL3⟩
    ·exact hL w'
    ·exact hL1 w' (h32 (fun e => hL3 l hun (e ▸ hj)) hL2)
   ·rcases hL with hL | ⟨hL1, hL2, hL3⟩
    ·exact .inl hL
    ·refine .inr ⟨hL1, ?_, hL3⟩
     have hjc : j ≠ c := fun e => hL3 l hun (by rw [← e]; exact hj)
     rw [getD_set_ne true hjc]; exact hL2
   ·rw [Array.setIfInBounds_comm _ _ hji]
    exact h33
theorem tTake {md : Region.Mode} {ops : Array Oper} {Q : Exit → Act → World → Prop} {c : Nat} {S : World → Prop} {oi : Oper} {n : Nat} {l : Array Bool} {a : Act} {w : World} (i : Nat) (d : Option Tmp) (v : Value) (hi : ops[i]? = some oi) (hd : oi.dst = d)
  (hs : Region.noSelect ops = true) (hf : Region.free md ops l i = true) (hr : (Region.ready md ops l).contains i = true) (hic : i ≠ c) (hQ : ∀ c a w, Q (.panic c) (a.put d v) w → Q (.panic c) a w)
  (hw : Region.wanted oi (yielded ops a.tmps) = true) (hy : ∀ w, (execOp a.eval oi).run Tryz.prog w = .ok (.value v) w) (hS : S w)
  (h : wpTill md ops Q c S n (l.setIfInBounds i true) (a.put d v) w) : wpTill md ops Q c S (n + 1) l a w := by
 subst hd
 exact till_first (T := fun _ => True) hi (Region.noSelect_spec hs) hic hQ n l a w (Region.free_spec hi hf) (by simpa using hr) (Or.inl ⟨hw, fun w _ => hy w⟩) trivial (.inl fun _ => trivial) (fun _ => hS) h
def waits (md : Region.Mode) (ops : Array Oper) (c i : Nat) : Bool := ((ops[c]?).map (fun o => o.after.any fun e => Region.binds md e && e.on == i)).getD false
theorem waits_spec {md : Region.Mode} {ops : Array Oper} {c i : Nat} (h : waits md ops c i = true) : ∀ l' : Array Bool, l'.getD i true = false → c ∉ Region.ready md ops l' := by
 intro l hl hc
 obtain ⟨_, oc, hoc, hall⟩ := mem_ready.1 hc
 simp only [waits, hoc, Option.map_some, Option.getD_some, Array.any_eq_true, Bool.and_eq_true, beq_iff_eq] at h
 obtain ⟨k, hk, hb, he⟩ := h
 have h1 := hall _ (Array.getElem_mem hk) hb
 rw [he] at h1
 rcases Nat.lt_or_ge i l.size with h' | h'
 ·simp [h'] at hl h1; rw [hl] at h1; cases h1
 ·simp [Array.getElem?_eq_none h'] at h1
theorem tLoad {md : Region.Mode} {ops : Array Oper} {Q : Exit → Act → World → Prop} {c : Nat} {S : World → Prop} {oi : Oper} {n : Nat} {l : Array Bool} {a : Act} {w : World} (i : Nat) (d : Option Tmp) (v : Value) (hi : ops[i]? = some oi) (hd : oi.dst = d)
  (hs : Region.noSelect ops = true) (hf : Region.free md ops l i = true) (hr : (Region.ready md ops l).contains i = true) (hic : i ≠ c) (hc : l.getD c true = false) (hwt : waits md ops c i = true) (hQ : ∀ c a w, Q (.panic c) (a.put d v) w → Q (.panic c) a w)
  (hw : Region.wanted oi (yielded ops a.tmps) = true) (hy : ∀ w, S w → (execOp a.eval oi).run Tryz.prog w = .ok (.value v) w) (hS : S w)
  (h : wpTill md ops Q c S n (l.setIfInBounds i true) (a.put d v) w) : wpTill md ops Q c S (n + 1) l a w := by
 subst hd
 exact till_first (T := S) hi (Region.noSelect_spec hs) hic hQ n l a w (Region.free_spec hi hf) (by simpa using hr) (Or.inl ⟨hw, hy⟩) hS (.inr ⟨fun _ h => h, hc, waits_spec hwt⟩) (fun _ => hS) h
theorem tLoadMid {md : Region.Mode} {ops : Array Oper} {Q : Exit → Act → World → Prop} {c : Nat} {S : World → Prop} {oi : Oper} {n : Nat} {l : Array Bool} {a : Act} {w : World} (i : Nat) (d : Option Tmp) (cs : List Value) (hi : ops[i]? = some oi) (hd : oi.dst = d)
  (hs : Region.noSelect ops = true) (hf : Region.free md ops l i = true) (hr : (Region.ready md ops l).contains i = true) (hic : i ≠ c) (hc : l.getD c true = false) (hwt : waits md ops c i = true) (hQ : ∀ c a w, Q (.panic c) (a.put d (.agg cs.toArray)) w → Q (.panic c) a w)
  (hw : Region.wanted oi (yielded ops a.tmps) = true) (ty : TypeId) (x : Operand) (ho : oi.op = .load ty x) (b off : Nat) (hx : a.eval x = .pointer (some ⟨b, off, none⟩)) (ds : TypeDesc) (hy : ∀ w, S w → w.rangeAt b off cs)
  (hu : Tryz.prog.underlying ty = some ds) (hdr : ds.isRow = true) (hz : (Tryz.prog.info? ty).map (·.size) = some cs.length) (hS : S w)
  (h : wpTill md ops Q c S n (l.setIfInBounds i true) (a.put d (.agg cs.toArray)) w) : wpTill md ops Q c S (n + 1) l a w := by
 subst hd
 exact till_first (T := S) hi (Region.noSelect_spec hs) hic hQ n l a w (Region.free_spec hi hf) (by simpa using hr) (yieldsIf_load_mid hw ty x ho b off hx cs ds hy hu hdr hz) hS (.inr ⟨fun _ h => h, hc, waits_spec hwt⟩) (fun _ => hS) h
theorem till_ready {md : Region.Mode} {ops : Array Oper} {Q : Exit → Act → World → Prop} {c : Nat} {S : World → Prop} {oi : Oper} {n : Nat} {l : Array Bool} {a : Act} {w : World} (i : Nat) (hr : Region.ready md ops l = [i]) (hi : ops[i]? = some oi)
  (h : ∀ K : Act → World → Prop, (∀ a' w', S w' ∧ wpTill md ops Q c S n (l.setIfInBounds i true) a' w' → K a' w') → if Region.wanted oi (yielded ops a.tmps) = true then Oper.wp Tryz.prog oi a w K Q else K (a.put oi.dst undef) w) : wpTill md ops Q c S (n + 1) l a w := by
 refine ⟨fun h0 => (by rw [h0] at hr; cases hr), fun j hj => ?_⟩
 rw [hr] at hj
 obtain rfl : j = i := by simpa using hj
 exact wpOp_step hi fun K hK => h K (fun a' w' h' => hK a' w' ⟨fun _ _ => h'.1, h'.2⟩)
theorem step_alloc_new {ops : Array Oper} {o : Oper} {a : Act} {w : World} {K : Act → World → Prop} {Q : Exit → Act → World → Prop} {E : Prop} (hgd : o.guard = none) (t : TypeId) (ho : o.op = .alloc t) (n : Nat) (vs : List Value)
  (hz : (Tryz.prog.info? t).map (fun i => (i.zero, i.size)) = some (some (.agg vs.toArray), n)) (dst : Option Tmp) (hdst : o.dst = dst)
  (h : ∀ w', Blk w' w.heap.size t vs → w'.heap.size = w.heap.size + 1 → Below w.heap.size w w' → K (a.put dst (.pointer (some ⟨w.heap.size, 0, none⟩))) w') :
  if Region.wanted o (yielded ops a.tmps) = true then Oper.wp Tryz.prog o a w K Q else E := by
 subst hdst
 have hw : Region.wanted o (yielded ops a.tmps) = true := by simp [Region.wanted, hgd]
 rw [if_pos hw]
 unfold Oper.wp execOp
 simp only [ho, Sem.run_bind, Instr.alloc, (zero_of_info hz).1, newVar, newRow, run_newObj_alloc, Sem.run_pure, Result.andThen_ok]
 exact h _ (heap_alloc_new w _) (by simp) ((Below.refl _ _).alloc (Nat.le_refl _) _)
theorem till_two {md : Region.Mode} {ops : Array Oper} {Q : Exit → Act → World → Prop} {c : Nat} {S : World → Prop} {oi oj : Oper} {n : Nat} {l : Array Bool} {a : Act} {w : World} (i j : Nat) (hi : ops[i]? = some oi) (hj : ops[j]? = some oj) (hij : i ≠ j)
  (hr : Region.ready md ops l = [i, j]) (hr1 : Region.ready md ops (l.setIfInBounds i true) = [j]) (hr2 : Region.ready md ops (l.setIfInBounds j true) = [i]) (G A B : Act → Act → World → Prop)
  (s1 : ∀ K : Act → World → Prop, (∀ a' w', A a a' w' → K a' w') → if Region.wanted oi (yielded ops a.tmps) = true then Oper.wp Tryz.prog oi a w K Q else K (a.put oi.dst undef) w) (sA : ∀ a' w', A a a' w' → S w')
  (s2 : ∀ a' w', A a a' w' → ∀ K : Act → World → Prop, (∀ a'' w'', G a a'' w'' → K a'' w'') → if Region.wanted oj (yielded ops a'.tmps) = true then Oper.wp Tryz.prog oj a' w' K Q else K (a'.put oj.dst undef) w')
  (t1 : ∀ K : Act → World → Prop, (∀ a' w', B a a' w' → K a' w') → if Region.wanted oj (yielded ops a.tmps) = true then Oper.wp Tryz.prog oj a w K Q else K (a.put oj.dst undef) w) (sB : ∀ a' w', B a a' w' → S w')
  (t2 : ∀ a' w', B a a' w' → ∀ K : Act → World → Prop, (∀ a'' w'', G a a'' w'' → K a'' w'') → if Region.wanted oi (yielded ops a'.tmps) = true then Oper.wp Tryz.prog oi a' w' K Q else K (a'.put oi.dst undef) w')
  (h : ∀ a' w', G a a' w' → S w' ∧ wpTill md ops Q c S n ((l.setIfInBounds i true).setIfInBounds j true) a' w') : wpTill md ops Q c S (n + 2) l a w := by
 have e : (l.setIfInBounds i true).setIfInBounds j true = (l.setIfInBounds j true).setIfInBounds i true := Array.setIfInBounds_comm _ _ hij
 refine ⟨fun h0 => (by rw [h0] at hr; cases hr), fun k hk => ?_⟩
 rw [hr] at hk
 rcases List.mem_cons.1 hk with rfl | hk
 ·refine wpOp_step hi fun K hK => s1 K fun a' w' hA => hK a' w' ⟨fun _ _ => sA _ _ hA, ?_⟩
  exact till_ready j hr1 hj fun K' hK' => s2 a' w' hA K' fun a'' w'' hG => hK' a'' w'' (h _ _ hG)
 ·obtain rfl : k = j := by simpa using hk
  refine wpOp_step hj fun K hK => t1 K fun a' w' hB => hK a' w' ⟨fun _ _ => sB _ _ hB, ?_⟩
  refine till_ready i hr2 hi fun K' hK' => t2 a' w' hB K' fun a'' w'' hG => hK' a'' w'' ?_
  rw [← e]
  exact h _ _ hG
end Go.Proofs.YtpanagghppdiiaaGreat
