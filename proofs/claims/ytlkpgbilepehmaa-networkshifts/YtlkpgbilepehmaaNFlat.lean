/- Regions that draw, in a round of a range over a function, whose operations but the last are readers: one walk for all orders, at the frame behind them all. -/
import Derived.OrdersIn
import Derived.Test.YtlkpgbilepehmaaNHop
namespace Go.Proofs.Ytlkpgbilepehmaa
open Go.RowKit
set_option linter.unusedVariables false
set_option linter.unusedSimpArgs false

def leansF (ops : Array Oper) : Nat → Nat → Nat → Bool
  | 0, _, _ => false
  | n + 1, j, k => ((ops[j]?).map fun o => o.after.any fun e => Region.binds .any e && (e.on == k || leansF ops n e.on k)).getD false
theorem behind_doneF {ops : Array Oper} {l : Array Bool} (hcl : ∀ j o, ops[j]? = some o → l.getD j true = true → ∀ x ∈ o.after, Region.binds .any x = true → l.getD x.on true = true) :
    ∀ {n j k : Nat} {o : Oper}, (∀ x ∈ o.after, Region.binds .any x = true → l.getD x.on true = true) → ops[j]? = some o → leansF ops n j k = true → l.getD k true = true
  | 0, _, _, _, _, _, h => by cases h
  | n + 1, j, k, o, hd, ho, h => by
    simp only [leansF, ho, Option.map_some, Option.getD_some, Array.any_eq_true, Bool.and_eq_true, Bool.or_eq_true, beq_iff_eq] at h
    obtain ⟨x, hx, hbd, h⟩ := h
    have h1 := hd _ (Array.getElem_mem hx) hbd
    rcases h with h | h
    · rwa [h] at h1
    · cases ho' : ops[o.after[x].on]? with
      | none => cases n <;> simp [leansF, ho'] at h
      | some o' => exact behind_doneF hcl (hcl _ o' ho' h1) ho' h
/-- The slots of the operations but the last. -/
def dstsF (ops : Array Oper) : List (Option Tmp) := (ops.toList.dropLast).map (·.dst)
/-- All operations but the last have slots of their own and no guard; what an operation reads of them it waits for; each waits for earlier ones alone; the last one waits for all. -/
def flatOps (ops : Array Oper) : Bool :=
  (List.range (ops.size - 1)).all (fun j => ((ops[j]?).map (fun o => o.guard.isNone && o.dst.isSome)).getD false) &&
  (List.range (ops.size - 1)).all (fun j => (List.range (ops.size - 1)).all fun k => j == k || ((ops[j]?).bind (·.dst)) != ((ops[k]?).bind (·.dst))) &&
  ((ops[ops.size - 1]?).map (fun o => o.guard.isNone && (List.range (ops.size - 1)).all (fun k => leansF ops ops.size (ops.size - 1) k))).getD false &&
  (List.range ops.size).all (fun j => ((ops[j]?).map (fun o => o.after.all fun e => !Region.binds .any e || decide (e.on < j))).getD false) &&
  (List.range ops.size).all (fun j => ((ops[j]?).map (fun o => (match o.op with | .select _ _ => false | .defer _ => false | _ => true) && o.op.operands.all fun x => match x with | .tmp t => (List.range (ops.size - 1)).all (fun k => ((ops[k]?).bind (·.dst)) != some t || o.after.any fun e => Region.binds .any e && e.on == k) | _ => true)).getD false)
/-- The frame a with the slots of the operations but the last as af has them. -/
def fillsF (af : Act) : List Oper → Act → Act
  | [], a => a
  | [_], a => a
  | o :: rest, a => fillsF af rest (a.put o.dst ((o.dst.map (af.tmps.getD · undef)).getD undef))
/-- Each operation but the last yields, at the frame af, what af has in its slot. -/
def ValsF (P : Program) (af : Act) (w : World) : List Oper → Prop
  | [] => True
  | [_] => True
  | o :: rest => ((execOp af.eval o).run P w = .ok (.value ((o.dst.map (af.tmps.getD · undef)).getD undef)) w) ∧ ValsF P af w rest
theorem ValsF.one (P : Program) (af : Act) (w : World) (o : Oper) : ValsF P af w [o] := trivial
theorem ValsF.cons {P : Program} {af : Act} {w : World} {o o' : Oper} {rest : List Oper} (h : (execOp af.eval o).run P w = .ok (.value ((o.dst.map (af.tmps.getD · undef)).getD undef)) w) (hr : ValsF P af w (o' :: rest)) : ValsF P af w (o :: o' :: rest) := ⟨h, hr⟩
theorem ValsF.at {P : Program} {af : Act} {w : World} : ∀ {l : List Oper}, ValsF P af w l → ∀ i o, l[i]? = some o → i + 1 < l.length → (execOp af.eval o).run P w = .ok (.value ((o.dst.map (af.tmps.getD · undef)).getD undef)) w
  | [], _, i, o, hi, _ => by cases hi
  | [_], _, i, o, _, hl => by simp at hl
  | x :: y :: rest, h, 0, o, hi, _ => by simp at hi; subst hi; exact h.1
  | x :: y :: rest, h, i + 1, o, hi, hl => ValsF.at h.2 i o (by simpa using hi) (by simpa using hl)
theorem fillsF_size (b : Act) : ∀ (l : List Oper) (a : Act), (fillsF b l a).tmps.size = a.tmps.size ∧ (fillsF b l a).defers = a.defers
  | [], a => ⟨rfl, rfl⟩
  | [_], a => ⟨rfl, rfl⟩
  | o :: y :: rest, a => by
    rw [fillsF]
    · have := fillsF_size b (y :: rest) (a.put o.dst ((o.dst.map (b.tmps.getD · undef)).getD undef))
      rw [this.1, this.2]
      cases o.dst <;> simp [Act.put]
    · simp
theorem fillsF_other (b : Act) (t : Nat) : ∀ (l : List Oper) (a : Act), (∀ i o, l[i]? = some o → i + 1 < l.length → o.dst ≠ some t) → (fillsF b l a).tmps.getD t undef = a.tmps.getD t undef
  | [], a, _ => rfl
  | [_], a, _ => rfl
  | x :: y :: rest, a, h => by
    rw [fillsF]
    · rw [fillsF_other b t (y :: rest) _ (fun i o hi hl => h (i + 1) o (by simpa using hi) (by simpa using hl))]
      have hx := h 0 x rfl (by simp)
      cases hd : x.dst with
      | none => simp [Act.put]
      | some d =>
        have : d ≠ t := fun e => hx (by rw [hd, e])
        simp only [Act.put, Array.getD_eq_getD_getElem?, Array.getElem?_setIfInBounds]
        simp [this]
    · simp
theorem act_extF {a b : Act} (hs : a.tmps.size = b.tmps.size) (ht : ∀ t, a.tmps.getD t undef = b.tmps.getD t undef) (hd : a.defers = b.defers) : a = b := by
  cases a; cases b
  simp only [Act.mk.injEq] at *
  refine ⟨Array.ext hs fun i h1 h2 => ?_, hd⟩
  have := ht i
  simpa [Array.getD, h1, h2] using this
theorem range_allF {n : Nat} {p : Nat → Bool} (h : (List.range n).all p = true) (j : Nat) (hj : j < n) : p j = true := List.all_eq_true.1 h j (List.mem_range.2 hj)
theorem wanted_plainF {o : Oper} (h : o.guard.isNone = true) (f : Nat → Option Bool) : Region.wanted o f = true := by
  have : o.guard = none := Option.isNone_iff_eq_none.1 h
  simp [Region.wanted, this]
theorem least_falseF (f : Nat → Bool) : ∀ (n : Nat), f n = false → ∃ i, i ≤ n ∧ f i = false ∧ ∀ k, k < i → f k = true
  | 0, h => ⟨0, Nat.le_refl _, h, fun k hk => by omega⟩
  | n + 1, h => by
    by_cases h' : ∃ k, k ≤ n ∧ f k = false
    · obtain ⟨k, hk, hf⟩ := h'
      obtain ⟨i, h1, h2, h3⟩ := least_falseF f k hf
      exact ⟨i, by omega, h2, h3⟩
    · refine ⟨n + 1, Nat.le_refl _, h, fun k hk => ?_⟩
      cases hf : f k with
      | true => rfl
      | false => exact absurd ⟨k, by omega, hf⟩ h'
/-- A region that draws, in whatever fence that lets every function in: readers, and then the last operation. -/
theorem region_flat {F : Fence} {m : Nat} {P : Program} {id : Nat} {ops : Array Oper} {Q : Exit → Act → World → Prop} {a0 : Act} {w0 : World} (af : Act) (ol : Oper) (hF : ∀ f, F.fn f) (hm : P.follows .mixedOrders = true) (hp : flatOps ops = true)
    (hin : (List.range (ops.size - 1)).all (fun j => ((ops[j]?).map (fun o => (o.dst.map (fun t => decide (t < a0.tmps.size))).getD false)).getD false) = true)
    (hfill : fillsF af ops.toList a0 = af) (hlast : ops[ops.size - 1]? = some ol) (hs : ValsF P af w0.drew ops.toList)
    (he : ol.wpIn F m P af w0.drew (fun a' w' => Q .normal a' w') Q) : (Code.region id ops true).wpIn F m P Q a0 w0 := by
  simp only [flatOps, Bool.and_eq_true] at hp
  obtain ⟨⟨⟨⟨hp1, hp2⟩, hp3⟩, hp4⟩, hp5⟩ := hp
  have hne : ops.size - 1 < ops.size := (Array.getElem?_eq_some_iff.1 hlast).1
  have own : ∀ j o, ops[j]? = some o → j + 1 < ops.size → o.guard.isNone = true ∧ ∃ t, o.dst = some t ∧ t < a0.tmps.size := by
    intro j o ho hj
    have h1 := range_allF hp1 j (by omega)
    have h2 := range_allF hin j (by omega)
    simp only [ho, Option.map_some, Option.getD_some, Bool.and_eq_true] at h1 h2
    obtain ⟨t, ht⟩ := Option.isSome_iff_exists.1 h1.2
    rw [ht] at h2
    exact ⟨h1.1, t, ht, by simpa using h2⟩
  have apart : ∀ j k o o' t, ops[j]? = some o → ops[k]? = some o' → j + 1 < ops.size → k + 1 < ops.size → o.dst = some t → o'.dst = some t → j = k := by
    intro j k o o' t ho ho' hj hk ht ht'
    have h1 := range_allF (range_allF hp2 j (by omega)) k (by omega)
    simp only [ho, ho', Option.bind_some, ht, ht', Bool.or_eq_true, beq_iff_eq] at h1
    rcases h1 with h1 | h1
    · exact h1
    · simp at h1
  have hfs := fillsF_size af ops.toList a0
  rw [hfill] at hfs
  have hother : ∀ t, (∀ j o, ops[j]? = some o → j + 1 < ops.size → o.dst ≠ some t) → af.tmps.getD t undef = a0.tmps.getD t undef := fun t ht => by
    have := fillsF_other af t ops.toList a0 (fun i o hi hl => ht i o (by simpa using hi) (by simpa using hl))
    rwa [hfill] at this
  -- an operation sees at a what it sees at af, once what it waits for is there
  have same : ∀ (j : Nat) (o : Oper) (l : Array Bool) (a : Act), ops[j]? = some o → (∀ t, (∀ (j : Nat) (o : Oper), ops[j]? = some o → j + 1 < ops.size → o.dst = some t → l.getD j true = false) → a.tmps.getD t undef = a0.tmps.getD t undef) →
      (∀ (j : Nat) (o : Oper) (t : Nat), ops[j]? = some o → j + 1 < ops.size → o.dst = some t → l.getD j true = true → a.tmps.getD t undef = af.tmps.getD t undef) →
      (∀ e ∈ o.after, Region.binds .any e = true → l.getD e.on true = true) → execOp a.eval o = execOp af.eval o := by
    intro j o l a ho hold hnew hall
    have hj : j < ops.size := (Array.getElem?_eq_some_iff.1 ho).1
    have h5 := range_allF hp5 j hj
    simp only [ho, Option.map_some, Option.getD_some, Bool.and_eq_true] at h5
    refine execOp_congr o (fun cs b e => by rw [e] at h5; simp at h5) fun x hx => ?_
    cases x with
    | const v => rfl
    | global g => rfl
    | func f => rfl
    | tmp t =>
      show a.tmps.getD t undef = af.tmps.getD t undef
      have h6 := Array.all_eq_true_iff_forall_mem.1 h5.2 (Operand.tmp t) hx
      simp only at h6
      by_cases hd : ∃ k o', ops[k]? = some o' ∧ k + 1 < ops.size ∧ o'.dst = some t
      · obtain ⟨k, o', h7, h8, h9⟩ := hd
        have h10 := range_allF h6 k (by omega)
        simp only [h7, Option.bind_some, h9, Bool.or_eq_true, Array.any_eq_true, Bool.and_eq_true, beq_iff_eq] at h10
        rcases h10 with h10 | ⟨i, hi, hb, hon⟩
        · simp at h10
        · refine hnew k o' t h7 h8 h9 ?_
          have := hall _ (Array.getElem_mem hi) hb
          rwa [hon] at this
      · rw [hother t (fun k o' h1 h2 h3 => hd ⟨k, o', h1, h2, h3⟩)]
        exact hold t (fun k o' h1 h2 h3 => absurd ⟨k, o', h1, h2, h3⟩ hd)
  have nodef : ∀ (j : Nat) (o : Oper), ops[j]? = some o → ∀ c, o.op ≠ .defer c := by
    intro j o ho c e
    have h5 := range_allF hp5 j (Array.getElem?_eq_some_iff.1 ho).1
    simp only [ho, Option.map_some, Option.getD_some, Bool.and_eq_true] at h5
    rw [e] at h5
    simp at h5
  refine wpIn_region_any hm ?_
  have main : ∀ (n : Nat) (l : Array Bool) (a : Act), l.size = ops.size → a.tmps.size = a0.tmps.size → a.defers = a0.defers →
      l.getD (ops.size - 1) true = false →
      (∀ t, (∀ (j : Nat) (o : Oper), ops[j]? = some o → j + 1 < ops.size → o.dst = some t → l.getD j true = false) → a.tmps.getD t undef = a0.tmps.getD t undef) →
      (∀ (j : Nat) (o : Oper) (t : Nat), ops[j]? = some o → j + 1 < ops.size → o.dst = some t → l.getD j true = true → a.tmps.getD t undef = af.tmps.getD t undef) →
      (∀ (j : Nat) (o : Oper), ops[j]? = some o → l.getD j true = true → ∀ x ∈ o.after, Region.binds .any x = true → l.getD x.on true = true) →
      ((List.range ops.size).filter fun i => !l.getD i true).length ≤ n →
      wpAnyIn F m P .any ops Q n l a w0.drew := by
    intro n
    induction n with
    | zero =>
      intro l a hl hsz hdf hla hold hnew hcl hc
      have : ops.size - 1 ∈ (List.range ops.size).filter fun i => !l.getD i true := List.mem_filter.2 ⟨List.mem_range.2 hne, by rw [hla]; rfl⟩
      have := List.length_pos_of_mem this
      omega
    | succ n ih =>
      intro l a hl hsz hdf hla hold hnew hcl hc
      have hcount : ∀ i, i < ops.size → l.getD i true = false → ((List.range ops.size).filter fun k => !(l.setIfInBounds i true).getD k true).length ≤ n := by
        intro i hi hli
        have hlt : ((List.range ops.size).filter fun k => !(l.setIfInBounds i true).getD k true).length < ((List.range ops.size).filter fun k => !l.getD k true).length := by
          have e : ((List.range ops.size).filter fun k => !(l.setIfInBounds i true).getD k true) = ((List.range ops.size).filter fun k => !l.getD k true).filter (fun k => k != i) := by
            rw [List.filter_filter]
            refine List.filter_congr fun k hk => ?_
            by_cases hki : k = i
            · subst hki; simp [Array.getD, hl, hi]
            · rw [getD_set_ne true (Ne.symm hki)]; simp [hki]
          rw [e]
          refine List.length_filter_lt_length_iff_exists.2 ⟨i, List.mem_filter.2 ⟨List.mem_range.2 hi, by rw [hli]; rfl⟩, by simp⟩
        omega
      refine ⟨fun h0 => ?_, fun i hi => ?_⟩
      · exfalso
        obtain ⟨i, h1, h2, h3⟩ := least_falseF (fun k => l.getD k true) (ops.size - 1) hla
        have hi : i < ops.size := by omega
        have : i ∈ Region.ready .any ops l := by
          refine mem_ready.2 ⟨h2, ops[i], by simp [hi], fun e he hbd => ?_⟩
          have h4 := range_allF hp4 i hi
          simp only [Array.getElem?_eq_getElem hi, Option.map_some, Option.getD_some] at h4
          have h5 := Array.all_eq_true_iff_forall_mem.1 h4 e he
          simp only [hbd, Bool.not_true, Bool.false_or, decide_eq_true_eq] at h5
          have h6 := h3 e.on h5
          simp only [Array.getD] at h6 ⊢
          rw [dif_pos (by omega)] at h6 ⊢
          exact h6
        rw [h0] at this
        cases this
      · obtain ⟨hun, o, ho, hall0⟩ := mem_ready.1 hi
        have hilt : i < ops.size := (Array.getElem?_eq_some_iff.1 ho).1
        have hall : ∀ e ∈ o.after, Region.binds .any e = true → l.getD e.on true = true := fun e he hbd => by
          have h := hall0 e he hbd
          have h4 := range_allF hp4 i hilt
          simp only [ho, Option.map_some, Option.getD_some] at h4
          have h5 := Array.all_eq_true_iff_forall_mem.1 h4 e he
          simp only [hbd, Bool.not_true, Bool.false_or, decide_eq_true_eq] at h5
          simp only [Array.getD] at h ⊢
          rw [dif_pos (by omega)] at h ⊢
          exact h
        have hsame := same i o l a ho hold hnew hall
        by_cases hil : i + 1 < ops.size
        · obtain ⟨hgd, t, hdt, htl⟩ := own i o ho hil
          have hv := ValsF.at hs i o (by simpa using ho) (by simpa using hil)
          unfold wpOpIn
          rw [ho]
          simp only [wanted_plainF hgd, if_true]
          unfold Oper.wpIn
          refine ⟨fun f _ => hF f, ?_⟩
          rw [Oper.semAt_eq F.round a.eval o (nodef i o ho), hsame, hv, Oper.uponIn_value, hdt]
          simp only [Option.map_some, Option.getD_some]
          refine ih _ _ (by simpa using hl) (by simpa [Act.put] using hsz) (by simpa [Act.put] using hdf) ?_ ?_ ?_ ?_ (hcount i hilt hun)
          · rw [getD_set_ne true (by omega)]; exact hla
          · intro t' ht'
            have htt : t ≠ t' := fun e => by
              have := ht' i o ho hil (by rw [hdt, e])
              simp [Array.getD, hl, hilt] at this
            simp only [Act.put, Array.getD_eq_getD_getElem?, Array.getElem?_setIfInBounds, if_neg htt]
            rw [← Array.getD_eq_getD_getElem?, ← Array.getD_eq_getD_getElem?]
            refine hold t' fun j oj hoj hj hdj => ?_
            have h1 := ht' j oj hoj hj hdj
            by_cases hji : i = j
            · subst hji; exact hun
            · rwa [getD_set_ne true hji] at h1
          · intro j oj t' hoj hj hdj hlj
            by_cases hji : i = j
            · subst hji
              rw [ho] at hoj
              cases hoj
              rw [hdt] at hdj
              cases hdj
              simp [Act.put, Array.getD, hsz, htl]
            · rw [getD_set_ne true hji] at hlj
              have htt : t ≠ t' := fun e => hji (apart i j o oj t ho hoj hil hj hdt (by rw [hdj, e]))
              have h1 := hnew j oj t' hoj hj hdj hlj
              rw [← h1]
              simp only [Act.put, Array.getD_eq_getD_getElem?, Array.getElem?_setIfInBounds, if_neg htt]
          · intro j oj hoj hlj x hx hbx
            by_cases hji : i = j
            · subst hji
              rw [ho] at hoj
              cases hoj
              have := hall x hx hbx
              by_cases hxi : i = x.on
              · rw [← hxi] at this; rw [hun] at this; cases this
              · rw [getD_set_ne true hxi]; exact this
            · rw [getD_set_ne true hji] at hlj
              have := hcl j oj hoj hlj x hx hbx
              by_cases hxi : i = x.on
              · rw [← hxi] at this; rw [hun] at this; cases this
              · rw [getD_set_ne true hxi]; exact this
        · obtain rfl : i = ops.size - 1 := by omega
          rw [hlast] at ho
          cases ho
          simp only [hlast, Option.map_some, Option.getD_some, Bool.and_eq_true] at hp3
          have hlisted : ∀ k, k + 1 < ops.size → l.getD k true = true := fun k hk => behind_doneF hcl hall hlast (range_allF hp3.2 k (by omega))
          have haf : a = af := by
            refine act_extF (by rw [hsz, hfs.1]) (fun t => ?_) (by rw [hdf, hfs.2])
            by_cases hx : ∃ k ok, ops[k]? = some ok ∧ k + 1 < ops.size ∧ ok.dst = some t
            · obtain ⟨k, ok, h1, h2, h3⟩ := hx
              exact hnew k ok t h1 h2 h3 (hlisted k h2)
            · rw [hother t (fun k ok h1 h2 h3 => hx ⟨k, ok, h1, h2, h3⟩)]
              exact hold t (fun k ok h1 h2 h3 => absurd ⟨k, ok, h1, h2, h3⟩ hx)
          subst haf
          unfold wpOpIn
          rw [hlast]
          simp only [wanted_plainF hp3.1, if_true]
          refine Oper.wpIn_mono (fun a' w' hq => wpAnyIn_done ?_ hq _) he
          refine List.filter_eq_nil_iff.2 fun k hk => ?_
          have hk' : k < ops.size := List.mem_range.1 hk
          have : (l.setIfInBounds (ops.size - 1) true).getD k true = true := by
            by_cases hkl : k + 1 < ops.size
            · rw [getD_set_ne true (by omega)]; exact hlisted k hkl
            · obtain rfl : k = ops.size - 1 := by omega
              simp [Array.getD, hl, hne]
          rw [this]; simp
  refine main _ _ _ (by simp) rfl rfl (by simp [Array.getD, hne]) (fun t _ => rfl) (fun j o t ho hj hd hl => ?_) (fun j o ho hl => ?_) ?_
  · exfalso
    have : j < ops.size := by omega
    simp [Array.getD, this] at hl
  · exfalso
    have : j < ops.size := (Array.getElem?_eq_some_iff.1 ho).1
    simp [Array.getD, this] at hl
  · have := List.length_filter_le (fun i => !(Array.replicate ops.size false).getD i true) (List.range ops.size)
    simpa using this
/-- A call of a function value. -/
theorem exec_callv {P : Program} {w : World} {ρ : Operand → Value} {o : Oper} (x : Operand) (args : Array Operand) (ats : Array TypeId) (ho : o.op = .call { callee := .value x, args := args, argTypes := ats }) (B : FuncId) (caps : Array Value) (hx : ρ x = .func (.func B) #[] caps)
    (hent : ∀ args w, (callFunc B args).run P w = .ok (.enter B args) w) : (execOp ρ o).run P w = .ok (.enter B (args.map ρ ++ caps)) w := by
  unfold execOp
  simp only [ho, resolve, hx]
  simp [invoke, go_sem, hent]
/-- The last operation is a call. -/
theorem last_callF {l m : Nat} {P : Program} {ol : Oper} {af : Act} {w : World} {K : Act → World → Prop} {Q : Exit → Act → World → Prop} (hd : ∀ c, ol.op ≠ .defer c) (f : FuncId) (args : Array Value) (hx : (execOp af.eval ol).run P w = .ok (.enter f args) w)
    (hC : Calls P f args w fun e w' => ∃ v, e = .returned v ∧ K (af.put ol.dst v) w') : ol.wpIn (Fence.wide.inRound l) m P af w K Q := by
  refine ⟨fun _ _ => trivial, ?_⟩
  rw [Oper.semAt_eq _ _ _ hd, hx, Oper.uponIn_enter]
  refine ⟨fun h => Bool.noConfusion (show false = true from h), ?_⟩
  refine (CallsIn.inRound l (callsIn_wide.2 hC)).mono ?_
  rintro e w' ⟨v, rfl, hk⟩
  exact hk
end Go.Proofs.Ytlkpgbilepehmaa
