/- Regions that draw, within a fence (a round or not): readers and calls that leave the world, guards and all: one walk for all orders. -/
import Derived.OrdersIn
import Derived.Test.YtlkpgbilepehmaaNFlatG
namespace Go.Proofs.Ytlkpgbilepehmaa
open Go.RowKit
set_option linter.unusedVariables false
set_option linter.unusedSimpArgs false

/-- As ValsG; or a call that leaves the world yields it. -/
def ValsC (F : Fence) (m : Nat) (P : Program) (ops : Array Oper) (af : Act) (w : World) : List Oper → List Value → Prop
  | o :: rest, v :: vs => ((Region.wanted o (yielded ops af.tmps) = true ∧ ((execOp af.eval o).run P w = .ok (.value v) w ∨ ∃ f args, (execOp af.eval o).run P w = .ok (.enter f args) w ∧ (F.depth.isSome = true → 1 ≤ m) ∧ CallsIn F (m - 1) P f args w fun e w' => e = .returned v ∧ w = w')) ∨ (Region.wanted o (yielded ops af.tmps) = false ∧ v = undef)) ∧ ValsC F m P ops af w rest vs
  | [], [] => True
  | _, _ => False
variable {F : Fence} {m : Nat} {P : Program} {ops : Array Oper} {af : Act} {w : World} {o : Oper} {rest : List Oper} {v : Value} {vs : List Value}
theorem ValsC.cons (h1 : Region.wanted o (yielded ops af.tmps) = true) (h2 : (execOp af.eval o).run P w = .ok (.value v) w) (hr : ValsC F m P ops af w rest vs) : ValsC F m P ops af w (o :: rest) (v :: vs) := ⟨.inl ⟨h1, .inl h2⟩, hr⟩
theorem ValsC.call (f : FuncId) (args : Array Value) (h1 : Region.wanted o (yielded ops af.tmps) = true) (h2 : (execOp af.eval o).run P w = .ok (.enter f args) w) (hd : F.depth.isSome = true → 1 ≤ m) (hC : CallsIn F (m - 1) P f args w fun e w' => e = .returned v ∧ w = w') (hr : ValsC F m P ops af w rest vs) : ValsC F m P ops af w (o :: rest) (v :: vs) := ⟨.inl ⟨h1, .inr ⟨f, args, h2, hd, hC⟩⟩, hr⟩
theorem ValsC.skip (h1 : Region.wanted o (yielded ops af.tmps) = false) (hr : ValsC F m P ops af w rest vs) : ValsC F m P ops af w (o :: rest) (undef :: vs) := ⟨.inr ⟨h1, rfl⟩, hr⟩
theorem ValsC.nil : ValsC F m P ops af w [] [] := trivial
theorem ValsC.length : ∀ {l : List Oper} {vs : List Value}, ValsC F m P ops af w l vs → l.length = vs.length
  | [], [], _ => rfl
  | o :: rest, v :: vs, h => by simp [ValsC.length h.2]
  | [], _ :: _, h => h.elim
  | _ :: _, [], h => h.elim
theorem ValsC.at : ∀ {l : List Oper} {vs : List Value}, ValsC F m P ops af w l vs → ∀ i o, l[i]? = some o → (Region.wanted o (yielded ops af.tmps) = true ∧ ((execOp af.eval o).run P w = .ok (.value (vs.getD i undef)) w ∨ ∃ f args, (execOp af.eval o).run P w = .ok (.enter f args) w ∧ (F.depth.isSome = true → 1 ≤ m) ∧ CallsIn F (m - 1) P f args w fun e w' => e = .returned (vs.getD i undef) ∧ w = w')) ∨ (Region.wanted o (yielded ops af.tmps) = false ∧ vs.getD i undef = undef)
  | [], _, _, i, o, hi => by simp at hi
  | x :: rest, v :: vs, h, 0, o, hi => by simp at hi; subst hi; exact h.1
  | x :: rest, v :: vs, h, i + 1, o, hi => ValsC.at h.2 i o (by simpa using hi)
  | _ :: _, [], h, _, _, _ => h.elim
/-- A call of a function by its name. -/
theorem exec_calln {P : Program} {w : World} {ρ : Operand → Value} {o : Oper} (B : FuncId) (args : Array Operand) (ats : Array TypeId) (ho : o.op = .call { callee := .value (.func B), args := args, argTypes := ats }) (hx : ρ (.func B) = .func (.func B) #[] #[])
    (hent : ∀ args w, (callFunc B args).run P w = .ok (.enter B args) w) : (execOp ρ o).run P w = .ok (.enter B (args.map ρ)) w := by
  have := exec_callv (w := w) (.func B) args ats ho B #[] hx hent
  simpa using this
theorem region_flatC {F : Fence} {m : Nat} {P : Program} {id : Nat} {ops : Array Oper} {Q : Exit → Act → World → Prop} {a0 : Act} {w0 : World} (vs : List Value) (af : Act) (hF : ∀ f, F.fn f) (hm : P.follows .mixedOrders = true) (hp : flatG ops = true)
    (hin : (List.range ops.size).all (fun j => ((ops[j]?).map (fun o => (o.dst.map (fun t => decide (t < a0.tmps.size))).getD false)).getD false) = true)
    (hfill : fillG ops.toList vs a0 = af) (hs : ValsC F m P ops af w0.drew ops.toList vs)
    (he : Q .normal af w0.drew) : (Code.region id ops true).wpIn F m P Q a0 w0 := by
  simp only [flatG, Bool.and_eq_true] at hp
  obtain ⟨⟨⟨⟨hp1, hp2⟩, hp4⟩, hp5⟩, hp6⟩ := hp
  have hlen : ops.toList.length = vs.length := hs.length
  have own : ∀ (j : Nat) (o : Oper), ops[j]? = some o → ∃ t, o.dst = some t ∧ t < a0.tmps.size := by
    intro j o ho
    have hj := (Array.getElem?_eq_some_iff.1 ho).1
    have h1 := range_allF hp1 j hj
    have h2 := range_allF hin j hj
    simp only [ho, Option.map_some, Option.getD_some] at h1 h2
    obtain ⟨t, ht⟩ := Option.isSome_iff_exists.1 h1
    rw [ht] at h2
    exact ⟨t, ht, by simpa using h2⟩
  have apart : ∀ (j k : Nat) (o o' : Oper) (t : Nat), ops[j]? = some o → ops[k]? = some o' → o.dst = some t → o'.dst = some t → j = k := by
    intro j k o o' t ho ho' ht ht'
    have h1 := range_allF (range_allF hp2 j (Array.getElem?_eq_some_iff.1 ho).1) k (Array.getElem?_eq_some_iff.1 ho').1
    simp only [ho, ho', Option.bind_some, ht, ht', Bool.or_eq_true, beq_iff_eq] at h1
    rcases h1 with h1 | h1
    · exact h1
    · simp at h1
  have hfs := fillG_size ops.toList vs a0
  rw [hfill] at hfs
  have hother : ∀ t, (∀ (j : Nat) (o : Oper), ops[j]? = some o → o.dst ≠ some t) → af.tmps.getD t undef = a0.tmps.getD t undef := fun t ht => by
    have := fillG_other t ops.toList vs a0 (fun i o hi => ht i o (by simpa using hi))
    rwa [hfill] at this
  have hslot : ∀ (j : Nat) (o : Oper) (t : Nat), ops[j]? = some o → o.dst = some t → af.tmps.getD t undef = vs.getD j undef := fun j o t ho ht => by
    obtain ⟨t', h1, h2⟩ := own j o ho
    rw [ht] at h1; cases h1
    have := fillG_at ops.toList vs a0 j o t hlen (by simpa using ho) ht h2 (fun i o' hi e => apart i j o' o t (by simpa using hi) ho e ht)
    rwa [hfill] at this
  have nodef : ∀ (j : Nat) (o : Oper), ops[j]? = some o → ∀ c, o.op ≠ .defer c := by
    intro j o ho c e
    have h5 := range_allF hp5 j (Array.getElem?_eq_some_iff.1 ho).1
    simp only [ho, Option.map_some, Option.getD_some, Bool.and_eq_true] at h5
    rw [e] at h5
    simp at h5
  refine wpIn_region_any hm ?_
  have main : ∀ (n : Nat) (l : Array Bool) (a : Act), l.size = ops.size → a.tmps.size = a0.tmps.size → a.defers = a0.defers →
      (∀ t, (∀ (j : Nat) (o : Oper), ops[j]? = some o → o.dst = some t → l.getD j true = false) → a.tmps.getD t undef = a0.tmps.getD t undef) →
      (∀ (j : Nat) (o : Oper) (t : Nat), ops[j]? = some o → o.dst = some t → l.getD j true = true → a.tmps.getD t undef = af.tmps.getD t undef) →
      ((List.range ops.size).filter fun i => !l.getD i true).length ≤ n →
      wpAnyIn F m P .any ops Q n l a w0.drew := by
    have fin : ∀ (l : Array Bool) (a : Act), l.size = ops.size → a.tmps.size = a0.tmps.size → a.defers = a0.defers →
        (∀ t, (∀ (j : Nat) (o : Oper), ops[j]? = some o → o.dst = some t → l.getD j true = false) → a.tmps.getD t undef = a0.tmps.getD t undef) →
        (∀ (j : Nat) (o : Oper) (t : Nat), ops[j]? = some o → o.dst = some t → l.getD j true = true → a.tmps.getD t undef = af.tmps.getD t undef) →
        (∀ j, j < ops.size → l.getD j true = true) → Q .normal a w0.drew := by
      intro l a hl hsz hdf hold hnew hall
      have haf : a = af := by
        refine act_extF (by rw [hsz, hfs.1]) (fun t => ?_) (by rw [hdf, hfs.2])
        by_cases hx : ∃ (k : Nat) (ok : Oper), ops[k]? = some ok ∧ ok.dst = some t
        · obtain ⟨k, ok, h1, h3⟩ := hx
          exact hnew k ok t h1 h3 (hall k (Array.getElem?_eq_some_iff.1 h1).1)
        · rw [hother t (fun k ok h1 h3 => hx ⟨k, ok, h1, h3⟩)]
          exact hold t (fun k ok h1 h3 => absurd ⟨k, ok, h1, h3⟩ hx)
      rw [haf]; exact he
    have none_left : ∀ (l : Array Bool), l.size = ops.size → Region.ready .any ops l = [] → ∀ j, j < ops.size → l.getD j true = true := by
      intro l hl h0 j hj
      cases hlj : l.getD j true with
      | true => rfl
      | false =>
        exfalso
        obtain ⟨i, h1, h2, h3⟩ := least_falseF (fun k => l.getD k true) j hlj
        have hi : i < ops.size := by omega
        have : i ∈ Region.ready .any ops l := by
          refine mem_ready.2 ⟨h2, ops[i], by simp [hi], fun e he hbd => ?_⟩
          have h4 := range_allF hp4 i hi
          simp only [Array.getElem?_eq_getElem hi, Option.map_some, Option.getD_some] at h4
          have h5 := Array.all_eq_true_iff_forall_mem.1 h4 e he
          simp only [hbd, Bool.not_true, Bool.false_or, decide_eq_true_eq] at h5
          have h6 := h3 e.on h5
          simp only [Array.getD] at h6 ⊢
          rw [dif_pos (by omega)] at h6 ⊢
          exact h6
        rw [h0] at this
        cases this
    intro n
    induction n with
    | zero =>
      intro l a hl hsz hdf hold hnew hc
      have hall : ∀ j, j < ops.size → l.getD j true = true := fun j hj => by
        cases h : l.getD j true with
        | true => rfl
        | false =>
          have : j ∈ (List.range ops.size).filter fun i => !l.getD i true := List.mem_filter.2 ⟨List.mem_range.2 hj, by rw [h]; rfl⟩
          have := List.length_pos_of_mem this
          omega
      refine ⟨List.filter_eq_nil_iff.2 fun k hk => ?_, fin l a hl hsz hdf hold hnew hall⟩
      rw [hall k (List.mem_range.1 hk)]; simp
    | succ n ih =>
      intro l a hl hsz hdf hold hnew hc
      have hcount : ∀ i, i < ops.size → l.getD i true = false → ((List.range ops.size).filter fun k => !(l.setIfInBounds i true).getD k true).length ≤ n := by
        intro i hi hli
        have hlt : ((List.range ops.size).filter fun k => !(l.setIfInBounds i true).getD k true).length < ((List.range ops.size).filter fun k => !l.getD k true).length := by
          have e : ((List.range ops.size).filter fun k => !(l.setIfInBounds i true).getD k true) = ((List.range ops.size).filter fun k => !l.getD k true).filter (fun k => k != i) := by
            rw [List.filter_filter]
            refine List.filter_congr fun k hk => ?_
            by_cases hki : k = i
            · subst hki; simp [Array.getD, hl, hi]
            · rw [getD_set_ne true (Ne.symm hki)]; simp [hki]
          rw [e]
          refine List.length_filter_lt_length_iff_exists.2 ⟨i, List.mem_filter.2 ⟨List.mem_range.2 hi, by rw [hli]; rfl⟩, by simp⟩
        omega
      refine ⟨fun h0 => fin l a hl hsz hdf hold hnew (none_left l hl h0), fun i hi => ?_⟩
      obtain ⟨hun, o, ho, hall0⟩ := mem_ready.1 hi
      have hilt : i < ops.size := (Array.getElem?_eq_some_iff.1 ho).1
      have hall : ∀ e ∈ o.after, Region.binds .any e = true → l.getD e.on true = true := fun e he hbd => by
        have h := hall0 e he hbd
        have h4 := range_allF hp4 i hilt
        simp only [ho, Option.map_some, Option.getD_some] at h4
        have h5 := Array.all_eq_true_iff_forall_mem.1 h4 e he
        simp only [hbd, Bool.not_true, Bool.false_or, decide_eq_true_eq] at h5
        simp only [Array.getD] at h ⊢
        rw [dif_pos (by omega)] at h ⊢
        exact h
      have slotSame : ∀ (k : Nat) (o' : Oper) (t : Nat), ops[k]? = some o' → o'.dst = some t → (o.after.any fun e => Region.binds .any e && e.on == k) = true → a.tmps.getD t undef = af.tmps.getD t undef := fun k o' t h7 h9 h10 => by
        simp only [Array.any_eq_true, Bool.and_eq_true, beq_iff_eq] at h10
        obtain ⟨x, hx, hb, hon⟩ := h10
        refine hnew k o' t h7 h9 ?_
        have := hall _ (Array.getElem_mem hx) hb
        rwa [hon] at this
      have hsame : execOp a.eval o = execOp af.eval o := by
        have h5 := range_allF hp5 i hilt
        simp only [ho, Option.map_some, Option.getD_some, Bool.and_eq_true] at h5
        refine execOp_congr o (fun cs b e => by rw [e] at h5; simp at h5) fun x hx => ?_
        cases x with
        | const v => rfl
        | global g => rfl
        | func f => rfl
        | tmp t =>
          show a.tmps.getD t undef = af.tmps.getD t undef
          have h6 := Array.all_eq_true_iff_forall_mem.1 h5.2 (Operand.tmp t) hx
          simp only at h6
          by_cases hd : ∃ (k : Nat) (o' : Oper), ops[k]? = some o' ∧ o'.dst = some t
          · obtain ⟨k, o', h7, h9⟩ := hd
            have h10 := range_allF h6 k (Array.getElem?_eq_some_iff.1 h7).1
            simp only [h7, Option.bind_some, h9, Bool.or_eq_true] at h10
            rcases h10 with h10 | h10
            · simp at h10
            · exact slotSame k o' t h7 h9 h10
          · rw [hother t (fun k o' h1 h3 => hd ⟨k, o', h1, h3⟩)]
            exact hold t (fun k o' h1 h3 => absurd ⟨k, o', h1, h3⟩ hd)
      have hwant : Region.wanted o (yielded ops a.tmps) = Region.wanted o (yielded ops af.tmps) := by
        have h6 := range_allF hp6 i hilt
        simp only [ho, Option.map_some, Option.getD_some] at h6
        unfold Region.wanted
        cases hg : o.guard with
        | none => rfl
        | some gw =>
          obtain ⟨g, want⟩ := gw
          rw [hg] at h6
          simp only [Bool.and_eq_true, decide_eq_true_eq] at h6
          have : yielded ops a.tmps g = yielded ops af.tmps g := yielded_same (by rw [hsz, hfs.1]) (fun t ht => by
            obtain ⟨o', ho'⟩ : ∃ o', ops[g]? = some o' := ⟨ops[g]'h6.1, by simp [h6.1]⟩
            rw [ho'] at ht
            exact slotSame g o' t ho' ht h6.2)
          simp only [this]
      obtain ⟨t, hdt, htl⟩ := own i o ho
      have next : ∀ v, v = vs.getD i undef → wpAnyIn F m P .any ops Q n (l.setIfInBounds i true) (a.put o.dst v) w0.drew := by
        intro v hv
        rw [hdt]
        refine ih _ _ (by simpa using hl) (by simpa [Act.put] using hsz) (by simpa [Act.put] using hdf) ?_ ?_ (hcount i hilt hun)
        · intro t' ht'
          have htt : t ≠ t' := fun e => by
            have := ht' i o ho (by rw [hdt, e])
            simp [Array.getD, hl, hilt] at this
          simp only [Act.put, Array.getD_eq_getD_getElem?, Array.getElem?_setIfInBounds, if_neg htt]
          rw [← Array.getD_eq_getD_getElem?, ← Array.getD_eq_getD_getElem?]
          refine hold t' fun j oj hoj hdj => ?_
          have h1 := ht' j oj hoj hdj
          by_cases hji : i = j
          · subst hji; exact hun
          · rwa [getD_set_ne true hji] at h1
        · intro j oj t' hoj hdj hlj
          by_cases hji : i = j
          · subst hji
            rw [ho] at hoj
            cases hoj
            rw [hdt] at hdj
            cases hdj
            rw [hslot i o t ho hdt, ← hv]
            simp [Act.put, Array.getD, hsz, htl]
          · rw [getD_set_ne true hji] at hlj
            have htt : t ≠ t' := fun e => hji (apart i j o oj t ho hoj hdt (by rw [hdj, e]))
            have h1 := hnew j oj t' hoj hdj hlj
            rw [← h1]
            simp only [Act.put, Array.getD_eq_getD_getElem?, Array.getElem?_setIfInBounds, if_neg htt]
      unfold wpOpIn
      rw [ho]
      simp only [hwant]
      rcases ValsC.at hs i o (by simpa using ho) with ⟨h1, h2⟩ | ⟨h1, h2⟩
      · rw [if_pos h1]
        unfold Oper.wpIn
        refine ⟨fun f _ => hF f, ?_⟩
        rw [Oper.semAt_eq F.round a.eval o (nodef i o ho), hsame]
        rcases h2 with h2 | ⟨f, args, h2, hd, hC⟩
        · rw [h2, Oper.uponIn_value]
          exact next _ rfl
        · rw [h2, Oper.uponIn_enter]
          refine ⟨hd, hC.mono ?_⟩
          rintro e w' ⟨rfl, rfl⟩
          exact next _ rfl
      · rw [if_neg (by rw [h1]; decide)]
        exact ⟨fun f _ => hF f, next _ h2.symm⟩
  refine main _ _ _ (by simp) rfl rfl (fun t _ => rfl) (fun j o t ho hd hl => ?_) ?_
  · exfalso
    have : j < ops.size := (Array.getElem?_eq_some_iff.1 ho).1
    simp [Array.getD, this] at hl
  · have := List.length_filter_le (fun i => !(Array.replicate ops.size false).getD i true) (List.range ops.size)
    simpa using this
end Go.Proofs.Ytlkpgbilepehmaa
