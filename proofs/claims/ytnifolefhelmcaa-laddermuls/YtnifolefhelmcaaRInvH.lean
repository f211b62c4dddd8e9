/- region_invP where one load ahead of c need not be waited for by every store: 'a, b, c := f(), g(), x': x is read at any time. -/
import Derived.Test.YtnifolefhelmcaaRInvX
import Derived.Test.YtnifolefhelmcaaDHeld
import Derived.OrdersHeld
namespace Go.Proofs.Ytnifolefhelmcaa
open Go.RowKit
set_option linter.unusedVariables false
set_option linter.unusedSimpArgs false
theorem region_invH {id : Nat} {ops : Array Oper} {Q : Exit → Act → World → Prop} {a0 : Act} {w0 : World} (c xo : Nat) {ox : Oper} (hox : ops[xo]? = some ox) (E : List Exp) (hm : Try.prog.follows .mixedOrders = true) (hp : preOpsX c xo ops = true)
    (hns : Region.noSelect ops = true) (hfx : Region.free .any ops (Array.replicate ops.size false) xo = true) (hrx : (Region.ready .any ops (Array.replicate ops.size false)).contains xo = true)
    (vx : Value) (hvx : E.getD xo (.val undef) = .val vx) (hyx : YieldsIf Try.prog ops (Below w0.heap.size w0) ox vx a0)
    (hin : (List.range c).all (fun j => ((ops[j]?).map (fun o => (o.dst.map (fun t => decide (t < a0.tmps.size))).getD false)).getD false) = true)
    (ts : List Nat) (hts : Als E ts 0 (ops.toList.take c)) (hall' : ts.all (fun t => (List.range c).any fun j => ((ops[j]?).bind (·.dst)) == some t) = true)
    (hs : Steps' w0.heap.size ops E a0 w0 0 (ops.toList.take (c + 1))) (he : ∀ w, Below w0.heap.size w0 w → EndsP w0.heap.size E (fun a => Dist ts a → ∀ n, ops.size - c ≤ n → wpAnyH Try.prog .any ops (NoPanic Q) (Below w0.heap.size w0) n (flags c ops.size) a w) w 0 (ops.toList.take c) a0) : (Code.region id ops true).wp Try.prog Q a0 w0 := by
  simp only [preOpsX, Bool.and_eq_true, decide_eq_true_eq] at hp
  obtain ⟨⟨⟨⟨⟨hp1, hp2⟩, hp3⟩, hp4⟩, hcs⟩, hxc⟩ := hp
  have own : ∀ j o, ops[j]? = some o → j < c → o.guard.isNone = true ∧ ∃ t, o.dst = some t ∧ t < a0.tmps.size := by
    intro j o ho hj
    have h1 := range_all hp1 j (by omega)
    have h2 := range_all hin j (by omega)
    simp only [ho, Option.map_some, Option.getD_some, Bool.and_eq_true] at h1 h2
    obtain ⟨t, ht⟩ := Option.isSome_iff_exists.1 h1.2
    rw [ht] at h2
    exact ⟨h1.1, t, ht, by simpa using h2⟩
  have apart : ∀ j k o o' t, ops[j]? = some o → ops[k]? = some o' → j < c → k < c → o.dst = some t → o'.dst = some t → j = k := by
    intro j k o o' t ho ho' hj hk ht ht'
    have h1 := range_all (range_all hp2 j (by omega)) k (by omega)
    simp only [ho, ho', Option.bind_some, ht, ht', Bool.or_eq_true, beq_iff_eq] at h1
    rcases h1 with h1 | h1
    · exact h1
    · simp at h1
  have main : ∀ (n : Nat) (l : Array Bool) (a : Act) (w : World), l.size = ops.size → Below w0.heap.size w0 w → a.tmps.size = a0.tmps.size → a.defers = a0.defers →
      (∀ i, c ≤ i → i < ops.size → l.getD i true = false) →
      (∀ t, (∀ j o, ops[j]? = some o → j < c → o.dst = some t → l.getD j true = false) → a.tmps.getD t undef = a0.tmps.getD t undef) →
      (∀ j o t, ops[j]? = some o → j < c → o.dst = some t → l.getD j true = true → (E.getD j (.val undef)).ok w0.heap.size (a.tmps.getD t undef) w) →
      (∀ j o, ops[j]? = some o → l.getD j true = true → ∀ x ∈ o.after, Region.binds .any x = true → l.getD x.on true = true) →
      (∀ (j k : Nat) (oj ok : Oper) (tj tk : Nat), ops[j]? = some oj → ops[k]? = some ok → j < c → k < c → oj.dst = some tj → ok.dst = some tk → tj ∈ ts → tk ∈ ts → j ≠ k → l.getD j true = true → l.getD k true = true → a.tmps.getD tj undef ≠ a.tmps.getD tk undef) →
      l.getD xo true = true → ((List.range ops.size).filter fun i => !l.getD i true).length ≤ n →
      wpAnyH Try.prog .any ops (NoPanic Q) (Below w0.heap.size w0) n l a w := by
    intro n
    induction n with
    | zero =>
      intro l a w hl hb hsz hdf hlast hold hnew hcl hdi hlx hc
      have : c ∈ (List.range ops.size).filter fun i => !l.getD i true := List.mem_filter.2 ⟨List.mem_range.2 hcs, by rw [hlast c (Nat.le_refl _) hcs]; rfl⟩
      have := List.length_pos_of_mem this
      omega
    | succ n ih =>
      intro l a w hl hb hsz hdf hlast hold hnew hcl hdi hlx hc
      have hcount : ∀ i, i < ops.size → l.getD i true = false → ((List.range ops.size).filter fun k => !(l.setIfInBounds i true).getD k true).length ≤ n := by
        intro i hi hli
        have hlt : ((List.range ops.size).filter fun k => !(l.setIfInBounds i true).getD k true).length < ((List.range ops.size).filter fun k => !l.getD k true).length := by
          have e : ((List.range ops.size).filter fun k => !(l.setIfInBounds i true).getD k true) = ((List.range ops.size).filter fun k => !l.getD k true).filter (fun k => k != i) := by
            rw [List.filter_filter]
            refine List.filter_congr fun k hk => ?_
            by_cases hki : k = i
            · subst hki; simp [Array.getD, hl, hi]
            · rw [getD_set_ne true (Ne.symm hki)]; simp [hki]
          rw [e]
          refine List.length_filter_lt_length_iff_exists.2 ⟨i, List.mem_filter.2 ⟨List.mem_range.2 hi, by rw [hli]; rfl⟩, by simp⟩
        omega
      by_cases hdone : ∀ k, k < c → l.getD k true = true
      · have hw := EndsP.at a (l := ops.toList.take c) (j := 0) (a := a0) (he w hb) (fun k ok hk => by
          have hkc : k < c := by
            have := (List.getElem?_eq_some_iff.1 hk).1
            rw [List.length_take] at this
            omega
          have hk' : ops[k]? = some ok := by
            rw [List.getElem?_take_of_lt hkc] at hk
            simpa using hk
          obtain ⟨_, t, hdt, htl⟩ := own k ok hk' hkc
          refine ⟨t, hdt, ?_⟩
          rw [Nat.zero_add]
          exact hnew k ok t hk' hkc hdt (hdone k hkc))
        have hfill : fillsP a (ops.toList.take c) a0 = a := by
          have hz := fillsP_size a (ops.toList.take c) a0
          refine act_ext (by rw [hz.1, hsz]) (fun t => ?_) (by rw [hz.2, hdf])
          refine fillsP_slot a t (ops.toList.take c) a0 hsz ?_
          by_cases hx : ∃ k ok, ops[k]? = some ok ∧ k < c ∧ ok.dst = some t
          · obtain ⟨k, ok, h1, h2, h3⟩ := hx
            exact .inr ⟨k, ok, by rw [List.getElem?_take_of_lt h2]; simpa using h1, h3⟩
          · exact .inl (hold t fun j oj hoj hj hdj => absurd ⟨j, oj, hoj, hj, hdj⟩ hx)
        rw [hfill] at hw
        have hlf : l = flags c ops.size := by
          refine Array.ext (by simp [flags, hl]) fun k h1 h2 => ?_
          have hg : l.getD k true = l[k] := by simp [Array.getD, h1]
          rw [← hg]
          by_cases hkc : k < c
          · rw [hdone k hkc]; simp [flags, hkc]
          · rw [hlast k (by omega) (by omega)]; simp [flags, hkc]
        have hD : Dist ts a := by
          intro t ht u hu htu
          have h1 := List.all_eq_true.1 hall' t ht
          have h2 := List.all_eq_true.1 hall' u hu
          simp only [List.any_eq_true, List.mem_range, beq_iff_eq] at h1 h2
          obtain ⟨j, hj, ej⟩ := h1
          obtain ⟨k, hk, ek⟩ := h2
          obtain ⟨oj, hoj⟩ : ∃ oj, ops[j]? = some oj := ⟨ops[j]'(by omega), by simp⟩
          obtain ⟨ok, hok⟩ : ∃ ok, ops[k]? = some ok := ⟨ops[k]'(by omega), by simp⟩
          rw [hoj] at ej
          rw [hok] at ek
          refine hdi j k oj ok t u hoj hok hj hk ej ek ht hu (fun e => ?_) (hdone j hj) (hdone k hk)
          subst e
          rw [hoj] at hok
          cases hok
          have : some t = some u := by rw [← ej, ← ek]
          exact htu (Option.some.inj this)
        rw [hlf]
        refine hw hD _ ?_
        have hlow : ops.size - c ≤ ((List.range ops.size).filter fun i => !l.getD i true).length := by
          have e : (List.range ops.size).filter (fun i => !l.getD i true) = (List.range ops.size).filter (fun i => decide (c ≤ i)) := by
            refine List.filter_congr fun k hk => ?_
            have hk' : k < ops.size := List.mem_range.1 hk
            by_cases hkc : k < c
            · rw [hdone k hkc]; simp; omega
            · rw [hlast k (by omega) hk']; simp; omega
          rw [e]
          have : ∀ n, c ≤ n → ((List.range n).filter (fun i => decide (c ≤ i))).length = n - c := by
            intro n hn
            induction n with
            | zero => simp
            | succ n ihn =>
              rw [List.range_succ, List.filter_append, List.length_append]
              by_cases h : c ≤ n
              · rw [ihn h]; simp [h]; omega
              · have : c = n + 1 := by omega
                have e2 : (List.range n).filter (fun i => decide (c ≤ i)) = [] := List.filter_eq_nil_iff.2 fun k hk => by
                  have := List.mem_range.1 hk
                  simp; omega
                rw [e2]; simp [h]; omega
          rw [this _ (by omega)]
          exact Nat.le_refl _
        omega
      refine ⟨fun h0 => ?_, fun i hi => ?_⟩
      · exfalso
        obtain ⟨i, h1, h2, h3⟩ := least_false (fun k => l.getD k true) c (hlast c (Nat.le_refl _) hcs)
        have hi : i < ops.size := by omega
        have : i ∈ Region.ready .any ops l := by
          refine mem_ready.2 ⟨h2, ops[i], by simp [hi], fun e he hbd => ?_⟩
          have h4 := range_all hp4 i hi
          simp only [Array.getElem?_eq_getElem hi, Option.map_some, Option.getD_some] at h4
          have h5 := Array.all_eq_true_iff_forall_mem.1 h4 e he
          simp only [hbd, Bool.not_true, Bool.false_or, decide_eq_true_eq] at h5
          have h6 := h3 e.on h5
          simp only [Array.getD] at h6 ⊢
          rw [dif_pos (by omega)] at h6 ⊢
          exact h6
        rw [h0] at this
        cases this
      · obtain ⟨hun, o, ho, hall⟩ := mem_ready.1 hi
        have hilt : i < ops.size := (Array.getElem?_eq_some_iff.1 ho).1
        by_cases hil : i < c
        · obtain ⟨hgd, t, hdt, htl⟩ := own i o ho hil
          have hdo := Steps'.at hs i o (by rw [List.getElem?_take_of_lt (by omega)]; simpa using ho) (by rw [List.length_take]; simp; omega) a w hb (fun t' ht' => hold t' fun j oj hoj hj hdj => by
              have := range_all ht' j (by omega)
              simp only [hoj, Option.bind_some, hdj] at this
              simp at this) (fun k t' hk hdep hkl => by
              obtain ⟨ok, hok⟩ : ∃ ok, ops[k]? = some ok := ⟨ops[k]'(by omega), by simp⟩
              rw [hok] at hk
              rw [Nat.zero_add, ho] at hdep
              simp only [Option.map_some, Option.getD_some, Array.any_eq_true, Bool.and_eq_true, beq_iff_eq] at hdep
              obtain ⟨x, hx, hbd, hon⟩ := hdep
              have hki : k < i := by
                have h4 := range_all hp4 i hilt
                simp only [ho, Option.map_some, Option.getD_some] at h4
                have h5 := Array.all_eq_true_iff_forall_mem.1 h4 _ (Array.getElem_mem hx)
                simp only [hbd, Bool.not_true, Bool.false_or, decide_eq_true_eq] at h5
                omega
              refine hnew k ok t' hok (by omega) hk ?_
              have := hall _ (Array.getElem_mem hx) hbd
              rw [hon] at this
              simp only [Array.getD] at this ⊢
              rw [dif_pos (by omega)] at this ⊢
              exact this)
          rw [Nat.zero_add] at hdo
          unfold wpOp
          rw [ho]
          simp only [wanted_plain hgd, if_true]
          suffices cont : ∀ v w', (E.getD i (.val undef)).ok w0.heap.size v w' → Below w.heap.size w w' → (t ∈ ts → ∃ g, v = .pointer (some ⟨g, 0, none⟩) ∧ w.heap.size ≤ g) → Below w0.heap.size w0 w' ∧ wpAnyH Try.prog .any ops (NoPanic Q) (Below w0.heap.size w0) n (l.setIfInBounds i true) (a.put o.dst v) w' by
            by_cases htt : t ∈ ts
            · obtain ⟨ty, vs, m, a1, a2, a3⟩ := Als.at hts i o t (by rw [List.getElem?_take_of_lt hil]; simpa using ho) hdt htt
              rw [Nat.zero_add] at a2
              have hd2 : Does w.heap.size (.blk ty vs) a.eval o w := Does.alloc ty a1 m vs a3 (Nat.le_refl _)
              refine .inl (hd2.wp fun v w' hv hbw => ?_)
              obtain ⟨g, e1, e2, e3⟩ := hv
              exact cont v w' (by rw [a2]; exact ⟨g, e1, Nat.le_trans hb.size e2, e3⟩) hbw fun _ => ⟨g, e1, e2⟩
            · exact .inl (hdo.wp fun v w' hv hbw => cont v w' hv hbw fun h => absurd h htt)
          intro v w' hv hbw hgv
          rw [hdt]
          refine ⟨below_chain hb hbw hb.size, ih _ _ _ (by simpa using hl) (below_chain hb hbw hb.size) (by simpa [Act.put] using hsz) (by simpa [Act.put] using hdf) ?_ ?_ ?_ ?_ ?_ (by rw [getD_set_ne true (fun e => by rw [e, hlx] at hun; cases hun)]; exact hlx) (hcount i hilt hun)⟩
          · intro i' h1 h2; rw [getD_set_ne true (by omega)]; exact hlast i' h1 h2
          · intro t' ht'
            have htt : t ≠ t' := fun e => by
              have := ht' i o ho hil (by rw [hdt, e])
              simp [Array.getD, hl, hilt] at this
            simp only [Act.put, Array.getD_eq_getD_getElem?, Array.getElem?_setIfInBounds, if_neg htt]
            rw [← Array.getD_eq_getD_getElem?, ← Array.getD_eq_getD_getElem?]
            refine hold t' fun j oj hoj hj hdj => ?_
            have h1 := ht' j oj hoj hj hdj
            by_cases hji : i = j
            · subst hji; exact hun
            · rwa [getD_set_ne true hji] at h1
          · intro j oj t' hoj hj hdj hlj
            by_cases hji : i = j
            · subst hji
              rw [ho] at hoj
              cases hoj
              rw [hdt] at hdj
              cases hdj
              have : (a.put (some t) v).tmps.getD t undef = v := by simp [Act.put, Array.getD, hsz, htl]
              rw [this]; exact hv
            · rw [getD_set_ne true hji] at hlj
              have htt : t ≠ t' := fun e => hji (apart i j o oj t ho hoj hil hj hdt (by rw [hdj, e]))
              have h1 := hnew j oj t' hoj hj hdj hlj
              have : (a.put (some t) v).tmps.getD t' undef = a.tmps.getD t' undef := by
                simp only [Act.put, Array.getD_eq_getD_getElem?, Array.getElem?_setIfInBounds, if_neg htt]
              rw [this]
              exact Exp.ok_later _ hbw h1
          · intro j oj hoj hlj x hx hbx
            have hdone : l.getD x.on true = true := by
              by_cases hji : i = j
              · subst hji
                rw [ho] at hoj
                cases hoj
                have := hall _ hx hbx
                by_cases hxl : x.on < l.size
                · simp only [Array.getD] at this ⊢
                  rw [dif_pos hxl] at this ⊢
                  exact this
                · simp [Array.getD, hxl]
              · rw [getD_set_ne true hji] at hlj
                exact hcl j oj hoj hlj x hx hbx
            by_cases hxi : i = x.on
            · rw [← hxi, hun] at hdone; cases hdone
            · rw [getD_set_ne true hxi]; exact hdone
          · have same : ∀ (j : Nat) (oj : Oper) (tj : Nat), ops[j]? = some oj → j < c → oj.dst = some tj → i ≠ j → (a.put (some t) v).tmps.getD tj undef = a.tmps.getD tj undef := by
              intro j oj tj hoj hj hdj hij
              have htt : t ≠ tj := fun e => hij (apart i j o oj t ho hoj hil hj hdt (by rw [hdj, e]))
              simp only [Act.put, Array.getD_eq_getD_getElem?, Array.getElem?_setIfInBounds, if_neg htt]
            have mine : (a.put (some t) v).tmps.getD t undef = v := by simp [Act.put, Array.getD, hsz, htl]
            have old : ∀ (k : Nat) (ok : Oper) (tk : Nat), ops[k]? = some ok → k < c → ok.dst = some tk → tk ∈ ts → l.getD k true = true → ∀ g, w.heap.size ≤ g → a.tmps.getD tk undef ≠ .pointer (some ⟨g, 0, none⟩) := by
              intro k ok tk hok hk hdk htk hlk g hg e
              obtain ⟨ty, vs, m, a1, a2, a3⟩ := Als.at hts k ok tk (by rw [List.getElem?_take_of_lt hk]; simpa using hok) hdk htk
              rw [Nat.zero_add] at a2
              have h1 := hnew k ok tk hok hk hdk hlk
              rw [a2] at h1
              obtain ⟨g', e1, _, e3⟩ := h1
              rw [e1] at e
              have hg' : g' = g := by simpa using e
              have := e3.lt
              omega
            intro j k oj ok tj tk hoj hok hj hk hdj hdk htj htk hjk hlj hlk
            by_cases hij : i = j
            · subst hij
              rw [ho] at hoj
              cases hoj
              rw [hdt] at hdj
              cases hdj
              rw [mine, same k ok tk hok hk hdk hjk]
              rw [getD_set_ne true hjk] at hlk
              obtain ⟨g, e1, e2⟩ := hgv htj
              rw [e1]
              exact (old k ok tk hok hk hdk htk hlk g e2).symm
            · rw [getD_set_ne true hij] at hlj
              rw [same j oj tj hoj hj hdj hij]
              by_cases hik : i = k
              · subst hik
                rw [ho] at hok
                cases hok
                rw [hdt] at hdk
                cases hdk
                rw [mine]
                obtain ⟨g, e1, e2⟩ := hgv htk
                rw [e1]
                exact old j oj tj hoj hj hdj htj hlj g e2
              · rw [getD_set_ne true hik] at hlk
                rw [same k ok tk hok hk hdk hik]
                exact hdi j k oj ok tj tk hoj hok hj hk hdj hdk htj htk hjk hlj hlk
        · exfalso
          refine hdone fun k hk => ?_
          have h1 := range_all hp3 i hilt
          simp only [hil, decide_false, Bool.false_or] at h1
          have h2 := range_all h1 k hk
          by_cases hkx : k = xo
          · rw [hkx]; exact hlx
          have h2 : leansOn ops ops.size i k = true := by simpa [hkx] using h2
          refine behind_done hcl (fun x hx hbx => ?_) ho h2
          have := hall _ hx hbx
          by_cases hxl : x.on < l.size
          · simp only [Array.getD] at this ⊢
            rw [dif_pos hxl] at this ⊢
            exact this
          · simp [Array.getD, hxl]
  have hxs : xo < ops.size := by omega
  obtain ⟨_, tx, hdx, htxl⟩ := own xo ox hox hxc
  have hl1 : ∀ j, j < ops.size → ((Array.replicate ops.size false).setIfInBounds xo true).getD j true = true → j = xo := by
    intro j hj h
    by_cases e : j = xo
    · exact e
    · rw [getD_set_ne true (Ne.symm e)] at h
      simp [Array.getD, hj] at h
  have hlx1 : ((Array.replicate ops.size false).setIfInBounds xo true).getD xo true = true := by simp [Array.getD, hxs]
  refine wp_region_noPanic (wp_region_held (S := Below w0.heap.size w0) hm ?_)
  suffices H : ∀ m, m = ops.size → wpAnyH Try.prog .any ops (NoPanic Q) (Below w0.heap.size w0) m (Array.replicate ops.size false) a0 { w0 with drawn := w0.drawn + 1 } from H _ rfl
  intro m hm'
  cases m with
  | zero => omega
  | succ f =>
    have hB : Below w0.heap.size w0 { w0 with drawn := w0.drawn + 1 } := ⟨rfl, rfl, rfl, Nat.le_refl _, fun _ _ => rfl⟩
    refine wpAnyH_take hox hns hfx hrx (fun _ _ _ h => h) hyx hB ?_
    rw [hdx]
    refine main f _ _ _ (by simp) hB (by simp [Act.put]) rfl (fun i h1 h2 => ?_) (fun t ht => ?_) (fun j o t ho hj hd hl => ?_) (fun j o ho hl x hx hbx => ?_) (fun j k oj ok tj tk hoj hok hj hk _ _ _ _ hjk hl hlk => ?_) hlx1 ?_
    · rw [getD_set_ne true (by omega)]; simp [Array.getD, h2]
    · have htt : tx ≠ t := fun e => by
        have := ht xo ox hox hxc (by rw [hdx, e])
        rw [hlx1] at this; cases this
      simp only [Act.put, Array.getD_eq_getD_getElem?, Array.getElem?_setIfInBounds, if_neg htt]
    · have e := hl1 j (by omega) hl
      subst e
      rw [hox] at ho
      cases ho
      rw [hdx] at hd
      cases hd
      have : (a0.put (some tx) vx).tmps.getD tx undef = vx := by simp [Act.put, Array.getD, htxl]
      rw [this, hvx]
      exact rfl
    · have hjs : j < ops.size := (Array.getElem?_eq_some_iff.1 ho).1
      have e := hl1 j hjs hl
      subst e
      obtain ⟨_, o', ho', hall⟩ := mem_ready.1 (by simpa using hrx)
      rw [ho] at ho'
      cases ho'
      have := hall _ hx hbx
      by_cases hxi : j = x.on
      · rw [← hxi]; exact hlx1
      · rw [getD_set_ne true hxi]
        by_cases hxl : x.on < (Array.replicate ops.size false).size
        · simp only [Array.getD] at this ⊢
          rw [dif_pos hxl] at this ⊢
          exact this
        · simp [Array.getD]; simp at hxl; omega
    · exact absurd ((hl1 j (by omega) hl).trans (hl1 k (by omega) hlk).symm) hjk
    · have hlt : ((List.range ops.size).filter fun k => !((Array.replicate ops.size false).setIfInBounds xo true).getD k true).length < ((List.range ops.size).filter fun k => !(Array.replicate ops.size false).getD k true).length := by
        have e : ((List.range ops.size).filter fun k => !((Array.replicate ops.size false).setIfInBounds xo true).getD k true) = ((List.range ops.size).filter fun k => !(Array.replicate ops.size false).getD k true).filter (fun k => k != xo) := by
          rw [List.filter_filter]
          refine List.filter_congr fun k hk => ?_
          by_cases hki : k = xo
          · subst hki; simp [Array.getD, hxs]
          · rw [getD_set_ne true (Ne.symm hki)]; simp [hki]
        rw [e]
        exact List.length_filter_lt_length_iff_exists.2 ⟨xo, List.mem_filter.2 ⟨List.mem_range.2 hxs, by simp [Array.getD, hxs]⟩, by simp⟩
      have h0 := List.length_filter_le (fun i => !(Array.replicate ops.size false).getD i true) (List.range ops.size)
      rw [List.length_range] at h0
      omega
end Go.Proofs.Ytnifolefhelmcaa
