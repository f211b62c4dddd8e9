/- Regions that draw, with guards ('&&', '||'): one walk for all orders. -/
import Derived.Test.YtmgkjldjeomcmaaDoorRInv
namespace Go.Proofs.YtmgkjldjeomcmaaDoor
open Go.RowKit
set_option linter.unusedVariables false
set_option linter.unusedSimpArgs false

/-- As plainOps; an operation may have a guard, for which it waits. -/
def guardOps (ops : Array Oper) : Bool :=
  (List.range (ops.size - 1)).all (fun j => ((ops[j]?).map (fun o => (match o.guard with | none => true | some (k, _) => decide (k + 1 < ops.size) && o.after.any (fun e => Region.binds .any e && e.on == k)) && o.dst.isSome)).getD false) &&
  (List.range (ops.size - 1)).all (fun j => (List.range (ops.size - 1)).all fun k => j == k || ((ops[j]?).bind (·.dst)) != ((ops[k]?).bind (·.dst))) &&
  ((ops[ops.size - 1]?).map (fun o => o.guard.isNone && (List.range (ops.size - 1)).all (fun k => o.after.any fun e => Region.binds .any e && e.on == k))).getD false &&
  (List.range ops.size).all (fun j => ((ops[j]?).map (fun o => o.after.all fun e => !Region.binds .any e || decide (e.on < j))).getD false)
/-- What each guard asks is expected. -/
def Gds (E : List Exp) : List Oper → Prop
  | [] => True
  | o :: r => (match o.guard with | none => True | some (k, b) => E.getD k (.val undef) = .val (.bool b)) ∧ Gds E r
theorem Gds.at {E : List Exp} : ∀ {l : List Oper}, Gds E l → ∀ (i : Nat) (o : Oper), l[i]? = some o → ∀ k b, o.guard = some (k, b) → E.getD k (.val undef) = .val (.bool b)
  | [], _, i, o, h, _, _, _ => by cases h
  | x :: r, h, 0, o, ho, k, b, hg => by
    simp at ho; subst ho
    have := h.1
    rw [hg] at this
    exact this
  | x :: r, h, i + 1, o, ho, k, b, hg => Gds.at h.2 i o (by simpa using ho) k b hg
theorem region_invG {id : Nat} {ops : Array Oper} {Q : Exit → Act → World → Prop} {a0 : Act} {w0 : World} (E : List Exp) (hm : Tryd.prog.follows .mixedOrders = true) (hp : guardOps ops = true) (hG : Gds E ops.toList)
    (hin : (List.range (ops.size - 1)).all (fun j => ((ops[j]?).map (fun o => (o.dst.map (fun t => decide (t < a0.tmps.size))).getD false)).getD false) = true)
    (hs : Steps' w0.heap.size ops E a0 w0 0 ops.toList) (he : ∀ w, Below w0.heap.size w0 w → Ends w0.heap.size E Q w 0 ops.toList a0) : (Code.region id ops true).wp Tryd.prog Q a0 w0 := by
  simp only [guardOps, Bool.and_eq_true] at hp
  obtain ⟨⟨⟨hp1, hp2⟩, hp3⟩, hp4⟩ := hp
  have hne : ops.size - 1 < ops.size := by
    rcases Nat.eq_zero_or_pos ops.size with h | h
    · rw [Array.getElem?_eq_none (by omega)] at hp3; simp at hp3
    · omega
  have own : ∀ j o, ops[j]? = some o → j + 1 < ops.size → (∀ k b, o.guard = some (k, b) → k + 1 < ops.size ∧ o.after.any (fun e => Region.binds .any e && e.on == k) = true) ∧ ∃ t, o.dst = some t ∧ t < a0.tmps.size := by
    intro j o ho hj
    have h1 := range_all hp1 j (by omega)
    have h2 := range_all hin j (by omega)
    simp only [ho, Option.map_some, Option.getD_some, Bool.and_eq_true] at h1 h2
    obtain ⟨t, ht⟩ := Option.isSome_iff_exists.1 h1.2
    rw [ht] at h2
    refine ⟨fun k b hg => ?_, t, ht, by simpa using h2⟩
    have h3 := h1.1
    rw [hg] at h3
    simpa using h3
  have apart : ∀ j k o o' t, ops[j]? = some o → ops[k]? = some o' → j + 1 < ops.size → k + 1 < ops.size → o.dst = some t → o'.dst = some t → j = k := by
    intro j k o o' t ho ho' hj hk ht ht'
    have h1 := range_all (range_all hp2 j (by omega)) k (by omega)
    simp only [ho, ho', Option.bind_some, ht, ht', Bool.or_eq_true, beq_iff_eq] at h1
    rcases h1 with h1 | h1
    · exact h1
    · simp at h1
  refine wp_region_noPanic (wp_region_any hm ?_)
  have main : ∀ (n : Nat) (l : Array Bool) (a : Act) (w : World), l.size = ops.size → Below w0.heap.size w0 w → a.tmps.size = a0.tmps.size → a.defers = a0.defers →
      l.getD (ops.size - 1) true = false →
      (∀ t, (∀ j o, ops[j]? = some o → j + 1 < ops.size → o.dst = some t → l.getD j true = false) → a.tmps.getD t undef = a0.tmps.getD t undef) →
      (∀ j o t, ops[j]? = some o → j + 1 < ops.size → o.dst = some t → l.getD j true = true → (E.getD j (.val undef)).ok w0.heap.size (a.tmps.getD t undef) w) →
      ((List.range ops.size).filter fun i => !l.getD i true).length ≤ n →
      wpAny Tryd.prog .any ops (NoPanic Q) n l a w := by
    intro n
    induction n with
    | zero =>
      intro l a w hl hb hsz hdf hlast hold hnew hc
      have : ops.size - 1 ∈ (List.range ops.size).filter fun i => !l.getD i true := List.mem_filter.2 ⟨List.mem_range.2 hne, by rw [hlast]; rfl⟩
      have := List.length_pos_of_mem this
      omega
    | succ n ih =>
      intro l a w hl hb hsz hdf hlast hold hnew hc
      have hcount : ∀ i, i < ops.size → l.getD i true = false → ((List.range ops.size).filter fun k => !(l.setIfInBounds i true).getD k true).length ≤ n := by
        intro i hi hli
        have hlt : ((List.range ops.size).filter fun k => !(l.setIfInBounds i true).getD k true).length < ((List.range ops.size).filter fun k => !l.getD k true).length := by
          have e : ((List.range ops.size).filter fun k => !(l.setIfInBounds i true).getD k true) = ((List.range ops.size).filter fun k => !l.getD k true).filter (fun k => k != i) := by
            rw [List.filter_filter]
            refine List.filter_congr fun k hk => ?_
            by_cases hki : k = i
            · subst hki; simp [Array.getD, hl, hi]
            · rw [getD_set_ne true (Ne.symm hki)]; simp [hki]
          rw [e]
          refine List.length_filter_lt_length_iff_exists.2 ⟨i, List.mem_filter.2 ⟨List.mem_range.2 hi, by rw [hli]; rfl⟩, by simp⟩
        omega
      refine ⟨fun h0 => ?_, fun i hi => ?_⟩
      · exfalso
        obtain ⟨i, h1, h2, h3⟩ := least_false (fun k => l.getD k true) (ops.size - 1) hlast
        have hi : i < ops.size := by omega
        have : i ∈ Region.ready .any ops l := by
          refine mem_ready.2 ⟨h2, ops[i], by simp [hi], fun e he hbd => ?_⟩
          have h4 := range_all hp4 i hi
          simp only [Array.getElem?_eq_getElem hi, Option.map_some, Option.getD_some] at h4
          have h5 := Array.all_eq_true_iff_forall_mem.1 h4 e he
          simp only [hbd, Bool.not_true, Bool.false_or, decide_eq_true_eq] at h5
          have h6 := h3 e.on h5
          simp only [Array.getD] at h6 ⊢
          rw [dif_pos (by omega)] at h6 ⊢
          exact h6
        rw [h0] at this
        cases this
      · obtain ⟨hun, o, ho, hall⟩ := mem_ready.1 hi
        have hilt : i < ops.size := (Array.getElem?_eq_some_iff.1 ho).1
        by_cases hil : i + 1 < ops.size
        · obtain ⟨hgd, t, hdt, htl⟩ := own i o ho hil
          have hdo := Steps'.at hs i o (by simpa using ho) (by simpa using hil) a w hb (fun t' ht' => hold t' fun j oj hoj hj hdj => by
              have := range_all ht' j (by omega)
              simp only [hoj, Option.bind_some, hdj] at this
              simp at this) (fun k t' hk hdep hkl => by
              obtain ⟨ok, hok⟩ : ∃ ok, ops[k]? = some ok := ⟨ops[k]'(by omega), by simp⟩
              rw [hok] at hk
              refine hnew k ok t' hok hkl hk ?_
              rw [Nat.zero_add, ho] at hdep
              simp only [Option.map_some, Option.getD_some, Array.any_eq_true, Bool.and_eq_true, beq_iff_eq] at hdep
              obtain ⟨x, hx, hbd, hon⟩ := hdep
              have := hall _ (Array.getElem_mem hx) hbd
              rw [hon] at this
              simp only [Array.getD] at this ⊢
              rw [dif_pos (by omega)] at this ⊢
              exact this)
          rw [Nat.zero_add] at hdo
          have hwant : Region.wanted o (yielded ops a.tmps) = true := by
            cases hg : o.guard with
            | none => simp [Region.wanted, hg]
            | some kb =>
              obtain ⟨k, b⟩ := kb
              obtain ⟨hk1, hk2⟩ := hgd k b hg
              obtain ⟨ok, hok⟩ : ∃ ok, ops[k]? = some ok := ⟨ops[k]'(by omega), by simp⟩
              obtain ⟨_, tk, htk, htl'⟩ := own k ok hok hk1
              simp only [Array.any_eq_true, Bool.and_eq_true, beq_iff_eq] at hk2
              obtain ⟨x, hx, hbd, hon⟩ := hk2
              have h1 := hall _ (Array.getElem_mem hx) hbd
              rw [hon] at h1
              have h2 : l.getD k true = true := by
                simp only [Array.getD] at h1 ⊢
                rw [dif_pos (by omega)] at h1 ⊢
                exact h1
              have h3 := hnew k ok tk hok hk1 htk h2
              rw [Gds.at hG i o (by simpa using ho) k b hg] at h3
              have h4 : a.tmps.getD tk undef = .bool b := h3
              have h5 : a.tmps[tk]? = some (.bool b) := by
                have hlt : tk < a.tmps.size := by omega
                simp only [Array.getD, hlt, dif_pos] at h4
                rw [Array.getElem?_eq_getElem hlt]
                exact congrArg some h4
              simp [Region.wanted, hg, yielded, hok, htk, h5]
          unfold wpOp
          rw [ho]
          simp only [hwant, if_true]
          refine .inl (hdo.wp fun v w' hv hbw => ?_)
          rw [hdt]
          refine ih _ _ _ (by simpa using hl) (below_chain hb hbw hb.size) (by simpa [Act.put] using hsz) (by simpa [Act.put] using hdf) ?_ ?_ ?_ (hcount i hilt hun)
          · rw [getD_set_ne true (by omega)]; exact hlast
          · intro t' ht'
            have htt : t ≠ t' := fun e => by
              have := ht' i o ho hil (by rw [hdt, e])
              simp [Array.getD, hl, hilt] at this
            simp only [Act.put, Array.getD_eq_getD_getElem?, Array.getElem?_setIfInBounds, if_neg htt]
            rw [← Array.getD_eq_getD_getElem?, ← Array.getD_eq_getD_getElem?]
            refine hold t' fun j oj hoj hj hdj => ?_
            have h1 := ht' j oj hoj hj hdj
            by_cases hji : i = j
            · subst hji; exact hun
            · rwa [getD_set_ne true hji] at h1
          · intro j oj t' hoj hj hdj hlj
            by_cases hji : i = j
            · subst hji
              rw [ho] at hoj
              cases hoj
              rw [hdt] at hdj
              cases hdj
              have : (a.put (some t) v).tmps.getD t undef = v := by simp [Act.put, Array.getD, hsz, htl]
              rw [this]; exact hv
            · rw [getD_set_ne true hji] at hlj
              have htt : t ≠ t' := fun e => hji (apart i j o oj t ho hoj hil hj hdt (by rw [hdj, e]))
              have h1 := hnew j oj t' hoj hj hdj hlj
              have : (a.put (some t) v).tmps.getD t' undef = a.tmps.getD t' undef := by
                simp only [Act.put, Array.getD_eq_getD_getElem?, Array.getElem?_setIfInBounds, if_neg htt]
              rw [this]
              exact Exp.ok_later _ hbw h1
        · obtain rfl : i = ops.size - 1 := by omega
          simp only [ho, Option.map_some, Option.getD_some, Bool.and_eq_true] at hp3
          have hlisted : ∀ k, k + 1 < ops.size → l.getD k true = true := by
            intro k hk
            have h1 := range_all hp3.2 k (by omega)
            simp only [Array.any_eq_true, Bool.and_eq_true, beq_iff_eq] at h1
            obtain ⟨x, hx, hbd, hon⟩ := h1
            have := hall _ (Array.getElem_mem hx) hbd
            rw [hon] at this
            simp only [Array.getD] at this ⊢
            rw [dif_pos (by omega)] at this ⊢
            exact this
          obtain ⟨o', ho', hw⟩ := Ends.at a (l := ops.toList) (j := 0) (a := a0) (fun h => by rw [Array.toList_eq_nil_iff] at h; subst h; simp at hne) (he w hb) (fun k ok hk hkl => by
            have hk' : ops[k]? = some ok := by simpa using hk
            have hkl' : k + 1 < ops.size := by simpa using hkl
            obtain ⟨_, t, hdt, htl⟩ := own k ok hk' hkl'
            refine ⟨t, hdt, ?_⟩
            rw [Nat.zero_add]
            exact hnew k ok t hk' hkl' hdt (hlisted k hkl'))
          have hoo : o' = o := by
            rw [List.getLast?_eq_getElem?] at ho'
            have h2 : ops[ops.size - 1]? = some o' := by simpa using ho'
            rw [ho] at h2
            exact (Option.some.inj h2).symm
          subst hoo
          have hfill : fills a ops.toList a0 = a := by
            have hz := fills_size a ops.toList a0
            refine act_ext (by rw [hz.1, hsz]) (fun t => ?_) (by rw [hz.2, hdf])
            refine fills_slot a t ops.toList a0 hsz ?_
            by_cases hx : ∃ k ok, ops[k]? = some ok ∧ k + 1 < ops.size ∧ ok.dst = some t
            · obtain ⟨k, ok, h1, h2, h3⟩ := hx
              exact .inr ⟨k, ok, by simpa using h1, by simpa using h2, h3⟩
            · exact .inl (hold t fun j oj hoj hj hdj => absurd ⟨j, oj, hoj, hj, hdj⟩ hx)
          rw [hfill] at hw
          unfold wpOp
          rw [ho]
          simp only [wanted_plain hp3.1, if_true]
          refine .inl (Oper.wp_mono (fun a' w' hq => wpAny_done ?_ (NoPanic.normal hq) _) hw)
          refine List.filter_eq_nil_iff.2 fun k hk => ?_
          have hk' : k < ops.size := List.mem_range.1 hk
          have : (l.setIfInBounds (ops.size - 1) true).getD k true = true := by
            by_cases hkl : k + 1 < ops.size
            · rw [getD_set_ne true (by omega)]; exact hlisted k hkl
            · obtain rfl : k = ops.size - 1 := by omega
              simp [Array.getD, hl, hne]
          rw [this]; simp
  refine main _ _ _ _ (by simp) ⟨rfl, rfl, rfl, Nat.le_refl _, fun _ _ => rfl⟩ rfl rfl (by simp [Array.getD, hne]) (fun t _ => rfl) (fun j o t ho hj hd hl => ?_) ?_
  · exfalso
    have : j < ops.size := by omega
    simp [Array.getD, this] at hl
  · have := List.length_filter_le (fun i => !(Array.replicate ops.size false).getD i true) (List.range ops.size)
    simpa using this
end Go.Proofs.YtmgkjldjeomcmaaDoor
