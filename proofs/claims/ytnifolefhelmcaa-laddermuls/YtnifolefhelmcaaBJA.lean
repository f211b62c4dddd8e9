import Derived.Test.YtnifolefhelmcaaRInv
import Derived.Test.YtnifolefhelmcaaSBase
import Derived.Test.YtnifolefhelmcaaFAdd
import Derived.Test.YtnifolefhelmcaaFBytes
import Derived.Laws.StructEq
import Derived.Lib.SmallJoins
import Derived.Test.YtnifolefhelmcaaFOf
import Derived.Test.YtnifolefhelmcaaFMul
import Derived.Test.YtnifolefhelmcaaFBits
import Derived.Test.YtnifolefhelmcaaFPick
import Derived.Test.YtnifolefhelmcaaFSquare
import Derived.Test.YtnifolefhelmcaaFRing
import Derived.Test.YtnifolefhelmcaaRInvP
import Derived.Test.YtnifolefhelmcaaFInvM
namespace Go.Proofs.Ytnifolefhelmcaa
open Go.RowKit
set_option linter.unusedVariables false
set_option linter.unusedSimpArgs false

/-- As plainOps; an operation may have a guard, for which it waits. -/
def guardOps (ops : Array Oper) : Bool :=
  (List.range (ops.size - 1)).all (fun j => ((ops[j]?).map (fun o => (match o.guard with | none => true | some (k, _) => decide (k + 1 < ops.size) && o.after.any (fun e => Region.binds .any e && e.on == k)) && o.dst.isSome)).getD false) &&
  (List.range (ops.size - 1)).all (fun j => (List.range (ops.size - 1)).all fun k => j == k || ((ops[j]?).bind (·.dst)) != ((ops[k]?).bind (·.dst))) &&
  ((ops[ops.size - 1]?).map (fun o => o.guard.isNone && (List.range (ops.size - 1)).all (fun k => o.after.any fun e => Region.binds .any e && e.on == k))).getD false &&
  (List.range ops.size).all (fun j => ((ops[j]?).map (fun o => o.after.all fun e => !Region.binds .any e || decide (e.on < j))).getD false)
/-- What each guard asks is expected. -/
def Gds (E : List Exp) : List Oper → Prop
  | [] => True
  | o :: r => (match o.guard with | none => True | some (k, b) => E.getD k (.val undef) = .val (.bool b)) ∧ Gds E r
theorem Gds.at {E : List Exp} : ∀ {l : List Oper}, Gds E l → ∀ (i : Nat) (o : Oper), l[i]? = some o → ∀ k b, o.guard = some (k, b) → E.getD k (.val undef) = .val (.bool b)
  | [], _, i, o, h, _, _, _ => by cases h
  | x :: r, h, 0, o, ho, k, b, hg => by
    simp at ho; subst ho
    have := h.1
    rw [hg] at this
    exact this
  | x :: r, h, i + 1, o, ho, k, b, hg => Gds.at h.2 i o (by simpa using ho) k b hg
theorem region_invG {id : Nat} {ops : Array Oper} {Q : Exit → Act → World → Prop} {a0 : Act} {w0 : World} (E : List Exp) (hm : Try.prog.follows .mixedOrders = true) (hp : guardOps ops = true) (hG : Gds E ops.toList)
    (hin : (List.range (ops.size - 1)).all (fun j => ((ops[j]?).map (fun o => (o.dst.map (fun t => decide (t < a0.tmps.size))).getD false)).getD false) = true)
    (hs : Steps' w0.heap.size ops E a0 w0 0 ops.toList) (he : ∀ w, Below w0.heap.size w0 w → Ends w0.heap.size E Q w 0 ops.toList a0) : (Code.region id ops true).wp Try.prog Q a0 w0 := by
  simp only [guardOps, Bool.and_eq_true] at hp
  obtain ⟨⟨⟨hp1, hp2⟩, hp3⟩, hp4⟩ := hp
  have hne : ops.size - 1 < ops.size := by
    rcases Nat.eq_zero_or_pos ops.size with h | h
    · rw [Array.getElem?_eq_none (by omega)] at hp3; simp at hp3
    · omega
  have own : ∀ j o, ops[j]? = some o → j + 1 < ops.size → (∀ k b, o.guard = some (k, b) → k + 1 < ops.size ∧ o.after.any (fun e => Region.binds .any e && e.on == k) = true) ∧ ∃ t, o.dst = some t ∧ t < a0.tmps.size := by
    intro j o ho hj
    have h1 := range_all hp1 j (by omega)
    have h2 := range_all hin j (by omega)
    simp only [ho, Option.map_some, Option.getD_some, Bool.and_eq_true] at h1 h2
    obtain ⟨t, ht⟩ := Option.isSome_iff_exists.1 h1.2
    rw [ht] at h2
    refine ⟨fun k b hg => ?_, t, ht, by simpa using h2⟩
    have h3 := h1.1
    rw [hg] at h3
    simpa using h3
  have apart : ∀ j k o o' t, ops[j]? = some o → ops[k]? = some o' → j + 1 < ops.size → k + 1 < ops.size → o.dst = some t → o'.dst = some t → j = k := by
    intro j k o o' t ho ho' hj hk ht ht'
    have h1 := range_all (range_all hp2 j (by omega)) k (by omega)
    simp only [ho, ho', Option.bind_some, ht, ht', Bool.or_eq_true, beq_iff_eq] at h1
    rcases h1 with h1 | h1
    · exact h1
    · simp at h1
  refine wp_region_noPanic (wp_region_any hm ?_)
  have main : ∀ (n : Nat) (l : Array Bool) (a : Act) (w : World), l.size = ops.size → Below w0.heap.size w0 w → a.tmps.size = a0.tmps.size → a.defers = a0.defers →
      l.getD (ops.size - 1) true = false →
      (∀ t, (∀ j o, ops[j]? = some o → j + 1 < ops.size → o.dst = some t → l.getD j true = false) → a.tmps.getD t undef = a0.tmps.getD t undef) →
      (∀ j o t, ops[j]? = some o → j + 1 < ops.size → o.dst = some t → l.getD j true = true → (E.getD j (.val undef)).ok w0.heap.size (a.tmps.getD t undef) w) →
      ((List.range ops.size).filter fun i => !l.getD i true).length ≤ n →
      wpAny Try.prog .any ops (NoPanic Q) n l a w := by
    intro n
    induction n with
    | zero =>
      intro l a w hl hb hsz hdf hlast hold hnew hc
      have : ops.size - 1 ∈ (List.range ops.size).filter fun i => !l.getD i true := List.mem_filter.2 ⟨List.mem_range.2 hne, by rw [hlast]; rfl⟩
      have := List.length_pos_of_mem this
      omega
    | succ n ih =>
      intro l a w hl hb hsz hdf hlast hold hnew hc
      have hcount : ∀ i, i < ops.size → l.getD i true = false → ((List.range ops.size).filter fun k => !(l.setIfInBounds i true).getD k true).length ≤ n := by
        intro i hi hli
        have hlt : ((List.range ops.size).filter fun k => !(l.setIfInBounds i true).getD k true).length < ((List.range ops.size).filter fun k => !l.getD k true).length := by
          have e : ((List.range ops.size).filter fun k => !(l.setIfInBounds i true).getD k true) = ((List.range ops.size).filter fun k => !l.getD k true).filter (fun k => k != i) := by
            rw [List.filter_filter]
            refine List.filter_congr fun k hk => ?_
            by_cases hki : k = i
            · subst hki; simp [Array.getD, hl, hi]
            · rw [getD_set_ne true (Ne.symm hki)]; simp [hki]
          rw [e]
          refine List.length_filter_lt_length_iff_exists.2 ⟨i, List.mem_filter.2 ⟨List.mem_range.2 hi, by rw [hli]; rfl⟩, by simp⟩
        omega
      refine ⟨fun h0 => ?_, fun i hi => ?_⟩
      · exfalso
        obtain ⟨i, h1, h2, h3⟩ := least_false (fun k => l.getD k true) (ops.size - 1) hlast
        have hi : i < ops.size := by omega
        have : i ∈ Region.ready .any ops l := by
          refine mem_ready.2 ⟨h2, ops[i], by simp [hi], fun e he hbd => ?_⟩
          have h4 := range_all hp4 i hi
          simp only [Array.getElem?_eq_getElem hi, Option.map_some, Option.getD_some] at h4
          have h5 := Array.all_eq_true_iff_forall_mem.1 h4 e he
          simp only [hbd, Bool.not_true, Bool.false_or, decide_eq_true_eq] at h5
          have h6 := h3 e.on h5
          simp only [Array.getD] at h6 ⊢
          rw [dif_pos (by omega)] at h6 ⊢
          exact h6
        rw [h0] at this
        cases this
      · obtain ⟨hun, o, ho, hall⟩ := mem_ready.1 hi
        have hilt : i < ops.size := (Array.getElem?_eq_some_iff.1 ho).1
        by_cases hil : i + 1 < ops.size
        · obtain ⟨hgd, t, hdt, htl⟩ := own i o ho hil
          have hdo := Steps'.at hs i o (by simpa using ho) (by simpa using hil) a w hb (fun t' ht' => hold t' fun j oj hoj hj hdj => by
              have := range_all ht' j (by omega)
              simp only [hoj, Option.bind_some, hdj] at this
              simp at this) (fun k t' hk hdep hkl => by
              obtain ⟨ok, hok⟩ : ∃ ok, ops[k]? = some ok := ⟨ops[k]'(by omega), by simp⟩
              rw [hok] at hk
              refine hnew k ok t' hok hkl hk ?_
              rw [Nat.zero_add, ho] at hdep
              simp only [Option.map_some, Option.getD_some, Array.any_eq_true, Bool.and_eq_true, beq_iff_eq] at hdep
              obtain ⟨x, hx, hbd, hon⟩ := hdep
              have := hall _ (Array.getElem_mem hx) hbd
              rw [hon] at this
              simp only [Array.getD] at this ⊢
              rw [dif_pos (by omega)] at this ⊢
              exact this)
          rw [Nat.zero_add] at hdo
          have hwant : Region.wanted o (yielded ops a.tmps) = true := by
            cases hg : o.guard with
            | none => simp [Region.wanted, hg]
            | some kb =>
              obtain ⟨k, b⟩ := kb
              obtain ⟨hk1, hk2⟩ := hgd k b hg
              obtain ⟨ok, hok⟩ : ∃ ok, ops[k]? = some ok := ⟨ops[k]'(by omega), by simp⟩
              obtain ⟨_, tk, htk, htl'⟩ := own k ok hok hk1
              simp only [Array.any_eq_true, Bool.and_eq_true, beq_iff_eq] at hk2
              obtain ⟨x, hx, hbd, hon⟩ := hk2
              have h1 := hall _ (Array.getElem_mem hx) hbd
              rw [hon] at h1
              have h2 : l.getD k true = true := by
                simp only [Array.getD] at h1 ⊢
                rw [dif_pos (by omega)] at h1 ⊢
                exact h1
              have h3 := hnew k ok tk hok hk1 htk h2
              rw [Gds.at hG i o (by simpa using ho) k b hg] at h3
              have h4 : a.tmps.getD tk undef = .bool b := h3
              have h5 : a.tmps[tk]? = some (.bool b) := by
                have hlt : tk < a.tmps.size := by omega
                simp only [Array.getD, hlt, dif_pos] at h4
                rw [Array.getElem?_eq_getElem hlt]
                exact congrArg some h4
              simp [Region.wanted, hg, yielded, hok, htk, h5]
          unfold wpOp
          rw [ho]
          simp only [hwant, if_true]
          refine .inl (hdo.wp fun v w' hv hbw => ?_)
          rw [hdt]
          refine ih _ _ _ (by simpa using hl) (below_chain hb hbw hb.size) (by simpa [Act.put] using hsz) (by simpa [Act.put] using hdf) ?_ ?_ ?_ (hcount i hilt hun)
          · rw [getD_set_ne true (by omega)]; exact hlast
          · intro t' ht'
            have htt : t ≠ t' := fun e => by
              have := ht' i o ho hil (by rw [hdt, e])
              simp [Array.getD, hl, hilt] at this
            simp only [Act.put, Array.getD_eq_getD_getElem?, Array.getElem?_setIfInBounds, if_neg htt]
            rw [← Array.getD_eq_getD_getElem?, ← Array.getD_eq_getD_getElem?]
            refine hold t' fun j oj hoj hj hdj => ?_
            have h1 := ht' j oj hoj hj hdj
            by_cases hji : i = j
            · subst hji; exact hun
            · rwa [getD_set_ne true hji] at h1
          · intro j oj t' hoj hj hdj hlj
            by_cases hji : i = j
            · subst hji
              rw [ho] at hoj
              cases hoj
              rw [hdt] at hdj
              cases hdj
              have : (a.put (some t) v).tmps.getD t undef = v := by simp [Act.put, Array.getD, hsz, htl]
              rw [this]; exact hv
            · rw [getD_set_ne true hji] at hlj
              have htt : t ≠ t' := fun e => hji (apart i j o oj t ho hoj hil hj hdt (by rw [hdj, e]))
              have h1 := hnew j oj t' hoj hj hdj hlj
              have : (a.put (some t) v).tmps.getD t' undef = a.tmps.getD t' undef := by
                simp only [Act.put, Array.getD_eq_getD_getElem?, Array.getElem?_setIfInBounds, if_neg htt]
              rw [this]
              exact Exp.ok_later _ hbw h1
        · obtain rfl : i = ops.size - 1 := by omega
          simp only [ho, Option.map_some, Option.getD_some, Bool.and_eq_true] at hp3
          have hlisted : ∀ k, k + 1 < ops.size → l.getD k true = true := by
            intro k hk
            have h1 := range_all hp3.2 k (by omega)
            simp only [Array.any_eq_true, Bool.and_eq_true, beq_iff_eq] at h1
            obtain ⟨x, hx, hbd, hon⟩ := h1
            have := hall _ (Array.getElem_mem hx) hbd
            rw [hon] at this
            simp only [Array.getD] at this ⊢
            rw [dif_pos (by omega)] at this ⊢
            exact this
          obtain ⟨o', ho', hw⟩ := Ends.at a (l := ops.toList) (j := 0) (a := a0) (fun h => by rw [Array.toList_eq_nil_iff] at h; subst h; simp at hne) (he w hb) (fun k ok hk hkl => by
            have hk' : ops[k]? = some ok := by simpa using hk
            have hkl' : k + 1 < ops.size := by simpa using hkl
            obtain ⟨_, t, hdt, htl⟩ := own k ok hk' hkl'
            refine ⟨t, hdt, ?_⟩
            rw [Nat.zero_add]
            exact hnew k ok t hk' hkl' hdt (hlisted k hkl'))
          have hoo : o' = o := by
            rw [List.getLast?_eq_getElem?] at ho'
            have h2 : ops[ops.size - 1]? = some o' := by simpa using ho'
            rw [ho] at h2
            exact (Option.some.inj h2).symm
          subst hoo
          have hfill : fills a ops.toList a0 = a := by
            have hz := fills_size a ops.toList a0
            refine act_ext (by rw [hz.1, hsz]) (fun t => ?_) (by rw [hz.2, hdf])
            refine fills_slot a t ops.toList a0 hsz ?_
            by_cases hx : ∃ k ok, ops[k]? = some ok ∧ k + 1 < ops.size ∧ ok.dst = some t
            · obtain ⟨k, ok, h1, h2, h3⟩ := hx
              exact .inr ⟨k, ok, by simpa using h1, by simpa using h2, h3⟩
            · exact .inl (hold t fun j oj hoj hj hdj => absurd ⟨j, oj, hoj, hj, hdj⟩ hx)
          rw [hfill] at hw
          unfold wpOp
          rw [ho]
          simp only [wanted_plain hp3.1, if_true]
          refine .inl (Oper.wp_mono (fun a' w' hq => wpAny_done ?_ (NoPanic.normal hq) _) hw)
          refine List.filter_eq_nil_iff.2 fun k hk => ?_
          have hk' : k < ops.size := List.mem_range.1 hk
          have : (l.setIfInBounds (ops.size - 1) true).getD k true = true := by
            by_cases hkl : k + 1 < ops.size
            · rw [getD_set_ne true (by omega)]; exact hlisted k hkl
            · obtain rfl : k = ops.size - 1 := by omega
              simp [Array.getD, hl, hne]
          rw [this]; simp
  refine main _ _ _ _ (by simp) ⟨rfl, rfl, rfl, Nat.le_refl _, fun _ _ => rfl⟩ rfl rfl (by simp [Array.getD, hne]) (fun t _ => rfl) (fun j o t ho hj hd hl => ?_) ?_
  · exfalso
    have : j < ops.size := by omega
    simp [Array.getD, this] at hl
  · have := List.length_filter_le (fun i => !(Array.replicate ops.size false).getD i true) (List.range ops.size)
    simpa using this
end Go.Proofs.Ytnifolefhelmcaa

namespace Go.Proofs.Ytnifolefhelmcaa
open Go.RowKit
set_option linter.unusedVariables false
set_option linter.unusedSimpArgs false

/-- Whatever order is picked; and S holds behind each operation so long as operation c has not come up. -/
def wpTill (md : Region.Mode) (ops : Array Oper) (Q : Exit → Act → World → Prop) (c : Nat) (S : World → Prop) : Nat → Array Bool → Act → World → Prop
  | 0, l, a, w => Region.ready md ops l = [] ∧ Q .normal a w
  | n + 1, l, a, w =>
    (Region.ready md ops l = [] → Q .normal a w) ∧
    ∀ i ∈ Region.ready md ops l, wpOp Try.prog ops Q i (fun a' w' => (i ≠ c → l.getD c true = false → S w') ∧ wpTill md ops Q c S n (l.setIfInBounds i true) a' w') a w
theorem till_any {md : Region.Mode} {ops : Array Oper} {Q : Exit → Act → World → Prop} {c : Nat} {S : World → Prop} : ∀ (n : Nat) (l : Array Bool) (a : Act) (w : World), wpTill md ops Q c S n l a w → wpAny Try.prog md ops Q n l a w
  | 0, _, _, _, h => h
  | n + 1, _, _, _, h => ⟨h.1, fun i hi => wpOp_mono (fun a' w' h' => till_any n _ a' w' h'.2) (h.2 i hi)⟩
theorem any_till {md : Region.Mode} {ops : Array Oper} {Q : Exit → Act → World → Prop} {c : Nat} {S : World → Prop} : ∀ (n : Nat) (l : Array Bool) (a : Act) (w : World), l.getD c true = true → wpAny Try.prog md ops Q n l a w → wpTill md ops Q c S n l a w
  | 0, _, _, _, _, h => h
  | n + 1, l, _, _, hc, h => ⟨h.1, fun i hi => wpOp_mono (fun a' w' h' => ⟨fun _ h0 => absurd (hc.symm.trans h0) (by decide), any_till n _ a' w' (by
      by_cases e : i = c
      · subst e; by_cases hs : i < l.size <;> simp [Array.getD, hs]
      · rw [getD_set_ne true e]; exact hc) h'⟩) (h.2 i hi)⟩
/-- The operation itself comes up. -/
theorem till_at {md : Region.Mode} {ops : Array Oper} {Q : Exit → Act → World → Prop} {c : Nat} {S : World → Prop} {n : Nat} {l : Array Bool} {a : Act} {w : World} (hr : Region.ready md ops l = [c])
    (h : wpAny Try.prog md ops Q (n + 1) l a w) : wpTill md ops Q c S (n + 1) l a w := by
  refine ⟨h.1, fun i hi => ?_⟩
  have h1 := h.2 i hi
  rw [hr] at hi
  obtain rfl : i = c := by simpa using hi
  exact wpOp_mono (fun a' w' h' => ⟨fun h0 => absurd rfl h0, any_till n _ a' w' (by by_cases hs : i < l.size <;> simp [Array.getD, hs]) h'⟩) h1
theorem till_region {ops : Array Oper} {Q : Exit → Act → World → Prop} {id : Nat} {a : Act} {w : World} (c : Nat) (S : World → Prop) (hm : Try.prog.follows .mixedOrders = true)
    (h : wpTill .any ops Q c S ops.size (Array.replicate ops.size false) a { w with drawn := w.drawn + 1 }) : (Code.region id ops true).wp Try.prog Q a w :=
  wp_region_any hm (till_any _ _ _ _ h)
/-- What the operation i leans on, T, holds until it comes up: always, or because S does and c waits for i. -/
def Leans (md : Region.Mode) (ops : Array Oper) (c : Nat) (S T : World → Prop) (i : Nat) (l : Array Bool) : Prop :=
  (∀ w, T w) ∨ ((∀ w, S w → T w) ∧ l.getD c true = false ∧ ∀ l' : Array Bool, l'.getD i true = false → c ∉ Region.ready md ops l')
theorem till_first {md : Region.Mode} {ops : Array Oper} {Q : Exit → Act → World → Prop} {c : Nat} {S T : World → Prop} {i : Nat} {oi : Oper} {v : Value} (hi : ops[i]? = some oi) (hsel : ∀ (j : Nat) (o : Oper) cs b, ops[j]? = some o → o.op ≠ .select cs b) (hic : i ≠ c)
    (hQ : ∀ c a w, Q (.panic c) (a.put oi.dst v) w → Q (.panic c) a w) :
    ∀ (n : Nat) (l : Array Bool) (a : Act) (w : World),
      (∀ j oj, ops[j]? = some oj → j ≠ i → l.getD j true = false → (∀ e ∈ oj.after, Region.binds md e = true → e.on ≠ i) → oi.apart ops oj = true) →
      i ∈ Region.ready md ops l → YieldsIf Try.prog ops T oi v a → T w → Leans md ops c S T i l → (l.getD c true = false → S w) →
      wpTill md ops Q c S n (l.setIfInBounds i true) (a.put oi.dst v) w → wpTill md ops Q c S (n + 1) l a w := by
  intro n
  induction n with
  | zero =>
    intro l a w _ hr hy hT _ hS H
    refine ⟨fun h => (by rw [h] at hr; cases hr), fun j hj => ?_⟩
    by_cases hji : j = i
    · subst hji; exact hy.wpOp hi hT ⟨fun _ h0 => hS h0, H⟩
    · have := ready_mono hj hji
      rw [H.1] at this
      cases this
  | succ n ih =>
    intro l a w hfree hr hy hT hL hS H
    refine ⟨fun h => (by rw [h] at hr; cases hr), fun j hj => ?_⟩
    by_cases hji : j = i
    · subst hji; exact hy.wpOp hi hT ⟨fun _ h0 => hS h0, H⟩
    · have h1 := H.2 j (ready_mono hj hji)
      obtain ⟨hjun, oj, hoj, hall⟩ := mem_ready.1 hj
      have hun := (mem_ready.1 hr).1
      have hnot : ∀ e ∈ oj.after, Region.binds md e = true → e.on ≠ i := fun e he hb heq => by
        have h1 := hall e he hb
        rw [heq] at h1
        rcases Nat.lt_or_ge i l.size with h' | h'
        · simp [h'] at hun h1; rw [hun] at h1; cases h1
        · simp [Array.getElem?_eq_none h'] at h1
      have h2 := wpOp_putIf hoj (hfree j oj hoj hji hjun hnot) (fun cs b => hsel i oi cs b hi) (fun cs b => hsel j oj cs b hoj) hQ hy h1
      have hfree' : ∀ k ok, ops[k]? = some ok → k ≠ i → (l.setIfInBounds j true).getD k true = false →
          (∀ e ∈ ok.after, Region.binds md e = true → e.on ≠ i) → oi.apart ops ok = true := fun k ok hk hki hkun hno => by
        refine hfree k ok hk hki ?_ hno
        by_cases hjk : j = k
        · subst hjk; exact hjun
        · rw [getD_set_ne true hjk] at hkun; exact hkun
      refine wpOp_mono (fun a' w' h3 => ?_) h2
      obtain ⟨h31, h32, h33⟩ := h3
      rw [getD_set_ne true hic] at h32
      have hS' : (l.setIfInBounds j true).getD c true = false → S w' := fun h0 => by
        by_cases hjc : j = c
        · subst hjc
          exfalso
          by_cases hs : j < l.size <;> simp [Array.getD, hs] at h0
        · rw [getD_set_ne true hjc] at h0; exact h32 hjc h0
      refine ⟨h32, ih (l.setIfInBounds j true) a' w' hfree' (ready_mono hr (Ne.symm hji)) h31 ?_ ?_ hS' ?_⟩
      · rcases hL with hL | ⟨hL1, hL2, hL3⟩
        · exact hL w'
        · exact hL1 w' (h32 (fun e => hL3 l hun (e ▸ hj)) hL2)
      · rcases hL with hL | ⟨hL1, hL2, hL3⟩
        · exact .inl hL
        · refine .inr ⟨hL1, ?_, hL3⟩
          have hjc : j ≠ c := fun e => hL3 l hun (by rw [← e]; exact hj)
          rw [getD_set_ne true hjc]; exact hL2
      · rw [Array.setIfInBounds_comm _ _ hji]
        exact h33
/-- An operation that yields its value in whatever world. -/
theorem tTake {md : Region.Mode} {ops : Array Oper} {Q : Exit → Act → World → Prop} {c : Nat} {S : World → Prop} {oi : Oper} {n : Nat} {l : Array Bool} {a : Act} {w : World} (i : Nat) (d : Option Tmp) (v : Value) (hi : ops[i]? = some oi) (hd : oi.dst = d)
    (hs : Region.noSelect ops = true) (hf : Region.free md ops l i = true) (hr : (Region.ready md ops l).contains i = true) (hic : i ≠ c) (hQ : ∀ c a w, Q (.panic c) (a.put d v) w → Q (.panic c) a w)
    (hw : Region.wanted oi (yielded ops a.tmps) = true) (hy : ∀ w, (execOp a.eval oi).run Try.prog w = .ok (.value v) w) (hS : S w)
    (h : wpTill md ops Q c S n (l.setIfInBounds i true) (a.put d v) w) : wpTill md ops Q c S (n + 1) l a w := by
  subst hd
  exact till_first (T := fun _ => True) hi (Region.noSelect_spec hs) hic hQ n l a w (Region.free_spec hi hf) (by simpa using hr) (Or.inl ⟨hw, fun w _ => hy w⟩) trivial (.inl fun _ => trivial) (fun _ => hS) h
def waits (md : Region.Mode) (ops : Array Oper) (c i : Nat) : Bool := ((ops[c]?).map (fun o => o.after.any fun e => Region.binds md e && e.on == i)).getD false
theorem waits_spec {md : Region.Mode} {ops : Array Oper} {c i : Nat} (h : waits md ops c i = true) : ∀ l' : Array Bool, l'.getD i true = false → c ∉ Region.ready md ops l' := by
  intro l hl hc
  obtain ⟨_, oc, hoc, hall⟩ := mem_ready.1 hc
  simp only [waits, hoc, Option.map_some, Option.getD_some, Array.any_eq_true, Bool.and_eq_true, beq_iff_eq] at h
  obtain ⟨k, hk, hb, he⟩ := h
  have h1 := hall _ (Array.getElem_mem hk) hb
  rw [he] at h1
  rcases Nat.lt_or_ge i l.size with h' | h'
  · simp [h'] at hl h1; rw [hl] at h1; cases h1
  · simp [Array.getElem?_eq_none h'] at h1
/-- A load, or what else leans on S, of an operation for which c waits. -/
theorem tLoad {md : Region.Mode} {ops : Array Oper} {Q : Exit → Act → World → Prop} {c : Nat} {S : World → Prop} {oi : Oper} {n : Nat} {l : Array Bool} {a : Act} {w : World} (i : Nat) (d : Option Tmp) (v : Value) (hi : ops[i]? = some oi) (hd : oi.dst = d)
    (hs : Region.noSelect ops = true) (hf : Region.free md ops l i = true) (hr : (Region.ready md ops l).contains i = true) (hic : i ≠ c) (hc : l.getD c true = false) (hwt : waits md ops c i = true) (hQ : ∀ c a w, Q (.panic c) (a.put d v) w → Q (.panic c) a w)
    (hw : Region.wanted oi (yielded ops a.tmps) = true) (hy : ∀ w, S w → (execOp a.eval oi).run Try.prog w = .ok (.value v) w) (hS : S w)
    (h : wpTill md ops Q c S n (l.setIfInBounds i true) (a.put d v) w) : wpTill md ops Q c S (n + 1) l a w := by
  subst hd
  exact till_first (T := S) hi (Region.noSelect_spec hs) hic hQ n l a w (Region.free_spec hi hf) (by simpa using hr) (Or.inl ⟨hw, hy⟩) hS (.inr ⟨fun _ h => h, hc, waits_spec hwt⟩) (fun _ => hS) h
/-- Many cells that S names are read; c waits for it. -/
theorem tLoadMid {md : Region.Mode} {ops : Array Oper} {Q : Exit → Act → World → Prop} {c : Nat} {S : World → Prop} {oi : Oper} {n : Nat} {l : Array Bool} {a : Act} {w : World} (i : Nat) (d : Option Tmp) (cs : List Value) (hi : ops[i]? = some oi) (hd : oi.dst = d)
    (hs : Region.noSelect ops = true) (hf : Region.free md ops l i = true) (hr : (Region.ready md ops l).contains i = true) (hic : i ≠ c) (hc : l.getD c true = false) (hwt : waits md ops c i = true) (hQ : ∀ c a w, Q (.panic c) (a.put d (.agg cs.toArray)) w → Q (.panic c) a w)
    (hw : Region.wanted oi (yielded ops a.tmps) = true) (ty : TypeId) (x : Operand) (ho : oi.op = .load ty x) (b off : Nat) (hx : a.eval x = .pointer (some ⟨b, off, none⟩)) (ds : TypeDesc) (hy : ∀ w, S w → w.rangeAt b off cs)
    (hu : Try.prog.underlying ty = some ds) (hdr : ds.isRow = true) (hz : (Try.prog.info? ty).map (·.size) = some cs.length) (hS : S w)
    (h : wpTill md ops Q c S n (l.setIfInBounds i true) (a.put d (.agg cs.toArray)) w) : wpTill md ops Q c S (n + 1) l a w := by
  subst hd
  exact till_first (T := S) hi (Region.noSelect_spec hs) hic hQ n l a w (Region.free_spec hi hf) (by simpa using hr) (yieldsIf_load_mid hw ty x ho b off hx cs ds hy hu hdr hz) hS (.inr ⟨fun _ h => h, hc, waits_spec hwt⟩) (fun _ => hS) h
/-- One operation alone may come up. -/
theorem till_ready {md : Region.Mode} {ops : Array Oper} {Q : Exit → Act → World → Prop} {c : Nat} {S : World → Prop} {oi : Oper} {n : Nat} {l : Array Bool} {a : Act} {w : World} (i : Nat) (hr : Region.ready md ops l = [i]) (hi : ops[i]? = some oi)
    (h : ∀ K : Act → World → Prop, (∀ a' w', S w' ∧ wpTill md ops Q c S n (l.setIfInBounds i true) a' w' → K a' w') → if Region.wanted oi (yielded ops a.tmps) = true then Oper.wp Try.prog oi a w K Q else K (a.put oi.dst undef) w) : wpTill md ops Q c S (n + 1) l a w := by
  refine ⟨fun h0 => (by rw [h0] at hr; cases hr), fun j hj => ?_⟩
  rw [hr] at hj
  obtain rfl : j = i := by simpa using hj
  exact wpOp_step hi fun K hK => h K (fun a' w' h' => hK a' w' ⟨fun _ _ => h'.1, h'.2⟩)
theorem step_alloc_new {ops : Array Oper} {o : Oper} {a : Act} {w : World} {K : Act → World → Prop} {Q : Exit → Act → World → Prop} {E : Prop} (hgd : o.guard = none) (t : TypeId) (ho : o.op = .alloc t) (n : Nat) (vs : List Value)
    (hz : (Try.prog.info? t).map (fun i => (i.zero, i.size)) = some (some (.agg vs.toArray), n)) (dst : Option Tmp) (hdst : o.dst = dst)
    (h : ∀ w', Blk w' w.heap.size t vs → w'.heap.size = w.heap.size + 1 → Below w.heap.size w w' → K (a.put dst (.pointer (some ⟨w.heap.size, 0, none⟩))) w') :
    if Region.wanted o (yielded ops a.tmps) = true then Oper.wp Try.prog o a w K Q else E := by
  subst hdst
  have hw : Region.wanted o (yielded ops a.tmps) = true := by simp [Region.wanted, hgd]
  rw [if_pos hw]
  unfold Oper.wp execOp
  simp only [ho, Sem.run_bind, Instr.alloc, (zero_of_info hz).1, newVar, newRow, run_newObj_alloc, Sem.run_pure, Result.andThen_ok]
  exact h _ (heap_alloc_new w _) (by simp) ((Below.refl _ _).alloc (Nat.le_refl _) _)
/-- Two operations that may come in either order, each way to a state of G. -/
theorem till_two {md : Region.Mode} {ops : Array Oper} {Q : Exit → Act → World → Prop} {c : Nat} {S : World → Prop} {oi oj : Oper} {n : Nat} {l : Array Bool} {a : Act} {w : World} (i j : Nat) (hi : ops[i]? = some oi) (hj : ops[j]? = some oj) (hij : i ≠ j)
    (hr : Region.ready md ops l = [i, j]) (hr1 : Region.ready md ops (l.setIfInBounds i true) = [j]) (hr2 : Region.ready md ops (l.setIfInBounds j true) = [i]) (G A B : Act → Act → World → Prop)
    (s1 : ∀ K : Act → World → Prop, (∀ a' w', A a a' w' → K a' w') → if Region.wanted oi (yielded ops a.tmps) = true then Oper.wp Try.prog oi a w K Q else K (a.put oi.dst undef) w) (sA : ∀ a' w', A a a' w' → S w')
    (s2 : ∀ a' w', A a a' w' → ∀ K : Act → World → Prop, (∀ a'' w'', G a a'' w'' → K a'' w'') → if Region.wanted oj (yielded ops a'.tmps) = true then Oper.wp Try.prog oj a' w' K Q else K (a'.put oj.dst undef) w')
    (t1 : ∀ K : Act → World → Prop, (∀ a' w', B a a' w' → K a' w') → if Region.wanted oj (yielded ops a.tmps) = true then Oper.wp Try.prog oj a w K Q else K (a.put oj.dst undef) w) (sB : ∀ a' w', B a a' w' → S w')
    (t2 : ∀ a' w', B a a' w' → ∀ K : Act → World → Prop, (∀ a'' w'', G a a'' w'' → K a'' w'') → if Region.wanted oi (yielded ops a'.tmps) = true then Oper.wp Try.prog oi a' w' K Q else K (a'.put oi.dst undef) w')
    (h : ∀ a' w', G a a' w' → S w' ∧ wpTill md ops Q c S n ((l.setIfInBounds i true).setIfInBounds j true) a' w') : wpTill md ops Q c S (n + 2) l a w := by
  have e : (l.setIfInBounds i true).setIfInBounds j true = (l.setIfInBounds j true).setIfInBounds i true := Array.setIfInBounds_comm _ _ hij
  refine ⟨fun h0 => (by rw [h0] at hr; cases hr), fun k hk => ?_⟩
  rw [hr] at hk
  rcases List.mem_cons.1 hk with rfl | hk
  · refine wpOp_step hi fun K hK => s1 K fun a' w' hA => hK a' w' ⟨fun _ _ => sA _ _ hA, ?_⟩
    exact till_ready j hr1 hj fun K' hK' => s2 a' w' hA K' fun a'' w'' hG => hK' a'' w'' (h _ _ hG)
  · obtain rfl : k = j := by simpa using hk
    refine wpOp_step hj fun K hK => t1 K fun a' w' hB => hK a' w' ⟨fun _ _ => sB _ _ hB, ?_⟩
    refine till_ready i hr2 hi fun K' hK' => t2 a' w' hB K' fun a'' w'' hG => hK' a'' w'' ?_
    rw [← e]
    exact h _ _ hG
end Go.Proofs.Ytnifolefhelmcaa

namespace Go.Proofs.Ytnifolefhelmcaa
open Go.RowKit Go.Joins
set_option linter.unusedVariables false
set_option linter.unusedSimpArgs false

theorem equal32A (t : TypeId) (n : Nat) (ht : Try.prog.underlying t = some (.array n 5)) (d : Nat) (zs : List Int) (hl : zs.length = n) (w : World) : (Op.equalIn (d + 2) t (.agg (u8s zs).toArray) (.agg (u8s zs).toArray)).run Try.prog w = .ok true w := by
  have hsz : ∀ w, (sizeOf 5).run Try.prog w = .ok 1 w := fun w => by
    have h := infoB8
    cases hq : Try.prog.info? 5 with
    | none => simp [hq] at h
    | some i => simp [hq] at h; simp [sizeOf, typeInfo, hq, h.2]
  have he := Try.underlying5
  rw [Op.equalIn]
  simp only [Sem.run_bind, run_underlying ht, Result.andThen_ok, hsz, Std.Legacy.Range.forIn_eq_forIn_range', Std.Legacy.Range.size, Nat.sub_zero, Nat.add_sub_cancel, Nat.div_one]
  have hlr : ∀ i ∈ List.range' 0 n 1, i < n := fun i hi => by simpa using (List.mem_range'_1.1 hi).2
  generalize List.range' 0 n 1 = l at hlr ⊢
  induction l with
  | nil => simp
  | cons i l ih =>
    have hi : i < n := hlr i (by simp)
    have px : (Go.part 5 (u8s zs).toArray (i * 1)).run Try.prog w = .ok (.int .u8 (zs.getD i 0)) w := by
      simp [Go.part, isAgg, run_underlying he, u8s, List.getD, List.getElem?_eq_getElem (show i < zs.length by omega)]
    have pe : (Op.equalIn (d + 1) 5 (.int .u8 (zs.getD i 0)) (.int .u8 (zs.getD i 0))).run Try.prog w = .ok true w := by
      rw [run_equalIn_int w d 5 .u8 .u8 _ _ he]; simp
    simp only [List.forIn_cons, Sem.run_bind, px, pe, Result.andThen_ok]
    simp only [Bool.not_true, Bool.false_eq_true, if_false, Sem.run_pure, Result.andThen_ok]
    exact ih fun j hj => hlr j (by simp [hj])
def nonL (kind number : Int) : List Int := leB 4 kind ++ leB 8 number
theorem equal32_no (d : Nat) (zs ys : List Int) (hl : zs.length = 32) (hm : ys.length = 32) (hne : zs ≠ ys) (w : World) : (Op.equalIn (d + 2) 29 (.agg (u8s zs).toArray) (.agg (u8s ys).toArray)).run Try.prog w = .ok false w := by
  have hsz : ∀ w, (sizeOf 5).run Try.prog w = .ok 1 w := fun w => by
    have h := infoB8
    cases hq : Try.prog.info? 5 with
    | none => simp [hq] at h
    | some i => simp [hq] at h; simp [sizeOf, typeInfo, hq, h.2]
  have ht := Try.underlying29
  have he := Try.underlying5
  rw [Op.equalIn]
  simp only [Sem.run_bind, run_underlying ht, Result.andThen_ok, hsz, Std.Legacy.Range.forIn_eq_forIn_range', Std.Legacy.Range.size, Nat.sub_zero, Nat.add_sub_cancel, Nat.div_one]
  have hlr : ∀ i ∈ List.range' 0 32 1, i < 32 := fun i hi => by simpa using (List.mem_range'_1.1 hi).2
  have hex : ∃ i ∈ List.range' 0 32 1, zs.getD i 0 ≠ ys.getD i 0 := by
    apply Classical.byContradiction
    intro hno
    refine hne (List.ext_getElem (by rw [hl, hm]) fun i h1 h2 => ?_)
    have := Classical.not_not.1 fun h => hno ⟨i, List.mem_range'_1.2 ⟨by omega, by omega⟩, h⟩
    simpa [List.getD, h1, h2] using this
  generalize List.range' 0 32 1 = l at hlr hex ⊢
  induction l with
  | nil => obtain ⟨i, hi, _⟩ := hex; cases hi
  | cons i l ih =>
    have hi : i < 32 := hlr i (by simp)
    have px : (Go.part 5 (u8s zs).toArray (i * 1)).run Try.prog w = .ok (.int .u8 (zs.getD i 0)) w := by
      simp [Go.part, isAgg, run_underlying he, u8s, List.getD, List.getElem?_eq_getElem (show i < zs.length by omega)]
    have py : (Go.part 5 (u8s ys).toArray (i * 1)).run Try.prog w = .ok (.int .u8 (ys.getD i 0)) w := by
      simp [Go.part, isAgg, run_underlying he, u8s, List.getD, List.getElem?_eq_getElem (show i < ys.length by omega)]
    by_cases hxy : zs.getD i 0 = ys.getD i 0
    · have pe : (Op.equalIn (d + 1) 5 (.int .u8 (zs.getD i 0)) (.int .u8 (ys.getD i 0))).run Try.prog w = .ok true w := by
        rw [run_equalIn_int w d 5 .u8 .u8 _ _ he, hxy]; simp
      simp only [List.forIn_cons, Sem.run_bind, px, py, pe, Result.andThen_ok]
      simp only [Bool.not_true, Bool.false_eq_true, if_false, Sem.run_pure, Result.andThen_ok]
      refine ih (fun j hj => hlr j (by simp [hj])) ?_
      obtain ⟨j, hj, hd⟩ := hex
      rcases List.mem_cons.1 hj with rfl | hj
      · exact absurd hxy hd
      · exact ⟨j, hj, hd⟩
    · have pe : (Op.equalIn (d + 1) 5 (.int .u8 (zs.getD i 0)) (.int .u8 (ys.getD i 0))).run Try.prog w = .ok false w := by
        rw [run_equalIn_int w d 5 .u8 .u8 _ _ he, show (zs.getD i 0 == ys.getD i 0) = false by rw [beq_eq_false_iff_ne]; exact hxy]
      simp only [List.forIn_cons, Sem.run_bind, px, py, pe, Result.andThen_ok]
      simp
theorem equal32_dec (d : Nat) (zs ys : List Int) (hl : zs.length = 32) (hm : ys.length = 32) (w : World) : (Op.equalIn (d + 2) 29 (.agg (u8s zs).toArray) (.agg (u8s ys).toArray)).run Try.prog w = .ok (decide (zs = ys)) w := by
  by_cases h : zs = ys
  · subst h
    rw [equal32A 29 32 Try.underlying29 d zs hl w]; simp
  · rw [equal32_no d zs ys hl hm h w]; simp [h]
theorem mzero_any (x : Int) (hx : Word x) (w : World) :
    Calls Try.prog 63 #[.int .u64 x] w fun e w' => e = .returned (.int .u64 (mk (x == 0))) ∧ w = w' := by
  have hb : Word (bits .or .u64 x (IntKind.u64.wrap (-x)) / 9223372036854775808) := by rw [top_code x hx]; split <;> decide
  have H : Hid (bits .xor .u64 IntKind.u64.max (mk (bits .or .u64 x (IntKind.u64.wrap (-x)) / 9223372036854775808 % 2 == 1)) = mk (x == 0)) := by
    show _ = _
    rw [not_mk, top_code x hx]
    by_cases h : x = 0
    · simp [h]
    · have h' : (x == 0) = false := by simpa using h
      simp [h, h']
  go_enter Try.func63, Try.ntmps63
  go_wp2_with (go_at_call 65; refine (bit_any _ hb _).mono ?_; rintro e w' ⟨rfl, rfl⟩)
  go_ret
  exact ⟨ret_int H.out, rfl⟩
theorem or_zero_iff (a b : Int) (ha : Word a) (hb : Word b) : Word (bits .or .u64 a b) ∧ (bits .or .u64 a b = 0 ↔ a = 0 ∧ b = 0) := by
  rw [u64_or _ _ ha.1 ha.2 hb.1 hb.2]
  obtain ⟨x, rfl⟩ := Int.eq_ofNat_of_zero_le ha.1
  obtain ⟨y, rfl⟩ := Int.eq_ofNat_of_zero_le hb.1
  have h1 := ha.2
  have h2 := hb.2
  simp only [Int.toNat_natCast]
  have h3 : x ||| y < 2 ^ 64 := Nat.or_lt_two_pow (by omega) (by omega)
  refine ⟨⟨by omega, by omega⟩, ?_⟩
  have e : x ||| y = 0 ↔ x = 0 ∧ y = 0 := by
    constructor
    · intro h
      refine ⟨Nat.eq_of_testBit_eq fun i => ?_, Nat.eq_of_testBit_eq fun i => ?_⟩
      · have := congrArg (·.testBit i) h
        simp only [Nat.testBit_or, Nat.zero_testBit, Bool.or_eq_false_iff] at this
        simp [this.1]
      · have := congrArg (·.testBit i) h
        simp only [Nat.testBit_or, Nat.zero_testBit, Bool.or_eq_false_iff] at this
        simp [this.2]
    · rintro ⟨rfl, rfl⟩; rfl
  omega
theorem digs_zero (x : Int) (h : 0 ≤ x ∧ x < 57896044618658097711785492504343953926634992332820282019728792003956564819968) : (∀ j, j < 5 → (digs x).getD j 0 = 0) ↔ x = 0 := by
  constructor
  · intro hz
    have h0 := hz 0 (by omega)
    have h1 := hz 1 (by omega)
    have h2 := hz 2 (by omega)
    have h3 := hz 3 (by omega)
    have h4 := hz 4 (by omega)
    simp only [digs, List.getD_cons_zero, List.getD_cons_succ] at h0 h1 h2 h3 h4
    omega
  · rintro rfl j hj
    match j, hj with
    | 0, _ => rfl
    | 1, _ => rfl
    | 2, _ => rfl
    | 3, _ => rfl
    | 4, _ => rfl
theorem digs_word (x : Int) (j : Nat) : Word ((digs x).getD j 0) := by
  match j with
  | 0 => exact ⟨by simp only [digs, List.getD_cons_zero, List.getD_cons_succ]; omega, by simp only [digs, List.getD_cons_zero, List.getD_cons_succ]; omega⟩
  | 1 => exact ⟨by simp only [digs, List.getD_cons_zero, List.getD_cons_succ]; omega, by simp only [digs, List.getD_cons_zero, List.getD_cons_succ]; omega⟩
  | 2 => exact ⟨by simp only [digs, List.getD_cons_zero, List.getD_cons_succ]; omega, by simp only [digs, List.getD_cons_zero, List.getD_cons_succ]; omega⟩
  | 3 => exact ⟨by simp only [digs, List.getD_cons_zero, List.getD_cons_succ]; omega, by simp only [digs, List.getD_cons_zero, List.getD_cons_succ]; omega⟩
  | 4 => exact ⟨by simp only [digs, List.getD_cons_zero, List.getD_cons_succ]; omega, by simp only [digs, List.getD_cons_zero, List.getD_cons_succ]; omega⟩
  | j + 5 => exact ⟨by simp [digs], by simp [digs]⟩
set_option maxRecDepth 20000 in
set_option maxHeartbeats 1000000 in
theorem fzero_any (l : List Int) (x : Int) (hl : Fe l x) (w : World) :
    Calls Try.prog 19 #[.agg (u64s l).toArray] w fun e w' => e = .returned (.int .u64 (mk (x == 0))) ∧ Below w.heap.size w w' := by
  have hx : 0 ≤ x ∧ x < 57896044618658097711785492504343953926634992332820282019728792003956564819968 := by have h := hl.bd; unfold PR at h; omega
  have HL : Hid (Fe l x ∧ l.length = 5 ∧ ((∀ j, j < 5 → (digs x).getD j 0 = 0) ↔ x = 0)) := ⟨hl, hl.len, digs_zero x hx⟩
  have HD : Hid ((digs x).length = 5 ∧ (u64s (digs x)).length = 5) := ⟨rfl, rfl⟩
  have HW : Hid (∀ j, Word ((digs x).getD j 0)) := digs_word x
  obtain ⟨D, hD⟩ : ∃ z, digs x = z := ⟨_, rfl⟩
  have HR : Hid (∀ g W, Blk W g 27 (u64s l) → Calls Try.prog 62 #[.pointer (some ⟨g, 0, none⟩)] W fun e w' => e = .returned (.tuple #[]) ∧ Blk w' g 27 (u64s D) ∧ Kept (fun k => k = g) W w') := by rw [← hD]; exact fun g W hB => reduce_any g l x W hB hl
  rw [hD] at HL HD HW
  clear hl hx hD
  go_enter Try.func19, Try.ntmps19
  go_wp2_with (first | (refine wpList_box_new rfl 27 (.tmp 0) rfl (u64s l) rfl ?_; intro x1 z1 s1 l1) | (go_at_call 62; refine (HR.out _ _ z1).mono ?_; rintro e x3 ⟨rfl, b3, k3⟩) | (refine wpList_load_mid rfl 25 _ rfl w.heap.size 0 rfl (u64s D) _ b3.whole Try.underlying25 rfl (by rw [HD.out.2]; exact sizeA5) ?_))
  have WW : Hid (Below w.heap.size w x3) := below_kept l1 k3 (by omega) (fun j hj => by omega)
  clear z1 s1 l1 b3 k3
  go_loopw [3, 9] (fun a i wr => ∃ (k : Nat) (A : Int), k ≤ 5 ∧ i = .int .i64 k ∧ a = .int .u64 A ∧ x3 = wr ∧ Word A ∧ (A = 0 ↔ ∀ j, j < k → D.getD j 0 = 0)) (fun _ i _ => 5 - (intOf i).toNat)
  case atStart => exact ⟨0, 0, by omega, rfl, rfl, rfl, ⟨by decide, by decide⟩, by simp⟩
  case round =>
    obtain ⟨k, A, hk, rfl, rfl, rfl, hA, hz⟩ := hrel
    by_cases hlt : k < 5
    · have i1 : (k : Int) < 5 := by omega
      have i3 : (0 : Int) ≤ (k : Int) := by omega
      have f1 := idx_A5 D HD.out.1 k hlt
      have hw := HW.out k
      obtain ⟨X, hX⟩ : ∃ z, D.getD k 0 = z := ⟨_, rfl⟩
      rw [hX] at f1 hw
      have HO : Hid (Word (bits .or .u64 A X) ∧ (bits .or .u64 A X = 0 ↔ ∀ j, j < k + 1 → D.getD j 0 = 0)) := by
        obtain ⟨o1, o2⟩ := or_zero_iff A X hA hw
        refine ⟨o1, o2.trans ⟨fun h j hj => ?_, fun h => ⟨hz.2 fun j hj => h j (by omega), by rw [← hX]; exact h k (by omega)⟩⟩⟩
        by_cases e : j = k
        · subst e; rw [hX]; exact h.2
        · exact hz.1 h.1 j (by omega)
      clear hA hz hX hw
      go_wp2_with fail
      go_roundw
      case rel => exact ⟨k + 1, _, by omega, by go_num, rfl, trivial, HO.out.1, HO.out.2⟩
      case measure => simp [intOf]; omega
    · have hk5 : k = 5 := by omega
      have i1 : ¬ ((k : Int) < 5) := by omega
      have HQ : Hid (mk (A == 0) = mk (x == 0)) := by
        rw [hk5] at hz
        have : (A == 0) = (x == 0) := by
          rw [Bool.eq_iff_iff, beq_iff_eq, beq_iff_eq]
          exact hz.trans HL.out.2.2
        show mk (A == 0) = mk (x == 0)
        rw [this]
      clear hz hk5 hlt hk
      go_wp2_with (go_at_call 63; refine (mzero_any _ hA _).mono ?_; rintro e w' ⟨rfl, rfl⟩)
      go_ret
      exact ⟨ret_int HQ.out, WW.out⟩
set_option maxRecDepth 20000 in
set_option maxHeartbeats 1000000 in
theorem fequal_any (l m : List Int) (x y : Int) (hl : Fe l x) (hm : Fe m y) (w : World) :
    Calls Try.prog 21 #[.agg (u64s l).toArray, .agg (u64s m).toArray] w fun e w' => e = .returned (.int .u64 (mk (x == y))) ∧ Below w.heap.size w w' := by
  have HL : Hid (Fe l x ∧ l.length = 5 ∧ Fe m y ∧ m.length = 5) := ⟨hl, hl.len, hm, hm.len⟩
  have HE : Hid (((x - y) % PR == 0) = (x == y)) := by
    have h1 := hl.bd; have h2 := hm.bd
    rw [Bool.eq_iff_iff, beq_iff_eq, beq_iff_eq]
    unfold PR at *
    constructor <;> intro h <;> omega
  clear hl hm
  go_enter Try.func21, Try.ntmps21
  go_wp2_with (first | (refine wpList_box_new rfl 27 (.tmp 0) rfl (u64s l) rfl ?_; intro x1 z1 s1 l1) | (refine wpList_box_new rfl 27 (.tmp 1) rfl (u64s m) rfl ?_; intro x2 z2 s2 l2; rw [s1] at z2; have b1 := z1.later l2 (by omega)) | (refine wpList_load_blk rfl 27 (.tmp 2) rfl w.heap.size rfl (u64s l) _ b1 Try.underlying27 rfl (by rw [u64s_length, HL.out.2.1]; exact sizeElem) ?_) | (refine wpList_load_blk rfl 27 (.tmp 3) rfl (w.heap.size + 1) rfl (u64s m) _ z2 Try.underlying27 rfl (by rw [u64s_length, HL.out.2.2.2]; exact sizeElem) ?_) | (go_at_call 52; refine (sub_any _ _ _ _ HL.out.1 HL.out.2.2.1 _).mono ?_; rintro e x3 ⟨r, rfl, hr, l3⟩) | (go_at_call 19; refine (fzero_any _ _ hr _).mono ?_; rintro e x4 ⟨rfl, l4⟩))
  go_ret
  exact ⟨ret_int (by rw [HE.out]), below_chain (below_chain (below_chain l1 l2 (by omega)) l3 (by omega)) l4 (by have := l3.size; omega)⟩
set_option maxRecDepth 20000 in
set_option maxHeartbeats 1000000 in
theorem one_yes (l m : List Int) (x : Int) (hl : Fe l x) (hm : Fe m x) (w : World) :
    Calls Try.prog 24 #[.agg (u64s l).toArray, .agg (u64s m).toArray] w fun e w' => e = .returned (.bool true) ∧ Below w.heap.size w w' := by
  have HL : Hid (Fe l x ∧ (u64s l).length = 5 ∧ Fe m x ∧ (u64s m).length = 5) := ⟨hl, by rw [u64s_length, hl.len], hm, by rw [u64s_length, hm.len]⟩
  have HC : Hid ((∀ w, Calls Try.prog 21 #[.agg (u64s l).toArray, .agg (u64s m).toArray] w fun e w' => e = .returned (.int .u64 18446744073709551615) ∧ Below w.heap.size w w') ∧ (∀ w, Calls Try.prog 18 #[.agg (u64s l).toArray] w fun e w' => e = .returned (.agg (u8s (leB 32 x)).toArray) ∧ Below w.heap.size w w') ∧ (∀ w, Calls Try.prog 18 #[.agg (u64s m).toArray] w fun e w' => e = .returned (.agg (u8s (leB 32 x)).toArray) ∧ Below w.heap.size w w')) := by
    refine ⟨fun w => ?_, fbytes_any l x hl, fbytes_any m x hm⟩
    have h := fequal_any l m x x hl hm w
    rwa [beq_self_eq_true] at h
  have heq : ∀ wx, (Op.equalIn 10000 29 (.agg (u8s (leB 32 x)).toArray) (.agg (u8s (leB 32 x)).toArray)).run Try.prog wx = .ok true wx := equal32A 29 32 Try.underlying29 9998 _ (leB_length _ _)
  obtain ⟨B, hB⟩ : ∃ z, leB 32 x = z := ⟨_, rfl⟩
  rw [hB] at HC heq
  clear hl hm hB
  go_enter Try.func24, Try.ntmps24
  go_wp2_with (first | (refine wpList_box_new rfl 27 (.tmp 0) rfl (u64s l) rfl ?_; intro x1 z1 s1 l1) | (refine wpList_box_new rfl 27 (.tmp 1) rfl (u64s m) rfl ?_; intro x2 z2 s2 l2; rw [s1] at z2))
  have W0 : Hid (Blk x2 w.heap.size 27 (u64s l) ∧ Blk x2 (w.heap.size + 1) 27 (u64s m) ∧ Below w.heap.size w x2) := ⟨z1.later l2 (by omega), z2, below_chain l1 l2 (by omega)⟩
  clear z1 s1 l1 z2 s2 l2
  refine region_invG [.val (.agg (u64s l).toArray), .val (.agg (u64s m).toArray), .val (.int .u64 18446744073709551615), .val (.bool true), .val (.bool true), .val (.agg (u64s l).toArray), .val (.agg (u8s B).toArray), .val (.agg (u64s m).toArray), .val (.agg (u8s B).toArray), .val (.bool true), .val (.bool true)] (by kernel_rfl) (by kernel_rfl) (by repeat (first | exact trivial | (refine ⟨by first | trivial | rfl, ?_⟩))) (by kernel_rfl) ?_ ?_
  · refine Steps'.cons ?_ (Steps'.cons ?_ (Steps'.cons ?_ (Steps'.cons ?_ (Steps'.cons ?_ (Steps'.cons ?_ (Steps'.cons ?_ (Steps'.cons ?_ (Steps'.cons ?_ (Steps'.cons ?_ (Steps'.cons ?_ (Steps'.one _ _ _ _ _ _ _)))))))))))
    · intro ax wx hb hs hd
      have h2 : ax.tmps.getD 2 undef = (.pointer (some ⟨w.heap.size, 0, none⟩)) := hs 2 (by kernel_rfl)
      exact Does.load 27 (.tmp 2) rfl w.heap.size 0 h2 (u64s l) _ (((Blk.later W0.out.1 hb (Blk.lt W0.out.1)).whole)) Try.underlying27 rfl (by rw [HL.out.2.1]; exact sizeElem)
    · intro ax wx hb hs hd
      have h3 : ax.tmps.getD 3 undef = (.pointer (some ⟨w.heap.size + 1, 0, none⟩)) := hs 3 (by kernel_rfl)
      exact Does.load 27 (.tmp 3) rfl (w.heap.size + 1) 0 h3 (u64s m) _ (((Blk.later W0.out.2.1 hb (Blk.lt W0.out.2.1)).whole)) Try.underlying27 rfl (by rw [HL.out.2.2.2]; exact sizeElem)
    · intro ax wx hb hs hd
      have h5 : ax.tmps.getD 5 undef = (.agg (u64s l).toArray) := hd 0 5 rfl (by kernel_rfl) (by decide)
      have h6 : ax.tmps.getD 6 undef = (.agg (u64s m).toArray) := hd 1 6 rfl (by kernel_rfl) (by decide)
      refine Does.call 21 #[(.agg (u64s l).toArray), (.agg (u64s m).toArray)] (by clear hs hd; go_simp) ?_
      refine (HC.out.1 _).mono ?_
      rintro z w' ⟨rfl, l⟩
      exact ⟨_, rfl, rfl, l⟩
    · intro ax wx hb hs hd
      have h7 : ax.tmps.getD 7 undef = (.int .u64 18446744073709551615) := hd 2 7 rfl (by kernel_rfl) (by decide)
      refine Does.value (.bool true) ?_ rfl
      clear hs hd
      go_simp
    · intro ax wx hb hs hd
      have h8 : ax.tmps.getD 8 undef = (.bool true) := hd 3 8 rfl (by kernel_rfl) (by decide)
      refine Does.value (.bool true) ?_ rfl
      clear hs hd
      go_simp
    · intro ax wx hb hs hd
      have h2 : ax.tmps.getD 2 undef = (.pointer (some ⟨w.heap.size, 0, none⟩)) := hs 2 (by kernel_rfl)
      exact Does.load 27 (.tmp 2) rfl w.heap.size 0 h2 (u64s l) _ (((Blk.later W0.out.1 hb (Blk.lt W0.out.1)).whole)) Try.underlying27 rfl (by rw [HL.out.2.1]; exact sizeElem)
    · intro ax wx hb hs hd
      have h10 : ax.tmps.getD 10 undef = (.agg (u64s l).toArray) := hd 5 10 rfl (by kernel_rfl) (by decide)
      refine Does.call 18 #[(.agg (u64s l).toArray)] (by clear hs hd; go_simp) ?_
      refine (HC.out.2.1 _).mono ?_
      rintro z w' ⟨rfl, l⟩
      exact ⟨_, rfl, rfl, l⟩
    · intro ax wx hb hs hd
      have h3 : ax.tmps.getD 3 undef = (.pointer (some ⟨w.heap.size + 1, 0, none⟩)) := hs 3 (by kernel_rfl)
      exact Does.load 27 (.tmp 3) rfl (w.heap.size + 1) 0 h3 (u64s m) _ (((Blk.later W0.out.2.1 hb (Blk.lt W0.out.2.1)).whole)) Try.underlying27 rfl (by rw [HL.out.2.2.2]; exact sizeElem)
    · intro ax wx hb hs hd
      have h12 : ax.tmps.getD 12 undef = (.agg (u64s m).toArray) := hd 7 12 rfl (by kernel_rfl) (by decide)
      refine Does.call 18 #[(.agg (u64s m).toArray)] (by clear hs hd; go_simp) ?_
      refine (HC.out.2.2 _).mono ?_
      rintro z w' ⟨rfl, l⟩
      exact ⟨_, rfl, rfl, l⟩
    · intro ax wx hb hs hd
      have h11 : ax.tmps.getD 11 undef = (.agg (u8s B).toArray) := hd 6 11 rfl (by kernel_rfl) (by decide)
      have h13 : ax.tmps.getD 13 undef = (.agg (u8s B).toArray) := hd 8 13 rfl (by kernel_rfl) (by decide)
      refine Does.value (.bool true) ?_ rfl
      clear hs hd
      go_simp
    · intro ax wx hb hs hd
      have h9 : ax.tmps.getD 9 undef = (.bool true) := hd 4 9 rfl (by kernel_rfl) (by decide)
      have h14 : ax.tmps.getD 14 undef = (.bool true) := hd 9 14 rfl (by kernel_rfl) (by decide)
      refine Does.value (.bool true) ?_ rfl
      clear hs hd
      go_simp
  · intro wx hb
    refine @Ends.val _ _ _ _ _ _ _ _ _ (.agg (u64s l).toArray) rfl ?_
    refine @Ends.val _ _ _ _ _ _ _ _ _ (.agg (u64s m).toArray) rfl ?_
    refine @Ends.val _ _ _ _ _ _ _ _ _ (.int .u64 18446744073709551615) rfl ?_
    refine @Ends.val _ _ _ _ _ _ _ _ _ (.bool true) rfl ?_
    refine @Ends.val _ _ _ _ _ _ _ _ _ (.bool true) rfl ?_
    refine @Ends.val _ _ _ _ _ _ _ _ _ (.agg (u64s l).toArray) rfl ?_
    refine @Ends.val _ _ _ _ _ _ _ _ _ (.agg (u8s B).toArray) rfl ?_
    refine @Ends.val _ _ _ _ _ _ _ _ _ (.agg (u64s m).toArray) rfl ?_
    refine @Ends.val _ _ _ _ _ _ _ _ _ (.agg (u8s B).toArray) rfl ?_
    refine @Ends.val _ _ _ _ _ _ _ _ _ (.bool true) rfl ?_
    refine @Ends.val _ _ _ _ _ _ _ _ _ (.bool true) rfl ?_
    refine @Ends.one _ _ _ _ _ _ _ ?_
    simp only [Act.put, List.setIfInBounds_toArray, List.set_cons_zero, List.set_cons_succ]
    refine last_assign (.tmp 15) rfl (some 4) rfl (.bool true) rfl ?_
    have LB := below_chain W0.out.2.2 hb W0.out.2.2.size
    simp only [Act.put, List.setIfInBounds_toArray, List.set_cons_zero, List.set_cons_succ]
    clear hb
    go_wp2_with fail
    go_ret
    exact ⟨rfl, LB⟩
end Go.Proofs.Ytnifolefhelmcaa

namespace Go.Proofs.Ytnifolefhelmcaa
open Go.RowKit
set_option linter.unusedVariables false
set_option linter.unusedSimpArgs false

/-- The value is an Elem whose number is x. -/
def isF (x : Int) (v : Value) (w : World) : Prop := ∃ l, v = .agg (u64s l).toArray ∧ Fe l x
theorem isF_later (x : Int) : ∀ v w w', Below w.heap.size w w' → isF x v w → isF x v w' := fun _ _ _ _ h => h
theorem wpList_load_g {ops : Array Oper} {rest : List Oper} {o : Oper} {a : Act} {Q : Exit → Act → World → Prop} {w : World} (hw : Region.wanted o (yielded ops a.tmps) = true) (t : TypeId) (x : Operand) (ho : o.op = .load t x) (g : Nat) (hx : a.eval x = .pointer (some ⟨g, 0, none⟩))
    (vs : List Value) (d : TypeDesc) (hb : Blk w g t vs) (hu : Try.prog.underlying t = some d) (hd : d.isRow = true) (hi : (Try.prog.info? t).map (·.size) = some vs.length)
    (h : wpList Try.prog ops Q rest (a.put o.dst (.agg vs.toArray)) w) : wpList Try.prog ops Q (o :: rest) a w :=
  wpList_step fun K hK => by
    simp only [hw, if_true]
    exact wp_load_mid t x ho g 0 hx vs d (fun j v hv => by rw [Nat.zero_add, hb.cell]; exact hv) hu hd hi (hK _ _ h)
theorem fzero_yes (l : List Int) (x : Int) (hl : Fe l x) (hx : x = 0) (w : World) :
    Calls Try.prog 19 #[.agg (u64s l).toArray] w fun e w' => e = .returned (.int .u64 18446744073709551615) ∧ Below w.heap.size w w' := by
  have h := fzero_any l x hl w
  subst hx
  exact h
theorem fzero_no (l : List Int) (x : Int) (hl : Fe l x) (hx : x ≠ 0) (w : World) :
    Calls Try.prog 19 #[.agg (u64s l).toArray] w fun e w' => e = .returned (.int .u64 0) ∧ Below w.heap.size w w' := by
  have h := fzero_any l x hl w
  rw [show (x == 0) = false by simpa using hx] at h
  exact h
/-- The prime's bytes, less c. -/
def primeL (c : Int) : List Int := ((List.replicate 32 255).set 0 (237 - c)).set 31 127
theorem primeL_length (c : Int) : (primeL c).length = 32 := rfl
theorem primeL_bytes (c : Int) (h : 0 ≤ c ∧ c ≤ 237) : Bytes (primeL c) := by
  intro z hz
  have : z = 237 - c ∨ z = 255 ∨ z = 127 := by
    simp [primeL, List.replicate] at hz
    omega
  omega
set_option maxRecDepth 20000 in
set_option maxHeartbeats 1000000 in
theorem prime_any (c : Int) (hc : 0 ≤ c ∧ c ≤ 237) (w : World) :
    Calls Try.prog 64 #[.int .u8 c] w fun e w' => e = .returned (.agg (u8s (primeL c)).toArray) ∧ Below w.heap.size w w' := by
  have HL : Hid ((List.replicate 32 (255 : Int)).length = 32) := rfl
  have e0 : IntKind.u8.wrap (237 - c) = 237 - c := by rw [IntKind.wrap_u8']; omega
  clear hc
  go_enter Try.func64, Try.ntmps64
  go_wp2_with (first | ((with_reducible show wpList _ _ _ _ _ w); refine wpList_alloc_new rfl 29 rfl 32 _ zero32 ?_; intro x1 z1 s1 l1) | (refine wpList_alloc_new rfl 29 rfl 32 _ zero32 ?_; intro x2 z2 s2 l2; rw [s1] at z2))
  have WW : Hid (Below w.heap.size w x2 ∧ Blk x2 w.heap.size 29 (u8s (List.replicate 32 0)) ∧ Blk x2 (w.heap.size + 1) 29 (u8s (List.replicate 32 0))) := ⟨below_chain l1 l2 (by omega), z1.later l2 (by omega), z2⟩
  clear z1 s1 l1 z2 s2 l2
  go_loopw [4] (fun i wr => ∃ (k : Nat), k ≤ 32 ∧ i = .int .i64 k ∧ Blk wr (w.heap.size + 1) 29 (u8s (byK (List.replicate 32 255) k)) ∧ Kept (fun x => x = w.heap.size + 1) x2 wr) (fun i _ => 32 - (intOf i).toNat)
  case atStart => exact ⟨0, by omega, rfl, by simpa [byK] using WW.out.2.2, Kept.refl _ _⟩
  case round =>
    obtain ⟨k, hk, rfl, hblk, hkp⟩ := hrel
    by_cases hlt : k < 32
    · have i1 : (k : Int) < 32 := by omega
      have i3 : (0 : Int) ≤ (k : Int) := by omega
      have c2 : wr.cell? ⟨w.heap.size + 1, k, none⟩ = some (.int .u8 ((byK (List.replicate 32 255) k).getD k 0)) := u8s_cell hblk k (by rw [byK_length _ HL.out k hk]; exact hlt)
      have fg := hblk.frozen k
      obtain ⟨Z, hZ⟩ : ∃ z, (byK (List.replicate 32 255) k).getD k 0 = z := ⟨_, rfl⟩
      rw [hZ] at c2
      have HQ : Hid (Blk wr (w.heap.size + 1) 29 (u8s (byK (List.replicate 32 255) k)) ∧ Kept (fun x => x = w.heap.size + 1) x2 wr) := ⟨hblk, hkp⟩
      clear hblk hkp hZ
      go_wp2_with fail
      go_roundw
      case rel =>
        have e : (List.replicate 32 (255 : Int)).getD k 0 = 255 := by rw [List.getD_eq_getElem?_getD, List.getElem?_replicate, if_pos hlt]; rfl
        have R := HQ.out.1.set k (.int .u8 255)
        have e2 := byK_set (List.replicate 32 255) HL.out k hlt
        rw [e] at e2
        rw [u8s_set, e2] at R
        exact ⟨k + 1, by omega, by go_num, R, HQ.out.2.setCell rfl _⟩
      case measure => simp [intOf]; omega
    · have hk5 : k = 32 := by omega
      have i1 : ¬ ((k : Int) < 32) := by omega
      rw [hk5, byK_all _ HL.out] at hblk
      have c0 : wr.cell? ⟨w.heap.size + 1, 0, none⟩ = some (.int .u8 255) := hblk.cell 0
      have c31 : wr.cell? ⟨w.heap.size + 1, 31, none⟩ = some (.int .u8 255) := hblk.cell 31
      have f0 := hblk.frozen 0
      have f31 := hblk.frozen 31
      have X1 : Hid (Blk ((wr.setCell ⟨w.heap.size + 1, 0, none⟩ (.int .u8 (237 - c))).setCell ⟨w.heap.size + 1, 31, none⟩ (.int .u8 127)) (w.heap.size + 1) 29 (u8s (primeL c)) ∧ Blk ((wr.setCell ⟨w.heap.size + 1, 0, none⟩ (.int .u8 (237 - c))).setCell ⟨w.heap.size + 1, 31, none⟩ (.int .u8 127)) w.heap.size 29 (u8s (List.replicate 32 0)) ∧ Below w.heap.size w ((wr.setCell ⟨w.heap.size + 1, 0, none⟩ (.int .u8 (237 - c))).setCell ⟨w.heap.size + 1, 31, none⟩ (.int .u8 127)) ∧ (u8s (primeL c)).length = 32) := by
        have R := (hblk.set 0 (.int .u8 (237 - c))).set 31 (.int .u8 127)
        rw [u8s_set, u8s_set] at R
        have K := (hkp.setCell (p := ⟨w.heap.size + 1, 0, none⟩) rfl (.int .u8 (237 - c))).setCell (p := ⟨w.heap.size + 1, 31, none⟩) rfl (.int .u8 127)
        exact ⟨R, WW.out.2.1.kept K (by omega), below_kept WW.out.1 K WW.out.1.size (fun j hj => by omega), rfl⟩
      clear hblk hkp hk5 hlt hk
      go_wp2_with (first | (refine wpList_load_blk rfl 29 _ rfl (w.heap.size + 1) rfl (u8s (primeL c)) _ X1.out.1 Try.underlying29 rfl (by rw [X1.out.2.2.2]; exact size32) ?_) | (refine wpList_store_blk rfl 29 29 _ _ rfl _ rfl _ (u8s (primeL c)) rfl X1.out.2.1 (by rw [X1.out.2.2.2]; rfl) (by rw [X1.out.2.2.2]; exact size32) (u8s_one _) ?_; intro w6 b6 s6 k6))
      exact ret_blk rfl w.heap.size (u8s (primeL c)) _ rfl b6 Try.underlying29 rfl (by rw [X1.out.2.2.2]; exact size32) rfl ⟨rfl, below_kept X1.out.2.2.1 k6 X1.out.2.2.1.size (fun j hj => by omega)⟩
theorem aw35 : (5 * 7 : Int) % PR = 35 := by decide
theorem aw1 : leB 32 ((0 - 1) % PR) = primeL 1 := by decide +kernel
theorem aw0 : le (primeL 0) % 57896044618658097711785492504343953926634992332820282019728792003956564819968 % PR = 0 := by decide +kernel
set_option maxRecDepth 20000 in
set_option maxHeartbeats 1000000 in
theorem awake_any (w : World) : Calls Try.prog 22 #[] w fun e w' => e = .returned (.bool true) ∧ Below w.heap.size w w' := by
  have heq : ∀ wx, (Op.equalIn 10000 29 (.agg (u8s (leB 32 35)).toArray) (.agg (u8s (leB 32 35)).toArray)).run Try.prog wx = .ok true wx := equal32A 29 32 Try.underlying29 9998 _ (leB_length _ _)
  have heq2 : ∀ wx, (Op.equalIn 10000 29 (.agg (u8s (primeL 1)).toArray) (.agg (u8s (primeL 1)).toArray)).run Try.prog wx = .ok true wx := equal32A 29 32 Try.underlying29 9998 _ (primeL_length _)
  have HB : Hid (∀ w, (Instr.build 29 #[(0, .int .u8 35)]).run Try.prog w = .ok (.agg (u8s (leB 32 35)).toArray) w) := fun w => by kernel_rfl
  obtain ⟨B35, h35⟩ : ∃ z, leB 32 35 = z := ⟨_, rfl⟩
  obtain ⟨P1, hP1⟩ : ∃ z, primeL 1 = z := ⟨_, rfl⟩
  have HA : Hid (leB 32 35 = B35 ∧ leB 32 ((0 - 1) % PR) = P1 ∧ primeL 1 = P1) := ⟨h35, by rw [aw1, hP1], hP1⟩
  rw [h35] at heq HB
  rw [hP1] at heq2
  clear h35 hP1
  go_enter Try.func22, Try.ntmps22
  go_wp2_with (first
    | ((with_reducible show Calls _ _ #[.int .u64 5] _ _); refine (small_any 5 (by decide) (by decide) _).mono ?_; rintro e x1 ⟨r5, rfl, f5, l1⟩)
    | ((with_reducible show Calls _ _ #[.int .u64 7] _ _); refine (small_any 7 (by decide) (by decide) _).mono ?_; rintro e x2 ⟨r7, rfl, f7, l2⟩)
    | (go_at_call 31; refine (mul_any _ _ _ _ f5 f7 _).mono ?_; rintro e x3 ⟨r35, rfl, f35, l3⟩; rw [aw35] at f35; have n35 : Hid (r35.length = 5) := f35.len)
    | ((with_reducible show wpList _ _ _ _ _ x3); refine wpList_alloc_new rfl 27 rfl 5 _ zeroElem ?_; intro x4 z4 s4 l4)
    | ((with_reducible show wpList _ _ _ _ _ x4); refine wpList_store_blk rfl 27 27 _ _ rfl _ rfl _ (u64s r35) rfl z4 (by rw [u64s_length, n35.out]; rfl) (by rw [u64s_length, n35.out]; exact sizeElem) (u64s_one _) ?_; intro x5 b5 s5 k5)
    | ((with_reducible show Calls _ _ #[.int .u64 0] _ _); refine (small_any 0 (by decide) (by decide) _).mono ?_; rintro e x6 ⟨r0, rfl, f0, l6⟩)
    | ((with_reducible show Calls _ _ #[.int .u64 1] _ _); refine (small_any 1 (by decide) (by decide) _).mono ?_; rintro e x7 ⟨r1, rfl, f1, l7⟩)
    | (go_at_call 52; refine (sub_any _ _ _ _ f0 f1 _).mono ?_; rintro e x8 ⟨rm, rfl, fm, l8⟩; have nm1 : Hid (rm.length = 5) := fm.len)
    | ((with_reducible show wpList _ _ _ _ _ x8); refine wpList_alloc_new rfl 27 rfl 5 _ zeroElem ?_; intro x9 z9 s9 l9)
    | ((with_reducible show wpList _ _ _ _ _ x9); refine wpList_store_blk rfl 27 27 _ _ rfl _ rfl _ (u64s rm) rfl z9 (by rw [u64s_length, nm1.out]; rfl) (by rw [u64s_length, nm1.out]; exact sizeElem) (u64s_one _) ?_; intro x10 b10 s10 k10)
    | ((with_reducible show wpList _ _ _ (({ dst := some 9, op := _, type := _, pos := _, after := _, guard := _ } : Oper) :: _) _ _); obtain ⟨GA, hGA⟩ : ∃ z, x3.heap.size = z := ⟨_, rfl⟩; obtain ⟨GM, hGM⟩ : ∃ z, x8.heap.size = z := ⟨_, rfl⟩; rw [hGA, hGM]; rw [hGA] at b5 k5; rw [hGM] at b10 k10; have WW : Hid (Blk x10 GA 27 (u64s r35) ∧ Blk x10 GM 27 (u64s rm) ∧ Below w.heap.size w x10) := (by have q1 := l1.size; have q2 := l2.size; have q3 := l3.size; have q6 := l6.size; have q7 := l7.size; have q8 := l8.size; have A6 := (((b5.later l6 (by omega)).later l7 (by omega)).later l8 (by omega)).later l9 (by omega); exact ⟨A6.kept k10 (by omega), b10, below_kept (below_chain (below_chain (below_chain (below_chain (below_kept (below_chain (below_chain (below_chain l1 l2 (by omega)) l3 (by omega)) l4 (by omega)) k5 (by omega) (fun j hj => by omega)) l6 (by omega)) l7 (by omega)) l8 (by omega)) l9 (by omega)) k10 (by omega) (fun j hj => by omega)⟩); clear l1 l2 l3 z4 s4 l4 b5 s5 k5 l6 l7 l8 z9 s9 l9 b10 s10 k10 hGA hGM; refine wpList_load_blk rfl 27 (.tmp 1) rfl GA rfl (u64s r35) _ WW.out.1 Try.underlying27 rfl (by rw [u64s_length, n35.out]; exact sizeElem) ?_)
    | ((with_reducible show Calls _ 18 #[.agg (u64s r35).toArray] _ _); refine (fbytes_any _ _ f35 _).mono ?_; rintro e x11 ⟨rfl, l11⟩; rw [HA.out.1])
    | ((with_reducible show wpList _ _ _ (({ dst := some 11, op := _, type := _, pos := _, after := _, guard := _ } : Oper) :: _) _ _); refine wpList_build rfl 29 _ rfl #[(0, .int .u8 35)] (by simp [Act.eval]) _ (HB.out _) ?_)
    | ((with_reducible show wpList _ _ _ (({ dst := some 14, op := _, type := _, pos := _, after := _, guard := _ } : Oper) :: _) _ _); refine wpList_load_g (by rfl) 27 (.tmp 2) rfl GM rfl (u64s rm) _ (WW.out.2.1.later l11 WW.out.2.1.lt) Try.underlying27 rfl (by rw [u64s_length, nm1.out]; exact sizeElem) ?_)
    | ((with_reducible show Calls _ 18 #[.agg (u64s rm).toArray] _ _); refine (fbytes_any _ _ fm _).mono ?_; rintro e x12 ⟨rfl, l12⟩; rw [HA.out.2.1])
    | ((with_reducible show Calls _ 64 #[.int .u8 1] _ _); refine (prime_any 1 (by decide) _).mono ?_; rintro e x13 ⟨rfl, l13⟩; rw [HA.out.2.2])
    | ((with_reducible show Calls _ 64 #[.int .u8 0] _ _); refine (prime_any 0 (by decide) _).mono ?_; rintro e x14 ⟨rfl, l14⟩)
    | (go_at_call 13; refine (fof_any _ (primeL_length 0) (primeL_bytes 0 (by decide)) _).mono ?_; rintro e x15 ⟨rp, rfl, fp, l15⟩; rw [aw0] at fp)
    | ((with_reducible show Calls _ 19 #[.agg (u64s rp).toArray] _ _); refine (fzero_yes _ _ fp rfl _).mono ?_; rintro e x16 ⟨rfl, l16⟩)
    | ((with_reducible show wpList _ _ _ (({ dst := some 26, op := _, type := _, pos := _, after := _, guard := _ } : Oper) :: _) _ _); refine wpList_load_g (by rfl) 27 (.tmp 1) rfl GA rfl (u64s r35) _ ((((((WW.out.1.later l11 WW.out.1.lt).later l12 (by have q := WW.out.1.lt; have := l11.size; omega)).later l13 (by have q := WW.out.1.lt; have := l11.size; have := l12.size; omega)).later l14 (by have q := WW.out.1.lt; have := l11.size; have := l12.size; have := l13.size; omega)).later l15 (by have q := WW.out.1.lt; have := l11.size; have := l12.size; have := l13.size; have := l14.size; omega)).later l16 (by have q := WW.out.1.lt; have := l11.size; have := l12.size; have := l13.size; have := l14.size; have := l15.size; omega)) Try.underlying27 rfl (by rw [u64s_length, n35.out]; exact sizeElem) ?_)
    | ((with_reducible show Calls _ 19 #[.agg (u64s r35).toArray] _ _); refine (fzero_no _ _ f35 (by decide) _).mono ?_; rintro e x17 ⟨rfl, l17⟩))
  go_ret
  refine ⟨rfl, ?_⟩
  have q0 := WW.out.2.2.size; have q1 := l11.size; have q2 := l12.size; have q3 := l13.size; have q4 := l14.size; have q5 := l15.size; have q6 := l16.size
  exact below_chain (below_chain (below_chain (below_chain (below_chain (below_chain (below_chain WW.out.2.2 l11 (by omega)) l12 (by omega)) l13 (by omega)) l14 (by omega)) l15 (by omega)) l16 (by omega)) l17 (by omega)
end Go.Proofs.Ytnifolefhelmcaa

namespace Go.Proofs.Ytnifolefhelmcaa
open Go.RowKit
set_option linter.unusedVariables false
set_option linter.unusedSimpArgs false

/-- The power by the first k bits of 256, the highest first. -/
def pwK (x : Int) (E k : Nat) : Int := x ^ (E / 2 ^ (256 - k)) % PR
theorem pwK_zero (x : Int) (E : Nat) (h : E < 2 ^ 256) : pwK x E 0 = 1 := by
  rw [pwK, Nat.sub_zero, Nat.div_eq_of_lt h, Int.pow_zero]; rfl
theorem pwK_all (x : Int) (E : Nat) : pwK x E 256 = x ^ E % PR := by
  rw [pwK, Nat.sub_self, Nat.pow_zero, Nat.div_one]
theorem pwK_succ (x : Int) (E k : Nat) (hk : k < 256) : (bif (((E / 2 ^ (255 - k) % 2 : Nat) : Int) == 1) then ((pwK x E k * pwK x E k) % PR * x) % PR else (pwK x E k * pwK x E k) % PR) = pwK x E (k + 1) := by
  have e1 : 2 ^ (256 - k) = 2 ^ (255 - k) * 2 := by rw [← Nat.pow_succ]; congr 1; omega
  have e2 : 256 - (k + 1) = 255 - k := by omega
  have e3 : (pwK x E k * pwK x E k) % PR = x ^ (2 * (E / 2 ^ (256 - k))) % PR := by
    rw [pwK, pm_l, pm_r, ← Int.pow_add]; congr 2; omega
  have e4 : E / 2 ^ (256 - k) = E / 2 ^ (255 - k) / 2 := by rw [e1, Nat.div_div_eq_div_mul]
  rw [e3, e4, pwK, e2]
  generalize E / 2 ^ (255 - k) = m
  rcases Nat.mod_two_eq_zero_or_one m with h | h
  · rw [h]
    show x ^ (2 * (m / 2)) % PR = _
    congr 2; omega
  · rw [h]
    show (x ^ (2 * (m / 2)) % PR * x) % PR = _
    rw [pm_l, ← Int.pow_succ]
    congr 2; omega
/-- The function that tells the bits. -/
def isClo (b : Nat) (es : List Int) (v : Value) (w : World) : Prop := ∃ gL gE, v = .func (.func 129) #[] #[.pointer (some ⟨gL, 0, none⟩), .pointer (some ⟨gE, 0, none⟩)] ∧ b ≤ gL ∧ Blk w gL 3 [.int .i64 256] ∧ Blk w gE 29 (u8s es)
theorem isClo_later (b : Nat) (es : List Int) : ∀ v w w', Below w.heap.size w w' → isClo b es v w → isClo b es v w' := fun _ _ _ hb ⟨gL, gE, h1, h0, h2, h3⟩ => ⟨gL, gE, h1, h0, h2.later hb h2.lt, h3.later hb h3.lt⟩
theorem blk_ne {w : World} {g h : Nat} {t u : TypeId} {vs us : List Value} (a : Blk w g t vs) (b : Blk w h u us) (hn : t ≠ u) : g ≠ h := fun e => by
  subst e
  unfold Blk at a b
  rw [a] at b
  injection b with b
  injection b with _ b _
  exact hn b
set_option maxRecDepth 20000 in
set_option maxHeartbeats 2000000 in
theorem fpower_any (l es : List Int) (x : Int) (hl : Fe l x) (he : es.length = 32) (hb : Bytes es) (w : World) :
    Calls Try.prog 86 #[.agg (u64s l).toArray, .agg (u8s es).toArray] w fun e w' => ∃ r, e = .returned (.agg (u64s r).toArray) ∧ Fe r (x ^ (le es).toNat % PR) ∧ Below w.heap.size w w' := by
  obtain ⟨E, hE⟩ : ∃ z, (le es).toNat = z := ⟨_, rfl⟩
  have hE2 : E < 2 ^ 256 := by
    have h := le_bd es hb
    rw [he] at h
    have h2 : (256 : Int) ^ 32 = 115792089237316195423570985008687907853269984665640564039457584007913129639936 := by decide
    rw [h2] at h
    rw [← hE]
    have h3 : (2 : Nat) ^ 256 = 115792089237316195423570985008687907853269984665640564039457584007913129639936 := by decide
    omega
  have HP : Hid (pwK x E 0 = 1 ∧ pwK x E 256 = x ^ E % PR) := ⟨pwK_zero x E hE2, pwK_all x E⟩
  have HL : Hid (Fe l x ∧ (u64s l).length = 5 ∧ es.length = 32 ∧ Bytes es ∧ (u8s es).length = 32 ∧ (le es).toNat = E) := ⟨hl, by rw [u64s_length, hl.len], he, hb, by rw [u8s_length, he], hE⟩
  rw [hE]
  clear hl he hb hE hE2
  go_enter Try.func86, Try.ntmps86
  go_wp2_with (first | (refine wpList_box_new rfl 27 (.tmp 0) rfl (u64s l) rfl ?_; intro x1 z1 s1 l1) | (refine wpList_box_new rfl 29 (.tmp 1) rfl (u8s es) rfl ?_; intro x2 z2 s2 l2) | (refine wpList_alloc_new rfl 27 rfl 5 _ zeroElem ?_; intro x3 z3 s3 l3))
  try simp only [Act.put, List.setIfInBounds_toArray, List.set_cons_zero, List.set_cons_succ]
  have e2 : x1.heap.size = w.heap.size + 1 := s1
  have e3 : x2.heap.size = w.heap.size + 1 + 1 := by omega
  rw [e2] at z2
  rw [e3] at z3
  try rw [e2]
  try rw [e3]
  have W0 : Hid (Below w.heap.size w x3 ∧ Blk x3 w.heap.size 27 (u64s l) ∧ Blk x3 (w.heap.size + 1) 29 (u8s es) ∧ Blk x3 (w.heap.size + 1 + 1) 27 (u64s [0, 0, 0, 0, 0]) ∧ w.heap.size + 3 = x3.heap.size) := ⟨below_chain (below_chain l1 l2 (by omega)) l3 (by omega), (z1.later l2 (by omega)).later l3 (by omega), z2.later l3 (by omega), z3, by omega⟩
  clear z1 s1 l1 z2 s2 l2 z3 s3 l3 e2 e3
  refine region_invP 4 ((.any (isF 1) (isF_later 1)) :: (.val (.agg (u8s es).toArray)) :: (.any (isClo (w.heap.size + 3) es) (isClo_later _ es)) :: (.blk 27 (u64s [0, 0, 0, 0, 0])) :: []) (by kernel_rfl) (by kernel_rfl) (by kernel_rfl) [5] ⟨.inl rfl, .inl rfl, .inl rfl, .inr ⟨27, _, 5, rfl, rfl, zeroElem⟩, trivial⟩ (by kernel_rfl) ?_ ?_
  · refine Steps'.cons ?_ (Steps'.cons ?_ (Steps'.cons ?_ (Steps'.cons ?_ (Steps'.one _ _ _ _ _ _ _))))
    · intro ax wx hb hs hd
      refine Does.call 25 #[.int .u64 1] (by clear hs hd; go_simp) ?_
      refine (small_any 1 (by decide) (by decide) _).mono ?_
      rintro z w' ⟨r, rfl, fr, l⟩
      exact ⟨_, rfl, ⟨r, rfl, fr⟩, l⟩
    · intro ax wx hb hs hd
      have h3 : ax.tmps.getD 3 undef = (.pointer (some ⟨w.heap.size + 1, 0, none⟩)) := hs 3 (by kernel_rfl)
      exact Does.load 29 (.tmp 3) rfl (w.heap.size + 1) 0 h3 (u8s es) _ ((W0.out.2.2.1.later hb W0.out.2.2.1.lt).whole) Try.underlying29 rfl (by rw [HL.out.2.2.2.2.1]; exact size32)
    · intro ax wx hb hs hd
      have h8 : ax.tmps.getD 8 undef = (.agg (u8s es).toArray) := hd 1 8 rfl (by kernel_rfl) (by decide)
      refine Does.call 116 #[.agg (u8s es).toArray] (by clear hs hd; go_simp) ?_
      refine (bits_any es HL.out.2.2.1 _).mono ?_
      rintro z w' ⟨gL, gE, rfl, q1, q2, q3, q4, l⟩
      exact ⟨_, rfl, ⟨gL, gE, rfl, by have := hb.size; have := W0.out.2.2.2.2; omega, q3, q4⟩, l⟩
    · intro ax wx hb hs hd
      exact Does.alloc 27 rfl 5 _ zeroElem hb.size
  · intro wx hb
    refine @EndsP.any _ _ _ _ _ _ _ _ (isF 1) (isF_later 1) rfl ?_
    intro v0 p0
    refine @EndsP.val _ _ _ _ _ _ _ _ (.agg (u8s es).toArray) rfl ?_
    refine @EndsP.any _ _ _ _ _ _ _ _ (isClo (w.heap.size + 3) es) (isClo_later _ es) rfl ?_
    intro v2 p2
    refine @EndsP.blk _ _ _ _ _ _ _ _ 27 (u64s [0, 0, 0, 0, 0]) rfl ?_
    intro g5 hg5 bg5
    intro hD n hn
    obtain ⟨m, rfl⟩ : ∃ m, n = m + 2 := ⟨n - 2, by have h3 : 2 ≤ n := hn; omega⟩
    obtain ⟨r0, rfl, f0⟩ := p0
    obtain ⟨gL, gE, rfl, hgL, bL, bE⟩ := p2
    clear hD hn
    have nLg : gL ≠ g5 := blk_ne bL bg5 (by decide)
    have nEg : gE ≠ g5 := blk_ne bE bg5 (by decide)
    have nEL : gE ≠ gL := blk_ne bE bL (by decide)
    have nr : Hid ((u64s r0).length = 5) := by rw [u64s_length, f0.len]; rfl
    simp only [Act.put, List.setIfInBounds_toArray, List.set_cons_zero, List.set_cons_succ]
    refine wpAny_ready (rs := [4]) (by kernel_rfl) (by simp) (AllReady.cons rfl (fun K hK => ?_) AllReady.nil)
    rw [if_pos (by rfl)]
    refine last_store 27 (.tmp 5) (.tmp 7) rfl rfl g5 rfl 27 _ (u64s r0) rfl bg5 (by rw [nr.out]; rfl) (by rw [nr.out]; exact sizeElem) (u64s_one _) ?_
    intro w1 b1 s1 k1
    refine hK _ _ ?_
    refine wpAny_ready (rs := [5]) (by kernel_rfl) (by simp) (AllReady.cons rfl (fun K hK => ?_) AllReady.nil)
    rw [if_pos (by rfl)]
    refine last_assign (.tmp 9) rfl (some 6) rfl (.func (.func 129) #[] #[.pointer (some ⟨gL, 0, none⟩), .pointer (some ⟨gE, 0, none⟩)]) rfl ?_
    refine hK _ _ ?_
    refine wpAny_done (by kernel_rfl) (NoPanic.normal ?_) _
    simp only [Act.put, List.setIfInBounds_toArray, List.set_cons_zero, List.set_cons_succ]
    have W1 : Hid (Below w.heap.size w w1 ∧ Blk w1 w.heap.size 27 (u64s l) ∧ Blk w1 (w.heap.size + 1 + 1) 27 (u64s [0, 0, 0, 0, 0]) ∧ Blk w1 gE 29 (u8s es) ∧ Blk w1 gL 3 [.int .i64 256] ∧ Blk w1 g5 27 (u64s r0) ∧ Fe r0 1 ∧ w.heap.size + 3 ≤ g5 ∧ w.heap.size + 3 ≤ gL ∧ gL ≠ g5 ∧ gE ≠ g5 ∧ gE ≠ gL) := by
      have q := W0.out.2.2.2.2
      have q2 := hb.size
      exact ⟨below_kept (below_chain W0.out.1 hb (by omega)) k1 (by omega) (fun j hj => by omega), (W0.out.2.1.later hb W0.out.2.1.lt).kept k1 (by omega), (W0.out.2.2.2.1.later hb W0.out.2.2.2.1.lt).kept k1 (by omega), bE.kept k1 (by omega), bL.kept k1 (by omega), b1, f0, by omega, hgL, nLg, nEg, nEL⟩
    clear W0 hb hg5 bg5 f0 hgL bL bE nLg nEg nEL nr b1 s1 k1 hK
    go_wp2_with fail
    go_loopw [10] (fun i wr => ∃ (k : Nat) (r : List Int), k ≤ 256 ∧ i = .int .i64 k ∧ Blk wr g5 27 (u64s r) ∧ Fe r (pwK x E k) ∧ Blk wr gL 3 [.int .i64 (256 - (k : Int))] ∧ Kept (fun b => b = g5 ∨ b = gL) w1 wr) (fun i _ => 256 - (intOf i).toNat)
    case atStart => exact ⟨0, r0, by omega, rfl, W1.out.2.2.2.2.2.1, by rw [HP.out.1]; exact W1.out.2.2.2.2.2.2.1, W1.out.2.2.2.2.1, Kept.refl _ _⟩
    case round =>
      obtain ⟨k, r, hk, rfl, hblk, hfe, hbl, hkp⟩ := hrel
      by_cases hlt : k < 256
      · have i1 : (k : Int) < 256 := by omega
        have i3 : (0 : Int) ≤ (k : Int) := by omega
        obtain ⟨n, hn⟩ : ∃ n : Nat, 255 - k = n := ⟨_, rfl⟩
        have hn2 : (256 - (k : Int)) = (n : Int) + 1 := by omega
        have HW : Hid (Blk wr g5 27 (u64s r) ∧ Blk wr gL 3 [.int .i64 ((n : Int) + 1)] ∧ Blk wr w.heap.size 27 (u64s l) ∧ Blk wr gE 29 (u8s es) ∧ Kept (fun b => b = g5 ∨ b = gL) w1 wr) := by
          obtain ⟨a1, a2, a3, a4, a5, a6, a7, a8, a9, b1, b2, b3⟩ := W1.out
          rw [hn2] at hbl
          exact ⟨hblk, hbl, a2.kept hkp (by omega), a4.kept hkp (by omega), hkp⟩
        have HF : Hid (Fe r (pwK x E k) ∧ (u64s r).length = 5) := ⟨hfe, by rw [u64s_length, hfe.len]⟩
        have HN : Hid (255 - k = n ∧ n < 256 ∧ k < 256) := ⟨hn, by omega, hlt⟩
        clear hblk hfe hbl hkp hn hn2 hk
        go_wp2_with (first | (refine wpList_load_blk rfl 27 (.tmp 5) rfl g5 rfl (u64s r) _ HW.out.1 Try.underlying27 rfl (by rw [HF.out.2]; exact sizeElem) ?_) | (go_at_call 53; refine (square_any _ _ HF.out.1 _).mono ?_; rintro e y1 ⟨r1, rfl, f1, l1⟩; have HR : Hid (Fe r1 ((pwK x E k * pwK x E k) % PR) ∧ (u64s r1).length = 5) := ⟨f1, by rw [u64s_length, f1.len]⟩; clear f1) | (refine wpList_store_blk rfl 27 27 _ _ rfl _ rfl _ (u64s r1) rfl (HW.out.1.later l1 HW.out.1.lt) (by rw [HR.out.2, HF.out.2]) (by rw [HR.out.2]; exact sizeElem) (u64s_one _) ?_; intro y2 c2 t2 k2))
        have HV : Hid (Blk y2 g5 27 (u64s r1) ∧ Blk y2 gL 3 [.int .i64 ((n : Int) + 1)] ∧ Blk y2 w.heap.size 27 (u64s l) ∧ Blk y2 gE 29 (u8s es) ∧ Kept (fun b => b = g5 ∨ b = gL) w1 y2) := by
          obtain ⟨a1, a2, a3, a4, a5, a6, a7, a8, a9, b1, b2, b3⟩ := W1.out
          exact ⟨c2, (HW.out.2.1.later l1 HW.out.2.1.lt).kept k2 (by omega), (HW.out.2.2.1.later l1 HW.out.2.2.1.lt).kept k2 (by omega), (HW.out.2.2.2.1.later l1 HW.out.2.2.2.1.lt).kept k2 (by omega), HW.out.2.2.2.2.trans ((Kept.new _ l1).trans (k2.mono (fun b hb => Or.inl hb)))⟩
        simp only [Act.put, List.setIfInBounds_toArray, List.set_cons_zero, List.set_cons_succ]
        have S0 : Hid (y2.rangeAt g5 0 (u64s r1) ∧ y2.rangeAt w.heap.size 0 (u64s l)) := ⟨HV.out.1.whole, HV.out.2.2.1.whole⟩
        clear c2 t2 k2 l1 HW
        refine wp_region_noPanic (till_region 7 (fun W => W.rangeAt g5 0 (u64s r1) ∧ W.rangeAt w.heap.size 0 (u64s l)) (by kernel_rfl) ?_)
        change wpTill _ _ _ _ _ _ _ _ y2.drew
        have HS : Hid (y2.drew.rangeAt g5 0 (u64s r1) ∧ y2.drew.rangeAt w.heap.size 0 (u64s l)) := S0.out
        refine tTake 0 (some 14) (.func (.func 129) #[] #[.pointer (some ⟨gL, 0, none⟩), .pointer (some ⟨gE, 0, none⟩)]) rfl rfl (by kernel_rfl) (by kernel_rfl) (by kernel_rfl) (by decide) (fun _ _ _ h => h) (by rfl) (fun _ => by go_simp) HS.out ?_
        simp only [Act.put, List.setIfInBounds_toArray, List.set_cons_zero, List.set_cons_succ]
        refine tLoadMid 2 (some 16) (u64s r1) rfl rfl (by kernel_rfl) (by kernel_rfl) (by kernel_rfl) (by decide) (by kernel_rfl) (by kernel_rfl) (fun _ _ _ h => h) (by rfl) 27 (.tmp 5) rfl g5 0 rfl _ (fun _ h => h.1) Try.underlying27 rfl (by rw [HR.out.2]; exact sizeElem) HS.out ?_
        simp only [Act.put, List.setIfInBounds_toArray, List.set_cons_zero, List.set_cons_succ]
        refine tLoadMid 3 (some 17) (u64s l) rfl rfl (by kernel_rfl) (by kernel_rfl) (by kernel_rfl) (by decide) (by kernel_rfl) (by kernel_rfl) (fun _ _ _ h => h) (by rfl) 27 (.tmp 2) rfl w.heap.size 0 rfl _ (fun _ h => h.2) Try.underlying27 rfl (by rw [HL.out.2.1]; exact sizeElem) HS.out ?_
        simp only [Act.put, List.setIfInBounds_toArray, List.set_cons_zero, List.set_cons_succ]
        refine tLoadMid 5 (some 19) (u64s r1) rfl rfl (by kernel_rfl) (by kernel_rfl) (by kernel_rfl) (by decide) (by kernel_rfl) (by kernel_rfl) (fun _ _ _ h => h) (by rfl) 27 (.tmp 5) rfl g5 0 rfl _ (fun _ h => h.1) Try.underlying27 rfl (by rw [HR.out.2]; exact sizeElem) HS.out ?_
        simp only [Act.put, List.setIfInBounds_toArray, List.set_cons_zero, List.set_cons_succ]
        have hbit := bit_of es HL.out.2.2.1 HL.out.2.2.2.1 n HN.out.2.1
        rw [HL.out.2.2.2.2.2] at hbit
        have hbd : Word (es.getD (n / 8) 0 / 2 ^ (n % 8)) := by
          have hX : 0 ≤ es.getD (n / 8) 0 ∧ es.getD (n / 8) 0 < 256 := by have := HL.out.2.2.2.1.at (n / 8) (by rw [HL.out.2.2.1]; have := HN.out.2.1; omega); omega
          have hf : n % 8 < 8 := Nat.mod_lt _ (by decide)
          generalize es.getD (n / 8) 0 = X at hX
          generalize n % 8 = f at hf
          have : f = 0 ∨ f = 1 ∨ f = 2 ∨ f = 3 ∨ f = 4 ∨ f = 5 ∨ f = 6 ∨ f = 7 := by omega
          rcases this with rfl | rfl | rfl | rfl | rfl | rfl | rfl | rfl <;> simp only [Int.reducePow] <;> exact ⟨by omega, by omega⟩
        have hclo := fun W h1 h2 => clo_any es HL.out.2.2.1 HL.out.2.2.2.1 n HN.out.2.1 gL gE W h1 h2
        obtain ⟨T, hT⟩ : ∃ z, es.getD (n / 8) 0 / 2 ^ (n % 8) = z := ⟨_, rfl⟩
        rw [hT] at hbit hbd hclo
        have HT : Hid (T % 2 = ((E / 2 ^ n % 2 : Nat) : Int)) := hbit
        have HCLO : Hid (∀ W, Blk W gL 3 [.int .i64 ((n : Int) + 1)] → Blk W gE 29 (u8s es) → Calls Try.prog 129 #[.pointer (some ⟨gL, 0, none⟩), .pointer (some ⟨gE, 0, none⟩)] W fun e w' => e = .returned (.int .u64 T) ∧ Blk w' gL 3 [.int .i64 (n : Int)] ∧ Kept (fun k => k = gL) W w') := hclo
        clear hbit hclo hT
        refine till_ready 1 (by kernel_rfl) rfl (fun K hK => ?_)
        go_simp
        go_wp2_with (go_at_call 129; refine (HCLO.out _ HV.out.2.1.drew HV.out.2.2.2.1.drew).mono ?_; rintro e y3 ⟨rfl, c3, k3⟩)
        have V3 : Hid (Blk y3 g5 27 (u64s r1) ∧ Blk y3 gL 3 [.int .i64 (n : Int)] ∧ Blk y3 w.heap.size 27 (u64s l) ∧ Kept (fun b => b = g5 ∨ b = gL) w1 y3) := by
          obtain ⟨a1, a2, a3, a4, a5, a6, a7, a8, a9, b1, b2, b3⟩ := W1.out
          have k3' : Kept (fun k => k = gL) y2 y3 := ⟨k3.os, k3.tape, k3.output, k3.size, k3.block⟩
          exact ⟨HV.out.1.kept k3' (by omega), c3, HV.out.2.2.1.kept k3' (by omega), HV.out.2.2.2.2.trans (k3'.mono (fun b hb => Or.inr hb))⟩
        clear c3 k3
        refine ⟨⟨V3.out.1.whole, V3.out.2.2.1.whole⟩, ?_⟩
        refine till_ready 4 (by kernel_rfl) rfl (fun K hK => ?_)
        go_simp
        go_wp2_with (go_at_call 31; refine (mul_any _ _ _ _ HR.out.1 HL.out.1 _).mono ?_; rintro e y4 ⟨r2, rfl, f2, l4⟩)
        have V4 : Hid (Blk y4 g5 27 (u64s r1) ∧ Blk y4 gL 3 [.int .i64 (n : Int)] ∧ Blk y4 w.heap.size 27 (u64s l) ∧ Kept (fun b => b = g5 ∨ b = gL) w1 y4 ∧ Fe r2 (((pwK x E k * pwK x E k) % PR * x) % PR)) := ⟨V3.out.1.later l4 V3.out.1.lt, V3.out.2.1.later l4 V3.out.2.1.lt, V3.out.2.2.1.later l4 V3.out.2.2.1.lt, V3.out.2.2.2.trans (Kept.new _ l4), f2⟩
        clear f2 l4
        refine ⟨⟨V4.out.1.whole, V4.out.2.2.1.whole⟩, ?_⟩
        refine till_ready 6 (by kernel_rfl) rfl (fun K hK => ?_)
        go_simp
        go_wp2_with (go_at_call 28; refine (fpick_any T hbd _ _ _ _ V4.out.2.2.2.2 HR.out.1 _).mono ?_; rintro e y5 ⟨r3, rfl, f3, l5⟩)
        have HG : Hid (Fe r3 (pwK x E (k + 1)) ∧ (u64s r3).length = 5) := by
          have e := pwK_succ x E k HN.out.2.2
          rw [HN.out.1, ← HT.out] at e
          rw [e] at f3
          exact ⟨f3, by rw [u64s_length, f3.len]⟩
        have V5 : Hid (Blk y5 g5 27 (u64s r1) ∧ Blk y5 gL 3 [.int .i64 (n : Int)] ∧ Kept (fun b => b = g5 ∨ b = gL) w1 y5) := ⟨V4.out.1.later l5 V4.out.1.lt, V4.out.2.1.later l5 V4.out.2.1.lt, V4.out.2.2.2.1.trans (Kept.new _ l5)⟩
        refine ⟨⟨V5.out.1.whole, (V4.out.2.2.1.later l5 V4.out.2.2.1.lt).whole⟩, ?_⟩
        clear f3 l5
        refine till_at (by kernel_rfl) ?_
        refine wpAny_ready (rs := [7]) (by kernel_rfl) (by simp) (AllReady.cons rfl (fun K hK => ?_) AllReady.nil)
        rw [if_pos (by rfl)]
        refine last_store 27 (.tmp 5) (.tmp 20) rfl rfl g5 rfl 27 _ (u64s r3) rfl V5.out.1 (by rw [HG.out.2, HR.out.2]) (by rw [HG.out.2]; exact sizeElem) (u64s_one _) ?_
        intro y6 c6 t6 k6
        refine hK _ _ ?_
        refine wpAny_done (by kernel_rfl) (NoPanic.normal ?_) _
        have V6 : Hid (Blk y6 g5 27 (u64s r3) ∧ Blk y6 gL 3 [.int .i64 (n : Int)] ∧ Kept (fun b => b = g5 ∨ b = gL) w1 y6) := by
          obtain ⟨a1, a2, a3, a4, a5, a6, a7, a8, a9, b1, b2, b3⟩ := W1.out
          exact ⟨c6, V5.out.2.1.kept k6 (by omega), V5.out.2.2.trans (k6.mono (fun b hb => Or.inl hb))⟩
        clear c6 t6 k6 V5 V4 V3 HV
        go_wp2_with fail
        go_roundw
        case rel =>
          have hn := HN.out.1
          exact ⟨k + 1, r3, by omega, by go_num, V6.out.1, HG.out.1, by have h := V6.out.2.1; rw [show (n : Int) = 256 - ((k + 1 : Nat) : Int) by omega] at h; exact h, V6.out.2.2⟩
        case measure => simp [intOf]; omega
      · have hk5 : k = 256 := by omega
        have i1 : ¬ ((k : Int) < 256) := by omega
        have HQ : Hid (Blk wr g5 27 (u64s r) ∧ Blk wr (w.heap.size + 1 + 1) 27 (u64s [0, 0, 0, 0, 0]) ∧ Below w.heap.size w wr ∧ Fe r (x ^ E % PR) ∧ r.length = 5) := by
          obtain ⟨a1, a2, a3, a4, a5, a6, a7, a8, a9, b1, b2, b3⟩ := W1.out
          rw [hk5, HP.out.2] at hfe
          exact ⟨hblk, a3.kept hkp (by omega), below_kept a1 hkp a1.size (fun j hj => by omega), hfe, hfe.len⟩
        clear hblk hfe hbl hkp hk5 hlt hk
        go_wp2_with (first | (refine wpList_load_blk rfl 27 (.tmp 5) rfl g5 rfl (u64s r) _ HQ.out.1 Try.underlying27 rfl (by rw [u64s_length, HQ.out.2.2.2.2]; exact sizeElem) ?_) | (refine wpList_store_blk rfl 27 27 _ _ rfl _ rfl _ (u64s r) rfl HQ.out.2.1 (by rw [u64s_length, HQ.out.2.2.2.2]; rfl) (by rw [u64s_length, HQ.out.2.2.2.2]; exact sizeElem) (u64s_one _) ?_; intro y7 b7 s7 k7))
        exact ret_blk rfl (w.heap.size + 1 + 1) (u64s r) _ rfl b7 Try.underlying27 rfl (by rw [u64s_length, HQ.out.2.2.2.2]; exact sizeElem) rfl ⟨r, rfl, HQ.out.2.2.2.1, below_kept HQ.out.2.2.1 k7 HQ.out.2.2.1.size (fun j hj => by omega)⟩
end Go.Proofs.Ytnifolefhelmcaa

namespace Go.Proofs.Ytnifolefhelmcaa
open Go.RowKit
set_option linter.unusedVariables false
set_option linter.unusedSimpArgs false

theorem aw2 : (le (leB 32 ((0 - 2) % PR))).toNat = p2 := by decide +kernel
set_option maxRecDepth 20000 in
set_option maxHeartbeats 1000000 in
theorem finv_any (l : List Int) (x : Int) (hl : Fe l x) (w : World) :
    Calls Try.prog 54 #[.agg (u64s l).toArray] w fun e w' => ∃ r, e = .returned (.agg (u64s r).toArray) ∧ Fe r (inv x) ∧ Below w.heap.size w w' := by
  have hpw : ∀ w, Calls Try.prog 86 #[.agg (u64s l).toArray, .agg (u8s (leB 32 ((0 - 2) % PR))).toArray] w fun e w' => ∃ r, e = .returned (.agg (u64s r).toArray) ∧ Fe r (inv x) ∧ Below w.heap.size w w' := fun w => by
    have h := fpower_any l (leB 32 ((0 - 2) % PR)) x hl (leB_length _ _) (leB_bytes _ _) w
    rw [aw2] at h
    exact h
  have HL : Hid ((u64s l).length = 5 ∧ (u8s (leB 32 ((0 - 2) % PR))).length = 32) := ⟨by rw [u64s_length, hl.len], by rw [u8s_length, leB_length]⟩
  obtain ⟨B, hB⟩ : ∃ z, leB 32 ((0 - 2) % PR) = z := ⟨_, rfl⟩
  have HB : Hid (leB 32 ((0 - 2) % PR) = B) := hB
  rw [hB] at hpw HL
  have HPW : Hid (∀ w, Calls Try.prog 86 #[.agg (u64s l).toArray, .agg (u8s B).toArray] w fun e w' => ∃ r, e = .returned (.agg (u64s r).toArray) ∧ Fe r (inv x) ∧ Below w.heap.size w w') := hpw
  clear hpw hB hl
  go_enter Try.func54, Try.ntmps54
  go_wp2_with (first
    | (refine wpList_box_new rfl 27 (.tmp 0) rfl (u64s l) rfl ?_; intro x1 z1 s1 l1)
    | ((with_reducible show wpList _ _ _ _ _ x1); refine wpList_alloc_new rfl 27 rfl 5 _ zeroElem ?_; intro x2 z2 s2 l2; rw [s1] at z2)
    | ((with_reducible show Calls _ 25 _ _ _); refine (small_any 2 (by decide) (by decide) _).mono ?_; rintro e x3 ⟨r2, rfl, f2, l3⟩)
    | (go_at_call 26; refine (neg_any _ _ f2 _).mono ?_; rintro e x4 ⟨rm, rfl, fm, l4⟩)
    | (go_at_call 18; refine (fbytes_any _ _ fm _).mono ?_; rintro e x5 ⟨rfl, l5⟩; rw [HB.out])
    | ((with_reducible show wpList _ _ _ _ _ x5); refine wpList_alloc_new rfl 29 rfl 32 _ zero32 ?_; intro x6 z6 s6 l6)
    | ((with_reducible show wpList _ _ _ _ _ x6); refine wpList_store_blk rfl 29 29 _ _ rfl _ rfl _ (u8s B) rfl z6 (by rw [HL.out.2]; rfl) (by rw [HL.out.2]; exact size32) (u8s_one _) ?_; intro x7 b7 s7 k7; obtain ⟨G, hG⟩ : ∃ z, x5.heap.size = z := ⟨_, rfl⟩; rw [hG] at b7 k7; rw [hG]; have WW : Hid (Blk x7 w.heap.size 27 (u64s l) ∧ Blk x7 (w.heap.size + 1) 27 (u64s [0, 0, 0, 0, 0]) ∧ Blk x7 G 29 (u8s B) ∧ Below w.heap.size w x7) := (by have q3 := l3.size; have q4 := l4.size; have q5 := l5.size; exact ⟨(((((z1.later l2 (by omega)).later l3 (by omega)).later l4 (by omega)).later l5 (by omega)).later l6 (by omega)).kept k7 (by omega), ((((z2.later l3 (by omega)).later l4 (by omega)).later l5 (by omega)).later l6 (by omega)).kept k7 (by omega), b7, below_kept (below_chain (below_chain (below_chain (below_chain (below_chain l1 l2 (by omega)) l3 (by omega)) l4 (by omega)) l5 (by omega)) l6 (by omega)) k7 (by omega) (fun j hj => by omega)⟩))
    | ((with_reducible show wpList _ _ _ (({ dst := some 7, op := _, type := _, pos := _, after := _, guard := _ } : Oper) :: _) _ _); refine wpList_load_blk rfl 27 (.tmp 1) rfl w.heap.size rfl (u64s l) _ WW.out.1 Try.underlying27 rfl (by rw [HL.out.1]; exact sizeElem) ?_)
    | ((with_reducible show wpList _ _ _ (({ dst := some 8, op := _, type := _, pos := _, after := _, guard := _ } : Oper) :: _) _ _); refine wpList_load_blk rfl 29 (.tmp 3) rfl G rfl (u8s B) _ WW.out.2.2.1 Try.underlying29 rfl (by rw [HL.out.2]; exact size32) ?_)
    | (go_at_call 86; refine (HPW.out _).mono ?_; rintro e x8 ⟨r, rfl, fr, l8⟩; have HR : Hid (Fe r (inv x) ∧ (u64s r).length = 5) := ⟨fr, by rw [u64s_length, fr.len]⟩; clear fr)
    | (refine wpList_store_blk rfl 27 27 _ _ rfl _ rfl _ (u64s r) rfl (WW.out.2.1.later l8 WW.out.2.1.lt) (by rw [HR.out.2]; rfl) (by rw [HR.out.2]; exact sizeElem) (u64s_one _) ?_; intro x9 b9 s9 k9))
  exact ret_blk rfl (w.heap.size + 1) (u64s r) _ rfl b9 Try.underlying27 rfl (by rw [HR.out.2]; exact sizeElem) rfl ⟨r, rfl, HR.out.1, below_kept (below_chain WW.out.2.2.2 l8 WW.out.2.2.2.size) k9 (by have := WW.out.2.2.2.size; have := l8.size; omega) (fun j hj => by omega)⟩
end Go.Proofs.Ytnifolefhelmcaa
