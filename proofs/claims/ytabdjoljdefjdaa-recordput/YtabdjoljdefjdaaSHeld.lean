/- Regions that draw: loads ahead of one operation that ends what they lean on. -/
import Derived.Test.YtabdjoljdefjdaaSBase
namespace Go.Proofs.Ytabdjoljdefjdaa
open Go.RowKit
set_option linter.unusedVariables false
set_option linter.unusedSimpArgs false

/-- Whatever order is picked; and S holds behind each operation so long as operation c has not come up. -/
def wpTill (md : Region.Mode) (ops : Array Oper) (Q : Exit → Act → World → Prop) (c : Nat) (S : World → Prop) : Nat → Array Bool → Act → World → Prop
  | 0, l, a, w => Region.ready md ops l = [] ∧ Q .normal a w
  | n + 1, l, a, w =>
    (Region.ready md ops l = [] → Q .normal a w) ∧
    ∀ i ∈ Region.ready md ops l, wpOp Try.prog ops Q i (fun a' w' => (i ≠ c → l.getD c true = false → S w') ∧ wpTill md ops Q c S n (l.setIfInBounds i true) a' w') a w
theorem till_any {md : Region.Mode} {ops : Array Oper} {Q : Exit → Act → World → Prop} {c : Nat} {S : World → Prop} : ∀ (n : Nat) (l : Array Bool) (a : Act) (w : World), wpTill md ops Q c S n l a w → wpAny Try.prog md ops Q n l a w
  | 0, _, _, _, h => h
  | n + 1, _, _, _, h => ⟨h.1, fun i hi => wpOp_mono (fun a' w' h' => till_any n _ a' w' h'.2) (h.2 i hi)⟩
theorem any_till {md : Region.Mode} {ops : Array Oper} {Q : Exit → Act → World → Prop} {c : Nat} {S : World → Prop} : ∀ (n : Nat) (l : Array Bool) (a : Act) (w : World), l.getD c true = true → wpAny Try.prog md ops Q n l a w → wpTill md ops Q c S n l a w
  | 0, _, _, _, _, h => h
  | n + 1, l, _, _, hc, h => ⟨h.1, fun i hi => wpOp_mono (fun a' w' h' => ⟨fun _ h0 => absurd (hc.symm.trans h0) (by decide), any_till n _ a' w' (by
      by_cases e : i = c
      · subst e; by_cases hs : i < l.size <;> simp [Array.getD, hs]
      · rw [getD_set_ne true e]; exact hc) h'⟩) (h.2 i hi)⟩
/-- The operation itself comes up. -/
theorem till_at {md : Region.Mode} {ops : Array Oper} {Q : Exit → Act → World → Prop} {c : Nat} {S : World → Prop} {n : Nat} {l : Array Bool} {a : Act} {w : World} (hr : Region.ready md ops l = [c])
    (h : wpAny Try.prog md ops Q (n + 1) l a w) : wpTill md ops Q c S (n + 1) l a w := by
  refine ⟨h.1, fun i hi => ?_⟩
  have h1 := h.2 i hi
  rw [hr] at hi
  obtain rfl : i = c := by simpa using hi
  exact wpOp_mono (fun a' w' h' => ⟨fun h0 => absurd rfl h0, any_till n _ a' w' (by by_cases hs : i < l.size <;> simp [Array.getD, hs]) h'⟩) h1
theorem till_region {ops : Array Oper} {Q : Exit → Act → World → Prop} {id : Nat} {a : Act} {w : World} (c : Nat) (S : World → Prop) (hm : Try.prog.follows .mixedOrders = true)
    (h : wpTill .any ops Q c S ops.size (Array.replicate ops.size false) a { w with drawn := w.drawn + 1 }) : (Code.region id ops true).wp Try.prog Q a w :=
  wp_region_any hm (till_any _ _ _ _ h)
/-- What the operation i leans on, T, holds until it comes up: always, or because S does and c waits for i. -/
def Leans (md : Region.Mode) (ops : Array Oper) (c : Nat) (S T : World → Prop) (i : Nat) (l : Array Bool) : Prop :=
  (∀ w, T w) ∨ ((∀ w, S w → T w) ∧ l.getD c true = false ∧ ∀ l' : Array Bool, l'.getD i true = false → c ∉ Region.ready md ops l')
theorem till_first {md : Region.Mode} {ops : Array Oper} {Q : Exit → Act → World → Prop} {c : Nat} {S T : World → Prop} {i : Nat} {oi : Oper} {v : Value} (hi : ops[i]? = some oi) (hsel : ∀ (j : Nat) (o : Oper) cs b, ops[j]? = some o → o.op ≠ .select cs b) (hic : i ≠ c)
    (hQ : ∀ c a w, Q (.panic c) (a.put oi.dst v) w → Q (.panic c) a w) :
    ∀ (n : Nat) (l : Array Bool) (a : Act) (w : World),
      (∀ j oj, ops[j]? = some oj → j ≠ i → l.getD j true = false → (∀ e ∈ oj.after, Region.binds md e = true → e.on ≠ i) → oi.apart ops oj = true) →
      i ∈ Region.ready md ops l → YieldsIf Try.prog ops T oi v a → T w → Leans md ops c S T i l → (l.getD c true = false → S w) →
      wpTill md ops Q c S n (l.setIfInBounds i true) (a.put oi.dst v) w → wpTill md ops Q c S (n + 1) l a w := by
  intro n
  induction n with
  | zero =>
    intro l a w _ hr hy hT _ hS H
    refine ⟨fun h => (by rw [h] at hr; cases hr), fun j hj => ?_⟩
    by_cases hji : j = i
    · subst hji; exact hy.wpOp hi hT ⟨fun _ h0 => hS h0, H⟩
    · have := ready_mono hj hji
      rw [H.1] at this
      cases this
  | succ n ih =>
    intro l a w hfree hr hy hT hL hS H
    refine ⟨fun h => (by rw [h] at hr; cases hr), fun j hj => ?_⟩
    by_cases hji : j = i
    · subst hji; exact hy.wpOp hi hT ⟨fun _ h0 => hS h0, H⟩
    · have h1 := H.2 j (ready_mono hj hji)
      obtain ⟨hjun, oj, hoj, hall⟩ := mem_ready.1 hj
      have hun := (mem_ready.1 hr).1
      have hnot : ∀ e ∈ oj.after, Region.binds md e = true → e.on ≠ i := fun e he hb heq => by
        have h1 := hall e he hb
        rw [heq] at h1
        rcases Nat.lt_or_ge i l.size with h' | h'
        · simp [h'] at hun h1; rw [hun] at h1; cases h1
        · simp [Array.getElem?_eq_none h'] at h1
      have h2 := wpOp_putIf hoj (hfree j oj hoj hji hjun hnot) (fun cs b => hsel i oi cs b hi) (fun cs b => hsel j oj cs b hoj) hQ hy h1
      have hfree' : ∀ k ok, ops[k]? = some ok → k ≠ i → (l.setIfInBounds j true).getD k true = false →
          (∀ e ∈ ok.after, Region.binds md e = true → e.on ≠ i) → oi.apart ops ok = true := fun k ok hk hki hkun hno => by
        refine hfree k ok hk hki ?_ hno
        by_cases hjk : j = k
        · subst hjk; exact hjun
        · rw [getD_set_ne true hjk] at hkun; exact hkun
      refine wpOp_mono (fun a' w' h3 => ?_) h2
      obtain ⟨h31, h32, h33⟩ := h3
      rw [getD_set_ne true hic] at h32
      have hS' : (l.setIfInBounds j true).getD c true = false → S w' := fun h0 => by
        by_cases hjc : j = c
        · subst hjc
          exfalso
          by_cases hs : j < l.size <;> simp [Array.getD, hs] at h0
        · rw [getD_set_ne true hjc] at h0; exact h32 hjc h0
      refine ⟨h32, ih (l.setIfInBounds j true) a' w' hfree' (ready_mono hr (Ne.symm hji)) h31 ?_ ?_ hS' ?_⟩
      · rcases hL with hL | ⟨hL1, hL2, hL3⟩
        · exact hL w'
        · exact hL1 w' (h32 (fun e => hL3 l hun (e ▸ hj)) hL2)
      · rcases hL with hL | ⟨hL1, hL2, hL3⟩
        · exact .inl hL
        · refine .inr ⟨hL1, ?_, hL3⟩
          have hjc : j ≠ c := fun e => hL3 l hun (by rw [← e]; exact hj)
          rw [getD_set_ne true hjc]; exact hL2
      · rw [Array.setIfInBounds_comm _ _ hji]
        exact h33
/-- An operation that yields its value in whatever world. -/
theorem tTake {md : Region.Mode} {ops : Array Oper} {Q : Exit → Act → World → Prop} {c : Nat} {S : World → Prop} {oi : Oper} {n : Nat} {l : Array Bool} {a : Act} {w : World} (i : Nat) (d : Option Tmp) (v : Value) (hi : ops[i]? = some oi) (hd : oi.dst = d)
    (hs : Region.noSelect ops = true) (hf : Region.free md ops l i = true) (hr : (Region.ready md ops l).contains i = true) (hic : i ≠ c) (hQ : ∀ c a w, Q (.panic c) (a.put d v) w → Q (.panic c) a w)
    (hw : Region.wanted oi (yielded ops a.tmps) = true) (hy : ∀ w, (execOp a.eval oi).run Try.prog w = .ok (.value v) w) (hS : S w)
    (h : wpTill md ops Q c S n (l.setIfInBounds i true) (a.put d v) w) : wpTill md ops Q c S (n + 1) l a w := by
  subst hd
  exact till_first (T := fun _ => True) hi (Region.noSelect_spec hs) hic hQ n l a w (Region.free_spec hi hf) (by simpa using hr) (Or.inl ⟨hw, fun w _ => hy w⟩) trivial (.inl fun _ => trivial) (fun _ => hS) h
def waits (md : Region.Mode) (ops : Array Oper) (c i : Nat) : Bool := ((ops[c]?).map (fun o => o.after.any fun e => Region.binds md e && e.on == i)).getD false
theorem waits_spec {md : Region.Mode} {ops : Array Oper} {c i : Nat} (h : waits md ops c i = true) : ∀ l' : Array Bool, l'.getD i true = false → c ∉ Region.ready md ops l' := by
  intro l hl hc
  obtain ⟨_, oc, hoc, hall⟩ := mem_ready.1 hc
  simp only [waits, hoc, Option.map_some, Option.getD_some, Array.any_eq_true, Bool.and_eq_true, beq_iff_eq] at h
  obtain ⟨k, hk, hb, he⟩ := h
  have h1 := hall _ (Array.getElem_mem hk) hb
  rw [he] at h1
  rcases Nat.lt_or_ge i l.size with h' | h'
  · simp [h'] at hl h1; rw [hl] at h1; cases h1
  · simp [Array.getElem?_eq_none h'] at h1
/-- A load, or what else leans on S, of an operation for which c waits. -/
theorem tLoad {md : Region.Mode} {ops : Array Oper} {Q : Exit → Act → World → Prop} {c : Nat} {S : World → Prop} {oi : Oper} {n : Nat} {l : Array Bool} {a : Act} {w : World} (i : Nat) (d : Option Tmp) (v : Value) (hi : ops[i]? = some oi) (hd : oi.dst = d)
    (hs : Region.noSelect ops = true) (hf : Region.free md ops l i = true) (hr : (Region.ready md ops l).contains i = true) (hic : i ≠ c) (hc : l.getD c true = false) (hwt : waits md ops c i = true) (hQ : ∀ c a w, Q (.panic c) (a.put d v) w → Q (.panic c) a w)
    (hw : Region.wanted oi (yielded ops a.tmps) = true) (hy : ∀ w, S w → (execOp a.eval oi).run Try.prog w = .ok (.value v) w) (hS : S w)
    (h : wpTill md ops Q c S n (l.setIfInBounds i true) (a.put d v) w) : wpTill md ops Q c S (n + 1) l a w := by
  subst hd
  exact till_first (T := S) hi (Region.noSelect_spec hs) hic hQ n l a w (Region.free_spec hi hf) (by simpa using hr) (Or.inl ⟨hw, hy⟩) hS (.inr ⟨fun _ h => h, hc, waits_spec hwt⟩) (fun _ => hS) h
/-- Many cells that S names are read; c waits for it. -/
theorem tLoadMid {md : Region.Mode} {ops : Array Oper} {Q : Exit → Act → World → Prop} {c : Nat} {S : World → Prop} {oi : Oper} {n : Nat} {l : Array Bool} {a : Act} {w : World} (i : Nat) (d : Option Tmp) (cs : List Value) (hi : ops[i]? = some oi) (hd : oi.dst = d)
    (hs : Region.noSelect ops = true) (hf : Region.free md ops l i = true) (hr : (Region.ready md ops l).contains i = true) (hic : i ≠ c) (hc : l.getD c true = false) (hwt : waits md ops c i = true) (hQ : ∀ c a w, Q (.panic c) (a.put d (.agg cs.toArray)) w → Q (.panic c) a w)
    (hw : Region.wanted oi (yielded ops a.tmps) = true) (ty : TypeId) (x : Operand) (ho : oi.op = .load ty x) (b off : Nat) (hx : a.eval x = .pointer (some ⟨b, off, none⟩)) (ds : TypeDesc) (hy : ∀ w, S w → w.rangeAt b off cs)
    (hu : Try.prog.underlying ty = some ds) (hdr : ds.isRow = true) (hz : (Try.prog.info? ty).map (·.size) = some cs.length) (hS : S w)
    (h : wpTill md ops Q c S n (l.setIfInBounds i true) (a.put d (.agg cs.toArray)) w) : wpTill md ops Q c S (n + 1) l a w := by
  subst hd
  exact till_first (T := S) hi (Region.noSelect_spec hs) hic hQ n l a w (Region.free_spec hi hf) (by simpa using hr) (yieldsIf_load_mid hw ty x ho b off hx cs ds hy hu hdr hz) hS (.inr ⟨fun _ h => h, hc, waits_spec hwt⟩) (fun _ => hS) h
/-- One operation alone may come up. -/
theorem till_ready {md : Region.Mode} {ops : Array Oper} {Q : Exit → Act → World → Prop} {c : Nat} {S : World → Prop} {oi : Oper} {n : Nat} {l : Array Bool} {a : Act} {w : World} (i : Nat) (hr : Region.ready md ops l = [i]) (hi : ops[i]? = some oi)
    (h : ∀ K : Act → World → Prop, (∀ a' w', S w' ∧ wpTill md ops Q c S n (l.setIfInBounds i true) a' w' → K a' w') → if Region.wanted oi (yielded ops a.tmps) = true then Oper.wp Try.prog oi a w K Q else K (a.put oi.dst undef) w) : wpTill md ops Q c S (n + 1) l a w := by
  refine ⟨fun h0 => (by rw [h0] at hr; cases hr), fun j hj => ?_⟩
  rw [hr] at hj
  obtain rfl : j = i := by simpa using hj
  exact wpOp_step hi fun K hK => h K (fun a' w' h' => hK a' w' ⟨fun _ _ => h'.1, h'.2⟩)
theorem step_alloc_new {ops : Array Oper} {o : Oper} {a : Act} {w : World} {K : Act → World → Prop} {Q : Exit → Act → World → Prop} {E : Prop} (hgd : o.guard = none) (t : TypeId) (ho : o.op = .alloc t) (n : Nat) (vs : List Value)
    (hz : (Try.prog.info? t).map (fun i => (i.zero, i.size)) = some (some (.agg vs.toArray), n)) (dst : Option Tmp) (hdst : o.dst = dst)
    (h : ∀ w', Blk w' w.heap.size t vs → w'.heap.size = w.heap.size + 1 → Below w.heap.size w w' → K (a.put dst (.pointer (some ⟨w.heap.size, 0, none⟩))) w') :
    if Region.wanted o (yielded ops a.tmps) = true then Oper.wp Try.prog o a w K Q else E := by
  subst hdst
  have hw : Region.wanted o (yielded ops a.tmps) = true := by simp [Region.wanted, hgd]
  rw [if_pos hw]
  unfold Oper.wp execOp
  simp only [ho, Sem.run_bind, Instr.alloc, (zero_of_info hz).1, newVar, newRow, run_newObj_alloc, Sem.run_pure, Result.andThen_ok]
  exact h _ (heap_alloc_new w _) (by simp) ((Below.refl _ _).alloc (Nat.le_refl _) _)
/-- Two operations that may come in either order, each way to a state of G. -/
theorem till_two {md : Region.Mode} {ops : Array Oper} {Q : Exit → Act → World → Prop} {c : Nat} {S : World → Prop} {oi oj : Oper} {n : Nat} {l : Array Bool} {a : Act} {w : World} (i j : Nat) (hi : ops[i]? = some oi) (hj : ops[j]? = some oj) (hij : i ≠ j)
    (hr : Region.ready md ops l = [i, j]) (hr1 : Region.ready md ops (l.setIfInBounds i true) = [j]) (hr2 : Region.ready md ops (l.setIfInBounds j true) = [i]) (G A B : Act → Act → World → Prop)
    (s1 : ∀ K : Act → World → Prop, (∀ a' w', A a a' w' → K a' w') → if Region.wanted oi (yielded ops a.tmps) = true then Oper.wp Try.prog oi a w K Q else K (a.put oi.dst undef) w) (sA : ∀ a' w', A a a' w' → S w')
    (s2 : ∀ a' w', A a a' w' → ∀ K : Act → World → Prop, (∀ a'' w'', G a a'' w'' → K a'' w'') → if Region.wanted oj (yielded ops a'.tmps) = true then Oper.wp Try.prog oj a' w' K Q else K (a'.put oj.dst undef) w')
    (t1 : ∀ K : Act → World → Prop, (∀ a' w', B a a' w' → K a' w') → if Region.wanted oj (yielded ops a.tmps) = true then Oper.wp Try.prog oj a w K Q else K (a.put oj.dst undef) w) (sB : ∀ a' w', B a a' w' → S w')
    (t2 : ∀ a' w', B a a' w' → ∀ K : Act → World → Prop, (∀ a'' w'', G a a'' w'' → K a'' w'') → if Region.wanted oi (yielded ops a'.tmps) = true then Oper.wp Try.prog oi a' w' K Q else K (a'.put oi.dst undef) w')
    (h : ∀ a' w', G a a' w' → S w' ∧ wpTill md ops Q c S n ((l.setIfInBounds i true).setIfInBounds j true) a' w') : wpTill md ops Q c S (n + 2) l a w := by
  have e : (l.setIfInBounds i true).setIfInBounds j true = (l.setIfInBounds j true).setIfInBounds i true := Array.setIfInBounds_comm _ _ hij
  refine ⟨fun h0 => (by rw [h0] at hr; cases hr), fun k hk => ?_⟩
  rw [hr] at hk
  rcases List.mem_cons.1 hk with rfl | hk
  · refine wpOp_step hi fun K hK => s1 K fun a' w' hA => hK a' w' ⟨fun _ _ => sA _ _ hA, ?_⟩
    exact till_ready j hr1 hj fun K' hK' => s2 a' w' hA K' fun a'' w'' hG => hK' a'' w'' (h _ _ hG)
  · obtain rfl : k = j := by simpa using hk
    refine wpOp_step hj fun K hK => t1 K fun a' w' hB => hK a' w' ⟨fun _ _ => sB _ _ hB, ?_⟩
    refine till_ready i hr2 hi fun K' hK' => t2 a' w' hB K' fun a'' w'' hG => hK' a'' w'' ?_
    rw [← e]
    exact h _ _ hG
end Go.Proofs.Ytabdjoljdefjdaa
