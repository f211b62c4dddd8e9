/- Layer host: faults grouped by their operation's number. -/
import Derived.Test.YtobcolpdkcppoaaHRead
namespace Go.Proofs.Ytobcolpdkcppoaa
open Go.RowKit
set_option linter.unusedVariables false
set_option linter.unusedSimpArgs false

/-- The faults that befall the operation k. -/
def comeL (fs : List Fl) (k : Int) : List Fl := fs.filter fun f => decide (0 ≤ f.a ∧ f.a = k)
/-- How many writes back they look at most. -/
def depL (fs : List Fl) : Int := fs.foldl (fun d f => if 0 ≤ f.a ∧ f.k = 1 ∧ d < f.c then f.c else d) 0
theorem depL_bd (fs : List Fl) (h : ∀ f ∈ fs, f.Good) : 0 ≤ depL fs ∧ depL fs ≤ 9223372036854775807 := by
  unfold depL
  have : ∀ (l : List Fl) (d : Int), (∀ f ∈ l, f.Good) → 0 ≤ d ∧ d ≤ 9223372036854775807 → 0 ≤ l.foldl (fun d f => if 0 ≤ f.a ∧ f.k = 1 ∧ d < f.c then f.c else d) d ∧ l.foldl (fun d f => if 0 ≤ f.a ∧ f.k = 1 ∧ d < f.c then f.c else d) d ≤ 9223372036854775807 := by
    intro l
    induction l with
    | nil => intro d _ hd; exact hd
    | cons f l ih =>
      intro d hg hd
      refine ih _ (fun x hx => hg x (by simp [hx])) ?_
      have := (hg f (by simp)).2.2.2.2.2
      dsimp only
      split
      · next h1 => exact ⟨by omega, this.2⟩
      · exact hd
  exact this fs 0 h (by omega)
theorem comeL_take (fs : List Fl) (i : Nat) (hi : i < fs.length) (k : Int) : comeL (fs.take (i + 1)) k = comeL (fs.take i) k ++ (if 0 ≤ (fs.getD i default).a ∧ (fs.getD i default).a = k then [fs.getD i default] else []) := by
  unfold comeL
  have e : fs.getD i default = fs[i] := by simp [List.getD, hi]
  rw [List.take_succ_eq_append_getElem hi, List.filter_append, e]
  congr 1
  by_cases h : 0 ≤ fs[i].a ∧ fs[i].a = k
  · rw [if_pos h]; simp only [List.filter_cons, List.filter_nil]; rw [if_pos (by simpa using h)]
  · rw [if_neg h]; simp only [List.filter_cons, List.filter_nil]; rw [if_neg (by simpa using h)]
theorem depL_take (fs : List Fl) (i : Nat) (hi : i < fs.length) : depL (fs.take (i + 1)) = if 0 ≤ (fs.getD i default).a ∧ (fs.getD i default).k = 1 ∧ depL (fs.take i) < (fs.getD i default).c then (fs.getD i default).c else depL (fs.take i) := by
  have e : fs.getD i default = fs[i] := by simp [List.getD, hi]
  unfold depL
  rw [List.take_succ_eq_append_getElem hi, List.foldl_append, e]
  rfl
theorem comeL_length (fs : List Fl) (k : Int) : (comeL fs k).length ≤ fs.length := List.length_filter_le ..
theorem comeL_good {fs : List Fl} (h : ∀ f ∈ fs, f.Good) (k : Int) : ∀ f ∈ comeL fs k, f.Good := fun f hf => h f (List.mem_filter.1 hf).1
theorem flat_len (l : List Fl) : (l.flatMap flC).length = l.length * 6 := by
  induction l with
  | nil => rfl
  | cons a r ih => rw [List.flatMap_cons, List.length_append, ih, flC_length, List.length_cons]; omega
theorem flat_at (l : List Fl) (i j : Nat) (hi : i < l.length) (hj : j < 6) : (l.flatMap flC)[i * 6 + j]? = (flC (l.getD i default))[j]? := by
  induction l generalizing i with
  | nil => cases hi
  | cons a r ih =>
    rw [List.flatMap_cons]
    cases i with
    | zero => rw [Nat.zero_mul, Nat.zero_add, List.getElem?_append_left (by rw [flC_length]; exact hj)]; rfl
    | succ i =>
      rw [List.getElem?_append_right (by rw [flC_length]; omega), flC_length, show (i + 1) * 6 + j - 6 = i * 6 + j by omega, ih i (by simpa using hi)]
      simp
/-- Rows of faults, one a key. -/
structure Groups (w : World) (gm n : Nat) (D : DataW Value) (G : Int → List Fl) (B : Nat) : Prop where
  map : w.ownsMap Try.prog 3 heldR gm n D
  own : ∀ k, w.ownsRow B 55 6 (lookV D k) (G k).length ((G k).flatMap flC)
  apart : ∀ j k g, j ≠ k → (lookV D j).ownBlock = some g → (lookV D k).ownBlock ≠ some g
theorem own_same {w w' : World} {B : Nat} {e : TypeId} {z n : Nat} {v : Value} {xs : List Value} (h : w.ownsRow B e z v n xs) (hs : ∀ g, v.ownBlock = some g → w'.heap[g]? = w.heap[g]?) : w'.ownsRow B e z v n xs := by
  refine ⟨h.1, ?_⟩
  rcases h.2 with h2 | ⟨g, cap, cur, hv, hg, hh, r⟩
  · exact .inl h2
  · exact .inr ⟨g, cap, cur, hv, hg, by rw [hs g (by rw [hv]; rfl)]; exact hh, r⟩
theorem own_blk {w : World} {B : Nat} {e : TypeId} {z n : Nat} {v : Value} {xs : List Value} (h : w.ownsRow B e z v n xs) {g : Nat} (hg : v.ownBlock = some g) : ∃ vs, Blk w g e vs := by
  rcases h.2 with ⟨h2, _⟩ | ⟨g', cap, cur, hv, _, hh, r⟩
  · rw [h2] at hg; cases hg
  · rw [hv] at hg; cases hg; exact ⟨cur.toList, by simpa [Blk] using hh⟩
theorem Groups.later {w w' : World} {gm n B : Nat} {D : DataW Value} {G : Int → List Fl} (x : Groups w gm n D G B) (hb : Below w.heap.size w w') : Groups w' gm n D G B :=
  ⟨ownsMap_same x.map (hb.block gm x.map.lt), fun k => own_same (x.own k) (fun g hg => hb.block g ((x.own k).lt g hg).2), x.apart⟩
theorem Groups.drew {w : World} {gm n B : Nat} {D : DataW Value} {G : Int → List Fl} (x : Groups w gm n D G B) : Groups { w with drawn := w.drawn + 1 } gm n D G B := ⟨x.map, x.own, x.apart⟩
theorem Groups.seen {w : World} {gm n B : Nat} {D : DataW Value} {G : Int → List Fl} (x : Groups w gm n D G B) (M : Nat → Prop) (hM : ∀ g, B ≤ g → g < w.heap.size → M g) (k : Int) (hg : ∀ f ∈ G k, f.Good) (hl : (G k).length ≤ 3000000000000) : FlS w (FT w M) (lookV D k) (G k) := by
  refine ⟨hl, hg, ?_⟩
  rcases (x.own k).2 with ⟨h2, h3⟩ | ⟨g, cap, cur, hv, hgB, hh, hc, _, hs, ht⟩
  · rw [h2, h3]
    exact ⟨none, 0, rfl, fun i hi => (by cases hi)⟩
  · rw [hv]
    refine ⟨_, cap, rfl, fun i hi => ⟨g, 0, rfl, lt_of_block hh, ⟨hM g hgB (lt_of_block hh), cur.toList, by simpa [Blk] using hh⟩, fun j v hj => ?_⟩⟩
    have hj6 : j < 6 := by have := (List.getElem?_eq_some_iff.1 hj).1; rw [flC_length] at this; exact this
    rw [Nat.zero_add, cell_of_row w g _ cur 55 (0, 0) hh, ← hj, ← flat_at (G k) i j hi hj6, ← ht, List.getElem?_take, if_pos (by omega)]
    simp
theorem build1_fl (f : Fl) (w : World) : (Instr.buildSlice 22 1 #[(0, .agg (flC f).toArray)]).run Try.prog w = .ok (.slice (some ⟨w.heap.size, 0, none⟩) 1 1) (w.alloc (.cells (flC f).toArray 55)) := by
  obtain ⟨a, k, p, b, y, c⟩ := f
  kernel_rfl
/-- One fault more. -/
theorem Groups.add {w : World} {gm n B : Nat} {D : DataW Value} {G : Int → List Fl} (x : Groups w gm n D G B) (f : Fl) (hf : f.Good) (hn : n < 3000000000000) (hl : (G f.a).length ≤ n) (hB : B ≤ w.heap.size) (lb : Nat) (hlb : lb < w.heap.size) (hlb' : ∀ k, (lookV D k).ownBlock ≠ some lb) (hlm : lb ≠ gm) (hn48 : (n + 1) * 48 ≤ 140737488355328) :
    ∃ v' w2 w3, (Builtin.append_ #[22, 22] 22 #[lookV D f.a, .slice (some ⟨w.heap.size, 0, none⟩) 1 1]).run Try.prog (w.alloc (.cells (flC f).toArray 55)) = .ok v' w2 ∧
      (Instr.mapUpdate 86 (.map (some gm)) (.int .i64 f.a) v').run Try.prog w2 = .ok () w3 ∧ w2.heap[gm]? = w.heap[gm]? ∧ w2.heap[lb]? = w.heap[lb]? ∧ w3.heap[lb]? = w.heap[lb]? ∧
      Groups w3 gm (n + 1) (D.put (.int .i64 f.a) (.held v')) (fun k => if k = f.a then G k ++ [f] else G k) B ∧ w.heap.size ≤ w3.heap.size ∧ (∀ k, k < w.heap.size → k < B → k ≠ gm → w3.heap[k]? = w.heap[k]?) ∧ w3.os = w.os ∧ w3.tape = w.tape ∧ w3.output = w.output := by
  obtain ⟨w0, hw0⟩ : ∃ q, w.alloc (.cells (flC f).toArray 55) = q := ⟨_, rfl⟩
  have b0 : Below w.heap.size w w0 := by rw [← hw0]; exact (Below.refl _ _).alloc (Nat.le_refl _) _
  have s0 : w0.heap.size = w.heap.size + 1 := by rw [← hw0]; simp
  have bf : Blk w0 w.heap.size 55 (flC f) := by rw [← hw0]; exact heap_alloc_new w _
  rw [hw0]
  have x0 := x.later b0
  obtain ⟨i0, hi, hz0, hz1, hz2⟩ := info_parts info_fl
  obtain ⟨v', w2, hr, hown, hg, _, hat⟩ := run_append_own_at (P := Try.prog) w0 B 22 22 55 i0 (.agg (flC default).toArray) 6 48 Try.underlying22 hi hz0 hz1 hz2 rfl (by decide) (lookV D f.a) (G f.a).length _ (x0.own f.a) ⟨w.heap.size, 0, none⟩ 1 1 (flC f) (by rw [flC_length])
    (fun j u hu => by rw [add_mid, Nat.zero_add, bf.cell]; exact hu) (flC_one f) (by unfold maxLen; omega) (by have := Nat.mul_le_mul_right 48 (Nat.add_le_add_right hl 1); omega) (by omega)
  have nm : (lookV D f.a).ownBlock ≠ some gm := fun e => by
    obtain ⟨vs, hv⟩ := own_blk (x.own f.a) e
    exact map_ne x.map hv rfl
  have km : ∀ k, k < w.heap.size → (lookV D f.a).ownBlock ≠ some k → w2.heap[k]? = w.heap[k]? := fun k hk hne => (hg.block k (by omega) (Ne.symm hne)).trans (b0.block k hk)
  have m2 : w2.ownsMap Try.prog 3 heldR gm n D := ownsMap_same x.map (km gm x.map.lt nm)
  obtain ⟨w3, hu, m3, g3⟩ := m2.update keysI Try.underlying86 (by unfold maxLen; omega) (key := .int .i64 f.a) (val := v') (Maps.keyOf_int_mk Try.underlying3 (wf_of_i64 hf.1)) (d := .held v') (ps := []) rfl
  have h12 := hg.size
  have h23 := g3.size
  have k3 : ∀ k, k < w2.heap.size → k ≠ gm → w3.heap[k]? = w2.heap[k]? := fun k hk hne => g3.block k hk (fun e => hne (Option.some.inj e))
  have gml := x.map.lt
  have isM : Maps.IsMap D := x.map.isMap
  refine ⟨v', w2, w3, hr, hu, km gm gml nm, km lb hlb (hlb' _), (k3 lb (by omega) hlm).trans (km lb hlb (hlb' _)), ⟨m3, fun k => ?_, fun j k g hjk hj hk => ?_⟩, by omega, fun k hk hkB hne => ?_, ?_, ?_, ?_⟩
  · by_cases e : k = f.a
    · subst e
      rw [lookV_put isM, if_pos rfl]
      have e2 : (G f.a ++ [f]).flatMap flC = (G f.a).flatMap flC ++ flC f := by simp [List.flatMap_append]
      rw [List.length_append, List.length_singleton, e2]
      exact own_same hown (fun g hg2 => k3 g (hown.lt g hg2).2 (fun e3 => by
        obtain ⟨vs, hv⟩ := own_blk hown hg2
        exact map_ne m2 hv e3))
    · rw [lookV_put_other _ _ e, if_neg e]
      refine own_same (x.own k) (fun g hg2 => ?_)
      have hgl := ((x.own k).lt g hg2).2
      refine (k3 g (by omega) (fun e3 => ?_)).trans (km g hgl (fun e4 => x.apart k f.a g e hg2 e4))
      obtain ⟨vs, hv⟩ := own_blk (x.own k) hg2
      exact map_ne x.map hv e3
  · have nw : ∀ q g, q ≠ f.a → (lookV D q).ownBlock = some g → v'.ownBlock ≠ some g := fun q g hq h1 h2 => by
      rcases hat with e | e
      · rw [e] at h2; exact x.apart q f.a g hq h1 h2
      · rw [e] at h2
        have := ((x.own q).lt g h1).2
        have h3 : w0.heap.size = g := Option.some.inj h2
        omega
    by_cases e1 : j = f.a
    · subst e1
      rw [lookV_put isM] at hj
      rw [lookV_put_other _ _ (Ne.symm hjk)] at hk
      exact nw k g (Ne.symm hjk) hk hj
    · rw [lookV_put_other _ _ e1] at hj
      by_cases e2 : k = f.a
      · subst e2
        rw [lookV_put isM] at hk
        exact nw j g e1 hj hk
      · rw [lookV_put_other _ _ e2] at hk
        exact x.apart j k g hjk hj hk
  · refine (k3 k (by omega) hne).trans (km k hk (fun e => ?_))
    have := ((x.own f.a).lt k e).1
    omega
  · rw [g3.os, hg.os, b0.os]
  · rw [g3.tape, hg.tape, b0.tape]
  · rw [g3.output, hg.output, b0.output]
end Go.Proofs.Ytobcolpdkcppoaa
