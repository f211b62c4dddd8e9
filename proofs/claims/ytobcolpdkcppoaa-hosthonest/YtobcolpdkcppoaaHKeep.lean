/- Layer host: a write is kept: the page's row grows, and forgets what no fault looks at. -/
import Derived.Test.YtobcolpdkcppoaaHBef
namespace Go.Proofs.Ytobcolpdkcppoaa
open Go.RowKit
set_option linter.unusedVariables false
set_option linter.unusedSimpArgs false

def more (M : Nat → Prop) (w w' : World) (k : Nat) : Prop := M k ∨ (w.heap.size ≤ k ∧ k < w'.heap.size)
theorem rows_elem {L : List (List Int)} {z : List Int} {i : Nat} (hi : i < (L ++ [z]).length) : (i < L.length ∧ (L ++ [z]).getD i [] = L.getD i []) ∨ (i = L.length ∧ (L ++ [z]).getD i [] = z) := by
  rcases Nat.lt_or_ge i L.length with h | h
  · exact .inl ⟨h, by simp [List.getD, List.getElem?_append, h]⟩
  · obtain rfl : i = L.length := by simp at hi; omega
    exact .inr ⟨rfl, by simp [List.getD]⟩
/-- One row more behind a page's row. -/
theorem row_append {w : World} {M : Nat → Prop} {v : Value} {L : List (List Int)} (x : RowP w M v L) (hM : ∀ k, M k → k < w.heap.size) (bb c : Nat) (z : List Int) (hz : RowAt w bb z) (hm : M bb) (hzb : Bytes z) (hzl : z.length ≤ 8192) (hL : L.length ≤ 3000000000000) :
    ∃ g o cap w', (Builtin.append_ #[67, 67] 67 #[v, .slice (some ⟨w.heap.size, 0, none⟩) 1 1]).run Try.prog (w.alloc (.cells #[.slice (some ⟨bb, 0, none⟩) z.length c] 32)) = .ok (.slice (some ⟨g, o, none⟩) (L.length + 1) cap) w' ∧
      RowP w' (more M w w') (.slice (some ⟨g, o, none⟩) (L.length + 1) cap) (L ++ [z]) ∧ Kept (fun k => rowBlk v = some k) w w' ∧ (rowBlk v = some g ∨ w.heap.size ≤ g) ∧ g < w'.heap.size := by
  obtain ⟨w0, hw0⟩ : ∃ q, w.alloc (.cells #[.slice (some ⟨bb, 0, none⟩) z.length c] 32) = q := ⟨_, rfl⟩
  have b0 : Below w.heap.size w w0 := by rw [← hw0]; exact (Below.refl _ _).alloc (Nat.le_refl _) _
  have s0 : w0.heap.size = w.heap.size + 1 := by rw [← hw0]; simp
  have n0 : ∀ j u, [Value.slice (some ⟨bb, 0, none⟩) z.length c][j]? = some u → w0.cell? ((⟨w.heap.size, 0, none⟩ : Addr).add j) = some u := by rw [← hw0]; exact cell_one_new w _ _
  rw [hw0]
  have hbb : bb < w.heap.size := hM bb hm
  obtain ⟨i0, hi, hz0, hz1, hz2⟩ := info_parts info_rowB
  have one : ∀ u ∈ [Value.slice (some ⟨bb, 0, none⟩) z.length c], u.oneCell' = true := by intro u hu; simp at hu; subst hu; rfl
  have L1 : [Value.slice (some ⟨bb, 0, none⟩) z.length c].length = 1 * i0.size := by rw [hz1]; rfl
  -- a new row
  have fresh : ∀ (olds : List Value) (cap : Nat), olds.length = L.length → L.length + 1 ≤ cap → (∀ i, i < L.length → ∃ b c, olds[i]? = some (.slice (some ⟨b, 0, none⟩) (L.getD i []).length c) ∧ RowAt w b (L.getD i []) ∧ M b ∧ Bytes (L.getD i []) ∧ (L.getD i []).length ≤ 8192) → ∀ (arr : Array Value), arr = olds.toArray ++ #[Value.slice (some ⟨bb, 0, none⟩) z.length c] ++ Builtin.zeroCells (Value.slice none 0 0).cells (cap - (L.length + 1)) →
      RowP (w0.drew.alloc (.cells arr 32)) (more M w (w0.drew.alloc (.cells arr 32))) (.slice (some ⟨w0.heap.size, 0, none⟩) (L.length + 1) cap) (L ++ [z]) ∧ Kept (fun k => rowBlk v = some k) w (w0.drew.alloc (.cells arr 32)) := by
    intro olds cap ho hc hx arr harr
    have kp : Below w.heap.size w (w0.drew.alloc (.cells arr 32)) := by
      have : Below w.heap.size w w0.drew := ⟨b0.os, b0.tape, b0.output, b0.size, b0.block⟩
      exact this.alloc this.size _
    have hs : (w0.drew.alloc (.cells arr 32)).heap.size = w.heap.size + 2 := by
      have : (w0.drew.alloc (.cells arr 32)).heap.size = w0.heap.size + 1 := by simp
      rw [this, s0]
    have hl : arr.toList.length = cap := by
      rw [harr]; simp [size_zeroCells, ho, Value.cells]; omega
    refine ⟨.inr ⟨w0.heap.size, 0, cap, arr.toList, by simp, ?_, .inr ⟨by omega, by omega⟩, by simp; omega, by omega, fun i hi => ?_⟩, Kept.new _ kp⟩
    · unfold Blk; rw [Array.toArray_toList]; exact heap_alloc_new w0.drew _
    · rw [Nat.zero_add]
      rcases rows_elem hi with ⟨h1, h2⟩ | ⟨h1, h2⟩
      · obtain ⟨b, c', e1, hr, hmm, r⟩ := hx i h1
        refine ⟨b, c', ?_, ?_, .inl hmm, by rw [h2]; exact r⟩
        · rw [h2, harr, ← e1, Array.getElem?_toList, Array.getElem?_append_left (by simp; omega), Array.getElem?_append_left (by simp; omega)]; simp
        · rw [h2]; exact hr.later kp (Nat.le_refl _)
      · refine ⟨bb, c, ?_, ?_, .inl hm, by rw [h2]; exact ⟨hzb, hzl⟩⟩
        · rw [h2, harr, Array.getElem?_toList, Array.getElem?_append_left (by simp; omega), Array.getElem?_append_right (by simp; omega)]; simp [h1, ho]
        · rw [h2]; exact hz.later kp (Nat.le_refl _)
  rcases x with ⟨rfl, rfl⟩ | ⟨g, o, cap, vs, rfl, hb, hMg, hc, ho, hx⟩
  · have hr := run_append_nil (P := Try.prog) w0 67 67 32 i0 (.slice none 0 0) Try.underlying67 hi hz0 ⟨w.heap.size, 0, none⟩ 1 1 _ L1 n0 (by decide) (by decide) (by rw [hz2]; decide)
    have hg := fresh [] (grownCap w0 1 0 32) rfl (grownCap_ge w0 1 0 _) (fun i hi => by cases hi) _ rfl
    refine ⟨w0.heap.size, 0, grownCap w0 1 0 32, _, hr, ?_, ?_, .inr (by omega), ?_⟩
    · simpa using hg.1
    · simpa using hg.2
    · simp
  · have hgw : g < w.heap.size := hb.lt
    have hbw : Blk w0 g 32 vs := hb.later b0 hgw
    by_cases hroom : L.length + 1 ≤ cap
    · have hr := run_append_room_src (P := Try.prog) w0 67 67 67 32 i0 Try.underlying67 hi g o L.length cap (.slice (some ⟨w.heap.size, 0, none⟩) 1 1) 1 _ (Src.ofSlice w0 Try.underlying67 ⟨w.heap.size, 0, none⟩ 1 1 _ L1 n0 one) hroom
        (fun j hj => by
          have : j = 0 := by simpa using hj
          subst this
          rw [hz1, Nat.mul_one, Nat.add_zero, hbw.cell, List.getElem?_eq_getElem (by omega)]; rfl) (fun j hj => hbw.frozen _)
      rw [hz1, Nat.mul_one] at hr
      have hs : w0.setCells g (o + L.length) [Value.slice (some ⟨bb, 0, none⟩) z.length c] = w0.setCell ⟨g, o + L.length, none⟩ (.slice (some ⟨bb, 0, none⟩) z.length c) := rfl
      rw [hs] at hr
      have hk : Kept (fun k => k = g) w (w0.setCell ⟨g, o + L.length, none⟩ (.slice (some ⟨bb, 0, none⟩) z.length c)) := (Kept.new (fun k => k = g) b0).setCell (p := ⟨g, o + L.length, none⟩) rfl _
      have hbs := hbw.set (o + L.length) (.slice (some ⟨bb, 0, none⟩) z.length c)
      have ne : ∀ (b : Nat) (zs : List Int), RowAt w b zs → b ≠ g := fun b zs ⟨rest, hr'⟩ => blk_ne (show Blk w b 5 _ from hr') hb (by decide)
      refine ⟨g, o, cap, _, hr, .inr ⟨g, o, cap, _, by simp, hbs, .inl hMg, by simp; omega, by simp; omega, fun i hi => ?_⟩, hk.mono (fun k e => by rw [e]; rfl), .inl rfl, ?_⟩
      · rcases rows_elem hi with ⟨h1, h2⟩ | ⟨h1, h2⟩
        · obtain ⟨b, c', e1, hr1, hmm, r⟩ := hx i h1
          refine ⟨b, c', ?_, ?_, .inl hmm, by rw [h2]; exact r⟩
          · rw [h2, List.getElem?_set_ne (by omega)]; exact e1
          · rw [h2]; exact hr1.kept hk (ne b _ hr1)
        · refine ⟨bb, c, ?_, ?_, .inl hm, by rw [h2]; exact ⟨hzb, hzl⟩⟩
          · rw [h2, h1, List.getElem?_set_self (by omega)]
          · rw [h2]; exact hz.kept hk (ne bb _ hz)
      · have := hk.size; omega
    · have ol : ((vs.drop o).take L.length).length = L.length := by simp; omega
      have hr := run_append_grow (P := Try.prog) w0 67 67 32 i0 (.slice none 0 0) Try.underlying67 hi hz0 ⟨g, o, none⟩ L.length cap ((vs.drop o).take L.length) (by rw [ol, hz1, Nat.mul_one]) (fun j u hu => by
          rw [add_mid, hbw.cell]
          have hj : j < L.length := by have := (List.getElem?_eq_some_iff.1 hu).1; omega
          rw [List.getElem?_take, if_pos hj, List.getElem?_drop] at hu
          exact hu) ⟨w.heap.size, 0, none⟩ 1 1 _ L1 n0 (by omega) (by omega) (growslice_fits (by omega) (by rw [hz2]; omega))
      have hg := fresh ((vs.drop o).take L.length) (grownCap w0 (L.length + 1) cap 32) ol (grownCap_ge _ _ _ _) (fun i hi => by
          obtain ⟨b, c', e1, r⟩ := hx i hi
          exact ⟨b, c', by rw [List.getElem?_take, if_pos hi, List.getElem?_drop]; exact e1, r⟩) _ rfl
      exact ⟨w0.heap.size, 0, grownCap w0 (L.length + 1) cap 32, _, hr, by simpa using hg.1, by simpa using hg.2, .inr (by omega), by simp⟩
/-- append whose run is known. -/
theorem wpList_append_run {ops : Array Oper} {rest : List Oper} {o : Oper} {a : Act} {Q : Exit → Act → World → Prop} {w : World} (hgd : o.guard = none) (s x : Operand) (t ty : TypeId) (ho : o.op = .call { callee := .builtin .append, args := #[s, x], argTypes := #[t, t] }) (hty : o.type = ty)
    (va vb : Value) (hs : a.eval s = va) (hx : a.eval x = vb) (v' : Value) (w' : World) (hr : (Builtin.append_ #[t, t] ty #[va, vb]).run Try.prog w = .ok v' w') (h : wpList Try.prog ops Q rest (a.put o.dst v') w') : wpList Try.prog ops Q (o :: rest) a w := by
  refine wpList_plain hgd fun K hK => ?_
  subst hty
  unfold Oper.wp execOp
  simp only [ho, resolve, invoke, builtin, Sem.run_bind, Sem.run_pure, Result.andThen_ok, List.map_toArray, List.map_cons, List.map_nil, hs, hx, hr]
  exact hK _ _ h
theorem sizeRowB : (Try.prog.info? 32).map (·.size) = some 1 := by kernel_rfl
set_option maxRecDepth 20000 in
theorem sl_row (ao : Option Addr) (n c : Nat) (hl : 1 ≤ n) (w : World) : (Instr.sliceAt 67 (.slice ao n c) (some (.int .i64 1)) none none).run Try.prog w = .ok (.slice (subA ao 1 c) (n - 1) (c - 1)) w := by
  rw [run_sliceAt_slice w 67 _ _ _ _ Try.underlying67, run_slice_l w 67 ao n c Try.underlying67 .i64 1 (by omega) (by omega)]
  rw [show Try.prog.elem 67 = 32 by kernel_rfl]
  have hs : (sizeOf 32).run Try.prog w = .ok 1 w := by
    have h := sizeRowB
    cases hq : Try.prog.info? 32 with
    | none => simp [hq] at h
    | some i => simp [hq] at h; simp [sizeOf, typeInfo, hq, h]
  simp [hs, Result.andThen, sliced, subA]
theorem more_le {M : Nat → Prop} {w w' : World} {k : Nat} (h : M k) : more M w w' k := .inl h
/-- The oldest row is forgotten. -/
theorem row_drop {w : World} {M : Nat → Prop} {g o cap n : Nat} {L : List (List Int)} (x : RowP w M (.slice (some ⟨g, o, none⟩) n cap) L) (hn : 2 ≤ n) :
    L.length = n ∧ RowP (w.setCell ⟨g, o, none⟩ (.slice none 0 0)) M (.slice (subA (some ⟨g, o, none⟩) 1 cap) (n - 1) (cap - 1)) (L.drop 1) ∧ Kept (fun k => k = g) w (w.setCell ⟨g, o, none⟩ (.slice none 0 0)) ∧ w.cell? ⟨g, o, none⟩ ≠ none ∧ w.frozen? ⟨g, o, none⟩ = false ∧ subA (some ⟨g, o, none⟩) 1 cap = some ⟨g, o + 1, none⟩ := by
  rcases x with ⟨e, _⟩ | ⟨g', o', cap', vs, e, hb, hMg, hc, ho, hx⟩
  · simp at e
  · simp only [Value.slice.injEq, Option.some.injEq, Addr.mk.injEq, and_true, true_and] at e
    obtain ⟨⟨rfl, rfl⟩, rfl, rfl⟩ := e
    have hk : Kept (fun k => k = g) w (w.setCell ⟨g, o, none⟩ (.slice none 0 0)) := (Kept.refl (fun k => k = g) w).setCell (p := ⟨g, o, none⟩) rfl _
    have es : subA (some ⟨g, o, none⟩) 1 cap = some ⟨g, o + 1, none⟩ := by
      unfold subA
      rw [if_neg (by omega)]
      exact congrArg some (add_mid g o 1)
    refine ⟨rfl, .inr ⟨g, o + 1, cap - 1, _, by rw [es]; simp, hb.set o (.slice none 0 0), hMg, by simp; omega, by simp; omega, fun i hi => ?_⟩, hk, ?_, hb.frozen o, es⟩
    · have hi' : i + 1 < L.length := by simp at hi; omega
      have e2 : (L.drop 1).getD i [] = L.getD (i + 1) [] := by simp [List.getD, List.getElem?_drop, Nat.add_comm]
      rw [e2]
      obtain ⟨b, c', e1, hr, hm, r⟩ := hx (i + 1) hi'
      refine ⟨b, c', ?_, ?_, hm, r⟩
      · rw [List.getElem?_set_ne (by omega), show o + 1 + i = o + (i + 1) by omega]; exact e1
      · exact hr.kept hk (blk_ne (show Blk w b 5 _ from hr.choose_spec) hb (by decide))
    · rw [hb.cell, List.getElem?_eq_getElem (by omega)]; simp
/-- What lies on a page behind a write. -/
def keepL (d : Nat) (L : List (List Int)) (z : List Int) : List (List Int) := if d < L.length then (L ++ [z]).drop 1 else L ++ [z]
theorem keepL_length (d : Nat) (L : List (List Int)) (z : List Int) : (keepL d L z).length ≤ L.length + 1 := by unfold keepL; split <;> simp
theorem keepL_mem {d : Nat} {L : List (List Int)} {z y : List Int} (h : y ∈ keepL d L z) : y ∈ L ∨ y = z := by
  unfold keepL at h
  split at h
  · have := List.mem_of_mem_drop h; simpa using this
  · simpa using h
def HSt.wrote (s : HSt) (p : Nat) (z : List Int) : HSt := { s with laid := fun q => if q = p then keepL s.depth (s.laid p) z else s.laid q }
theorem HostIn.rowed {w w' : World} {M M' : Nat → Prop} {h : Nat} {s : HSt} {gl gm : Nat} {lg : Value} {rws : List Value} {n : Nat} {D : DataW Value} (x : HostIn w M h s gl gm lg rws n D) (p : Nat) (hp : p < s.pages) (z : List Int) (hz : z.length = s.size) (hr : (s.laid p).length < s.ops)
    (v' : Value) (hv : RowP w' M' v' (keepL s.depth (s.laid p) z)) (hb : ∀ g, rowBlk v' = some g → rowBlk (rws.getD p (.slice none 0 0)) = some g ∨ w.heap.size ≤ g) (hl : Blk w' gl 67 (rws.set p v')) (hk : Kept (fun k => rowBlk (rws.getD p (.slice none 0 0)) = some k ∨ k = gl) w w')
    (hM : ∀ k, M k → M' k) (ha : ∀ k, M' k → k < w'.heap.size) : HostIn w' M' h (s.wrote p z) gl gm lg (rws.set p v') n D := by
  have nr : ∀ {t : TypeId}, t ≠ 32 → t ≠ 67 → ∀ (b : Nat) (vs : List Value), Blk w b t vs → ¬ (rowBlk (rws.getD p (.slice none 0 0)) = some b ∨ b = gl) := fun h1 h2 b vs hb e => by
    rcases e with e | rfl
    · obtain ⟨us, hu⟩ := (x.row p hp).isBlk e
      exact blk_ne hb hu h1 rfl
    · exact blk_ne hb x.lot h2 rfl
  have hpl : p < rws.length := by rw [x.cnt]; exact hp
  have gq : ∀ q, q ≠ p → (rws.set p v').getD q (.slice none 0 0) = rws.getD q (.slice none 0 0) := fun q hq => by simp [List.getD, List.getElem?_set_ne (Ne.symm hq)]
  have gp : (rws.set p v').getD p (.slice none 0 0) = v' := by simp [List.getD, hpl]
  have ap : ∀ q, q < s.pages → q ≠ p → ∀ g, rowBlk (rws.getD q (.slice none 0 0)) = some g → rowBlk (rws.getD p (.slice none 0 0)) ≠ some g := fun q hq hne g hg => by
    rcases Nat.lt_or_gt_of_ne hne with h1 | h1
    · exact x.apart q p h1 hp g hg
    · intro e; exact x.apart p q h1 hq g e hg
  have mm : ∀ b, M b → M' b := hM
  refine ⟨⟨x.good.size, x.good.pages, x.good.depth, x.good.reg, x.good.ops, x.good.log, fun q => ?_, fun q y hy => ?_⟩, x.blk.kept hk (nr (by decide) (by decide) _ _ x.blk), hl, by rw [List.length_set]; exact x.cnt, hM _ x.mh, hM _ x.ml, hM _ x.mm, ownsMap_same x.map (hk.block _ x.map.lt (fun e => ?_)), fun k => com_mono (com_kept (x.com k) hk (nr (by decide) (by decide))) hM, (log_kept x.log hk (nr (by decide) (by decide))).mono hM, fun q hq => ?_, fun q r hqr hr g hg => ?_, ha⟩
  · show (if q = p then _ else _ : List (List Int)).length ≤ s.ops
    split
    · exact Nat.le_trans (keepL_length _ _ _) (by omega)
    · exact x.good.laid q
  · have hy' : y ∈ (if q = p then keepL s.depth (s.laid p) z else s.laid q) := hy
    split at hy'
    · rcases keepL_mem hy' with h1 | rfl
      · exact x.good.len p y h1
      · exact hz
    · exact x.good.len q y hy'
  · rcases e with e | e
    · obtain ⟨us, hu⟩ := (x.row p hp).isBlk e
      exact map_ne x.map hu rfl
    · exact map_ne x.map x.lot e.symm
  · show RowP w' M' _ (if q = p then _ else _)
    by_cases e : q = p
    · rw [if_pos e, e, gp]; exact hv
    · rw [if_neg e, gq q e]
      refine (row_kept (x.row q hq) hk (fun b hb hS => ?_) (nr (by decide) (by decide))).mono hM
      rcases hS with h1 | h1
      · exact ap q hq e b hb h1
      · obtain ⟨us, hu⟩ := (x.row q hq).isBlk hb
        exact blk_ne hu x.lot (by decide) h1
  · have hr' : r < s.pages := hr
    have old : ∀ q, q < s.pages → ∀ g, rowBlk (rws.getD q (.slice none 0 0)) = some g → g < w.heap.size := fun q hq g hg => by
      obtain ⟨us, hu⟩ := (x.row q hq).isBlk hg
      exact hu.lt
    by_cases e1 : q = p
    · subst e1
      rw [gp] at hg
      rw [gq r (by omega)]
      intro hr2
      rcases hb g hg with h1 | h1
      · exact ap r hr' (by omega) g hr2 h1
      · have := old r hr' g hr2; omega
    · rw [gq q e1] at hg
      by_cases e2 : r = p
      · subst e2
        rw [gp]
        intro hr2
        rcases hb g hr2 with h1 | h1
        · exact ap q (by omega) e1 g hg h1
        · have := old q (by omega) g hg; omega
      · rw [gq r e2]; exact x.apart q r hqr hr' g hg
end Go.Proofs.Ytobcolpdkcppoaa
