/- Joined texts: HKeep HKeepW HTouch HRun HOper HOpW HAsk HRaise HWrite HRead HGroup. -/
import Derived.Test.YtnagndnpamcbbaaGreatZF
import Derived.Test.YtnagndnpamcbbaaGreatZC
namespace Go.Proofs.YtnagndnpamcbbaaGreat
open Go.RowKit
set_option linter.unusedVariables false
set_option linter.unusedSimpArgs false

def more (M : Nat → Prop) (w w' : World) (k : Nat) : Prop := M k ∨ (w.heap.size ≤ k ∧ k < w'.heap.size)
theorem rows_elem {L : List (List Int)} {z : List Int} {i : Nat} (hi : i < (L ++ [z]).length) : (i < L.length ∧ (L ++ [z]).getD i [] = L.getD i []) ∨ (i = L.length ∧ (L ++ [z]).getD i [] = z) := by
  rcases Nat.lt_or_ge i L.length with h | h
  · exact .inl ⟨h, by simp [List.getD, List.getElem?_append, h]⟩
  · obtain rfl : i = L.length := by simp at hi; omega
    exact .inr ⟨rfl, by simp [List.getD]⟩
/-- One row more behind a page's row. -/
theorem row_append {w : World} {M : Nat → Prop} {v : Value} {L : List (List Int)} (x : RowP w M v L) (hM : ∀ k, M k → k < w.heap.size) (bb c : Nat) (z : List Int) (hz : RowAt w bb z) (hm : M bb) (hzb : Bytes z) (hzl : z.length ≤ 8192) (hL : L.length ≤ 3000000000000) :
    ∃ g o cap w', (Builtin.append_ #[74, 74] 74 #[v, .slice (some ⟨w.heap.size, 0, none⟩) 1 1]).run Tryz.prog (w.alloc (.cells #[.slice (some ⟨bb, 0, none⟩) z.length c] 67)) = .ok (.slice (some ⟨g, o, none⟩) (L.length + 1) cap) w' ∧
      RowP w' (more M w w') (.slice (some ⟨g, o, none⟩) (L.length + 1) cap) (L ++ [z]) ∧ Kept (fun k => rowBlk v = some k) w w' ∧ (rowBlk v = some g ∨ w.heap.size ≤ g) ∧ g < w'.heap.size := by
  obtain ⟨w0, hw0⟩ : ∃ q, w.alloc (.cells #[.slice (some ⟨bb, 0, none⟩) z.length c] 67) = q := ⟨_, rfl⟩
  have b0 : Below w.heap.size w w0 := by rw [← hw0]; exact (Below.refl _ _).alloc (Nat.le_refl _) _
  have s0 : w0.heap.size = w.heap.size + 1 := by rw [← hw0]; simp
  have n0 : ∀ j u, [Value.slice (some ⟨bb, 0, none⟩) z.length c][j]? = some u → w0.cell? ((⟨w.heap.size, 0, none⟩ : Addr).add j) = some u := by rw [← hw0]; exact cell_one_new w _ _
  rw [hw0]
  have hbb : bb < w.heap.size := hM bb hm
  obtain ⟨i0, hi, hz0, hz1, hz2⟩ := info_parts info_rowB
  have one : ∀ u ∈ [Value.slice (some ⟨bb, 0, none⟩) z.length c], u.oneCell' = true := by intro u hu; simp at hu; subst hu; rfl
  have L1 : [Value.slice (some ⟨bb, 0, none⟩) z.length c].length = 1 * i0.size := by rw [hz1]; rfl
  -- a new row
  have fresh : ∀ (olds : List Value) (cap : Nat), olds.length = L.length → L.length + 1 ≤ cap → (∀ i, i < L.length → ∃ b c, olds[i]? = some (.slice (some ⟨b, 0, none⟩) (L.getD i []).length c) ∧ RowAt w b (L.getD i []) ∧ M b ∧ Bytes (L.getD i []) ∧ (L.getD i []).length ≤ 8192) → ∀ (arr : Array Value), arr = olds.toArray ++ #[Value.slice (some ⟨bb, 0, none⟩) z.length c] ++ Builtin.zeroCells (Value.slice none 0 0).cells (cap - (L.length + 1)) →
      RowP (w0.drew.alloc (.cells arr 67)) (more M w (w0.drew.alloc (.cells arr 67))) (.slice (some ⟨w0.heap.size, 0, none⟩) (L.length + 1) cap) (L ++ [z]) ∧ Kept (fun k => rowBlk v = some k) w (w0.drew.alloc (.cells arr 67)) := by
    intro olds cap ho hc hx arr harr
    have kp : Below w.heap.size w (w0.drew.alloc (.cells arr 67)) := by
      have : Below w.heap.size w w0.drew := ⟨b0.os, b0.tape, b0.output, b0.size, b0.block⟩
      exact this.alloc this.size _
    have hs : (w0.drew.alloc (.cells arr 67)).heap.size = w.heap.size + 2 := by
      have : (w0.drew.alloc (.cells arr 67)).heap.size = w0.heap.size + 1 := by simp
      rw [this, s0]
    have hl : arr.toList.length = cap := by
      rw [harr]; simp [size_zeroCells, ho, Value.cells]; omega
    refine ⟨.inr ⟨w0.heap.size, 0, cap, arr.toList, by simp, ?_, .inr ⟨by omega, by omega⟩, by simp; omega, by omega, fun i hi => ?_⟩, Kept.new _ kp⟩
    · unfold Blk; rw [Array.toArray_toList]; exact heap_alloc_new w0.drew _
    · rw [Nat.zero_add]
      rcases rows_elem hi with ⟨h1, h2⟩ | ⟨h1, h2⟩
      · obtain ⟨b, c', e1, hr, hmm, r⟩ := hx i h1
        refine ⟨b, c', ?_, ?_, .inl hmm, by rw [h2]; exact r⟩
        · rw [h2, harr, ← e1, Array.getElem?_toList, Array.getElem?_append_left (by simp; omega), Array.getElem?_append_left (by simp; omega)]; simp
        · rw [h2]; exact hr.later kp (Nat.le_refl _)
      · refine ⟨bb, c, ?_, ?_, .inl hm, by rw [h2]; exact ⟨hzb, hzl⟩⟩
        · rw [h2, harr, Array.getElem?_toList, Array.getElem?_append_left (by simp; omega), Array.getElem?_append_right (by simp; omega)]; simp [h1, ho]
        · rw [h2]; exact hz.later kp (Nat.le_refl _)
  rcases x with ⟨rfl, rfl⟩ | ⟨g, o, cap, vs, rfl, hb, hMg, hc, ho, hx⟩
  · have hr := run_append_nil (P := Tryz.prog) w0 74 74 67 i0 (.slice none 0 0) Tryz.underlying74 hi hz0 ⟨w.heap.size, 0, none⟩ 1 1 _ L1 n0 (by decide) (by decide) (by rw [hz2]; decide)
    have hg := fresh [] (grownCap w0 1 0 67) rfl (grownCap_ge w0 1 0 _) (fun i hi => by cases hi) _ rfl
    refine ⟨w0.heap.size, 0, grownCap w0 1 0 67, _, hr, ?_, ?_, .inr (by omega), ?_⟩
    · simpa using hg.1
    · simpa using hg.2
    · simp
  · have hgw : g < w.heap.size := hb.lt
    have hbw : Blk w0 g 67 vs := hb.later b0 hgw
    by_cases hroom : L.length + 1 ≤ cap
    · have hr := run_append_room_src (P := Tryz.prog) w0 74 74 74 67 i0 Tryz.underlying74 hi g o L.length cap (.slice (some ⟨w.heap.size, 0, none⟩) 1 1) 1 _ (Src.ofSlice w0 Tryz.underlying74 ⟨w.heap.size, 0, none⟩ 1 1 _ L1 n0 one) hroom
        (fun j hj => by
          have : j = 0 := by simpa using hj
          subst this
          rw [hz1, Nat.mul_one, Nat.add_zero, hbw.cell, List.getElem?_eq_getElem (by omega)]; rfl) (fun j hj => hbw.frozen _)
      rw [hz1, Nat.mul_one] at hr
      have hs : w0.setCells g (o + L.length) [Value.slice (some ⟨bb, 0, none⟩) z.length c] = w0.setCell ⟨g, o + L.length, none⟩ (.slice (some ⟨bb, 0, none⟩) z.length c) := rfl
      rw [hs] at hr
      have hk : Kept (fun k => k = g) w (w0.setCell ⟨g, o + L.length, none⟩ (.slice (some ⟨bb, 0, none⟩) z.length c)) := (Kept.new (fun k => k = g) b0).setCell (p := ⟨g, o + L.length, none⟩) rfl _
      have hbs := hbw.set (o + L.length) (.slice (some ⟨bb, 0, none⟩) z.length c)
      have ne : ∀ (b : Nat) (zs : List Int), RowAt w b zs → b ≠ g := fun b zs ⟨rest, hr'⟩ => blk_ne (show Blk w b 5 _ from hr') hb (by decide)
      refine ⟨g, o, cap, _, hr, .inr ⟨g, o, cap, _, by simp, hbs, .inl hMg, by simp; omega, by simp; omega, fun i hi => ?_⟩, hk.mono (fun k e => by rw [e]; rfl), .inl rfl, ?_⟩
      · rcases rows_elem hi with ⟨h1, h2⟩ | ⟨h1, h2⟩
        · obtain ⟨b, c', e1, hr1, hmm, r⟩ := hx i h1
          refine ⟨b, c', ?_, ?_, .inl hmm, by rw [h2]; exact r⟩
          · rw [h2, List.getElem?_set_ne (by omega)]; exact e1
          · rw [h2]; exact hr1.kept hk (ne b _ hr1)
        · refine ⟨bb, c, ?_, ?_, .inl hm, by rw [h2]; exact ⟨hzb, hzl⟩⟩
          · rw [h2, h1, List.getElem?_set_self (by omega)]
          · rw [h2]; exact hz.kept hk (ne bb _ hz)
      · have := hk.size; omega
    · have ol : ((vs.drop o).take L.length).length = L.length := by simp; omega
      have hr := run_append_grow (P := Tryz.prog) w0 74 74 67 i0 (.slice none 0 0) Tryz.underlying74 hi hz0 ⟨g, o, none⟩ L.length cap ((vs.drop o).take L.length) (by rw [ol, hz1, Nat.mul_one]) (fun j u hu => by
          rw [add_mid, hbw.cell]
          have hj : j < L.length := by have := (List.getElem?_eq_some_iff.1 hu).1; omega
          rw [List.getElem?_take, if_pos hj, List.getElem?_drop] at hu
          exact hu) ⟨w.heap.size, 0, none⟩ 1 1 _ L1 n0 (by omega) (by omega) (growslice_fits (by omega) (by rw [hz2]; omega))
      have hg := fresh ((vs.drop o).take L.length) (grownCap w0 (L.length + 1) cap 67) ol (grownCap_ge _ _ _ _) (fun i hi => by
          obtain ⟨b, c', e1, r⟩ := hx i hi
          exact ⟨b, c', by rw [List.getElem?_take, if_pos hi, List.getElem?_drop]; exact e1, r⟩) _ rfl
      exact ⟨w0.heap.size, 0, grownCap w0 (L.length + 1) cap 67, _, hr, by simpa using hg.1, by simpa using hg.2, .inr (by omega), by simp⟩
/-- append whose run is known. -/
theorem wpList_append_run {ops : Array Oper} {rest : List Oper} {o : Oper} {a : Act} {Q : Exit → Act → World → Prop} {w : World} (hgd : o.guard = none) (s x : Operand) (t ty : TypeId) (ho : o.op = .call { callee := .builtin .append, args := #[s, x], argTypes := #[t, t] }) (hty : o.type = ty)
    (va vb : Value) (hs : a.eval s = va) (hx : a.eval x = vb) (v' : Value) (w' : World) (hr : (Builtin.append_ #[t, t] ty #[va, vb]).run Tryz.prog w = .ok v' w') (h : wpList Tryz.prog ops Q rest (a.put o.dst v') w') : wpList Tryz.prog ops Q (o :: rest) a w := by
  refine wpList_plain hgd fun K hK => ?_
  subst hty
  unfold Oper.wp execOp
  simp only [ho, resolve, invoke, builtin, Sem.run_bind, Sem.run_pure, Result.andThen_ok, List.map_toArray, List.map_cons, List.map_nil, hs, hx, hr]
  exact hK _ _ h
theorem sizeRowB : (Tryz.prog.info? 67).map (·.size) = some 1 := by kernel_rfl
set_option maxRecDepth 20000 in
theorem sl_row (ao : Option Addr) (n c : Nat) (hl : 1 ≤ n) (w : World) : (Instr.sliceAt 74 (.slice ao n c) (some (.int .i64 1)) none none).run Tryz.prog w = .ok (.slice (subA ao 1 c) (n - 1) (c - 1)) w := by
  rw [run_sliceAt_slice w 74 _ _ _ _ Tryz.underlying74, run_slice_l w 74 ao n c Tryz.underlying74 .i64 1 (by omega) (by omega)]
  rw [show Tryz.prog.elem 74 = 67 by kernel_rfl]
  have hs : (sizeOf 67).run Tryz.prog w = .ok 1 w := by
    have h := sizeRowB
    cases hq : Tryz.prog.info? 67 with
    | none => simp [hq] at h
    | some i => simp [hq] at h; simp [sizeOf, typeInfo, hq, h]
  simp [hs, Result.andThen, sliced, subA]
theorem more_le {M : Nat → Prop} {w w' : World} {k : Nat} (h : M k) : more M w w' k := .inl h
/-- The oldest row is forgotten. -/
theorem row_drop {w : World} {M : Nat → Prop} {g o cap n : Nat} {L : List (List Int)} (x : RowP w M (.slice (some ⟨g, o, none⟩) n cap) L) (hn : 2 ≤ n) :
    L.length = n ∧ RowP (w.setCell ⟨g, o, none⟩ (.slice none 0 0)) M (.slice (subA (some ⟨g, o, none⟩) 1 cap) (n - 1) (cap - 1)) (L.drop 1) ∧ Kept (fun k => k = g) w (w.setCell ⟨g, o, none⟩ (.slice none 0 0)) ∧ w.cell? ⟨g, o, none⟩ ≠ none ∧ w.frozen? ⟨g, o, none⟩ = false ∧ subA (some ⟨g, o, none⟩) 1 cap = some ⟨g, o + 1, none⟩ := by
  rcases x with ⟨e, _⟩ | ⟨g', o', cap', vs, e, hb, hMg, hc, ho, hx⟩
  · simp at e
  · simp only [Value.slice.injEq, Option.some.injEq, Addr.mk.injEq, and_true, true_and] at e
    obtain ⟨⟨rfl, rfl⟩, rfl, rfl⟩ := e
    have hk : Kept (fun k => k = g) w (w.setCell ⟨g, o, none⟩ (.slice none 0 0)) := (Kept.refl (fun k => k = g) w).setCell (p := ⟨g, o, none⟩) rfl _
    have es : subA (some ⟨g, o, none⟩) 1 cap = some ⟨g, o + 1, none⟩ := by
      unfold subA
      rw [if_neg (by omega)]
      exact congrArg some (add_mid g o 1)
    refine ⟨rfl, .inr ⟨g, o + 1, cap - 1, _, by rw [es]; simp, hb.set o (.slice none 0 0), hMg, by simp; omega, by simp; omega, fun i hi => ?_⟩, hk, ?_, hb.frozen o, es⟩
    · have hi' : i + 1 < L.length := by simp at hi; omega
      have e2 : (L.drop 1).getD i [] = L.getD (i + 1) [] := by simp [List.getD, List.getElem?_drop, Nat.add_comm]
      rw [e2]
      obtain ⟨b, c', e1, hr, hm, r⟩ := hx (i + 1) hi'
      refine ⟨b, c', ?_, ?_, hm, r⟩
      · rw [List.getElem?_set_ne (by omega), show o + 1 + i = o + (i + 1) by omega]; exact e1
      · exact hr.kept hk (blk_ne (show Blk w b 5 _ from hr.choose_spec) hb (by decide))
    · rw [hb.cell, List.getElem?_eq_getElem (by omega)]; simp
/-- What lies on a page behind a write. -/
def keepL (d : Nat) (L : List (List Int)) (z : List Int) : List (List Int) := if d < L.length then (L ++ [z]).drop 1 else L ++ [z]
theorem keepL_length (d : Nat) (L : List (List Int)) (z : List Int) : (keepL d L z).length ≤ L.length + 1 := by unfold keepL; split <;> simp
theorem keepL_mem {d : Nat} {L : List (List Int)} {z y : List Int} (h : y ∈ keepL d L z) : y ∈ L ∨ y = z := by
  unfold keepL at h
  split at h
  · have := List.mem_of_mem_drop h; simpa using this
  · simpa using h
def HSt.wrote (s : HSt) (p : Nat) (z : List Int) : HSt := { s with laid := fun q => if q = p then keepL s.depth (s.laid p) z else s.laid q }
theorem HostIn.rowed {w w' : World} {M M' : Nat → Prop} {h : Nat} {s : HSt} {gl gm : Nat} {lg : Value} {rws : List Value} {n : Nat} {D : DataW Value} (x : HostIn w M h s gl gm lg rws n D) (p : Nat) (hp : p < s.pages) (z : List Int) (hz : z.length = s.size) (hr : (s.laid p).length < s.ops)
    (v' : Value) (hv : RowP w' M' v' (keepL s.depth (s.laid p) z)) (hb : ∀ g, rowBlk v' = some g → rowBlk (rws.getD p (.slice none 0 0)) = some g ∨ w.heap.size ≤ g) (hl : Blk w' gl 74 (rws.set p v')) (hk : Kept (fun k => rowBlk (rws.getD p (.slice none 0 0)) = some k ∨ k = gl) w w')
    (hM : ∀ k, M k → M' k) (ha : ∀ k, M' k → k < w'.heap.size) : HostIn w' M' h (s.wrote p z) gl gm lg (rws.set p v') n D := by
  have nr : ∀ {t : TypeId}, t ≠ 67 → t ≠ 74 → ∀ (b : Nat) (vs : List Value), Blk w b t vs → ¬ (rowBlk (rws.getD p (.slice none 0 0)) = some b ∨ b = gl) := fun h1 h2 b vs hb e => by
    rcases e with e | rfl
    · obtain ⟨us, hu⟩ := (x.row p hp).isBlk e
      exact blk_ne hb hu h1 rfl
    · exact blk_ne hb x.lot h2 rfl
  have hpl : p < rws.length := by rw [x.cnt]; exact hp
  have gq : ∀ q, q ≠ p → (rws.set p v').getD q (.slice none 0 0) = rws.getD q (.slice none 0 0) := fun q hq => by simp [List.getD, List.getElem?_set_ne (Ne.symm hq)]
  have gp : (rws.set p v').getD p (.slice none 0 0) = v' := by simp [List.getD, hpl]
  have ap : ∀ q, q < s.pages → q ≠ p → ∀ g, rowBlk (rws.getD q (.slice none 0 0)) = some g → rowBlk (rws.getD p (.slice none 0 0)) ≠ some g := fun q hq hne g hg => by
    rcases Nat.lt_or_gt_of_ne hne with h1 | h1
    · exact x.apart q p h1 hp g hg
    · intro e; exact x.apart p q h1 hq g e hg
  have mm : ∀ b, M b → M' b := hM
  refine ⟨⟨x.good.size, x.good.pages, x.good.depth, x.good.reg, x.good.ops, x.good.log, fun q => ?_, fun q y hy => ?_⟩, x.blk.kept hk (nr (by decide) (by decide) _ _ x.blk), hl, by rw [List.length_set]; exact x.cnt, hM _ x.mh, hM _ x.ml, hM _ x.mm, ownsMap_same x.map (hk.block _ x.map.lt (fun e => ?_)), fun k => com_mono (com_kept (x.com k) hk (nr (by decide) (by decide))) hM, (log_kept x.log hk (nr (by decide) (by decide))).mono hM, fun q hq => ?_, fun q r hqr hr g hg => ?_, ha⟩
  · show (if q = p then _ else _ : List (List Int)).length ≤ s.ops
    split
    · exact Nat.le_trans (keepL_length _ _ _) (by omega)
    · exact x.good.laid q
  · have hy' : y ∈ (if q = p then keepL s.depth (s.laid p) z else s.laid q) := hy
    split at hy'
    · rcases keepL_mem hy' with h1 | rfl
      · exact x.good.len p y h1
      · exact hz
    · exact x.good.len q y hy'
  · rcases e with e | e
    · obtain ⟨us, hu⟩ := (x.row p hp).isBlk e
      exact map_ne x.map hu rfl
    · exact map_ne x.map x.lot e.symm
  · show RowP w' M' _ (if q = p then _ else _)
    by_cases e : q = p
    · rw [if_pos e, e, gp]; exact hv
    · rw [if_neg e, gq q e]
      refine (row_kept (x.row q hq) hk (fun b hb hS => ?_) (nr (by decide) (by decide))).mono hM
      rcases hS with h1 | h1
      · exact ap q hq e b hb h1
      · obtain ⟨us, hu⟩ := (x.row q hq).isBlk hb
        exact blk_ne hu x.lot (by decide) h1
  · have hr' : r < s.pages := hr
    have old : ∀ q, q < s.pages → ∀ g, rowBlk (rws.getD q (.slice none 0 0)) = some g → g < w.heap.size := fun q hq g hg => by
      obtain ⟨us, hu⟩ := (x.row q hq).isBlk hg
      exact hu.lt
    by_cases e1 : q = p
    · subst e1
      rw [gp] at hg
      rw [gq r (by omega)]
      intro hr2
      rcases hb g hg with h1 | h1
      · exact ap r hr' (by omega) g hr2 h1
      · have := old r hr' g hr2; omega
    · rw [gq q e1] at hg
      by_cases e2 : r = p
      · subst e2
        rw [gp]
        intro hr2
        rcases hb g hr2 with h1 | h1
        · exact ap q (by omega) e1 g hg h1
        · have := old q (by omega) g hg; omega
      · rw [gq r e2]; exact x.apart q r hqr hr' g hg
end Go.Proofs.YtnagndnpamcbbaaGreat

namespace Go.Proofs.YtnagndnpamcbbaaGreat
open Go.RowKit
set_option linter.unusedVariables false
set_option linter.unusedSimpArgs false

theorem getD_at {rws : List Value} {p : Nat} (h : p < rws.length) : rws[p]? = some (rws.getD p (.slice none 0 0)) := by simp [List.getD, h]
set_option maxRecDepth 20000 in
set_option maxHeartbeats 1000000 in
theorem keep_any (h : Nat) (s : HSt) (p : Nat) (hp : p < s.pages) (z : List Int) (hz : z.length = s.size) (hzb : Bytes z) (hr : (s.laid p).length < s.ops) (bb c : Nat) (M : Nat → Prop) (gl gm : Nat) (lg : Value) (rws : List Value) (n : Nat) (D : DataW Value) (w : World) (x : HostIn w M h s gl gm lg rws n D) (hm : M bb) (hR : RowAt w bb z) :
    Calls Tryz.prog 291 #[.pointer (some ⟨h, 0, none⟩), .int .i64 p, .slice (some ⟨bb, 0, none⟩) s.size c] w fun e w' => e = .returned (.tuple #[]) ∧ HostAt w' (more M w w') h (s.wrote p z) ∧ Kept M w w' := by
  have X : Hid (HostIn w M h s gl gm lg rws n D) := x
  have c1 : w.cell? ⟨h, 1, none⟩ = some (.slice (some ⟨gl, 0, none⟩) s.pages s.pages) := x.blk.cell 1
  have hpl : p < rws.length := by rw [x.cnt]; exact hp
  have cp : w.cell? ⟨gl, p, none⟩ = some (rws.getD p (.slice none 0 0)) := by rw [x.lot.cell p]; exact getD_at hpl
  have hLo := x.good.laid p
  have hop := x.good.ops
  have hpg := x.good.pages
  have hsz := x.good.size
  obtain ⟨g, o, cap, w1, hap, hrow, hk1, hg1, hgl1⟩ := row_append (x.row p hp) x.all bb c z hR hm hzb (by omega) (by omega)
  rw [hz] at hap
  have nh : ¬ rowBlk (rws.getD p (.slice none 0 0)) = some h := fun e => by
    obtain ⟨us, hu⟩ := (x.row p hp).isBlk e
    exact blk_ne hu x.blk (by decide) rfl
  have nl : ¬ rowBlk (rws.getD p (.slice none 0 0)) = some gl := fun e => by
    obtain ⟨us, hu⟩ := (x.row p hp).isBlk e
    exact blk_ne hu x.lot (by decide) rfl
  have bh1 := x.blk.kept hk1 nh
  have bl1 := x.lot.kept hk1 nl
  have hgh : g ≠ h := fun e => by
    rcases hg1 with h1 | h1
    · exact nh (e ▸ h1)
    · have := x.blk.lt; omega
  have hggl : g ≠ gl := fun e => by
    rcases hg1 with h1 | h1
    · exact nl (e ▸ h1)
    · have := x.lot.lt; omega
  have d1 : w1.cell? ⟨h, 1, none⟩ = some (.slice (some ⟨gl, 0, none⟩) s.pages s.pages) := bh1.cell 1
  have d2 : w1.cell? ⟨h, 2, none⟩ = some (.int .i64 s.depth) := bh1.cell 2
  have hdp := x.good.depth
  have dp : w1.cell? ⟨gl, p, none⟩ = some (rws.getD p (.slice none 0 0)) := by rw [bl1.cell p]; exact getD_at hpl
  have fp : w1.frozen? ⟨gl, p, none⟩ = false := bl1.frozen p
  obtain ⟨v0, hv0⟩ : ∃ q, rws.getD p (.slice none 0 0) = q := ⟨_, rfl⟩
  rw [hv0] at cp dp hap
  have KM : ∀ (w' : World), Kept (fun k => rowBlk v0 = some k ∨ k = gl ∨ k = g) w w' → Kept M w w' := fun w' hk => ⟨hk.os, hk.tape, hk.output, hk.size, fun k hk1 hM => hk.block k hk1 (fun e => by
    rcases e with e | rfl | rfl
    · rcases x.row p hp with ⟨e1, _⟩ | ⟨g', o', cap', vs', e1, _, hM', _⟩
      · rw [hv0] at e1; rw [e1] at e; cases e
      · rw [hv0] at e1; rw [e1] at e; cases e; exact hM hM'
    · exact hM x.ml
    · rcases hg1 with h1 | h1
      · rcases x.row p hp with ⟨e1, _⟩ | ⟨g', o', cap', vs', e1, _, hM', _⟩
        · rw [e1] at h1; cases h1
        · rw [e1] at h1; cases h1; exact hM hM'
      · omega)⟩
  have AL : ∀ (w' : World), w.heap.size ≤ w'.heap.size → ∀ k, more M w w' k → k < w'.heap.size := fun w' hs k hk => by
    rcases hk with hk | hk
    · have := x.all k hk; omega
    · exact hk.2
  obtain ⟨L, hL⟩ : ∃ q, (s.laid p).length = q := ⟨_, rfl⟩
  rw [hL] at hap hrow hLo hr
  have i1 : (0 : Int) ≤ (p : Int) := by omega
  have i2 : (p : Int) < (s.pages : Int) := by omega
  by_cases hd : s.depth < L
  · -- one is forgotten
    obtain ⟨e1, hrow2, hk2, hne2, hfr2, es⟩ := row_drop hrow (by omega)
    have esl := sl_row (some ⟨g, o, none⟩) (L + 1) cap (by omega)
    rw [es] at hrow2 esl
    obtain ⟨cv, hcv⟩ := Option.ne_none_iff_exists'.1 hne2
    have hd' : (s.depth : Int) < (L : Int) := by omega
    have RR : Hid (∀ w', w' = (w1.setCell ⟨g, o, none⟩ (.slice none 0 0)).setCell ⟨gl, p, none⟩ (.slice (some ⟨g, o + 1, none⟩) L (cap - 1)) → HostAt w' (more M w w') h (s.wrote p z) ∧ Kept M w w') := by
      refine fun w' hw' => ?_
      have kall : Kept (fun k => rowBlk v0 = some k ∨ k = gl ∨ k = g) w w' := by
        rw [hw']
        refine Kept.setCell (p := ⟨gl, p, none⟩) (Kept.setCell (p := ⟨g, o, none⟩) (hk1.mono (fun k e => ?_)) (.inr (.inr rfl)) _) (.inr (.inl rfl)) _
        rw [hv0] at e
        exact .inl e
      have hs2 : w'.heap.size = w1.heap.size := by rw [hw']; simp [World.setCell]
      have bl2 : Blk (w1.setCell ⟨g, o, none⟩ (.slice none 0 0)) gl 74 rws := bl1.kept hk2 (Ne.symm hggl)
      have bl3 := bl2.set p (.slice (some ⟨g, o + 1, none⟩) L (cap - 1))
      rw [← hw'] at bl3
      have kl : Kept (fun k => k = gl) (w1.setCell ⟨g, o, none⟩ (.slice none 0 0)) w' := by rw [hw']; exact (Kept.refl (fun k => k = gl) _).setCell (p := ⟨gl, p, none⟩) rfl _
      have hrow3 : RowP w' (more M w w') (.slice (some ⟨g, o + 1, none⟩) L (cap - 1)) (keepL s.depth (s.laid p) z) := by
        have e2 : keepL s.depth (s.laid p) z = (s.laid p ++ [z]).drop 1 := if_pos (by rw [hL]; exact hd)
        rw [e2]
        have := (row_kept hrow2 kl (fun b hb => by cases hb; exact hggl) (fun b vs hb => blk_ne hb bl2 (by decide))).mono (M' := more M w w') (fun k hk => by
          rcases hk with hk | hk
          · exact .inl hk
          · exact .inr ⟨hk.1, by omega⟩)
        simpa using this
      refine ⟨(X.out.rowed p hp z hz (by rw [hL]; exact hr) _ hrow3 (fun g' hg' => by cases hg'; exact hg1) bl3 ⟨kall.os, kall.tape, kall.output, kall.size, fun k hk1' hS => ?_⟩ (fun k hk => .inl hk) (AL w' kall.size)).at, KM w' kall⟩
      by_cases e : k = g
      · subst e
        rcases hg1 with h1 | h1
        · exact absurd (.inl h1) hS
        · omega
      · exact kall.block k hk1' (fun e3 => by
          rcases e3 with e3 | e3 | e3
          · exact hS (.inl (by rw [hv0]; exact e3))
          · exact hS (.inr e3)
          · exact e e3)
    have HE : Hid (g ≠ h ∧ g ≠ gl) := ⟨hgh, hggl⟩
    have dp2 : (w1.setCell ⟨g, o, none⟩ (.slice none 0 0)).cell? ⟨h, 1, none⟩ = some (.slice (some ⟨gl, 0, none⟩) s.pages s.pages) := (bh1.kept hk2 (Ne.symm hgh)).cell 1
    have dp3 : (w1.setCell ⟨g, o, none⟩ (.slice none 0 0)).cell? ⟨gl, p, none⟩ = some v0 := by rw [(bl1.kept hk2 (Ne.symm hggl)).cell p, ← hv0]; exact getD_at hpl
    have dp4 : (w1.setCell ⟨g, o, none⟩ (.slice none 0 0)).frozen? ⟨gl, p, none⟩ = false := (bl1.kept hk2 (Ne.symm hggl)).frozen p
    clear hrow hrow2 hk1 hk2 hg1 nh nl bh1 bl1 KM AL x hv0 hL hR hz hzb es hgh hggl e1 hne2 hgl1 hm
    go_enter Tryz.func291, Tryz.ntmps291
    go_wp2_with (at_builtin; refine wpList_append_run rfl _ _ 74 74 rfl rfl v0 _ rfl rfl _ w1 hap ?_)
    go_end0
    exact ⟨rfl, RR.out _ rfl⟩
  · have hd' : ¬ (s.depth : Int) < (L : Int) := by omega
    have RR : Hid (∀ w', w' = w1.setCell ⟨gl, p, none⟩ (.slice (some ⟨g, o, none⟩) (L + 1) cap) → HostAt w' (more M w w') h (s.wrote p z) ∧ Kept M w w') := by
      refine fun w' hw' => ?_
      have kall : Kept (fun k => rowBlk v0 = some k ∨ k = gl ∨ k = g) w w' := by
        rw [hw']
        refine Kept.setCell (p := ⟨gl, p, none⟩) (hk1.mono (fun k e => ?_)) (.inr (.inl rfl)) _
        rw [hv0] at e
        exact .inl e
      have hs2 : w'.heap.size = w1.heap.size := by rw [hw']; simp [World.setCell]
      have bl3 := bl1.set p (.slice (some ⟨g, o, none⟩) (L + 1) cap)
      rw [← hw'] at bl3
      have kl : Kept (fun k => k = gl) w1 w' := by rw [hw']; exact (Kept.refl (fun k => k = gl) _).setCell (p := ⟨gl, p, none⟩) rfl _
      have hrow3 : RowP w' (more M w w') (.slice (some ⟨g, o, none⟩) (L + 1) cap) (keepL s.depth (s.laid p) z) := by
        have e2 : keepL s.depth (s.laid p) z = s.laid p ++ [z] := if_neg (by rw [hL]; exact hd)
        rw [e2]
        exact (row_kept hrow kl (fun b hb => by cases hb; exact hggl) (fun b vs hb => blk_ne hb bl1 (by decide))).mono (M' := more M w w') (fun k hk => by
          rcases hk with hk | hk
          · exact .inl hk
          · exact .inr ⟨hk.1, by omega⟩)
      refine ⟨(X.out.rowed p hp z hz (by rw [hL]; exact hr) _ hrow3 (fun g' hg' => by cases hg'; exact hg1) bl3 ⟨kall.os, kall.tape, kall.output, kall.size, fun k hk1' hS => ?_⟩ (fun k hk => .inl hk) (AL w' kall.size)).at, KM w' kall⟩
      by_cases e : k = g
      · subst e
        rcases hg1 with h1 | h1
        · exact absurd (.inl h1) hS
        · omega
      · exact kall.block k hk1' (fun e3 => by
          rcases e3 with e3 | e3 | e3
          · exact hS (.inl (by rw [hv0]; exact e3))
          · exact hS (.inr e3)
          · exact e e3)
    clear hrow hk1 hg1 nh nl bh1 bl1 KM AL x hv0 hL hR hz hzb hgh hggl hgl1 hm
    go_enter Tryz.func291, Tryz.ntmps291
    go_wp2_with (at_builtin; refine wpList_append_run rfl _ _ 74 74 rfl rfl v0 _ rfl rfl _ w1 hap ?_)
    go_end0
    exact ⟨rfl, RR.out _ rfl⟩
end Go.Proofs.YtnagndnpamcbbaaGreat

namespace Go.Proofs.YtnagndnpamcbbaaGreat
open Go.RowKit
set_option linter.unusedVariables false
set_option linter.unusedSimpArgs false

theorem wpList_yieldH {ops : Array Oper} {rest : List Oper} {o : Oper} {a : Act} {Q : Exit → Act → World → Prop} {w : World} (hgd : o.guard = none) (v : Value) (hrun : (execOp a.eval o).run Tryz.prog w = .ok (.value v) w) (h : wpList Tryz.prog ops Q rest (a.put o.dst v) w) : wpList Tryz.prog ops Q (o :: rest) a w := by
  refine wpList_plain hgd fun K hK => ?_
  unfold Oper.wp
  rw [hrun]
  exact hK _ _ h
/-- The first twelve bytes, the rest 0. -/
def headL (zs : List Int) : List Int := zs.take 12 ++ List.replicate (12 - zs.length) 0
theorem headL_length (zs : List Int) : (headL zs).length = 12 := by simp [headL]; omega
theorem build_tc (op : Int) (w : World) : (Instr.build 149 #[(0, .int .i64 op), (2, .int .i64 8)]).run Tryz.prog w = .ok (.agg (tcC ⟨op, 0, 8, List.replicate 12 0⟩).toArray) w := by kernel_rfl
theorem tcg (op pg ln : Int) : (Tc.mk op pg ln (List.replicate 12 0)).Good := rfl
set_option maxRecDepth 20000 in
theorem sl_nonce (g : Nat) (w : World) : (Instr.sliceAt 147 (.pointer (some ⟨g, 3, none⟩)) none none none).run Tryz.prog w = .ok (.slice (some ⟨g, 3, none⟩) 12 12) w := by kernel_rfl
set_option maxRecDepth 20000 in
set_option maxHeartbeats 1000000 in
theorem touch_reg (h : Nat) (s : HSt) (op : Int) (hop : op = 2 ∨ op = 3) (M : Nat → Prop) (w : World) (x : HostAt w M h s) :
    Calls Tryz.prog 287 #[.pointer (some ⟨h, 0, none⟩), .int .i64 op, .int .i64 0, .slice none 0 0] w fun e w' => e = .returned (.agg (tcC ⟨op, 0, 8, List.replicate 12 0⟩).toArray) ∧ Below w.heap.size w w' := by
  have bt := build_tc op
  have q1 : (op == 1) = false := by rcases hop with rfl | rfl <;> rfl
  have q0 : (op == 0) = false := by rcases hop with rfl | rfl <;> rfl
  clear x hop
  go_enter Tryz.func287, Tryz.ntmps287
  go_wp2_with (first | ((with_reducible show wpList _ _ _ (({ dst := some 8, op := _, type := _, pos := _, after := _, guard := _ } : Oper) :: _) _ _); refine wpList_alloc_new rfl 149 rfl 15 _ zeroTc ?_; intro w1 b1 s1 l1; have z1 : Hid (w1.heap.size = w.heap.size + 1) := s1; clear s1) | ((with_reducible show wpList _ _ _ (({ dst := some 11, op := _, type := _, pos := _, after := _, guard := _ } : Oper) :: _) _ _); refine wpList_build rfl 149 _ rfl #[(0, .int .i64 op), (2, .int .i64 8)] (by simp [Act.eval]) _ (bt _) ?_) | ((with_reducible show wpList _ _ _ (({ dst := some 9, op := _, type := _, pos := _, after := _, guard := _ } : Oper) :: _) _ _); refine wpList_alloc_new rfl 149 rfl 15 _ zeroTc ?_; intro w2 b2 s2 l2; have z2 : Hid (w2.heap.size = w1.heap.size + 1) := s2; clear s2) | (refine wpList_store_blk rfl 149 149 (.tmp 9) (.tmp 11) rfl _ rfl _ (tcC ⟨op, 0, 8, List.replicate 12 0⟩) rfl b2 rfl (sizeTc rfl) (tcC_one _) ?_; intro w3 b3 s3 k3; have z3 : Hid (w3.heap.size = w2.heap.size) := s3; clear s3) | (refine wpList_load_blk rfl 149 (.tmp 9) rfl _ rfl (tcC ⟨op, 0, 8, List.replicate 12 0⟩) _ b3 Tryz.underlying149 rfl (sizeTc rfl) ?_) | (refine wpList_store_blk rfl 149 149 (.tmp 8) (.tmp 28) rfl _ rfl _ (tcC ⟨op, 0, 8, List.replicate 12 0⟩) rfl ((b1.later l2 b1.lt).kept k3 (by have := b1.lt; omega)) rfl (sizeTc rfl) (tcC_one _) ?_; intro w4 b4 s4 k4))
  refine ret_blk rfl w.heap.size (tcC ⟨op, 0, 8, List.replicate 12 0⟩) _ rfl b4 Tryz.underlying149 rfl (sizeTc rfl) rfl ⟨rfl, ?_⟩
  have := z1.out; have := z2.out; have := z3.out
  exact below_kept (below_kept (below_chain l1 l2 (by omega)) k3 (by omega) (fun j hj => by omega)) k4 (by omega) (fun j hj => by omega)
set_option maxRecDepth 20000 in
set_option maxHeartbeats 1000000 in
theorem touch_read (h : Nat) (s : HSt) (p : Int) (M : Nat → Prop) (w : World) (x : HostAt w M h s) :
    Calls Tryz.prog 287 #[.pointer (some ⟨h, 0, none⟩), .int .i64 0, .int .i64 p, .slice none 0 0] w fun e w' => e = .returned (.agg (tcC ⟨0, p, s.size, List.replicate 12 0⟩).toArray) ∧ Below w.heap.size w w' := by
  have bt := build_tc 0
  obtain ⟨gl, gm, lg, rws, n, D, x⟩ := x
  have X : Hid (Blk w h 136 (hostC s gl gm lg)) := x.blk
  clear x
  go_enter Tryz.func287, Tryz.ntmps287
  go_wp2_with (first | ((with_reducible show wpList _ _ _ (({ dst := some 8, op := _, type := _, pos := _, after := _, guard := _ } : Oper) :: _) _ _); refine wpList_alloc_new rfl 149 rfl 15 _ zeroTc ?_; intro w1 b1 s1 l1; have z1 : Hid (w1.heap.size = w.heap.size + 1) := s1; clear s1) | ((with_reducible show wpList _ _ _ (({ dst := some 11, op := _, type := _, pos := _, after := _, guard := _ } : Oper) :: _) _ _); refine wpList_build rfl 149 _ rfl #[(0, .int .i64 0), (2, .int .i64 8)] (by simp [Act.eval]) _ (bt _) ?_) | ((with_reducible show wpList _ _ _ (({ dst := some 9, op := _, type := _, pos := _, after := _, guard := _ } : Oper) :: _) _ _); refine wpList_alloc_new rfl 149 rfl 15 _ zeroTc ?_; intro w2 b2 s2 l2; have z2 : Hid (w2.heap.size = w1.heap.size + 1) := s2; clear s2) | (refine wpList_store_blk rfl 149 149 (.tmp 9) (.tmp 11) rfl _ rfl _ (tcC ⟨0, 0, 8, List.replicate 12 0⟩) rfl b2 rfl (sizeTc rfl) (tcC_one _) ?_; intro w3 b3 s3 k3; have z3 : Hid (w3.heap.size = w2.heap.size) := s3; clear s3; have d0 : w3.cell? ⟨h, 0, none⟩ = some (.int .i64 s.size) := ((((X.out.later l1 X.out.lt).later l2 (by have := z1.out; have := X.out.lt; omega)).kept k3 (by have := z1.out; have := X.out.lt; omega))).cell 0; have d1 : w3.cell? ⟨w1.heap.size, 1, none⟩ = some (.int .i64 0) := b3.cell 1; have d2 : w3.cell? ⟨w1.heap.size, 2, none⟩ = some (.int .i64 8) := b3.cell 2; have g1 : w3.frozen? ⟨w1.heap.size, 1, none⟩ = false := b3.frozen 1; have g2 : w3.frozen? ⟨w1.heap.size, 2, none⟩ = false := b3.frozen 2; have nh : w1.heap.size ≠ h := by { have := z1.out; have := X.out.lt; omega }) | (refine wpList_load_blk rfl 149 (.tmp 9) rfl _ rfl (tcC ⟨0, p, s.size, List.replicate 12 0⟩) _ (show Blk _ _ _ (tcC ⟨0, p, s.size, List.replicate 12 0⟩) from (b3.set 1 (.int .i64 p)).set 2 (.int .i64 s.size)) Tryz.underlying149 rfl (sizeTc rfl) ?_) | (refine wpList_store_blk rfl 149 149 (.tmp 8) (.tmp 28) rfl _ rfl _ (tcC ⟨0, p, s.size, List.replicate 12 0⟩) rfl ((((b1.later l2 b1.lt).kept k3 (by have := b1.lt; omega)).other (p := ⟨w1.heap.size, 1, none⟩) (by have := b1.lt; simp; omega) _).other (p := ⟨w1.heap.size, 2, none⟩) (by have := b1.lt; simp; omega) _) rfl (sizeTc rfl) (tcC_one _) ?_; intro w4 b4 s4 k4))
  refine ret_blk rfl w.heap.size (tcC ⟨0, p, s.size, List.replicate 12 0⟩) _ rfl b4 Tryz.underlying149 rfl (sizeTc rfl) rfl ⟨rfl, ?_⟩
  have := z1.out; have := z2.out; have := z3.out
  have l3 : Below w.heap.size w w3 := below_kept (below_chain l1 l2 (by omega)) k3 (by omega) (fun j hj => by omega)
  exact below_kept (below_kept l3 (((Kept.refl (fun k => k = w1.heap.size) w3).setCell (p := ⟨w1.heap.size, 1, none⟩) rfl _).setCell (p := ⟨w1.heap.size, 2, none⟩) rfl _) (by omega) (fun j hj => by omega)) k4 (by simp [World.setCell]; omega) (fun j hj => by omega)

theorem lenTc (p z : Int) (zs : List Int) : (tcC ⟨1, p, z, headL zs⟩).length = (tcC default).length := by
  rw [tcC_length (show (Tc.mk 1 p z (headL zs)).Good from headL_length zs)]; rfl
theorem u8s_rep12 (n : Nat) : u8s (List.replicate 12 0) = u8s (List.replicate (Nat.min n 12) 0) ++ u8s (List.replicate (12 - Nat.min n 12) 0) := by
  have : Nat.min n 12 ≤ 12 := Nat.min_le_right _ _
  simp only [u8s, ← List.map_append, List.replicate_append_replicate]
  congr 2; omega
theorem head_cut (zs : List Int) (n : Nat) (hn : zs.length = n) : u8s (zs.take (Nat.min n 12)) ++ u8s (List.replicate (12 - Nat.min n 12) 0) = u8s (headL zs) := by
  unfold headL
  subst hn
  rcases Nat.le_total zs.length 12 with h | h
  · have e : Nat.min zs.length 12 = zs.length := Nat.min_eq_left h
    rw [e, List.take_of_length_le (Nat.le_refl _), List.take_of_length_le h]
    simp [u8s]
  · have e : Nat.min zs.length 12 = 12 := Nat.min_eq_right h
    rw [e, Nat.sub_eq_zero_of_le h]
    simp [u8s]
set_option maxRecDepth 20000 in
set_option maxHeartbeats 1000000 in
theorem touch_write (h : Nat) (s : HSt) (p : Int) (ao : Option Addr) (n c : Nat) (zs : List Int) (M : Nat → Prop) (w : World) (x : HostAt w M h s) (hx : Seen w ao n zs) :
    Calls Tryz.prog 287 #[.pointer (some ⟨h, 0, none⟩), .int .i64 1, .int .i64 p, .slice ao n c] w fun e w' => e = .returned (.agg (tcC ⟨1, p, s.size, headL zs⟩).toArray) ∧ Below w.heap.size w w' := by
  have bt := build_tc 1
  obtain ⟨gl, gm, lg, rws, n', D, x⟩ := x
  have X : Hid (Blk w h 136 (hostC s gl gm lg) ∧ Seen w ao n zs) := ⟨x.blk, hx⟩
  have sn := fun g => sl_nonce g
  clear x hx
  go_enter Tryz.func287, Tryz.ntmps287
  go_wp2_with (first | ((with_reducible show wpList _ _ _ (({ dst := some 8, op := _, type := _, pos := _, after := _, guard := _ } : Oper) :: _) _ _); refine wpList_alloc_new rfl 149 rfl 15 _ zeroTc ?_; intro w1 b1 s1 l1; have z1 : Hid (w1.heap.size = w.heap.size + 1) := s1; clear s1) | ((with_reducible show wpList _ _ _ (({ dst := some 11, op := _, type := _, pos := _, after := _, guard := _ } : Oper) :: _) _ _); refine wpList_build rfl 149 _ rfl #[(0, .int .i64 1), (2, .int .i64 8)] (by simp [Act.eval]) _ (bt _) ?_) | ((with_reducible show wpList _ _ _ (({ dst := some 9, op := _, type := _, pos := _, after := _, guard := _ } : Oper) :: _) _ _); refine wpList_alloc_new rfl 149 rfl 15 _ zeroTc ?_; intro w2 b2 s2 l2; have z2 : Hid (w2.heap.size = w1.heap.size + 1) := s2; clear s2) | (refine wpList_store_blk rfl 149 149 (.tmp 9) (.tmp 11) rfl _ rfl _ (tcC ⟨1, 0, 8, List.replicate 12 0⟩) rfl b2 rfl (sizeTc rfl) (tcC_one _) ?_; intro w3 b3 s3 k3; have z3 : Hid (w3.heap.size = w2.heap.size) := s3; clear s3) | ((with_reducible show wpList _ _ _ (({ dst := some 18, op := _, type := _, pos := _, after := _, guard := _ } : Oper) :: _) _ _); refine wpList_yieldH rfl (.slice (some ⟨w1.heap.size, 3, none⟩) 12 12) (by simp [execOp, Act.eval, sn]) ?_) | ((with_reducible show wpList _ _ _ (({ dst := some 19, op := _, type := _, pos := _, after := _, guard := _ } : Oper) :: _) _ _); refine wpList_yieldH rfl (.slice ao n c) (by simp [execOp, Act.eval]) ?_) | ((with_reducible show wpList _ _ _ (({ dst := some 20, op := _, type := _, pos := _, after := _, guard := _ } : Oper) :: _) _ _); refine wpList_copy_seen rfl _ _ rfl w1.heap.size 3 12 12 _ ao n c rfl rfl zs (((X.out.2.later l1 (Nat.le_refl _)).later l2 (Nat.le_refl _)).kept k3 (fun b o hn e => by { have := (X.out.2.later l1 (Nat.le_refl _)).old (Nat.le_refl _) b o hn e; omega })) 149 [.int .i64 1, .int .i64 0, .int .i64 8] (u8s (List.replicate (Nat.min n 12) 0)) (u8s (List.replicate (12 - Nat.min n 12) 0)) (by { rw [← u8s_rep12 n]; exact b3 }) rfl (Nat.min n 12) rfl (by simp [u8s_length]) (fun _ => rfl) ?_; intro w5 b5 s5 k5; rw [head_cut zs n X.out.2.len] at b5; have z5 : Hid (w5.heap.size = w3.heap.size) := s5; clear s5; have d0 : w5.cell? ⟨h, 0, none⟩ = some (.int .i64 s.size) := ((((X.out.1.later l1 X.out.1.lt).later l2 (by have := z1.out; have := X.out.1.lt; omega)).kept k3 (by have := z1.out; have := X.out.1.lt; omega)).kept k5 (by have := z1.out; have := X.out.1.lt; omega)).cell 0; have d1 : w5.cell? ⟨w1.heap.size, 1, none⟩ = some (.int .i64 0) := b5.cell 1; have d2 : w5.cell? ⟨w1.heap.size, 2, none⟩ = some (.int .i64 8) := b5.cell 2; have g1 : w5.frozen? ⟨w1.heap.size, 1, none⟩ = false := b5.frozen 1; have g2 : w5.frozen? ⟨w1.heap.size, 2, none⟩ = false := b5.frozen 2; have nh : w1.heap.size ≠ h := by { have := z1.out; have := X.out.1.lt; omega }) | (refine wpList_load_blk rfl 149 (.tmp 9) rfl _ rfl (tcC ⟨1, p, s.size, headL zs⟩) _ (show Blk _ _ _ (tcC ⟨1, p, s.size, headL zs⟩) from (b5.set 1 (.int .i64 p)).set 2 (.int .i64 s.size)) Tryz.underlying149 rfl (sizeTc (headL_length zs)) ?_) | (refine wpList_store_blk rfl 149 149 (.tmp 8) (.tmp 28) rfl _ rfl _ (tcC ⟨1, p, s.size, headL zs⟩) rfl (((((b1.later l2 b1.lt).kept k3 (by have := b1.lt; omega)).kept k5 (by have := b1.lt; omega)).other (p := ⟨w1.heap.size, 1, none⟩) (by have := b1.lt; simp; omega) _).other (p := ⟨w1.heap.size, 2, none⟩) (by have := b1.lt; simp; omega) _) (lenTc p s.size zs) (sizeTc (headL_length zs)) (tcC_one _) ?_; intro w4 b4 s4 k4))
  refine ret_blk rfl w.heap.size (tcC ⟨1, p, s.size, headL zs⟩) _ rfl b4 Tryz.underlying149 rfl (sizeTc (headL_length zs)) rfl ⟨rfl, ?_⟩
  have := z1.out; have := z2.out; have := z3.out; have := z5.out
  have l3 : Below w.heap.size w w5 := below_kept (below_kept (below_chain l1 l2 (by omega)) k3 (by omega) (fun j hj => by omega)) k5 (by omega) (fun j hj => by omega)
  exact below_kept (below_kept l3 (((Kept.refl (fun k => k = w1.heap.size) w5).setCell (p := ⟨w1.heap.size, 1, none⟩) rfl _).setCell (p := ⟨w1.heap.size, 2, none⟩) rfl _) (by omega) (fun j hj => by omega)) k4 (by simp [World.setCell]; omega) (fun j hj => by omega)
end Go.Proofs.YtnagndnpamcbbaaGreat

namespace Go.Proofs.YtnagndnpamcbbaaGreat
open Go.RowKit
set_option linter.unusedVariables false
set_option linter.unusedSimpArgs false

theorem till_run {md : Region.Mode} {ops : Array Oper} {Q : Exit → Act → World → Prop} {c : Nat} {S : World → Prop} {oi : Oper} {n : Nat} {l : Array Bool} {a : Act} {w : World} (i : Nat) (d : Option Tmp) (v : Value) (w' : World) (hr : Region.ready md ops l = [i]) (hi : ops[i]? = some oi) (hd : oi.dst = d)
    (hw : Region.wanted oi (yielded ops a.tmps) = true) (hrun : (execOp a.eval oi).run Tryz.prog w = .ok (.value v) w') (hS : S w') (h : wpTill md ops Q c S n (l.setIfInBounds i true) (a.put d v) w') : wpTill md ops Q c S (n + 1) l a w := by
  subst hd
  refine till_ready i hr hi fun K hK => ?_
  rw [if_pos hw]
  unfold Oper.wp
  rw [hrun]
  exact hK _ _ ⟨hS, h⟩
theorem any_run {md : Region.Mode} {ops : Array Oper} {Q : Exit → Act → World → Prop} {oi : Oper} {n : Nat} {l : Array Bool} {a : Act} {w : World} (i : Nat) (d : Option Tmp) (v : Value) (w' : World) (hr : Region.ready md ops l = [i]) (hi : ops[i]? = some oi) (hd : oi.dst = d)
    (hw : Region.wanted oi (yielded ops a.tmps) = true) (hrun : (execOp a.eval oi).run Tryz.prog w = .ok (.value v) w') (h : wpAny Tryz.prog md ops Q n (l.setIfInBounds i true) (a.put d v) w') : wpAny Tryz.prog md ops Q (n + 1) l a w := by
  subst hd
  refine wpAny_ready hr (by simp) (AllReady.cons hi (fun K hK => ?_) AllReady.nil)
  rw [if_pos hw]
  unfold Oper.wp
  rw [hrun]
  exact hK _ _ h
theorem exec_append {a : Act} {o : Oper} {w w' : World} {v' : Value} (s x : Operand) (t ty : TypeId) (ho : o.op = .call { callee := .builtin .append, args := #[s, x], argTypes := #[t, t] }) (hty : o.type = ty) (va vb : Value) (hs : a.eval s = va) (hx : a.eval x = vb)
    (hr : (Builtin.append_ #[t, t] ty #[va, vb]).run Tryz.prog w = .ok v' w') : (execOp a.eval o).run Tryz.prog w = .ok (.value v') w' := by
  subst hty
  unfold execOp
  simp only [ho, resolve, invoke, builtin, Sem.run_bind, Sem.run_pure, Result.andThen_ok, List.map_toArray, List.map_cons, List.map_nil, hs, hx, hr]
theorem exec_build {a : Act} {o : Oper} {w w' : World} {v : Value} (t : TypeId) (m : Nat) (parts : Array (Nat × Operand)) (ho : o.op = .buildSlice t m parts) (ps : Array (Nat × Value)) (hp : (parts.map fun (i, x) => (i, a.eval x)) = ps) (hr : (Instr.buildSlice t m ps).run Tryz.prog w = .ok v w') : (execOp a.eval o).run Tryz.prog w = .ok (.value v) w' := by
  unfold execOp
  simp only [ho, hp, Sem.run_bind, hr, Sem.run_pure, Result.andThen_ok]
theorem list12 (l : List Int) (h : l.length = 12) : ∃ a0 a1 a2 a3 a4 a5 a6 a7 a8 a9 a10 a11, l = [a0, a1, a2, a3, a4, a5, a6, a7, a8, a9, a10, a11] := by
  match l, h with
  | [a0, a1, a2, a3, a4, a5, a6, a7, a8, a9, a10, a11], _ => exact ⟨a0, a1, a2, a3, a4, a5, a6, a7, a8, a9, a10, a11, rfl⟩
theorem build1_tc (t : Tc) (ht : t.Good) (w : World) : (Instr.buildSlice 50 1 #[(0, .agg (tcC t).toArray)]).run Tryz.prog w = .ok (.slice (some ⟨w.heap.size, 0, none⟩) 1 1) (w.alloc (.cells (tcC t).toArray 149)) := by
  obtain ⟨op, pg, ln, hd⟩ := t
  obtain ⟨a0, a1, a2, a3, a4, a5, a6, a7, a8, a9, a10, a11, rfl⟩ := list12 hd ht
  kernel_rfl
/-- A call of a function value with one argument. -/
theorem wpList_do {ops : Array Oper} {rest : List Oper} {o : Oper} {a : Act} {Q : Exit → Act → World → Prop} {w : World} (hgd : o.guard = none) (t x : Operand) (ho : o.op = .call { callee := .value t, args := #[x], argTypes := #[58] }) (F : Nat) (caps : Array Value) (ht : a.eval t = .func (.func F) #[] caps) (fv : Value) (hx : a.eval x = fv)
    (hent : (callFunc F (#[fv] ++ caps)).run Tryz.prog w = .ok (.enter F (#[fv] ++ caps)) w) (R : World → Prop) (C : Calls Tryz.prog F (#[fv] ++ caps) w fun e w' => e = .returned (.tuple #[]) ∧ R w') (h : ∀ w', R w' → wpList Tryz.prog ops Q rest (a.put o.dst (.tuple #[])) w') : wpList Tryz.prog ops Q (o :: rest) a w := by
  refine wpList_plain hgd fun K hK => ?_
  unfold Oper.wp execOp
  simp only [ho, resolve, Sem.run_bind, Sem.run_pure, Result.andThen_ok, List.map_toArray, List.map_cons, List.map_nil, ht, hx, invoke, Deferred.ofValue, List.nil_append, Array.append_empty, Array.empty_append, hent]
  rw [Oper.upon_enter]
  exact C.mono (fun e w' hh => by
    obtain ⟨h1, h2⟩ := hh
    subst h1
    exact hK _ _ (h _ h2))
end Go.Proofs.YtnagndnpamcbbaaGreat

namespace Go.Proofs.YtnagndnpamcbbaaGreat
open Go.RowKit
set_option linter.unusedVariables false
set_option linter.unusedSimpArgs false

/-- The next operation is counted. -/
def HSt.pow (s : HSt) : Int := powL (s.coming s.ops)
def HSt.next (s : HSt) : HSt := { s.past with ops := s.ops + 1, down := decide (s.pow ≠ 0) }
def HSt.logged (s : HSt) (t : Tc) : HSt := { s with log := s.log ++ [t] }
theorem powL_cases (fs : List Fl) : powL fs = 0 ∨ powL fs = 1 ∨ powL fs = 2 := by unfold powL; split <;> (try split) <;> simp
theorem next_good {s : HSt} (g : s.Good) (h : s.ops < 3000000000000) : s.next.Good :=
  ⟨g.size, g.pages, g.depth, g.reg, by show s.ops + 1 ≤ _; omega, by show s.log.length ≤ s.ops + 1; have := g.log; omega, fun p => by show (s.laid p).length ≤ s.ops + 1; have := g.laid p; omega, g.len⟩
theorem HostIn.nexted {w w' : World} {M : Nat → Prop} {h : Nat} {s : HSt} {gl gm : Nat} {lg : Value} {rws : List Value} {n : Nat} {D : DataW Value} (x : HostIn w M h s.past gl gm lg rws n D) (hs : s.ops < 3000000000000) (v : Value) (hv : v = .bool (decide (s.pow ≠ 0)))
    (hw : w' = (w.setCell ⟨h, 5, none⟩ (.int .i64 ((s.ops : Int) + 1))).setCell ⟨h, 7, none⟩ v) : HostIn w' M h s.next gl gm lg rws n D ∧ Kept (fun k => k = h) w w' := by
  subst hv
  have hk : Kept (fun k => k = h) w w' := by rw [hw]; exact ((Kept.refl (fun k => k = h) w).setCell (p := ⟨h, 5, none⟩) rfl _).setCell (p := ⟨h, 7, none⟩) rfl _
  refine ⟨x.turned s.next (next_good (s := s) ⟨x.good.size, x.good.pages, x.good.depth, x.good.reg, x.good.ops, x.good.log, x.good.laid, x.good.len⟩ hs) rfl rfl rfl rfl ?_ hk, hk⟩
  rw [hw]
  have := (x.blk.set 5 (.int .i64 ((s.ops : Int) + 1))).set 7 (.bool (decide (s.pow ≠ 0)))
  have e : ((hostC s.past gl gm lg).set 5 (.int .i64 ((s.ops : Int) + 1))).set 7 (.bool (decide (s.pow ≠ 0))) = hostC s.next gl gm lg := by
    simp only [hostC, List.set_cons_zero, List.set_cons_succ]
    rw [show ((s.next.ops : Nat) : Int) = (s.ops : Int) + 1 from by show ((s.ops + 1 : Nat) : Int) = _; omega]
    rfl
  rw [e] at this
  exact this
/-- A touch is appended to the log. -/
theorem HostIn.log_more {w : World} {M : Nat → Prop} {h : Nat} {s : HSt} {gl gm : Nat} {lg : Value} {rws : List Value} {n : Nat} {D : DataW Value} (x : HostIn w M h s gl gm lg rws n D) (t : Tc) (ht : t.Good) (hl : s.log.length < s.ops) :
    ∃ v' w', (Builtin.append_ #[50, 50] 50 #[lg, .slice (some ⟨w.heap.size, 0, none⟩) 1 1]).run Tryz.prog (w.alloc (.cells (tcC t).toArray 149)) = .ok v' w' ∧ Kept M w w' ∧ w'.heap[h]? = w.heap[h]? ∧ h < w'.heap.size ∧
      (∀ k, k < w.heap.size → ¬ M k → w'.heap[k]? = w.heap[k]?) ∧ ∀ w'', w'' = w'.setCell ⟨h, 6, none⟩ v' → HostIn w'' (more M w w'') h (s.logged t) gl gm v' rws n D ∧ Kept M w w'' := by
  obtain ⟨w0, hw0⟩ : ∃ q, w.alloc (.cells (tcC t).toArray 149) = q := ⟨_, rfl⟩
  have b0 : Below w.heap.size w w0 := by rw [← hw0]; exact (Below.refl _ _).alloc (Nat.le_refl _) _
  have s0 : w0.heap.size = w.heap.size + 1 := by rw [← hw0]; simp
  have bt : Blk w0 w.heap.size 149 (tcC t) := by rw [← hw0]; exact heap_alloc_new w _
  rw [hw0]
  have x0 := x.later b0
  obtain ⟨i0, hi, hz0, hz1, hz2⟩ := info_parts info_tc
  have hop := x.good.ops
  obtain ⟨v', w', hr, hown, hg, _, hat⟩ := run_append_own_at (P := Tryz.prog) w0 0 50 50 149 i0 (.agg (tcC default).toArray) 15 40 Tryz.underlying50 hi hz0 hz1 hz2 rfl (by decide) lg s.log.length _ x0.log.own ⟨w.heap.size, 0, none⟩ 1 1 (tcC t) (by rw [tcC_length ht])
    (fun j u hu => by rw [add_mid, Nat.zero_add, bt.cell]; exact hu) (tcC_one t) (by unfold maxLen; omega) (by omega) (Nat.zero_le _)
  have hb : ∀ g, lg.ownBlock = some g → Blk w g 149 (match w.heap[g]? with | some (.cells a _ _) => a.toList | _ => []) := fun g hg => by
    rcases x.log.own.2 with ⟨e, _⟩ | ⟨g', cap, cur, e, _, hh, _⟩
    · rw [e] at hg; cases hg
    · rw [e] at hg; cases hg; unfold Blk; rw [hh]
  have km : ∀ k, k < w.heap.size → lg.ownBlock ≠ some k → w'.heap[k]? = w.heap[k]? := fun k hk hne => (hg.block k (by omega) (Ne.symm hne)).trans (b0.block k hk)
  have nM : ∀ k, ¬ M k → lg.ownBlock ≠ some k := fun k hM e => hM (x.log.foot k e)
  have kp : Kept (fun k => lg.ownBlock = some k) w w' := ⟨hg.os.trans b0.os, hg.tape.trans b0.tape, hg.output.trans b0.output, Nat.le_trans b0.size hg.size, fun k hk hne => km k hk hne⟩
  have kM : Kept M w w' := kp.mono (fun k e => x.log.foot k e)
  have nh : lg.ownBlock ≠ some h := fun e => blk_ne (hb h e) x.blk (by decide) rfl
  have hsz := hg.size
  refine ⟨v', w', hr, kM, km h x.blk.lt nh, by have := x.blk.lt; omega, fun k hk hM => km k hk (nM k hM), fun w'' hw'' => ?_⟩
  have k2 : Kept (fun k => k = h) w' w'' := by rw [hw'']; exact (Kept.refl (fun k => k = h) w').setCell (p := ⟨h, 6, none⟩) rfl _
  have s2 : w''.heap.size = w'.heap.size := by rw [hw'']; simp [World.setCell]
  have kall : Kept (fun k => lg.ownBlock = some k ∨ k = h) w w'' := (kp.mono (fun k e => .inl e)).trans (k2.mono (fun k e => .inr e))
  have ne : ∀ {ty : TypeId}, ty ≠ 149 → ty ≠ 136 → ∀ (b : Nat) (vs : List Value), Blk w b ty vs → ¬ (lg.ownBlock = some b ∨ b = h) := fun h1 h2 b vs hbb e => by
    rcases e with e | e
    · exact blk_ne hbb (hb b e) h1 rfl
    · exact blk_ne hbb x.blk h2 e
  have bh : Blk w'' h 136 (hostC (s.logged t) gl gm v') := by
    have := (x.blk.block (km h x.blk.lt nh)).set 6 v'
    rw [← hw''] at this
    exact this
  have hv' : ∀ g, v'.ownBlock = some g → more M w w'' g ∧ g ≠ h := fun g hg2 => by
    rcases hat with e | e
    · rw [e] at hg2
      exact ⟨.inl (x.log.foot g hg2), fun e2 => nh (e2 ▸ hg2)⟩
    · rw [e] at hg2
      have : w0.heap.size = g := Option.some.inj hg2
      have h3 := (hown.lt g (by rw [e]; exact hg2)).2
      refine ⟨.inr ⟨by omega, by omega⟩, fun e2 => ?_⟩
      have := x.blk.lt; omega
  have hown2 : w''.ownsRow 0 149 15 v' (s.log.length + 1) ((s.log ++ [t]).flatMap tcC) := by
    refine ⟨by rw [List.flatMap_append]; simpa using hown.1, ?_⟩
    have e3 : (s.log ++ [t]).flatMap tcC = s.log.flatMap tcC ++ tcC t := by simp [List.flatMap_append]
    rw [e3]
    rcases hown.2 with h2 | ⟨g, cap, cur, hv, hg0, hh, r⟩
    · exact .inl h2
    · exact .inr ⟨g, cap, cur, hv, hg0, by rw [k2.block g (lt_of_block hh) (hv' g (by rw [hv]; rfl)).2]; exact hh, r⟩
  have mono : ∀ k, M k → more M w w'' k := fun k hk => .inl hk
  refine ⟨⟨⟨x.good.size, x.good.pages, x.good.depth, x.good.reg, x.good.ops, by show (s.log ++ [t]).length ≤ s.ops; simp; omega, x.good.laid, x.good.len⟩, bh, x.lot.kept kall (ne (by decide) (by decide) _ _ x.lot), x.cnt, .inl x.mh, .inl x.ml, .inl x.mm, ownsMap_same x.map (kall.block _ x.map.lt (fun e => ?_)), fun k => com_mono (com_kept (x.com k) kall (ne (by decide) (by decide))) mono, ⟨?_, ?_, fun g hg2 => (hv' g hg2).1⟩, fun p hp => (row_kept (x.row p hp) kall (fun b hbb => ?_) (ne (by decide) (by decide))).mono mono, x.apart, fun k hk => ?_⟩, kall.mono (fun k e => ?_)⟩
  · rcases e with e | e
    · exact map_ne x.map (hb _ e) rfl
    · exact map_ne x.map x.blk e.symm
  · intro t' ht'
    rcases List.mem_append.1 ht' with h1 | h1
    · exact x.log.good t' h1
    · simp at h1; subst h1; exact ht
  · have e4 : (s.logged t).log.length = s.log.length + 1 := by simp [HSt.logged]
    rw [e4]; exact hown2
  · obtain ⟨vs, hv⟩ := (x.row p hp).isBlk hbb
    exact ne (by decide) (by decide) _ _ hv
  · rcases hk with hk | hk
    · have := x.all k hk; have := kall.size; omega
    · exact hk.2
  · rcases e with e | e
    · exact x.log.foot k e
    · subst e; exact x.mh
end Go.Proofs.YtnagndnpamcbbaaGreat

namespace Go.Proofs.YtnagndnpamcbbaaGreat
open Go.RowKit
set_option linter.unusedVariables false
set_option linter.unusedSimpArgs false

/-- What an operation does, s2: the host behind what is done of it, ahead of the log. -/
def OpPost (M C : Nat → Prop) (h : Nat) (s s2 : HSt) (t : Tc) (Post : (Nat → Prop) → World → Prop) (w : World) (e : Ending) (w' : World) : Prop :=
  ((s.down = true ∧ e = .returned (.int .i64 110) ∧ HostAt w' M h s ∨ s.down = false ∧ s.pow = 1 ∧ e = .returned (.int .i64 110) ∧ HostAt w' M h s.next) ∧ Kept M w w') ∨
   (s.down = false ∧ s.pow ≠ 1 ∧ e = .returned (.int .i64 (if s.pow = 2 then 110 else 0)) ∧ ∃ M2, HostAt w' M2 h (s2.logged t) ∧ (∀ k, M k → M2 k) ∧ (∀ k, M2 k → M k ∨ w.heap.size ≤ k) ∧ Kept (fun k => M k ∨ C k) w w' ∧ Post M2 w')
theorem own_slice {w : World} {base : Nat} {e : TypeId} {size n : Nat} {v : Value} {xs : List Value} (h : w.ownsRow base e size v n xs) : ∃ a m c, v = .slice a m c := by
  rcases h.2 with ⟨rfl, _⟩ | ⟨g, cap, cur, rfl, _⟩
  · exact ⟨_, _, _, rfl⟩
  · exact ⟨_, _, _, rfl⟩
theorem fl_not_host {w : World} {h : Nat} {s : HSt} {gl gm : Nat} {lg : Value} (b : Blk w h 136 (hostC s gl gm lg)) {o : Nat} {f : Fl} (hr : w.rangeAt h o (flC f)) : False := by
  have r0 := hr 0 (.int .i64 f.a) rfl
  have r1 := hr 1 (.int .i64 f.k) rfl
  have r2 := hr 2 (.int .i64 f.p) rfl
  have r3 := hr 3 (.int .i64 f.b) rfl
  rw [b.cell] at r0 r1 r2 r3
  match o, r0, r1, r2, r3 with
  | 0, _, r1, _, _ => simp [hostC] at r1
  | 1, r0, _, _, _ => simp [hostC] at r0
  | 2, _, r1, _, _ => simp [hostC] at r1
  | 3, r0, _, _, _ => simp [hostC] at r0
  | 4, r0, _, _, _ => simp [hostC] at r0
  | 5, _, _, r2, _ => simp [hostC] at r2
  | 6, _, r1, _, _ => simp [hostC] at r1
  | 7, r0, _, _, _ => simp [hostC] at r0
  | (n + 8), r0, _, _, _ => simp [hostC] at r0
set_option maxRecDepth 20000 in
set_option maxHeartbeats 2000000 in
theorem operate_any (h : Nat) (s s2 : HSt) (t : Tc) (ht : t.Good) (F : Nat) (caps : Array Value) (hent : ∀ args w, (callFunc F args).run Tryz.prog w = .ok (.enter F args) w) (M C : Nat → Prop) (Post : (Nat → Prop) → World → Prop) (w : World) (x : HostAt w M h s) (hops : s.ops < 3000000000000) (hC : ∀ k, C k → k < w.heap.size)
    (hdr : ∀ M2 (W : World), Post M2 W → Post M2 { W with drawn := W.drawn + 1 }) (hst : ∀ M2 W W', Post M2 W → (∀ k, M2 k → k < W.heap.size) → Kept M2 W W' → Post (more M2 W W') W')
    (h2 : s2.ops = s.ops + 1 ∧ s2.log = s.log)
    (HD : s.down = false → s.pow ≠ 1 → ∀ W fv, HostAt W M h s.next → FlS W M fv (s.coming s.ops) → Kept M w W → Calls Tryz.prog F (#[fv] ++ caps) W fun e W' => e = .returned (.tuple #[]) ∧ ∃ M2, HostAt W' M2 h s2 ∧ (∀ k, M k → M2 k) ∧ (∀ k, M2 k → M k ∨ W.heap.size ≤ k) ∧ Kept (fun k => M k ∨ C k) W W' ∧ Post M2 W') :
    Calls Tryz.prog 286 #[.pointer (some ⟨h, 0, none⟩), .agg (tcC t).toArray, .func (.func F) #[] caps] w (OpPost M C h s s2 t Post w) := by
  obtain ⟨gl, gm, lg0, rws, n, D, x⟩ := x
  have X : Hid (HostIn w M h s gl gm lg0 rws n D ∧ s.ops < 3000000000000) := ⟨x, hops⟩
  have hh := x.blk.lt
  have hnw : w.heap.size ≠ h := by omega
  cases hd : s.down
  · -- the power is there
    have CB := fun W (y : HostIn W M h s gl gm lg0 rws n D) => bef_any h s M gl gm lg0 rws n D W y
    obtain ⟨fv, hfv⟩ : ∃ q, lookV D s.ops = q := ⟨_, rfl⟩
    rw [hfv] at CB
    obtain ⟨pw, hpw⟩ : ∃ q, s.pow = q := ⟨_, rfl⟩
    have CP := fun W (y : FlS W M fv (s.coming s.ops)) => power_any fv (s.coming s.ops) M W y
    rw [show powL (s.coming s.ops) = pw from hpw] at CP
    have HP : Hid (s.pow = pw) := hpw
    have HCB : Hid (∀ W, HostIn W M h s gl gm lg0 rws n D → Calls Tryz.prog 293 #[.pointer (some ⟨h, 0, none⟩)] W fun e w' => e = .returned fv ∧ HostIn w' M h s.past gl gm lg0 rws n (D.del (.int .i64 s.ops)) ∧ FlS w' M fv (s.coming s.ops) ∧ Kept (fun k => k = gm) W w') := CB
    have HCP : Hid (∀ W, FlS W M fv (s.coming s.ops) → Calls Tryz.prog 294 #[fv] W fun e w' => e = .returned (.int .i64 pw) ∧ Below W.heap.size W w') := CP
    have hop := x.good.ops
    obtain ⟨dn, hdn⟩ : ∃ q, (pw != 0) = q := ⟨_, rfl⟩
    have HDN : Hid (dn = decide (s.pow ≠ 0)) := by
      have : dn = decide (s.pow ≠ 0) := by rw [hpw, ← hdn]; by_cases e : pw = 0 <;> simp [e]
      exact this
    have hpc : pw = 0 ∨ pw = 1 ∨ pw = 2 := by rw [← hpw]; exact powL_cases _
    have HD' : Hid (s.pow ≠ 1 → ∀ W fv, HostAt W M h s.next → FlS W M fv (s.coming s.ops) → Kept M w W → Calls Tryz.prog F (#[fv] ++ caps) W fun e W' => e = .returned (.tuple #[]) ∧ ∃ M2, HostAt W' M2 h s2 ∧ (∀ k, M k → M2 k) ∧ (∀ k, M2 k → M k ∨ W.heap.size ≤ k) ∧ Kept (fun k => M k ∨ C k) W W' ∧ Post M2 W') := HD hd
    have HH : Hid (s.down = false ∧ (∀ k, C k → k < w.heap.size) ∧ s2.ops = s.ops + 1 ∧ s2.log = s.log) := ⟨hd, hC, h2⟩
    -- the states on the way
    have N : Hid (∀ w1 w2 w3, Below w.heap.size w w1 → Kept (fun k => k = gm) w1 w2 → Below w2.heap.size w2 w3 → HostIn w2 M h s.past gl gm lg0 rws n (D.del (.int .i64 s.ops)) → FlS w2 M fv (s.coming s.ops) → HostIn w3 M h s.past gl gm lg0 rws n (D.del (.int .i64 s.ops)) ∧ FlS w3 M fv (s.coming s.ops) ∧ Kept M w w3) := fun w1 w2 w3 l1 k2 l3 x2 f2 =>
      ⟨x2.later l3, f2.frame (Same.below l3 x2.all), ((Kept.new M l1).trans (k2.mono (fun k e => by rw [e]; exact X.out.1.mm))).trans (Kept.new M l3)⟩
    clear CB CP hfv HD hC h2 hd hops hpw x
    by_cases h1 : pw = 1
    · have q1 : (pw == 1) = true := by simp [h1]
      have HQ : Hid (pw = 1) := h1
      clear h1 hpc
      go_enter Tryz.func286, Tryz.ntmps286
      go_wp2_with (first | (refine wpList_box_new rfl 149 _ rfl (tcC t) rfl ?_; intro w1 b1 s1 l1; have z1 : Hid (w1.heap.size = w.heap.size + 1) := s1; clear s1; have c7 : w1.cell? ⟨h, 7, none⟩ = some (.bool false) := by { rw [← HH.out.1]; exact (X.out.1.later l1).blk.cell 7 }) | (go_at_call 293; refine (HCB.out w1 (X.out.1.later l1)).mono ?_; rintro e w2 ⟨rfl, x2, f2, k2⟩) | (go_at_call 294; refine (HCP.out w2 f2).mono ?_; rintro e w3 ⟨rfl, l3⟩; obtain ⟨x3, f3, k3⟩ := N.out w1 w2 w3 l1 k2 l3 x2 f2; have c5 : w3.cell? ⟨h, 5, none⟩ = some (.int .i64 s.ops) := x3.blk.cell 5; have g5 : w3.frozen? ⟨h, 5, none⟩ = false := x3.blk.frozen 5; have d7 : w3.cell? ⟨h, 7, none⟩ = some (.bool s.down) := x3.blk.cell 7; have g7 : w3.frozen? ⟨h, 7, none⟩ = false := x3.blk.frozen 7; have T3 : Hid (Blk w3 w.heap.size 149 (tcC t) ∧ HostIn w3 M h s.past gl gm lg0 rws n (D.del (.int .i64 s.ops)) ∧ FlS w3 M fv (s.coming s.ops) ∧ Kept M w w3 ∧ w.heap.size < w3.heap.size) := ⟨(b1.kept k2 (map_ne (X.out.1.later l1).map b1)).later l3 (b1.kept k2 (map_ne (X.out.1.later l1).map b1)).lt, x3, f3, k3, by { have := z1.out; have := k2.size; have := l3.size; omega }⟩; clear x2 f2 k2 l3 x3 f3 k3 b1 l1 z1))
      go_ret
      obtain ⟨y, ky⟩ := T3.out.2.1.nexted (s := s) X.out.2 (.bool dn) (by rw [HDN.out]) rfl
      exact .inl ⟨.inr ⟨HH.out.1, by rw [HP.out]; exact HQ.out, rfl, y.at⟩, T3.out.2.2.2.1.trans (ky.mono (fun k e => by rw [e]; exact X.out.1.mh))⟩
    · have q1 : (pw == 1) = false := by simp [h1]
      have HQ : Hid (pw ≠ 1 ∧ (pw = 0 ∨ pw = 2)) := ⟨h1, by omega⟩
      clear h1 hpc
      go_enter Tryz.func286, Tryz.ntmps286
      go_wp2_with (first | (refine wpList_box_new rfl 149 _ rfl (tcC t) rfl ?_; intro w1 b1 s1 l1; have z1 : Hid (w1.heap.size = w.heap.size + 1) := s1; clear s1; have c7 : w1.cell? ⟨h, 7, none⟩ = some (.bool false) := by { rw [← HH.out.1]; exact (X.out.1.later l1).blk.cell 7 }) | (go_at_call 293; refine (HCB.out w1 (X.out.1.later l1)).mono ?_; rintro e w2 ⟨rfl, x2, f2, k2⟩) | (go_at_call 294; refine (HCP.out w2 f2).mono ?_; rintro e w3 ⟨rfl, l3⟩; obtain ⟨x3, f3, k3⟩ := N.out w1 w2 w3 l1 k2 l3 x2 f2; have c5 : w3.cell? ⟨h, 5, none⟩ = some (.int .i64 s.ops) := x3.blk.cell 5; have g5 : w3.frozen? ⟨h, 5, none⟩ = false := x3.blk.frozen 5; have d7 : w3.cell? ⟨h, 7, none⟩ = some (.bool s.down) := x3.blk.cell 7; have g7 : w3.frozen? ⟨h, 7, none⟩ = false := x3.blk.frozen 7; have T3 : Hid (Blk w3 w.heap.size 149 (tcC t) ∧ HostIn w3 M h s.past gl gm lg0 rws n (D.del (.int .i64 s.ops)) ∧ FlS w3 M fv (s.coming s.ops) ∧ Kept M w w3 ∧ w.heap.size < w3.heap.size) := ⟨(b1.kept k2 (map_ne (X.out.1.later l1).map b1)).later l3 (b1.kept k2 (map_ne (X.out.1.later l1).map b1)).lt, x3, f3, k3, by { have := z1.out; have := k2.size; have := l3.size; omega }⟩; clear x2 f2 k2 l3 x3 f3 k3 b1 l1 z1))
      obtain ⟨w5, hw5⟩ : ∃ q, (w3.setCell ⟨h, 5, none⟩ (.int .i64 ((s.ops : Int) + 1))).setCell ⟨h, 7, none⟩ (.bool dn) = q := ⟨_, rfl⟩
      rw [hw5]
      have T5 : Hid (HostIn w5 M h s.next gl gm lg0 rws n (D.del (.int .i64 s.ops)) ∧ FlS w5 M fv (s.coming s.ops) ∧ Kept M w w5 ∧ Blk w5 w.heap.size 149 (tcC t) ∧ w.heap.size < w5.heap.size) := by
        obtain ⟨y, ky⟩ := T3.out.2.1.nexted (s := s) X.out.2 (.bool dn) (by rw [HDN.out]) hw5.symm
        refine ⟨y, ?_, T3.out.2.2.2.1.trans (ky.mono (fun k e => by rw [e]; exact X.out.1.mh)), T3.out.1.kept ky hnw, by have := T3.out.2.2.2.2; have := ky.size; omega⟩
        have cm := y.com
        obtain ⟨tp, gd, ao, c, e, hx⟩ := T3.out.2.2.1
        refine ⟨tp, gd, ao, c, e, fun i hi => ?_⟩
        obtain ⟨b, o, e1, hb, hM, hr⟩ := hx i hi
        refine ⟨b, o, e1, Nat.lt_of_lt_of_le hb ky.size, hM, rangeAt_same hr (ky.block b hb (fun e2 => ?_))⟩
        subst e2
        exact fl_not_host T3.out.2.1.blk hr
      refine (HD'.out (by rw [HP.out]; exact HQ.out.1) w5 fv T5.out.1.at T5.out.2.1 T5.out.2.2.1).mono ?_
      rintro e w6 ⟨rfl, M2, x6, m6, n6, k6, p6⟩
      obtain ⟨gl2, gm2, lg, rws2, n2, D2, x6⟩ := x6
      have hMw : ∀ k, M k → k < w.heap.size := X.out.1.all
      have L6 : Hid (w6.cell? ⟨h, 6, none⟩ = some lg ∧ w6.rangeAt w.heap.size 0 (tcC t) ∧ HostIn w6 M2 h s2 gl2 gm2 lg rws2 n2 D2 ∧ Kept (fun k => M k ∨ C k) w w6 ∧ Post M2 w6) := by
        refine ⟨x6.blk.cell 6, ?_, x6, (T5.out.2.2.1.mono (fun k e => .inl e)).trans k6, p6⟩
        have b6 := T5.out.2.2.2.1.kept k6 (fun e => by
          rcases e with e | e
          · have := hMw _ e; omega
          · have := HH.out.2.1 _ e; omega)
        intro j v hv
        rw [Nat.zero_add, b6.cell]; exact hv
      have TB6 : Hid (w.heap.size < w6.heap.size ∧ ¬ M2 w.heap.size ∧ (∀ k, M k → M2 k) ∧ (∀ k, M2 k → M k ∨ w5.heap.size ≤ k) ∧ w5.heap.size ≤ w6.heap.size) := ⟨by have := T5.out.2.2.2.2; have := k6.size; omega, fun e => by
        rcases n6 _ e with e | e
        · have := hMw _ e; omega
        · have := T5.out.2.2.2.2; omega, m6, n6, k6.size⟩
      have LG : Hid (s2.log.length < s2.ops) := by
        have := X.out.1.good.log
        have q : s2.log.length < s2.ops := by rw [HH.out.2.2.1, HH.out.2.2.2]; omega
        exact q
      have HM : Hid (∀ k, M k → k < w.heap.size) := hMw
      clear x6 m6 n6 k6 p6 hw5 hMw
      go_wp2_with fail
      refine wp_region_noPanic (till_region 10 (fun W => W.cell? ⟨h, 6, none⟩ = some lg ∧ W.rangeAt w.heap.size 0 (tcC t)) (by kernel_rfl) ?_)
      have hS : (fun W : World => W.cell? ⟨h, 6, none⟩ = some lg ∧ W.rangeAt w.heap.size 0 (tcC t)) { w6 with drawn := w6.drawn + 1 } := ⟨L6.out.1, L6.out.2.1⟩
      obtain ⟨w7, hw7⟩ : ∃ q, ({ w6 with drawn := w6.drawn + 1 } : World) = q := ⟨_, rfl⟩
      have TB : Hid (w.heap.size < w7.heap.size ∧ ¬ M2 w.heap.size) := by { rw [← hw7]; exact ⟨TB6.out.1, TB6.out.2.1⟩ }
      have L7 : Hid (HostIn w7 M2 h s2 gl2 gm2 lg rws2 n2 D2 ∧ Kept (fun k => M k ∨ C k) w w7 ∧ Post M2 w7 ∧ w7.heap.size = w6.heap.size) := by subst hw7; exact ⟨L6.out.2.2.1.frame ⟨Nat.le_refl _, fun _ _ => rfl⟩, ⟨L6.out.2.2.2.1.os, L6.out.2.2.2.1.tape, L6.out.2.2.2.1.output, L6.out.2.2.2.1.size, L6.out.2.2.2.1.block⟩, hdr M2 w6 L6.out.2.2.2.2, rfl⟩
      rw [hw7] at hS ⊢
      clear hw7
      refine tTake 0 (some 34) (.pointer (some ⟨h, 0, none⟩)) rfl rfl (by kernel_rfl) (by kernel_rfl) (by kernel_rfl) (by decide) (fun _ _ _ h => h) (by rfl) (fun W' => by go_simp) hS ?_
      simp only [Act.put, List.setIfInBounds_toArray, List.set_cons_zero, List.set_cons_succ]
      refine tTake 1 (some 35) (.pointer (some ⟨h, 0, none⟩)) rfl rfl (by kernel_rfl) (by kernel_rfl) (by kernel_rfl) (by decide) (fun _ _ _ h => h) (by rfl) (fun W' => by go_simp) hS ?_
      simp only [Act.put, List.setIfInBounds_toArray, List.set_cons_zero, List.set_cons_succ]
      refine tTake 2 (some 36) (.pointer (some ⟨h, 0, none⟩)) rfl rfl (by kernel_rfl) (by kernel_rfl) (by kernel_rfl) (by decide) (fun _ _ _ h => h) (by rfl) (fun W' => by go_simp) hS ?_
      simp only [Act.put, List.setIfInBounds_toArray, List.set_cons_zero, List.set_cons_succ]
      refine tTake 3 (some 37) (.pointer (some ⟨h, 6, none⟩)) rfl rfl (by kernel_rfl) (by kernel_rfl) (by kernel_rfl) (by decide) (fun _ _ _ h => h) (by rfl) (fun W' => by go_simp) hS ?_
      simp only [Act.put, List.setIfInBounds_toArray, List.set_cons_zero, List.set_cons_succ]
      refine tLoad 4 (some 38) lg rfl rfl (by kernel_rfl) (by kernel_rfl) (by kernel_rfl) (by decide) (by kernel_rfl) (by kernel_rfl) (fun _ _ _ h => h) (by rfl) (fun W' hS' => by have hc := hS'.1; go_simp) hS ?_
      simp only [Act.put, List.setIfInBounds_toArray, List.set_cons_zero, List.set_cons_succ]
      refine tLoadMid 5 (some 39) (tcC t) rfl rfl (by kernel_rfl) (by kernel_rfl) (by kernel_rfl) (by decide) (by kernel_rfl) (by kernel_rfl) (fun _ _ _ h => h) (by rfl) 149 (.tmp 4) rfl w.heap.size 0 rfl _ (fun _ h => h.2) Tryz.underlying149 rfl (sizeTc ht) hS ?_
      simp only [Act.put, List.setIfInBounds_toArray, List.set_cons_zero, List.set_cons_succ]
      obtain ⟨v8, w8, hr8, k8, e8, l8, o8, f8⟩ := L7.out.1.log_more t ht LG.out
      have hS8 : (fun W : World => W.cell? ⟨h, 6, none⟩ = some lg ∧ W.rangeAt w.heap.size 0 (tcC t)) w8 := ⟨(World.cell?_of_block (w := w7) (a := ⟨h, 6, none⟩) e8).trans hS.1, rangeAt_same hS.2 (o8 _ TB.out.1 TB.out.2)⟩
      have hS7 : (fun W : World => W.cell? ⟨h, 6, none⟩ = some lg ∧ W.rangeAt w.heap.size 0 (tcC t)) (w7.alloc (.cells (tcC t).toArray 149)) := ⟨(World.cell?_of_block (w := w7) (a := ⟨h, 6, none⟩) (Below.heap_alloc w7 _ h L7.out.1.blk.lt)).trans hS.1, rangeAt_same hS.2 (Below.heap_alloc w7 _ _ TB.out.1)⟩
      refine till_run 6 (some 40) (.slice (some ⟨w7.heap.size, 0, none⟩) 1 1) (w7.alloc (.cells (tcC t).toArray 149)) (by kernel_rfl) rfl rfl (by rfl) (exec_build 50 1 _ rfl #[(0, .agg (tcC t).toArray)] (by simp [Act.eval]) (build1_tc t ht w7)) hS7 ?_
      simp only [Act.put, List.setIfInBounds_toArray, List.set_cons_zero, List.set_cons_succ]
      refine till_run 7 (some 41) v8 w8 (by kernel_rfl) rfl rfl (by rfl) (exec_append (.tmp 38) (.tmp 40) 50 50 rfl rfl lg (.slice (some ⟨w7.heap.size, 0, none⟩) 1 1) rfl rfl hr8) hS8 ?_
      simp only [Act.put, List.setIfInBounds_toArray, List.set_cons_zero, List.set_cons_succ]
      clear hS hS7
      have hS := hS8
      refine tTake 8 (some 42) (.pointer (some ⟨h, 0, none⟩)) rfl rfl (by kernel_rfl) (by kernel_rfl) (by kernel_rfl) (by decide) (fun _ _ _ h => h) (by rfl) (fun W' => by go_simp) hS ?_
      simp only [Act.put, List.setIfInBounds_toArray, List.set_cons_zero, List.set_cons_succ]
      refine tTake 9 (some 43) (.pointer (some ⟨h, 6, none⟩)) rfl rfl (by kernel_rfl) (by kernel_rfl) (by kernel_rfl) (by decide) (fun _ _ _ h => h) (by rfl) (fun W' => by go_simp) hS ?_
      simp only [Act.put, List.setIfInBounds_toArray, List.set_cons_zero, List.set_cons_succ]
      have c8 := hS.1
      have g8 : w8.frozen? ⟨h, 6, none⟩ = false := (World.frozen?_of_block (w := w7) (a := ⟨h, 6, none⟩) e8).trans (L7.out.1.blk.frozen 6)
      have F8 : Hid (HostIn (w8.setCell ⟨h, 6, none⟩ v8) (more M2 w7 (w8.setCell ⟨h, 6, none⟩ v8)) h (s2.logged t) gl2 gm2 v8 rws2 n2 D2 ∧ Kept M2 w7 (w8.setCell ⟨h, 6, none⟩ v8)) := f8 _ rfl
      clear hS hS8 f8 k8 o8 hr8
      obtain ⟨vo, vn, vc, rfl⟩ := own_slice F8.out.1.log.own
      refine till_at (by kernel_rfl) ?_
      refine wpAny_ready (rs := [10]) (by kernel_rfl) (by simp) (AllReady.cons rfl (fun K hK => ?_) AllReady.nil)
      go_simp
      refine hK _ _ ?_
      clear hK K
      refine wpAny_done (by kernel_rfl) (NoPanic.normal ?_) _
      have FIN : Hid (∃ M3, HostAt (w8.setCell ⟨h, 6, none⟩ (.slice vo vn vc)) M3 h (s2.logged t) ∧ (∀ k, M k → M3 k) ∧ (∀ k, M3 k → M k ∨ w.heap.size ≤ k) ∧ Kept (fun k => M k ∨ C k) w (w8.setCell ⟨h, 6, none⟩ (.slice vo vn vc)) ∧ Post M3 (w8.setCell ⟨h, 6, none⟩ (.slice vo vn vc))) := by
        obtain ⟨q1, q2⟩ := F8.out
        refine ⟨_, q1.at, fun k hk => .inl (TB6.out.2.2.1 k hk), fun k hk => ?_, ?_, hst M2 w7 _ L7.out.2.2.1 L7.out.1.all q2⟩
        · have := T5.out.2.2.2.2
          have := TB6.out.2.2.2.2
          have := L7.out.2.2.2
          rcases hk with hk | hk
          · rcases TB6.out.2.2.2.1 k hk with h3 | h3
            · exact .inl h3
            · exact .inr (by omega)
          · exact .inr (by omega)
        · have k7 := L7.out.2.1
          have := T5.out.2.2.2.2
          have := k7.size
          refine ⟨q2.os.trans k7.os, q2.tape.trans k7.tape, q2.output.trans k7.output, Nat.le_trans k7.size q2.size, fun k hk hS => (q2.block k (by omega) (fun hm => ?_)).trans (k7.block k hk hS)⟩
          rcases TB6.out.2.2.2.1 k hm with h3 | h3
          · exact hS (.inl h3)
          · omega
      clear F8 L7 c8 g8 e8 l8
      rcases HQ.out.2 with h0 | h0
      · have q2 : (pw == 2) = false := by simp [h0]
        have HR : Hid ((if s.pow = 2 then (110 : Int) else 0) = 0) := if_neg (by rw [HP.out]; omega)
        clear h0
        go_wp2_with fail
        go_ret
        exact .inr ⟨HH.out.1, by rw [HP.out]; exact HQ.out.1, by rw [HR.out]; rfl, FIN.out⟩
      · have q2 : (pw == 2) = true := by simp [h0]
        have HR : Hid ((if s.pow = 2 then (110 : Int) else 0) = 110) := if_pos (by rw [HP.out]; omega)
        clear h0
        go_wp2_with fail
        go_ret
        exact .inr ⟨HH.out.1, by rw [HP.out]; exact HQ.out.1, by rw [HR.out]; rfl, FIN.out⟩
  · have HH : Hid (s.down = true) := hd
    clear HD hst hdr x
    go_enter Tryz.func286, Tryz.ntmps286
    go_wp2_with (first | (refine wpList_box_new rfl 149 _ rfl (tcC t) rfl ?_; intro w1 b1 s1 l1; have c7 : w1.cell? ⟨h, 7, none⟩ = some (.bool true) := by { rw [← HH.out]; exact (X.out.1.later l1).blk.cell 7 }))
    go_ret
    exact .inl ⟨.inl ⟨HH.out, rfl, (X.out.1.later l1).at⟩, Kept.new _ l1⟩
end Go.Proofs.YtnagndnpamcbbaaGreat

namespace Go.Proofs.YtnagndnpamcbbaaGreat
open Go.RowKit
set_option linter.unusedVariables false
set_option linter.unusedSimpArgs false

/-- A new variable that holds a value of one cell. -/
theorem wpList_boxV {ops : Array Oper} {rest : List Oper} {o : Oper} {a : Act} {Q : Exit → Act → World → Prop} {w : World} (hgd : o.guard = none) (t : TypeId) (x : Operand) (ho : o.op = .box t x) (v : Value) (hx : a.eval x = v) (hv : v.cells = #[v])
    (h : ∀ w', Blk w' w.heap.size t [v] → w'.heap.size = w.heap.size + 1 → Below w.heap.size w w' → wpList Tryz.prog ops Q rest (a.put o.dst (.pointer (some ⟨w.heap.size, 0, none⟩))) w') : wpList Tryz.prog ops Q (o :: rest) a w := by
  refine wpList_plain hgd fun K hK => ?_
  unfold Oper.wp execOp
  simp only [ho, hx, Sem.run_bind, Instr.box, hv, newVar, newRow, run_newObj_alloc, Sem.run_pure, Result.andThen_ok]
  exact hK _ _ (h _ (heap_alloc_new w _) (by simp) ((Below.refl _ _).alloc (Nat.le_refl _) _))
def HSt.opE (s : HSt) : Int := if s.down = true ∨ s.pow = 1 ∨ s.pow = 2 then 110 else 0
def HSt.opS (s : HSt) (f : HSt → HSt) (t : Tc) : HSt := if s.down = true then s else if s.pow = 1 then s.next else (f s.next).logged t
def HSt.done (s : HSt) : Prop := s.down = false ∧ s.pow ≠ 1
/-- The footprint grows by new blocks alone; nothing else is written. -/
structure Goes (M M2 : Nat → Prop) (w w' : World) : Prop where
  sub : ∀ k, M k → M2 k
  new : ∀ k, M2 k → M k ∨ w.heap.size ≤ k
  kept : Kept M w w'
theorem Goes.later {M M2 : Nat → Prop} {w w1 w' : World} (hb : Below w.heap.size w w1) (h : Goes M M2 w1 w') : Goes M M2 w w' :=
  ⟨h.sub, fun k hk => (h.new k hk).imp id (fun x => Nat.le_trans hb.size x), (Kept.new M hb).trans h.kept⟩
theorem opE_eq (s : HSt) : s.opE = 0 ∨ s.opE = 110 := by unfold HSt.opE; split <;> simp
theorem operate_all (h : Nat) (s : HSt) (f : HSt → HSt) (t : Tc) (ht : t.Good) (F : Nat) (caps : Array Value) (hent : ∀ args w, (callFunc F args).run Tryz.prog w = .ok (.enter F args) w) (M C : Nat → Prop) (Post : (Nat → Prop) → World → Prop) (w : World) (x : HostAt w M h s) (hops : s.ops < 3000000000000) (hC : ∀ k, C k → k < w.heap.size)
    (hdr : ∀ M2 (W : World), Post M2 W → Post M2 { W with drawn := W.drawn + 1 }) (hst : ∀ M2 W W', Post M2 W → (∀ k, M2 k → k < W.heap.size) → Kept M2 W W' → Post (more M2 W W') W')
    (h2 : (f s.next).ops = s.ops + 1 ∧ (f s.next).log = s.log)
    (HD : s.done → ∀ W fv, HostAt W M h s.next → FlS W M fv (s.coming s.ops) → Kept M w W → Calls Tryz.prog F (#[fv] ++ caps) W fun e W' => e = .returned (.tuple #[]) ∧ ∃ M2, HostAt W' M2 h (f s.next) ∧ (∀ k, M k → M2 k) ∧ (∀ k, M2 k → M k ∨ W.heap.size ≤ k) ∧ Kept (fun k => M k ∨ C k) W W' ∧ Post M2 W') :
    Calls Tryz.prog 286 #[.pointer (some ⟨h, 0, none⟩), .agg (tcC t).toArray, .func (.func F) #[] caps] w fun e w' => e = .returned (.int .i64 s.opE) ∧ ∃ M2, HostAt w' M2 h (s.opS f t) ∧ (∀ k, M k → M2 k) ∧ (∀ k, M2 k → M k ∨ w.heap.size ≤ k) ∧ Kept (fun k => M k ∨ C k) w w' ∧ (s.done → Post M2 w') := by
  refine (operate_any h s (f s.next) t ht F caps hent M C Post w x hops hC hdr hst h2 (fun h1 h3 => HD ⟨h1, h3⟩)).mono ?_
  rintro e w' (⟨⟨h1, rfl, y⟩ | ⟨h1, h3, rfl, y⟩, k⟩ | ⟨h1, h3, rfl, M2, y, m1, m2, k, p⟩)
  · refine ⟨by rw [HSt.opE, if_pos (.inl h1)], M, by rw [HSt.opS, if_pos h1]; exact y, fun _ h => h, fun _ h => .inl h, k.mono (fun _ h => .inl h), fun hd => ?_⟩
    rw [hd.1] at h1; cases h1
  · exact ⟨by rw [HSt.opE, if_pos (.inr (.inl h3))], M, by rw [HSt.opS, if_neg (by rw [h1]; simp), if_pos h3]; exact y, fun _ h => h, fun _ h => .inl h, k.mono (fun _ h => .inl h), fun hd => absurd h3 hd.2⟩
  · refine ⟨?_, M2, by rw [HSt.opS, if_neg (by rw [h1]; simp), if_neg h3]; exact y, m1, m2, k, fun _ => p⟩
    unfold HSt.opE
    by_cases e : s.pow = 2
    · rw [if_pos e, if_pos (.inr (.inr e))]
    · rw [if_neg e, if_neg (by rw [h1]; simp; exact ⟨h3, e⟩)]
def tcA (op : Int) : Tc := ⟨op, 0, 8, List.replicate 12 0⟩
theorem opS_reg (s : HSt) (t : Tc) : (s.opS id t).reg = s.reg := by unfold HSt.opS; split; rfl; split <;> rfl
end Go.Proofs.YtnagndnpamcbbaaGreat

namespace Go.Proofs.YtnagndnpamcbbaaGreat
open Go.RowKit
set_option linter.unusedVariables false
set_option linter.unusedSimpArgs false

def raiseF (v : Int) (s : HSt) : HSt := { s with reg := if s.reg < v then v else s.reg }
theorem below_len {w w3 w4 : World} (h : Below w3.heap.size w3 w4) (h0 : Below w.heap.size w w3) : Below w3.heap.size w3 w4 := h
end Go.Proofs.YtnagndnpamcbbaaGreat

namespace Go.Proofs.YtnagndnpamcbbaaGreat
open Go.RowKit
set_option linter.unusedVariables false
set_option linter.unusedSimpArgs false

theorem clone_row {w w' : World} {v : Value} {n : Nat} {zs : List Int} (hl : zs.length = n) (hn : 1 ≤ n) (h : w'.ownsRow w.heap.size 5 1 v n (zs.map (Value.int .u8))) : ∃ g cap, v = .slice (some ⟨g, 0, none⟩) n cap ∧ RowAt w' g zs ∧ w.heap.size ≤ g := by
  rcases own_len hl h with ⟨_, e⟩ | ⟨g, cap, rfl, hr, hg, _⟩
  · omega
  · exact ⟨g, cap, rfl, hr, hg⟩
theorem HostIn.wider {w : World} {M : Nat → Prop} {h : Nat} {s : HSt} {gl gm : Nat} {lg : Value} {rws : List Value} {n : Nat} {D : DataW Value} (x : HostIn w M h s gl gm lg rws n D) (g : Nat) (hg : g < w.heap.size) : HostIn w (fun k => M k ∨ k = g) h s gl gm lg rws n D :=
  ⟨x.good, x.blk, x.lot, x.cnt, .inl x.mh, .inl x.ml, .inl x.mm, x.map, fun k => com_mono (x.com k) (fun _ h => .inl h), x.log.mono (fun _ h => .inl h), fun p hp => (x.row p hp).mono (fun _ h => .inl h), x.apart, fun k hk => by
    rcases hk with hk | rfl
    · exact x.all k hk
    · exact hg⟩
theorem enter_write : ∀ args w, (callFunc 290 args).run Tryz.prog w = .ok (.enter 290 args) w := fun args w => by kernel_rfl
set_option maxRecDepth 20000 in
set_option maxHeartbeats 1000000 in
theorem write1_any (h : Nat) (s : HSt) (p : Nat) (hp : p < s.pages) (ao : Option Addr) (c : Nat) (zs : List Int) (hr : (s.laid p).length < s.ops) (fv : Value) (bh bp bb : Nat) (M : Nat → Prop) (w : World) (x : HostAt w M h s) (b1 : Blk w bh 32 [.pointer (some ⟨h, 0, none⟩)]) (b2 : Blk w bp 3 [.int .i64 p]) (b3 : Blk w bb 67 [.slice ao s.size c]) (hx : Seen w ao s.size zs) :
    Calls Tryz.prog 290 #[fv, .pointer (some ⟨bh, 0, none⟩), .pointer (some ⟨bp, 0, none⟩), .pointer (some ⟨bb, 0, none⟩)] w fun e w' => e = .returned (.tuple #[]) ∧ ∃ M2, HostAt w' M2 h (s.wrote p zs) ∧ (∀ k, M k → M2 k) ∧ (∀ k, M2 k → M k ∨ w.heap.size ≤ k) ∧ Kept M w w' := by
  have X : Hid (HostAt w M h s ∧ Blk w bh 32 [.pointer (some ⟨h, 0, none⟩)] ∧ Blk w bp 3 [.int .i64 p] ∧ Blk w bb 67 [.slice ao s.size c] ∧ Seen w ao s.size zs) := ⟨x, b1, b2, b3, hx⟩
  have G : Hid s.Good := by obtain ⟨_, _, _, _, _, _, q⟩ := x; exact q.good
  have B : Hid (bh < w.heap.size ∧ bp < w.heap.size ∧ bb < w.heap.size) := ⟨b1.lt, b2.lt, b3.lt⟩
  clear x b1 b2 b3 hx
  go_enter Tryz.func290, Tryz.ntmps290
  refine wp_region_noPanic (till_region 4 (fun W => W.cell? ⟨bh, 0, none⟩ = some (.pointer (some ⟨h, 0, none⟩)) ∧ W.cell? ⟨bp, 0, none⟩ = some (.int .i64 p) ∧ W.cell? ⟨bb, 0, none⟩ = some (.slice ao s.size c)) (by kernel_rfl) ?_)
  obtain ⟨w1, hw1⟩ : ∃ q, ({ w with drawn := w.drawn + 1 } : World) = q := ⟨_, rfl⟩
  have V1 : Hid ((fun W : World => W.cell? ⟨bh, 0, none⟩ = some (.pointer (some ⟨h, 0, none⟩)) ∧ W.cell? ⟨bp, 0, none⟩ = some (.int .i64 p) ∧ W.cell? ⟨bb, 0, none⟩ = some (.slice ao s.size c)) w1 ∧ HostAt w1 M h s ∧ Seen w1 ao s.size zs ∧ Kept M w w1 ∧ w1.heap.size = w.heap.size ∧ w1.heap = w.heap) := by rw [← hw1]; exact ⟨⟨X.out.2.1.cell 0, X.out.2.2.1.cell 0, X.out.2.2.2.1.cell 0⟩, X.out.1.frame ⟨Nat.le_refl _, fun _ _ => rfl⟩, ⟨X.out.2.2.2.2.len, X.out.2.2.2.2.top, X.out.2.2.2.2.bytes, X.out.2.2.2.2.cells⟩, (Kept.refl M w).drew, rfl, rfl⟩
  rw [hw1]
  clear hw1
  have hS := V1.out.1
  refine tLoad 0 (some 5) (.pointer (some ⟨h, 0, none⟩)) rfl rfl (by kernel_rfl) (by kernel_rfl) (by kernel_rfl) (by decide) (by kernel_rfl) (by kernel_rfl) (fun _ _ _ h => h) (by rfl) (fun W' hS' => by obtain ⟨s1, s2, s3⟩ := hS'; go_simp) hS ?_
  simp only [Act.put, List.setIfInBounds_toArray, List.set_cons_zero, List.set_cons_succ]
  refine tLoad 1 (some 6) (.int .i64 p) rfl rfl (by kernel_rfl) (by kernel_rfl) (by kernel_rfl) (by decide) (by kernel_rfl) (by kernel_rfl) (fun _ _ _ h => h) (by rfl) (fun W' hS' => by obtain ⟨s1, s2, s3⟩ := hS'; go_simp) hS ?_
  simp only [Act.put, List.setIfInBounds_toArray, List.set_cons_zero, List.set_cons_succ]
  refine till_run 2 (some 7) (.slice ao s.size c) w1 (by kernel_rfl) rfl rfl (by rfl) (by have hc := hS.2.2; go_simp) hS ?_
  simp only [Act.put, List.setIfInBounds_toArray, List.set_cons_zero, List.set_cons_succ]
  refine till_ready 3 (by kernel_rfl) rfl (fun K hK => ?_)
  go_simp
  go_wp2_with (go_at_call 94; refine (clone_any ao s.size c zs w1 V1.out.2.2.1).mono ?_; rintro e w2 ⟨v2, rfl, o2, l2⟩)
  obtain ⟨g, cap, rfl, r2, hg2⟩ := clone_row V1.out.2.2.1.len (by have := G.out.size; omega) o2
  have hS2 : (fun W : World => W.cell? ⟨bh, 0, none⟩ = some (.pointer (some ⟨h, 0, none⟩)) ∧ W.cell? ⟨bp, 0, none⟩ = some (.int .i64 p) ∧ W.cell? ⟨bb, 0, none⟩ = some (.slice ao s.size c)) w2 := ⟨(l2.cell (p := ⟨bh, 0, none⟩) (by have := B.out.1; have := V1.out.2.2.2.2.1; simp; omega)).trans hS.1, (l2.cell (p := ⟨bp, 0, none⟩) (by have := B.out.2.1; have := V1.out.2.2.2.2.1; simp; omega)).trans hS.2.1, (l2.cell (p := ⟨bb, 0, none⟩) (by have := B.out.2.2; have := V1.out.2.2.2.2.1; simp; omega)).trans hS.2.2⟩
  refine ⟨hS2, ?_⟩
  have U2 : Hid (∃ gl gm lg rws n D, HostIn w2 (fun k => M k ∨ k = g) h s gl gm lg rws n D) := by
    obtain ⟨gl, gm, lg, rws, n, D, y⟩ := V1.out.2.1.later l2
    exact ⟨gl, gm, lg, rws, n, D, y.wider g r2.lt⟩
  have R2 : Hid (RowAt w2 g zs ∧ w1.heap.size ≤ g ∧ Below w1.heap.size w1 w2) := ⟨r2, hg2, l2⟩
  clear hS hS2 o2 l2 r2 hg2
  obtain ⟨gl, gm, lg, rws, n, D, y2⟩ := U2.out
  refine till_at (by kernel_rfl) ?_
  refine wpAny_ready (rs := [4]) (by kernel_rfl) (by simp) (AllReady.cons rfl (fun K hK => ?_) AllReady.nil)
  go_simp
  go_wp2_with (go_at_call 291; refine (keep_any h s p hp zs V1.out.2.2.1.len V1.out.2.2.1.bytes hr g cap (fun k => M k ∨ k = g) gl gm lg rws n D w2 y2 (.inr rfl) R2.out.1).mono ?_; rintro e w3 ⟨rfl, y3, k3⟩)
  refine wpAny_done (by kernel_rfl) (NoPanic.normal ?_) _
  go_end0
  refine ⟨rfl, more (fun k => M k ∨ k = g) w2 w3, y3, fun k hk => .inl (.inl hk), fun k hk => ?_, ?_⟩
  · have := R2.out.2.1; have := R2.out.2.2.size; have := V1.out.2.2.2.2.1
    rcases hk with (hk | hk) | hk
    · exact .inl hk
    · exact .inr (by omega)
    · exact .inr (by omega)
  · have := R2.out.2.1; have := R2.out.2.2.size; have := V1.out.2.2.2.2.1
    have k1 := V1.out.2.2.2.1
    have l2 := R2.out.2.2
    refine ⟨k3.os.trans (l2.os.trans k1.os), k3.tape.trans (l2.tape.trans k1.tape), k3.output.trans (l2.output.trans k1.output), Nat.le_trans k1.size (Nat.le_trans l2.size k3.size), fun k hk hS => (k3.block k (by omega) (fun e => ?_)).trans ((l2.block k (by omega)).trans (k1.block k hk hS))⟩
    rcases e with e | e
    · exact hS e
    · omega
/-- What Write answers, and the host behind it. -/
def wrE (s : HSt) (p : Int) (n : Nat) : Int := if hasP s p = false then 2 else if n ≠ s.size then 4 else s.opE
def wrS (s : HSt) (p : Int) (n : Nat) (zs : List Int) : HSt := if hasP s p = false ∨ n ≠ s.size then s else s.opS (fun s => s.wrote p.toNat zs) ⟨1, p, s.size, headL zs⟩
set_option maxRecDepth 20000 in
set_option maxHeartbeats 2000000 in
theorem write_bad (h : Nat) (s : HSt) (p : Int) (ao : Option Addr) (n c : Nat) (M : Nat → Prop) (w : World) (x : HostAt w M h s) (hn : n ≤ 140737488355328) (hb : hasP s p = false ∨ n ≠ s.size) :
    Calls Tryz.prog 284 #[.pointer (some ⟨h, 0, none⟩), .int .i64 p, .slice ao n c] w fun e w' => e = .returned (.int .i64 (wrE s p n)) ∧ Below w.heap.size w w' := by
  have CC : Hid (∀ W, Below w.heap.size w W → Calls Tryz.prog 285 #[.pointer (some ⟨h, 0, none⟩), .int .i64 p] W fun e w' => e = .returned (.int .i64 (if hasP s p then 0 else 2)) ∧ W = w') := fun W hW => checkH_any h s p M W (x.later hW)
  have hh : h < w.heap.size := by obtain ⟨_, _, _, _, _, _, q⟩ := x; exact q.blk.lt
  have c0 : w.cell? ⟨h, 0, none⟩ = some (.int .i64 s.size) := by obtain ⟨_, _, _, _, _, _, q⟩ := x; exact q.blk.cell 0
  have hsz : s.size ≤ 4124 := by obtain ⟨_, _, _, _, _, _, q⟩ := x; exact q.good.size.2
  clear x
  cases hp : hasP s p
  · rw [hp] at CC
    have HF : Hid (wrE s p n = 2) := if_pos hp
    clear hp hb
    go_enter Tryz.func284, Tryz.ntmps284
    go_wp2_with (first | ((with_reducible show wpList _ _ _ (({ dst := some 3, op := _, type := _, pos := _, after := _, guard := _ } : Oper) :: _) _ _); refine wpList_boxV rfl 32 _ rfl (.pointer (some ⟨h, 0, none⟩)) rfl rfl ?_; intro w1 b1 s1 l1; have z1 : Hid (w1.heap.size = w.heap.size + 1) := s1; clear s1) | ((with_reducible show wpList _ _ _ (({ dst := some 4, op := _, type := _, pos := _, after := _, guard := _ } : Oper) :: _) _ _); refine wpList_boxV rfl 3 _ rfl (.int .i64 p) rfl rfl ?_; intro w2 b2 s2 l2; have z2 : Hid (w2.heap.size = w1.heap.size + 1) := s2; clear s2) | ((with_reducible show wpList _ _ _ (({ dst := some 5, op := _, type := _, pos := _, after := _, guard := _ } : Oper) :: _) _ _); refine wpList_boxV rfl 67 _ rfl (.slice ao n c) rfl rfl ?_; intro w3 b3 s3 l3; have z3 : Hid (w3.heap.size = w2.heap.size + 1) := s3; clear s3; have d0 : w3.cell? ⟨w.heap.size, 0, none⟩ = some (.pointer (some ⟨h, 0, none⟩)) := ((b1.later l2 b1.lt).later l3 (b1.later l2 b1.lt).lt).cell 0; have d1 : w3.cell? ⟨w1.heap.size, 0, none⟩ = some (.int .i64 p) := (b2.later l3 b2.lt).cell 0; have d2 : w3.cell? ⟨w2.heap.size, 0, none⟩ = some (.slice ao n c) := b3.cell 0; have hb3 : Below w.heap.size w w3 := below_chain (below_chain l1 l2 l1.size) l3 (by have := l1.size; have := l2.size; omega); have d3 : w3.cell? ⟨h, 0, none⟩ = some (.int .i64 s.size) := (hb3.cell (p := ⟨h, 0, none⟩) hh).trans c0) | (go_at_call 285; refine (CC.out w3 hb3).mono ?_; rintro e _ ⟨rfl, rfl⟩))
    go_ret
    exact ⟨ret_int HF.out.symm, hb3⟩
  · rw [hp] at CC
    have hne : n ≠ s.size := by rcases hb with h1 | h1; rw [hp] at h1; cases h1; exact h1
    have HF : Hid (wrE s p n = 4) := by
      have : wrE s p n = 4 := by unfold wrE; rw [if_neg (by rw [hp]; simp), if_pos hne]
      exact this
    have hne' : ((n : Int) != (s.size : Int)) = true := by simp; omega
    clear hp hb hne
    go_enter Tryz.func284, Tryz.ntmps284
    go_wp2_with (first | ((with_reducible show wpList _ _ _ (({ dst := some 3, op := _, type := _, pos := _, after := _, guard := _ } : Oper) :: _) _ _); refine wpList_boxV rfl 32 _ rfl (.pointer (some ⟨h, 0, none⟩)) rfl rfl ?_; intro w1 b1 s1 l1; have z1 : Hid (w1.heap.size = w.heap.size + 1) := s1; clear s1) | ((with_reducible show wpList _ _ _ (({ dst := some 4, op := _, type := _, pos := _, after := _, guard := _ } : Oper) :: _) _ _); refine wpList_boxV rfl 3 _ rfl (.int .i64 p) rfl rfl ?_; intro w2 b2 s2 l2; have z2 : Hid (w2.heap.size = w1.heap.size + 1) := s2; clear s2) | ((with_reducible show wpList _ _ _ (({ dst := some 5, op := _, type := _, pos := _, after := _, guard := _ } : Oper) :: _) _ _); refine wpList_boxV rfl 67 _ rfl (.slice ao n c) rfl rfl ?_; intro w3 b3 s3 l3; have z3 : Hid (w3.heap.size = w2.heap.size + 1) := s3; clear s3; have d0 : w3.cell? ⟨w.heap.size, 0, none⟩ = some (.pointer (some ⟨h, 0, none⟩)) := ((b1.later l2 b1.lt).later l3 (b1.later l2 b1.lt).lt).cell 0; have d1 : w3.cell? ⟨w1.heap.size, 0, none⟩ = some (.int .i64 p) := (b2.later l3 b2.lt).cell 0; have d2 : w3.cell? ⟨w2.heap.size, 0, none⟩ = some (.slice ao n c) := b3.cell 0; have hb3 : Below w.heap.size w w3 := below_chain (below_chain l1 l2 l1.size) l3 (by have := l1.size; have := l2.size; omega); have d3 : w3.cell? ⟨h, 0, none⟩ = some (.int .i64 s.size) := (hb3.cell (p := ⟨h, 0, none⟩) hh).trans c0) | (go_at_call 285; refine (CC.out w3 hb3).mono ?_; rintro e _ ⟨rfl, rfl⟩))
    go_quiet (fail)
    go_wp2_with fail
    go_ret
    exact ⟨ret_int HF.out.symm, below_dn hb3 _⟩
set_option maxRecDepth 20000 in
set_option maxHeartbeats 2000000 in
theorem write_good (h : Nat) (s : HSt) (p : Nat) (hp : p < s.pages) (ao : Option Addr) (n c : Nat) (zs : List Int) (hn : n = s.size) (M : Nat → Prop) (w : World) (x : HostAt w M h s) (hx : Seen w ao n zs) (ho : ∀ b o, 0 < n → ao = some ⟨b, o, none⟩ → ¬ M b) (hops : s.ops < 3000000000000) :
    Calls Tryz.prog 284 #[.pointer (some ⟨h, 0, none⟩), .int .i64 p, .slice ao n c] w fun e w' => e = .returned (.int .i64 s.opE) ∧ ∃ M2, HostAt w' M2 h (s.opS (fun s => s.wrote p zs) ⟨1, p, s.size, headL zs⟩) ∧ Goes M M2 w w' := by
  have hpt : hasP s p = true := by simp [hasP]; omega
  have CC : Hid (∀ W, Below w.heap.size w W → Calls Tryz.prog 285 #[.pointer (some ⟨h, 0, none⟩), .int .i64 p] W fun e w' => e = .returned (.int .i64 0) ∧ W = w') := fun W hW => by
    have := checkH_any h s p M W (x.later hW)
    rw [hpt] at this
    exact this
  have G : Hid s.Good := by obtain ⟨_, _, _, _, _, _, q⟩ := x; exact q.good
  have CO : Hid (∀ bp bb w4 w5, w.heap.size ≤ bp → w.heap.size ≤ bb → HostAt w4 M h s → Blk w4 w.heap.size 32 [.pointer (some ⟨h, 0, none⟩)] → Blk w4 bp 3 [.int .i64 p] → Blk w4 bb 67 [.slice ao n c] → Seen w4 ao n zs → Below w4.heap.size w4 w5 → Calls Tryz.prog 286 #[.pointer (some ⟨h, 0, none⟩), .agg (tcC ⟨1, p, s.size, headL zs⟩).toArray, .func (.func 290) #[] #[.pointer (some ⟨w.heap.size, 0, none⟩), .pointer (some ⟨bp, 0, none⟩), .pointer (some ⟨bb, 0, none⟩)]] w5 fun e w' => e = .returned (.int .i64 s.opE) ∧ ∃ M2, HostAt w' M2 h (s.opS (fun s => s.wrote p zs) ⟨1, p, s.size, headL zs⟩) ∧ (∀ k, M k → M2 k) ∧ (∀ k, M2 k → M k ∨ w5.heap.size ≤ k) ∧ Kept (fun k => M k ∨ False) w5 w' ∧ (s.done → True)) := fun bp bb w4 w5 hbp hbb y b1 b2 b3 hx4 l5 =>
    operate_all h s (fun s => s.wrote p zs) ⟨1, p, s.size, headL zs⟩ (headL_length zs) 290 _ enter_write M (fun _ => False) (fun _ _ => True) w5 (y.later l5) hops (fun _ h => h.elim) (fun _ _ _ => trivial) (fun _ _ _ _ _ _ => trivial) ⟨rfl, rfl⟩ (fun _ W fv y2 _ k5 => by
      have nb : ∀ b, w.heap.size ≤ b → ¬ M b := fun b hb e => by have := x.all b e; omega
      have hx5 := hx4.later l5 (Nat.le_refl _)
      have hxW : Seen W ao n zs := hx5.kept k5 (fun b o h1 h2 => ho b o h1 h2)
      subst hn
      refine (write1_any h s.next p hp ao c zs (by have := G.out.laid p; show (s.laid p).length < s.ops + 1; omega) fv _ _ _ M W y2 ((b1.later l5 b1.lt).kept k5 (nb _ (Nat.le_refl _))) ((b2.later l5 b2.lt).kept k5 (nb _ hbp)) ((b3.later l5 b3.lt).kept k5 (nb _ hbb)) hxW).mono ?_
      rintro e W' ⟨rfl, M2, y3, m1, m2, k3⟩
      exact ⟨rfl, M2, y3, m1, m2, k3.mono (fun k e => .inl e), trivial⟩)
  have X : Hid (HostAt w M h s ∧ Seen w ao n zs) := ⟨x, hx⟩
  have hh : h < w.heap.size := by obtain ⟨_, _, _, _, _, _, q⟩ := x; exact q.blk.lt
  have c0 : w.cell? ⟨h, 0, none⟩ = some (.int .i64 s.size) := by obtain ⟨_, _, _, _, _, _, q⟩ := x; exact q.blk.cell 0
  have hsz : s.size ≤ 4124 := G.out.size.2
  have hne' : ((n : Int) != (s.size : Int)) = false := by simp; omega
  obtain ⟨E, hE'⟩ : ∃ q, s.opE = q := ⟨_, rfl⟩
  rw [hE'] at CO ⊢
  clear hE' x hops hx ho hpt hn
  go_enter Tryz.func284, Tryz.ntmps284
  go_wp2_with (first | ((with_reducible show wpList _ _ _ (({ dst := some 3, op := _, type := _, pos := _, after := _, guard := _ } : Oper) :: _) _ _); refine wpList_boxV rfl 32 _ rfl (.pointer (some ⟨h, 0, none⟩)) rfl rfl ?_; intro w1 b1 s1 l1; have z1 : Hid (w1.heap.size = w.heap.size + 1) := s1; clear s1) | ((with_reducible show wpList _ _ _ (({ dst := some 4, op := _, type := _, pos := _, after := _, guard := _ } : Oper) :: _) _ _); refine wpList_boxV rfl 3 _ rfl (.int .i64 p) rfl rfl ?_; intro w2 b2 s2 l2; have z2 : Hid (w2.heap.size = w1.heap.size + 1) := s2; clear s2) | ((with_reducible show wpList _ _ _ (({ dst := some 5, op := _, type := _, pos := _, after := _, guard := _ } : Oper) :: _) _ _); refine wpList_boxV rfl 67 _ rfl (.slice ao n c) rfl rfl ?_; intro w3 b3 s3 l3; have z3 : Hid (w3.heap.size = w2.heap.size + 1) := s3; clear s3; have d0 : w3.cell? ⟨w.heap.size, 0, none⟩ = some (.pointer (some ⟨h, 0, none⟩)) := ((b1.later l2 b1.lt).later l3 (b1.later l2 b1.lt).lt).cell 0; have d1 : w3.cell? ⟨w1.heap.size, 0, none⟩ = some (.int .i64 p) := (b2.later l3 b2.lt).cell 0; have d2 : w3.cell? ⟨w2.heap.size, 0, none⟩ = some (.slice ao n c) := b3.cell 0; have hb3 : Below w.heap.size w w3 := below_chain (below_chain l1 l2 l1.size) l3 (by have := l1.size; have := l2.size; omega); have d3 : w3.cell? ⟨h, 0, none⟩ = some (.int .i64 s.size) := (hb3.cell (p := ⟨h, 0, none⟩) hh).trans c0) | (go_at_call 285; refine (CC.out w3 hb3).mono ?_; rintro e _ ⟨rfl, rfl⟩))
  have V3 : Hid (HostAt w3 M h s ∧ Blk w3 w.heap.size 32 [.pointer (some ⟨h, 0, none⟩)] ∧ Blk w3 w1.heap.size 3 [.int .i64 p] ∧ Blk w3 w2.heap.size 67 [.slice ao n c] ∧ Seen w3 ao n zs ∧ Below w.heap.size w w3) := ⟨X.out.1.later hb3, (b1.later l2 b1.lt).later l3 (b1.later l2 b1.lt).lt, b2.later l3 b2.lt, b3, X.out.2.later hb3 (Nat.le_refl _), hb3⟩
  clear b1 b2 b3 l1 l2 l3 z3 hb3 hh c0
  go_quiet (fail)
  go_wp2_with fail
  refine wp_region_noPanic (till_region 7 (fun W => W.cell? ⟨w.heap.size, 0, none⟩ = some (.pointer (some ⟨h, 0, none⟩)) ∧ W.cell? ⟨w1.heap.size, 0, none⟩ = some (.int .i64 p) ∧ W.cell? ⟨w2.heap.size, 0, none⟩ = some (.slice ao n c)) (by kernel_rfl) ?_)
  obtain ⟨w4, hw4⟩ : ∃ q, ({ heap := (w3.drewN nq).heap, tape := (w3.drewN nq).tape, drawn := (w3.drewN nq).drawn + 1, os := (w3.drewN nq).os, output := (w3.drewN nq).output } : World) = q := ⟨_, rfl⟩
  have V4 : Hid (HostAt w4 M h s ∧ Blk w4 w.heap.size 32 [.pointer (some ⟨h, 0, none⟩)] ∧ Blk w4 w1.heap.size 3 [.int .i64 p] ∧ Blk w4 w2.heap.size 67 [.slice ao n c] ∧ Seen w4 ao n zs ∧ Below w.heap.size w w4) := by rw [← hw4]; exact ⟨V3.out.1.frame ⟨Nat.le_refl _, fun _ _ => rfl⟩, V3.out.2.1, V3.out.2.2.1, V3.out.2.2.2.1, ⟨V3.out.2.2.2.2.1.len, V3.out.2.2.2.2.1.top, V3.out.2.2.2.2.1.bytes, V3.out.2.2.2.2.1.cells⟩, ⟨V3.out.2.2.2.2.2.os, V3.out.2.2.2.2.2.tape, V3.out.2.2.2.2.2.output, V3.out.2.2.2.2.2.size, V3.out.2.2.2.2.2.block⟩⟩
  rw [hw4]
  clear hw4
  have hS : (fun W : World => W.cell? ⟨w.heap.size, 0, none⟩ = some (.pointer (some ⟨h, 0, none⟩)) ∧ W.cell? ⟨w1.heap.size, 0, none⟩ = some (.int .i64 p) ∧ W.cell? ⟨w2.heap.size, 0, none⟩ = some (.slice ao n c)) w4 := ⟨V4.out.2.1.cell 0, V4.out.2.2.1.cell 0, V4.out.2.2.2.1.cell 0⟩
  refine tLoad 0 (some 21) (.pointer (some ⟨h, 0, none⟩)) rfl rfl (by kernel_rfl) (by kernel_rfl) (by kernel_rfl) (by decide) (by kernel_rfl) (by kernel_rfl) (fun _ _ _ h => h) (by rfl) (fun W' hS' => by obtain ⟨s1, s2, s3⟩ := hS'; go_simp) hS ?_
  simp only [Act.put, List.setIfInBounds_toArray, List.set_cons_zero, List.set_cons_succ]
  refine tLoad 1 (some 22) (.pointer (some ⟨h, 0, none⟩)) rfl rfl (by kernel_rfl) (by kernel_rfl) (by kernel_rfl) (by decide) (by kernel_rfl) (by kernel_rfl) (fun _ _ _ h => h) (by rfl) (fun W' hS' => by obtain ⟨s1, s2, s3⟩ := hS'; go_simp) hS ?_
  simp only [Act.put, List.setIfInBounds_toArray, List.set_cons_zero, List.set_cons_succ]
  refine tLoad 2 (some 23) (.int .i64 p) rfl rfl (by kernel_rfl) (by kernel_rfl) (by kernel_rfl) (by decide) (by kernel_rfl) (by kernel_rfl) (fun _ _ _ h => h) (by rfl) (fun W' hS' => by obtain ⟨s1, s2, s3⟩ := hS'; go_simp) hS ?_
  simp only [Act.put, List.setIfInBounds_toArray, List.set_cons_zero, List.set_cons_succ]
  refine tLoad 3 (some 24) (.slice ao n c) rfl rfl (by kernel_rfl) (by kernel_rfl) (by kernel_rfl) (by decide) (by kernel_rfl) (by kernel_rfl) (fun _ _ _ h => h) (by rfl) (fun W' hS' => by obtain ⟨s1, s2, s3⟩ := hS'; go_simp) hS ?_
  simp only [Act.put, List.setIfInBounds_toArray, List.set_cons_zero, List.set_cons_succ]
  refine tTake 5 (some 26) (.func (.func 290) #[] #[.pointer (some ⟨w.heap.size, 0, none⟩), .pointer (some ⟨w1.heap.size, 0, none⟩), .pointer (some ⟨w2.heap.size, 0, none⟩)]) rfl rfl (by kernel_rfl) (by kernel_rfl) (by kernel_rfl) (by decide) (fun _ _ _ h => h) (by rfl) (fun W' => by go_simp) hS ?_
  simp only [Act.put, List.setIfInBounds_toArray, List.set_cons_zero, List.set_cons_succ]
  refine till_ready 4 (by kernel_rfl) rfl (fun K hK => ?_)
  go_simp
  go_wp2_with (go_at_call 287; refine (touch_write h s p ao n c zs M w4 V4.out.1 V4.out.2.2.2.2.1).mono ?_; rintro e w5 ⟨rfl, l5⟩)
  have V5 : Hid (Blk w5 w.heap.size 32 [.pointer (some ⟨h, 0, none⟩)] ∧ Blk w5 w1.heap.size 3 [.int .i64 p] ∧ Blk w5 w2.heap.size 67 [.slice ao n c] ∧ Below w4.heap.size w4 w5) := ⟨V4.out.2.1.later l5 V4.out.2.1.lt, V4.out.2.2.1.later l5 V4.out.2.2.1.lt, V4.out.2.2.2.1.later l5 V4.out.2.2.2.1.lt, l5⟩
  have hS5 : (fun W : World => W.cell? ⟨w.heap.size, 0, none⟩ = some (.pointer (some ⟨h, 0, none⟩)) ∧ W.cell? ⟨w1.heap.size, 0, none⟩ = some (.int .i64 p) ∧ W.cell? ⟨w2.heap.size, 0, none⟩ = some (.slice ao n c)) w5 := ⟨V5.out.1.cell 0, V5.out.2.1.cell 0, V5.out.2.2.1.cell 0⟩
  refine ⟨hS5, ?_⟩
  refine till_ready 6 (by kernel_rfl) rfl (fun K hK => ?_)
  go_simp
  go_wp2_with (go_at_call 286; refine (CO.out w1.heap.size w2.heap.size w4 w5 (by have := z1.out; omega) (by have := z1.out; have := z2.out; omega) V4.out.1 V4.out.2.1 V4.out.2.2.1 V4.out.2.2.2.1 V4.out.2.2.2.2.1 l5).mono ?_; rintro e w6 ⟨rfl, M2, y, m1, m2, k6, _⟩)
  have kM : Kept M w5 w6 := k6.mono (fun k e => e.elim id False.elim)
  have nM : ∀ b, w.heap.size ≤ b → ¬ M b := fun b hb e => by have := X.out.1.all b e; omega
  have U6 : Hid (HostAt w6 M2 h (s.opS (fun s => s.wrote p zs) ⟨1, p, s.size, headL zs⟩) ∧ Goes M M2 w w6) := ⟨y, Goes.later V4.out.2.2.2.2.2 (Goes.later l5 ⟨m1, m2, kM⟩)⟩
  have hS6 : (fun W : World => W.cell? ⟨w.heap.size, 0, none⟩ = some (.pointer (some ⟨h, 0, none⟩)) ∧ W.cell? ⟨w1.heap.size, 0, none⟩ = some (.int .i64 p) ∧ W.cell? ⟨w2.heap.size, 0, none⟩ = some (.slice ao n c)) w6 := ⟨(V5.out.1.kept kM (nM _ (Nat.le_refl _))).cell 0, (V5.out.2.1.kept kM (nM _ (by have := z1.out; omega))).cell 0, (V5.out.2.2.1.kept kM (nM _ (by have := z1.out; have := z2.out; omega))).cell 0⟩
  refine ⟨hS6, ?_⟩
  clear y m1 m2 k6 kM nM l5 hS hS5 hS6
  refine till_at (by kernel_rfl) ?_
  refine take_op 7 (some 6) (.int .i64 E) rfl rfl (by kernel_rfl) (by kernel_rfl) (by kernel_rfl) (fun _ _ _ h => h) (by rfl) (fun _ => by rfl) ?_
  simp only [Act.put, List.setIfInBounds_toArray, List.set_cons_zero, List.set_cons_succ]
  refine wpAny_done (by kernel_rfl) (NoPanic.normal ?_) _
  go_wp2_with fail
  go_ret
  exact ⟨rfl, M2, U6.out.1, U6.out.2⟩
end Go.Proofs.YtnagndnpamcbbaaGreat

namespace Go.Proofs.YtnagndnpamcbbaaGreat
open Go.RowKit
set_option linter.unusedVariables false
set_option linter.unusedSimpArgs false

/-- A new variable of one cell. -/
theorem wpList_allocV {ops : Array Oper} {rest : List Oper} {o : Oper} {a : Act} {Q : Exit → Act → World → Prop} {w : World} (hgd : o.guard = none) (t : TypeId) (ho : o.op = .alloc t) (z : Value) (n : Nat)
    (hz : (Tryz.prog.info? t).map (fun i => (i.zero, i.size)) = some (some z, n)) (hc : z.cells = #[z])
    (h : ∀ w', Blk w' w.heap.size t [z] → w'.heap.size = w.heap.size + 1 → Below w.heap.size w w' → wpList Tryz.prog ops Q rest (a.put o.dst (.pointer (some ⟨w.heap.size, 0, none⟩))) w') : wpList Tryz.prog ops Q (o :: rest) a w := by
  refine wpList_plain hgd fun K hK => ?_
  unfold Oper.wp execOp
  have hzz : ∀ w, (zeroValue t).run Tryz.prog w = .ok z w := fun w => by
    obtain ⟨i, hi, he⟩ := Option.map_eq_some_iff.1 hz
    simp only [Prod.mk.injEq] at he
    simp [zeroValue, typeInfo, hi, he.1]
  simp only [ho, Sem.run_bind, Instr.alloc, hzz, hc, newVar, newRow, run_newObj_alloc, Sem.run_pure, Result.andThen_ok]
  exact hK _ _ (h _ (heap_alloc_new w _) (by simp) ((Below.refl _ _).alloc (Nat.le_refl _) _))
theorem zeroBs : (Tryz.prog.info? 67).map (fun i => (i.zero, i.size)) = some (some (.slice none 0 0), 1) := by kernel_rfl
/-- What a read has laid into its variable. -/
def RdPost (bb : Nat) (z : List Int) (B : Nat) (M2 : Nat → Prop) (W : World) : Prop := ∃ g, Blk W bb 67 [.slice (some ⟨g, 0, none⟩) z.length z.length] ∧ Blk W g 5 (u8s z) ∧ ¬ M2 bb ∧ ¬ M2 g ∧ B ≤ g ∧ Bytes z
theorem RdPost.goes {bb : Nat} {z : List Int} {B : Nat} : ∀ M2 W W', RdPost bb z B M2 W → (∀ k, M2 k → k < W.heap.size) → Kept M2 W W' → RdPost bb z B (more M2 W W') W' := fun M2 W W' ⟨g, h1, h2, h3, h4, h5, h6⟩ _ hk =>
  ⟨g, h1.kept hk h3, h2.kept hk h4, fun e => by
    rcases e with e | e
    · exact h3 e
    · have := h1.lt; omega, fun e => by
    rcases e with e | e
    · exact h4 e
    · have := h2.lt; omega, h5, h6⟩
theorem enter_read : ∀ args w, (callFunc 288 args).run Tryz.prog w = .ok (.enter 288 args) w := fun args w => by kernel_rfl
set_option maxRecDepth 20000 in
set_option maxHeartbeats 1000000 in
theorem read1_any (h : Nat) (s : HSt) (p : Nat) (hp : p < s.pages) (fv : Value) (fs : List Fl) (bh bp bb : Nat) (M : Nat → Prop) (w : World) (x : HostAt w M h s) (y : FlS w M fv fs) (b1 : Blk w bh 32 [.pointer (some ⟨h, 0, none⟩)]) (b2 : Blk w bp 3 [.int .i64 p]) (b3 : Blk w bb 67 [.slice none 0 0]) (nb : ¬ M bb) :
    Calls Tryz.prog 288 #[fv, .pointer (some ⟨bh, 0, none⟩), .pointer (some ⟨bp, 0, none⟩), .pointer (some ⟨bb, 0, none⟩)] w fun e w' => e = .returned (.tuple #[]) ∧ HostAt w' M h s ∧ Kept (fun k => k = bb) w w' ∧ RdPost bb (spoL s p fs) w.heap.size M w' := by
  have C := spoilt_any h s p hp fv fs M w x y
  have X : Hid (HostAt w M h s ∧ Blk w bb 67 [.slice none 0 0] ∧ ¬ M bb) := ⟨x, b3, nb⟩
  have c0 : w.cell? ⟨bh, 0, none⟩ = some (.pointer (some ⟨h, 0, none⟩)) := b1.cell 0
  have c1 : w.cell? ⟨bp, 0, none⟩ = some (.int .i64 p) := b2.cell 0
  clear x y b1 b2 b3 nb
  go_enter Tryz.func288, Tryz.ntmps288
  go_wp2_with (go_at_call 289; refine C.mono ?_; rintro e w1 ⟨v1, rfl, ⟨g, rfl, bg, hg, hby⟩, l1⟩; have d0 : w1.cell? ⟨bb, 0, none⟩ = some (.slice none 0 0) := (X.out.2.1.later l1 X.out.2.1.lt).cell 0; have d1 : w1.frozen? ⟨bb, 0, none⟩ = false := (X.out.2.1.later l1 X.out.2.1.lt).frozen 0)
  go_end0
  have k2 : Kept (fun k => k = bb) w (w1.setCell ⟨bb, 0, none⟩ (.slice (some ⟨g, 0, none⟩) (spoL s p fs).length (spoL s p fs).length)) := (Kept.new (fun k => k = bb) l1).setCell (p := ⟨bb, 0, none⟩) rfl _
  have hlt := X.out.2.1.lt
  refine ⟨rfl, X.out.1.frame (Same.kept k2 (fun k hk => ⟨X.out.1.all k hk, fun e => X.out.2.2 (e ▸ hk)⟩)), k2, g, (X.out.2.1.later l1 X.out.2.1.lt).set 0 _, bg.other (p := ⟨bb, 0, none⟩) (by simp; omega) _, X.out.2.2, fun e => ?_, hg, hby⟩
  have := X.out.1.all g e; omega
set_option maxRecDepth 20000 in
set_option maxHeartbeats 2000000 in
theorem read_bad (h : Nat) (s : HSt) (p : Int) (M : Nat → Prop) (w : World) (x : HostAt w M h s) (hb : hasP s p = false) :
    Calls Tryz.prog 282 #[.pointer (some ⟨h, 0, none⟩), .int .i64 p] w fun e w' => e = .returned (.tuple #[.slice none 0 0, .int .i64 2]) ∧ Below w.heap.size w w' := by
  have CC : Hid (∀ W, Below w.heap.size w W → Calls Tryz.prog 285 #[.pointer (some ⟨h, 0, none⟩), .int .i64 p] W fun e w' => e = .returned (.int .i64 2) ∧ W = w') := fun W hW => by
    have := checkH_any h s p M W (x.later hW)
    rw [hb] at this
    exact this
  clear x hb
  go_enter Tryz.func282, Tryz.ntmps282
  go_wp2_with (first | ((with_reducible show wpList _ _ _ (({ dst := some 2, op := _, type := _, pos := _, after := _, guard := _ } : Oper) :: _) _ _); refine wpList_boxV rfl 32 _ rfl (.pointer (some ⟨h, 0, none⟩)) rfl rfl ?_; intro w1 b1 s1 l1; have z1 : Hid (w1.heap.size = w.heap.size + 1) := s1; clear s1) | ((with_reducible show wpList _ _ _ (({ dst := some 3, op := _, type := _, pos := _, after := _, guard := _ } : Oper) :: _) _ _); refine wpList_boxV rfl 3 _ rfl (.int .i64 p) rfl rfl ?_; intro w2 b2 s2 l2; have z2 : Hid (w2.heap.size = w1.heap.size + 1) := s2; clear s2; have d0 : w2.cell? ⟨w.heap.size, 0, none⟩ = some (.pointer (some ⟨h, 0, none⟩)) := (b1.later l2 b1.lt).cell 0; have d1 : w2.cell? ⟨w1.heap.size, 0, none⟩ = some (.int .i64 p) := b2.cell 0; have hb2 : Below w.heap.size w w2 := below_chain l1 l2 l1.size) | (go_at_call 285; refine (CC.out w2 hb2).mono ?_; rintro e _ ⟨rfl, rfl⟩))
  go_ret2
  exact ⟨rfl, hb2⟩
set_option maxRecDepth 20000 in
set_option maxHeartbeats 2000000 in
theorem read_good (h : Nat) (s : HSt) (p : Nat) (hp : p < s.pages) (M : Nat → Prop) (w : World) (x : HostAt w M h s) (hops : s.ops < 3000000000000) :
    Calls Tryz.prog 282 #[.pointer (some ⟨h, 0, none⟩), .int .i64 p] w fun e w' => ∃ v, e = .returned (.tuple #[v, .int .i64 s.opE]) ∧ ∃ M2, HostAt w' M2 h (s.opS id ⟨0, p, s.size, List.replicate 12 0⟩) ∧ Goes M M2 w w' ∧ (s.opE ≠ 0 → v = .slice none 0 0) ∧
      (s.opE = 0 → ∃ g, v = .slice (some ⟨g, 0, none⟩) s.size s.size ∧ Blk w' g 5 (u8s (spoL s p (s.coming s.ops))) ∧ w.heap.size ≤ g ∧ ¬ M2 g ∧ Bytes (spoL s p (s.coming s.ops))) := by
  have hpt : hasP s p = true := by simp [hasP]; omega
  have CC : Hid (∀ W, Below w.heap.size w W → Calls Tryz.prog 285 #[.pointer (some ⟨h, 0, none⟩), .int .i64 p] W fun e w' => e = .returned (.int .i64 0) ∧ W = w') := fun W hW => by
    have := checkH_any h s p M W (x.later hW)
    rw [hpt] at this
    exact this
  have G : Hid s.Good := by obtain ⟨_, _, _, _, _, _, q⟩ := x; exact q.good
  have CO : Hid (∀ bp bb w5, w.heap.size ≤ bp → w.heap.size ≤ bb → HostAt w5 M h s → Blk w5 w.heap.size 32 [.pointer (some ⟨h, 0, none⟩)] → Blk w5 bp 3 [.int .i64 p] → Blk w5 bb 67 [.slice none 0 0] → Calls Tryz.prog 286 #[.pointer (some ⟨h, 0, none⟩), .agg (tcC ⟨0, p, s.size, List.replicate 12 0⟩).toArray, .func (.func 288) #[] #[.pointer (some ⟨w.heap.size, 0, none⟩), .pointer (some ⟨bp, 0, none⟩), .pointer (some ⟨bb, 0, none⟩)]] w5 fun e w' => e = .returned (.int .i64 s.opE) ∧ ∃ M2, HostAt w' M2 h (s.opS id ⟨0, p, s.size, List.replicate 12 0⟩) ∧ (∀ k, M k → M2 k) ∧ (∀ k, M2 k → M k ∨ w5.heap.size ≤ k) ∧ Kept (fun k => M k ∨ k = bb) w5 w' ∧ (s.done → RdPost bb (spoL s p (s.coming s.ops)) w.heap.size M2 w')) := fun bp bb w5 hbp hbb y b1 b2 b3 =>
    operate_all h s id ⟨0, p, s.size, List.replicate 12 0⟩ rfl 288 _ enter_read M (fun k => k = bb) (RdPost bb (spoL s p (s.coming s.ops)) w.heap.size) w5 y hops (fun k e => by rw [e]; exact b3.lt) (fun _ _ q => q) RdPost.goes ⟨rfl, rfl⟩ (fun _ W fv y2 f2 k5 => by
      have nb : ∀ b, w.heap.size ≤ b → ¬ M b := fun b hb e => by have := x.all b e; omega
      refine (read1_any h s.next p hp fv (s.coming s.ops) _ _ _ M W y2 f2 (b1.kept k5 (nb _ (Nat.le_refl _))) (b2.kept k5 (nb _ hbp)) (b3.kept k5 (nb _ hbb)) (nb _ hbb)).mono ?_
      rintro e W' ⟨rfl, y3, k3, g, q1, q2, q3, q4, q5, q6⟩
      have hw : w.heap.size ≤ W.heap.size := by have := b3.lt; have := k5.size; omega
      exact ⟨rfl, M, y3, fun _ h => h, fun _ h => .inl h, k3.mono (fun k e => .inr e), g, q1, q2, q3, q4, by omega, q6⟩)
  have X : Hid (HostAt w M h s) := x
  have HL : Hid ((spoL s p (s.coming s.ops)).length = s.size) := spoL_length G.out p _
  have HDone : Hid (s.opE = 0 → s.done) := fun h => by
    unfold HSt.opE at h
    split at h
    · cases h
    · next h1 => exact ⟨by cases hd : s.down; rfl; exact absurd (.inl hd) h1, fun e => h1 (.inr (.inl e))⟩
  have hE := opE_eq s
  obtain ⟨E, hE'⟩ : ∃ q, s.opE = q := ⟨_, rfl⟩
  rw [hE'] at hE CO HDone ⊢
  clear hE' x hops hpt
  rcases hE with rfl | rfl
  · go_enter Tryz.func282, Tryz.ntmps282
    go_wp2_with (first | ((with_reducible show wpList _ _ _ (({ dst := some 2, op := _, type := _, pos := _, after := _, guard := _ } : Oper) :: _) _ _); refine wpList_boxV rfl 32 _ rfl (.pointer (some ⟨h, 0, none⟩)) rfl rfl ?_; intro w1 b1 s1 l1; have z1 : Hid (w1.heap.size = w.heap.size + 1) := s1; clear s1) | ((with_reducible show wpList _ _ _ (({ dst := some 3, op := _, type := _, pos := _, after := _, guard := _ } : Oper) :: _) _ _); refine wpList_boxV rfl 3 _ rfl (.int .i64 p) rfl rfl ?_; intro w2 b2 s2 l2; have z2 : Hid (w2.heap.size = w1.heap.size + 1) := s2; clear s2; have d0 : w2.cell? ⟨w.heap.size, 0, none⟩ = some (.pointer (some ⟨h, 0, none⟩)) := (b1.later l2 b1.lt).cell 0; have d1 : w2.cell? ⟨w1.heap.size, 0, none⟩ = some (.int .i64 p) := b2.cell 0; have hb2 : Below w.heap.size w w2 := below_chain l1 l2 l1.size) | (go_at_call 285; refine (CC.out w2 hb2).mono ?_; rintro e _ ⟨rfl, rfl⟩) | ((with_reducible show wpList _ _ _ (({ dst := some 7, op := _, type := _, pos := _, after := _, guard := _ } : Oper) :: _) _ _); refine wpList_allocV rfl 67 rfl (.slice none 0 0) 1 zeroBs rfl ?_; intro w3 b3 s3 l3; have z3 : Hid (w3.heap.size = w2.heap.size + 1) := s3; clear s3))
    have V3 : Hid (HostAt w3 M h s ∧ Blk w3 w.heap.size 32 [.pointer (some ⟨h, 0, none⟩)] ∧ Blk w3 w1.heap.size 3 [.int .i64 p] ∧ Blk w3 w2.heap.size 67 [.slice none 0 0] ∧ Below w.heap.size w w3) := ⟨X.out.later (below_chain hb2 l3 hb2.size), (b1.later l2 b1.lt).later l3 (b1.later l2 b1.lt).lt, b2.later l3 b2.lt, b3, below_chain hb2 l3 hb2.size⟩
    clear b1 b2 b3 l1 l2 l3 z3 hb2
    refine wp_region_noPanic (till_region 6 (fun W => W.cell? ⟨w.heap.size, 0, none⟩ = some (.pointer (some ⟨h, 0, none⟩)) ∧ W.cell? ⟨w1.heap.size, 0, none⟩ = some (.int .i64 p)) (by kernel_rfl) ?_)
    obtain ⟨w4, hw4⟩ : ∃ q, ({ heap := w3.heap, tape := w3.tape, drawn := w3.drawn + 1, os := w3.os, output := w3.output } : World) = q := ⟨_, rfl⟩
    have V4 : Hid (HostAt w4 M h s ∧ Blk w4 w.heap.size 32 [.pointer (some ⟨h, 0, none⟩)] ∧ Blk w4 w1.heap.size 3 [.int .i64 p] ∧ Blk w4 w2.heap.size 67 [.slice none 0 0] ∧ Below w.heap.size w w4) := by rw [← hw4]; exact ⟨V3.out.1.frame ⟨Nat.le_refl _, fun _ _ => rfl⟩, V3.out.2.1, V3.out.2.2.1, V3.out.2.2.2.1, ⟨V3.out.2.2.2.2.os, V3.out.2.2.2.2.tape, V3.out.2.2.2.2.output, V3.out.2.2.2.2.size, V3.out.2.2.2.2.block⟩⟩
    rw [hw4]
    clear hw4
    have hS : (fun W : World => W.cell? ⟨w.heap.size, 0, none⟩ = some (.pointer (some ⟨h, 0, none⟩)) ∧ W.cell? ⟨w1.heap.size, 0, none⟩ = some (.int .i64 p)) w4 := ⟨V4.out.2.1.cell 0, V4.out.2.2.1.cell 0⟩
    refine tLoad 0 (some 15) (.pointer (some ⟨h, 0, none⟩)) rfl rfl (by kernel_rfl) (by kernel_rfl) (by kernel_rfl) (by decide) (by kernel_rfl) (by kernel_rfl) (fun _ _ _ h => h) (by rfl) (fun W' hS' => by obtain ⟨s1, s2⟩ := hS'; go_simp) hS ?_
    simp only [Act.put, List.setIfInBounds_toArray, List.set_cons_zero, List.set_cons_succ]
    refine tLoad 1 (some 16) (.pointer (some ⟨h, 0, none⟩)) rfl rfl (by kernel_rfl) (by kernel_rfl) (by kernel_rfl) (by decide) (by kernel_rfl) (by kernel_rfl) (fun _ _ _ h => h) (by rfl) (fun W' hS' => by obtain ⟨s1, s2⟩ := hS'; go_simp) hS ?_
    simp only [Act.put, List.setIfInBounds_toArray, List.set_cons_zero, List.set_cons_succ]
    refine tLoad 2 (some 17) (.int .i64 p) rfl rfl (by kernel_rfl) (by kernel_rfl) (by kernel_rfl) (by decide) (by kernel_rfl) (by kernel_rfl) (fun _ _ _ h => h) (by rfl) (fun W' hS' => by obtain ⟨s1, s2⟩ := hS'; go_simp) hS ?_
    simp only [Act.put, List.setIfInBounds_toArray, List.set_cons_zero, List.set_cons_succ]
    refine tTake 4 (some 19) (.func (.func 288) #[] #[.pointer (some ⟨w.heap.size, 0, none⟩), .pointer (some ⟨w1.heap.size, 0, none⟩), .pointer (some ⟨w2.heap.size, 0, none⟩)]) rfl rfl (by kernel_rfl) (by kernel_rfl) (by kernel_rfl) (by decide) (fun _ _ _ h => h) (by rfl) (fun W' => by go_simp) hS ?_
    simp only [Act.put, List.setIfInBounds_toArray, List.set_cons_zero, List.set_cons_succ]
    refine till_ready 3 (by kernel_rfl) rfl (fun K hK => ?_)
    go_simp
    go_wp2_with (go_at_call 287; refine (touch_read h s p M w4 V4.out.1).mono ?_; rintro e w5 ⟨rfl, l5⟩)
    have V5 : Hid (Blk w5 w.heap.size 32 [.pointer (some ⟨h, 0, none⟩)] ∧ Blk w5 w1.heap.size 3 [.int .i64 p] ∧ Blk w5 w2.heap.size 67 [.slice none 0 0] ∧ Below w4.heap.size w4 w5) := ⟨V4.out.2.1.later l5 V4.out.2.1.lt, V4.out.2.2.1.later l5 V4.out.2.2.1.lt, V4.out.2.2.2.1.later l5 V4.out.2.2.2.1.lt, l5⟩
    have hS5 : (fun W : World => W.cell? ⟨w.heap.size, 0, none⟩ = some (.pointer (some ⟨h, 0, none⟩)) ∧ W.cell? ⟨w1.heap.size, 0, none⟩ = some (.int .i64 p)) w5 := ⟨V5.out.1.cell 0, V5.out.2.1.cell 0⟩
    refine ⟨hS5, ?_⟩
    refine till_ready 5 (by kernel_rfl) rfl (fun K hK => ?_)
    go_simp
    go_wp2_with (go_at_call 286; refine (CO.out w1.heap.size w2.heap.size w5 (by have := z1.out; omega) (by have := z1.out; have := z2.out; omega) (V4.out.1.later l5) V5.out.1 V5.out.2.1 V5.out.2.2.1).mono ?_; rintro e w6 ⟨rfl, M2, y, m1, m2, k6, p6⟩)
    have nM : ∀ b, w.heap.size ≤ b → b ≠ w2.heap.size → ¬ (M b ∨ b = w2.heap.size) := fun b hb hne e => by
      rcases e with e | e
      · have := X.out.all b e; omega
      · exact hne e
    have U6 : Hid (HostAt w6 M2 h (s.opS id ⟨0, p, s.size, List.replicate 12 0⟩) ∧ Goes M M2 w w6 ∧ (s.done → RdPost w2.heap.size (spoL s p (s.coming s.ops)) w.heap.size M2 w6)) := by
      refine ⟨y, ⟨m1, fun k hk => ?_, ?_⟩, p6⟩
      · have := V4.out.2.2.2.2.size; have := l5.size
        rcases m2 k hk with e | e
        · exact .inl e
        · exact .inr (by omega)
      · have l4 := V4.out.2.2.2.2
        have := l4.size; have := l5.size; have := z1.out; have := z2.out
        refine ⟨k6.os.trans (l5.os.trans l4.os), k6.tape.trans (l5.tape.trans l4.tape), k6.output.trans (l5.output.trans l4.output), Nat.le_trans l4.size (Nat.le_trans l5.size k6.size), fun k hk hM => (k6.block k (by omega) (fun e => ?_)).trans ((l5.block k (by omega)).trans (l4.block k hk))⟩
        rcases e with e | e
        · exact hM e
        · omega
    have hS6 : (fun W : World => W.cell? ⟨w.heap.size, 0, none⟩ = some (.pointer (some ⟨h, 0, none⟩)) ∧ W.cell? ⟨w1.heap.size, 0, none⟩ = some (.int .i64 p)) w6 := ⟨(V5.out.1.kept k6 (nM _ (Nat.le_refl _) (by have := z1.out; have := z2.out; omega))).cell 0, (V5.out.2.1.kept k6 (nM _ (by have := z1.out; omega) (by have := z2.out; omega))).cell 0⟩
    refine ⟨hS6, ?_⟩
    clear y m1 m2 k6 p6 nM l5 hS hS5 hS6
    refine till_at (by kernel_rfl) ?_
    refine take_op 6 (some 8) (.int .i64 0) rfl rfl (by kernel_rfl) (by kernel_rfl) (by kernel_rfl) (fun _ _ _ h => h) (by rfl) (fun _ => by rfl) ?_
    simp only [Act.put, List.setIfInBounds_toArray, List.set_cons_zero, List.set_cons_succ]
    refine wpAny_done (by kernel_rfl) (NoPanic.normal ?_) _
    obtain ⟨g, q1, q2, q3, q4, q5, q6⟩ := U6.out.2.2 (HDone.out (by first | rfl | trivial))
    have d6 : w6.cell? ⟨w2.heap.size, 0, none⟩ = some (.slice (some ⟨g, 0, none⟩) s.size s.size) := by rw [← HL.out]; exact q1.cell 0
    have Q : Hid (Blk w6 g 5 (u8s (spoL s p (s.coming s.ops))) ∧ w.heap.size ≤ g ∧ ¬ M2 g ∧ Bytes (spoL s p (s.coming s.ops))) := ⟨q2, q5, q4, q6⟩
    clear q1 q2 q3 q4 q5 q6
    go_wp2_with fail
    go_ret2
    exact ⟨_, rfl, M2, U6.out.1, U6.out.2.1, fun h => absurd rfl h, fun _ => ⟨g, rfl, Q.out⟩⟩
  · go_enter Tryz.func282, Tryz.ntmps282
    go_wp2_with (first | ((with_reducible show wpList _ _ _ (({ dst := some 2, op := _, type := _, pos := _, after := _, guard := _ } : Oper) :: _) _ _); refine wpList_boxV rfl 32 _ rfl (.pointer (some ⟨h, 0, none⟩)) rfl rfl ?_; intro w1 b1 s1 l1; have z1 : Hid (w1.heap.size = w.heap.size + 1) := s1; clear s1) | ((with_reducible show wpList _ _ _ (({ dst := some 3, op := _, type := _, pos := _, after := _, guard := _ } : Oper) :: _) _ _); refine wpList_boxV rfl 3 _ rfl (.int .i64 p) rfl rfl ?_; intro w2 b2 s2 l2; have z2 : Hid (w2.heap.size = w1.heap.size + 1) := s2; clear s2; have d0 : w2.cell? ⟨w.heap.size, 0, none⟩ = some (.pointer (some ⟨h, 0, none⟩)) := (b1.later l2 b1.lt).cell 0; have d1 : w2.cell? ⟨w1.heap.size, 0, none⟩ = some (.int .i64 p) := b2.cell 0; have hb2 : Below w.heap.size w w2 := below_chain l1 l2 l1.size) | (go_at_call 285; refine (CC.out w2 hb2).mono ?_; rintro e _ ⟨rfl, rfl⟩) | ((with_reducible show wpList _ _ _ (({ dst := some 7, op := _, type := _, pos := _, after := _, guard := _ } : Oper) :: _) _ _); refine wpList_allocV rfl 67 rfl (.slice none 0 0) 1 zeroBs rfl ?_; intro w3 b3 s3 l3; have z3 : Hid (w3.heap.size = w2.heap.size + 1) := s3; clear s3))
    have V3 : Hid (HostAt w3 M h s ∧ Blk w3 w.heap.size 32 [.pointer (some ⟨h, 0, none⟩)] ∧ Blk w3 w1.heap.size 3 [.int .i64 p] ∧ Blk w3 w2.heap.size 67 [.slice none 0 0] ∧ Below w.heap.size w w3) := ⟨X.out.later (below_chain hb2 l3 hb2.size), (b1.later l2 b1.lt).later l3 (b1.later l2 b1.lt).lt, b2.later l3 b2.lt, b3, below_chain hb2 l3 hb2.size⟩
    clear b1 b2 b3 l1 l2 l3 z3 hb2
    refine wp_region_noPanic (till_region 6 (fun W => W.cell? ⟨w.heap.size, 0, none⟩ = some (.pointer (some ⟨h, 0, none⟩)) ∧ W.cell? ⟨w1.heap.size, 0, none⟩ = some (.int .i64 p)) (by kernel_rfl) ?_)
    obtain ⟨w4, hw4⟩ : ∃ q, ({ heap := w3.heap, tape := w3.tape, drawn := w3.drawn + 1, os := w3.os, output := w3.output } : World) = q := ⟨_, rfl⟩
    have V4 : Hid (HostAt w4 M h s ∧ Blk w4 w.heap.size 32 [.pointer (some ⟨h, 0, none⟩)] ∧ Blk w4 w1.heap.size 3 [.int .i64 p] ∧ Blk w4 w2.heap.size 67 [.slice none 0 0] ∧ Below w.heap.size w w4) := by rw [← hw4]; exact ⟨V3.out.1.frame ⟨Nat.le_refl _, fun _ _ => rfl⟩, V3.out.2.1, V3.out.2.2.1, V3.out.2.2.2.1, ⟨V3.out.2.2.2.2.os, V3.out.2.2.2.2.tape, V3.out.2.2.2.2.output, V3.out.2.2.2.2.size, V3.out.2.2.2.2.block⟩⟩
    rw [hw4]
    clear hw4
    have hS : (fun W : World => W.cell? ⟨w.heap.size, 0, none⟩ = some (.pointer (some ⟨h, 0, none⟩)) ∧ W.cell? ⟨w1.heap.size, 0, none⟩ = some (.int .i64 p)) w4 := ⟨V4.out.2.1.cell 0, V4.out.2.2.1.cell 0⟩
    refine tLoad 0 (some 15) (.pointer (some ⟨h, 0, none⟩)) rfl rfl (by kernel_rfl) (by kernel_rfl) (by kernel_rfl) (by decide) (by kernel_rfl) (by kernel_rfl) (fun _ _ _ h => h) (by rfl) (fun W' hS' => by obtain ⟨s1, s2⟩ := hS'; go_simp) hS ?_
    simp only [Act.put, List.setIfInBounds_toArray, List.set_cons_zero, List.set_cons_succ]
    refine tLoad 1 (some 16) (.pointer (some ⟨h, 0, none⟩)) rfl rfl (by kernel_rfl) (by kernel_rfl) (by kernel_rfl) (by decide) (by kernel_rfl) (by kernel_rfl) (fun _ _ _ h => h) (by rfl) (fun W' hS' => by obtain ⟨s1, s2⟩ := hS'; go_simp) hS ?_
    simp only [Act.put, List.setIfInBounds_toArray, List.set_cons_zero, List.set_cons_succ]
    refine tLoad 2 (some 17) (.int .i64 p) rfl rfl (by kernel_rfl) (by kernel_rfl) (by kernel_rfl) (by decide) (by kernel_rfl) (by kernel_rfl) (fun _ _ _ h => h) (by rfl) (fun W' hS' => by obtain ⟨s1, s2⟩ := hS'; go_simp) hS ?_
    simp only [Act.put, List.setIfInBounds_toArray, List.set_cons_zero, List.set_cons_succ]
    refine tTake 4 (some 19) (.func (.func 288) #[] #[.pointer (some ⟨w.heap.size, 0, none⟩), .pointer (some ⟨w1.heap.size, 0, none⟩), .pointer (some ⟨w2.heap.size, 0, none⟩)]) rfl rfl (by kernel_rfl) (by kernel_rfl) (by kernel_rfl) (by decide) (fun _ _ _ h => h) (by rfl) (fun W' => by go_simp) hS ?_
    simp only [Act.put, List.setIfInBounds_toArray, List.set_cons_zero, List.set_cons_succ]
    refine till_ready 3 (by kernel_rfl) rfl (fun K hK => ?_)
    go_simp
    go_wp2_with (go_at_call 287; refine (touch_read h s p M w4 V4.out.1).mono ?_; rintro e w5 ⟨rfl, l5⟩)
    have V5 : Hid (Blk w5 w.heap.size 32 [.pointer (some ⟨h, 0, none⟩)] ∧ Blk w5 w1.heap.size 3 [.int .i64 p] ∧ Blk w5 w2.heap.size 67 [.slice none 0 0] ∧ Below w4.heap.size w4 w5) := ⟨V4.out.2.1.later l5 V4.out.2.1.lt, V4.out.2.2.1.later l5 V4.out.2.2.1.lt, V4.out.2.2.2.1.later l5 V4.out.2.2.2.1.lt, l5⟩
    have hS5 : (fun W : World => W.cell? ⟨w.heap.size, 0, none⟩ = some (.pointer (some ⟨h, 0, none⟩)) ∧ W.cell? ⟨w1.heap.size, 0, none⟩ = some (.int .i64 p)) w5 := ⟨V5.out.1.cell 0, V5.out.2.1.cell 0⟩
    refine ⟨hS5, ?_⟩
    refine till_ready 5 (by kernel_rfl) rfl (fun K hK => ?_)
    go_simp
    go_wp2_with (go_at_call 286; refine (CO.out w1.heap.size w2.heap.size w5 (by have := z1.out; omega) (by have := z1.out; have := z2.out; omega) (V4.out.1.later l5) V5.out.1 V5.out.2.1 V5.out.2.2.1).mono ?_; rintro e w6 ⟨rfl, M2, y, m1, m2, k6, p6⟩)
    have nM : ∀ b, w.heap.size ≤ b → b ≠ w2.heap.size → ¬ (M b ∨ b = w2.heap.size) := fun b hb hne e => by
      rcases e with e | e
      · have := X.out.all b e; omega
      · exact hne e
    have U6 : Hid (HostAt w6 M2 h (s.opS id ⟨0, p, s.size, List.replicate 12 0⟩) ∧ Goes M M2 w w6 ∧ (s.done → RdPost w2.heap.size (spoL s p (s.coming s.ops)) w.heap.size M2 w6)) := by
      refine ⟨y, ⟨m1, fun k hk => ?_, ?_⟩, p6⟩
      · have := V4.out.2.2.2.2.size; have := l5.size
        rcases m2 k hk with e | e
        · exact .inl e
        · exact .inr (by omega)
      · have l4 := V4.out.2.2.2.2
        have := l4.size; have := l5.size; have := z1.out; have := z2.out
        refine ⟨k6.os.trans (l5.os.trans l4.os), k6.tape.trans (l5.tape.trans l4.tape), k6.output.trans (l5.output.trans l4.output), Nat.le_trans l4.size (Nat.le_trans l5.size k6.size), fun k hk hM => (k6.block k (by omega) (fun e => ?_)).trans ((l5.block k (by omega)).trans (l4.block k hk))⟩
        rcases e with e | e
        · exact hM e
        · omega
    have hS6 : (fun W : World => W.cell? ⟨w.heap.size, 0, none⟩ = some (.pointer (some ⟨h, 0, none⟩)) ∧ W.cell? ⟨w1.heap.size, 0, none⟩ = some (.int .i64 p)) w6 := ⟨(V5.out.1.kept k6 (nM _ (Nat.le_refl _) (by have := z1.out; have := z2.out; omega))).cell 0, (V5.out.2.1.kept k6 (nM _ (by have := z1.out; omega) (by have := z2.out; omega))).cell 0⟩
    refine ⟨hS6, ?_⟩
    clear y m1 m2 k6 p6 nM l5 hS hS5 hS6
    refine till_at (by kernel_rfl) ?_
    refine take_op 6 (some 8) (.int .i64 110) rfl rfl (by kernel_rfl) (by kernel_rfl) (by kernel_rfl) (fun _ _ _ h => h) (by rfl) (fun _ => by rfl) ?_
    simp only [Act.put, List.setIfInBounds_toArray, List.set_cons_zero, List.set_cons_succ]
    refine wpAny_done (by kernel_rfl) (NoPanic.normal ?_) _
    go_wp2_with fail
    go_ret2
    exact ⟨_, rfl, M2, U6.out.1, U6.out.2.1, fun _ => rfl, fun h => by cases h⟩
end Go.Proofs.YtnagndnpamcbbaaGreat

namespace Go.Proofs.YtnagndnpamcbbaaGreat
open Go.RowKit
set_option linter.unusedVariables false
set_option linter.unusedSimpArgs false

/-- The faults that befall the operation k. -/
def comeL (fs : List Fl) (k : Int) : List Fl := fs.filter fun f => decide (0 ≤ f.a ∧ f.a = k)
/-- How many writes back they look at most. -/
def depL (fs : List Fl) : Int := fs.foldl (fun d f => if 0 ≤ f.a ∧ f.k = 1 ∧ d < f.c then f.c else d) 0
theorem depL_bd (fs : List Fl) (h : ∀ f ∈ fs, f.Good) : 0 ≤ depL fs ∧ depL fs ≤ 9223372036854775807 := by
  unfold depL
  have : ∀ (l : List Fl) (d : Int), (∀ f ∈ l, f.Good) → 0 ≤ d ∧ d ≤ 9223372036854775807 → 0 ≤ l.foldl (fun d f => if 0 ≤ f.a ∧ f.k = 1 ∧ d < f.c then f.c else d) d ∧ l.foldl (fun d f => if 0 ≤ f.a ∧ f.k = 1 ∧ d < f.c then f.c else d) d ≤ 9223372036854775807 := by
    intro l
    induction l with
    | nil => intro d _ hd; exact hd
    | cons f l ih =>
      intro d hg hd
      refine ih _ (fun x hx => hg x (by simp [hx])) ?_
      have := (hg f (by simp)).2.2.2.2.2
      dsimp only
      split
      · next h1 => exact ⟨by omega, this.2⟩
      · exact hd
  exact this fs 0 h (by omega)
theorem comeL_take (fs : List Fl) (i : Nat) (hi : i < fs.length) (k : Int) : comeL (fs.take (i + 1)) k = comeL (fs.take i) k ++ (if 0 ≤ (fs.getD i default).a ∧ (fs.getD i default).a = k then [fs.getD i default] else []) := by
  unfold comeL
  have e : fs.getD i default = fs[i] := by simp [List.getD, hi]
  rw [List.take_succ_eq_append_getElem hi, List.filter_append, e]
  congr 1
  by_cases h : 0 ≤ fs[i].a ∧ fs[i].a = k
  · rw [if_pos h]; simp only [List.filter_cons, List.filter_nil]; rw [if_pos (by simpa using h)]
  · rw [if_neg h]; simp only [List.filter_cons, List.filter_nil]; rw [if_neg (by simpa using h)]
theorem depL_take (fs : List Fl) (i : Nat) (hi : i < fs.length) : depL (fs.take (i + 1)) = if 0 ≤ (fs.getD i default).a ∧ (fs.getD i default).k = 1 ∧ depL (fs.take i) < (fs.getD i default).c then (fs.getD i default).c else depL (fs.take i) := by
  have e : fs.getD i default = fs[i] := by simp [List.getD, hi]
  unfold depL
  rw [List.take_succ_eq_append_getElem hi, List.foldl_append, e]
  rfl
theorem comeL_length (fs : List Fl) (k : Int) : (comeL fs k).length ≤ fs.length := List.length_filter_le ..
theorem comeL_good {fs : List Fl} (h : ∀ f ∈ fs, f.Good) (k : Int) : ∀ f ∈ comeL fs k, f.Good := fun f hf => h f (List.mem_filter.1 hf).1
theorem flat_len (l : List Fl) : (l.flatMap flC).length = l.length * 6 := by
  induction l with
  | nil => rfl
  | cons a r ih => rw [List.flatMap_cons, List.length_append, ih, flC_length, List.length_cons]; omega
theorem flat_at (l : List Fl) (i j : Nat) (hi : i < l.length) (hj : j < 6) : (l.flatMap flC)[i * 6 + j]? = (flC (l.getD i default))[j]? := by
  induction l generalizing i with
  | nil => cases hi
  | cons a r ih =>
    rw [List.flatMap_cons]
    cases i with
    | zero => rw [Nat.zero_mul, Nat.zero_add, List.getElem?_append_left (by rw [flC_length]; exact hj)]; rfl
    | succ i =>
      rw [List.getElem?_append_right (by rw [flC_length]; omega), flC_length, show (i + 1) * 6 + j - 6 = i * 6 + j by omega, ih i (by simpa using hi)]
      simp
/-- Rows of faults, one a key. -/
structure Groups (w : World) (gm n : Nat) (D : DataW Value) (G : Int → List Fl) (B : Nat) : Prop where
  map : w.ownsMap Tryz.prog 3 heldR gm n D
  own : ∀ k, w.ownsRow B 114 6 (lookV D k) (G k).length ((G k).flatMap flC)
  apart : ∀ j k g, j ≠ k → (lookV D j).ownBlock = some g → (lookV D k).ownBlock ≠ some g
theorem own_same {w w' : World} {B : Nat} {e : TypeId} {z n : Nat} {v : Value} {xs : List Value} (h : w.ownsRow B e z v n xs) (hs : ∀ g, v.ownBlock = some g → w'.heap[g]? = w.heap[g]?) : w'.ownsRow B e z v n xs := by
  refine ⟨h.1, ?_⟩
  rcases h.2 with h2 | ⟨g, cap, cur, hv, hg, hh, r⟩
  · exact .inl h2
  · exact .inr ⟨g, cap, cur, hv, hg, by rw [hs g (by rw [hv]; rfl)]; exact hh, r⟩
theorem own_blk {w : World} {B : Nat} {e : TypeId} {z n : Nat} {v : Value} {xs : List Value} (h : w.ownsRow B e z v n xs) {g : Nat} (hg : v.ownBlock = some g) : ∃ vs, Blk w g e vs := by
  rcases h.2 with ⟨h2, _⟩ | ⟨g', cap, cur, hv, _, hh, r⟩
  · rw [h2] at hg; cases hg
  · rw [hv] at hg; cases hg; exact ⟨cur.toList, by simpa [Blk] using hh⟩
theorem Groups.later {w w' : World} {gm n B : Nat} {D : DataW Value} {G : Int → List Fl} (x : Groups w gm n D G B) (hb : Below w.heap.size w w') : Groups w' gm n D G B :=
  ⟨ownsMap_same x.map (hb.block gm x.map.lt), fun k => own_same (x.own k) (fun g hg => hb.block g ((x.own k).lt g hg).2), x.apart⟩
theorem Groups.drew {w : World} {gm n B : Nat} {D : DataW Value} {G : Int → List Fl} (x : Groups w gm n D G B) : Groups { w with drawn := w.drawn + 1 } gm n D G B := ⟨x.map, x.own, x.apart⟩
theorem Groups.seen {w : World} {gm n B : Nat} {D : DataW Value} {G : Int → List Fl} (x : Groups w gm n D G B) (M : Nat → Prop) (hM : ∀ g, B ≤ g → g < w.heap.size → M g) (k : Int) (hg : ∀ f ∈ G k, f.Good) (hl : (G k).length ≤ 3000000000000) : FlS w (FT w M) (lookV D k) (G k) := by
  refine ⟨hl, hg, ?_⟩
  rcases (x.own k).2 with ⟨h2, h3⟩ | ⟨g, cap, cur, hv, hgB, hh, hc, _, hs, ht⟩
  · rw [h2, h3]
    exact ⟨none, 0, rfl, fun i hi => (by cases hi)⟩
  · rw [hv]
    refine ⟨_, cap, rfl, fun i hi => ⟨g, 0, rfl, lt_of_block hh, ⟨hM g hgB (lt_of_block hh), cur.toList, by simpa [Blk] using hh⟩, fun j v hj => ?_⟩⟩
    have hj6 : j < 6 := by have := (List.getElem?_eq_some_iff.1 hj).1; rw [flC_length] at this; exact this
    rw [Nat.zero_add, cell_of_row w g _ cur 114 (0, 0) hh, ← hj, ← flat_at (G k) i j hi hj6, ← ht, List.getElem?_take, if_pos (by omega)]
    simp
theorem build1_fl (f : Fl) (w : World) : (Instr.buildSlice 58 1 #[(0, .agg (flC f).toArray)]).run Tryz.prog w = .ok (.slice (some ⟨w.heap.size, 0, none⟩) 1 1) (w.alloc (.cells (flC f).toArray 114)) := by
  obtain ⟨a, k, p, b, y, c⟩ := f
  kernel_rfl
/-- One fault more. -/
theorem Groups.add {w : World} {gm n B : Nat} {D : DataW Value} {G : Int → List Fl} (x : Groups w gm n D G B) (f : Fl) (hf : f.Good) (hn : n < 3000000000000) (hl : (G f.a).length ≤ n) (hB : B ≤ w.heap.size) (lb : Nat) (hlb : lb < w.heap.size) (hlb' : ∀ k, (lookV D k).ownBlock ≠ some lb) (hlm : lb ≠ gm) (hn48 : (n + 1) * 48 ≤ 140737488355328) :
    ∃ v' w2 w3, (Builtin.append_ #[58, 58] 58 #[lookV D f.a, .slice (some ⟨w.heap.size, 0, none⟩) 1 1]).run Tryz.prog (w.alloc (.cells (flC f).toArray 114)) = .ok v' w2 ∧
      (Instr.mapUpdate 131 (.map (some gm)) (.int .i64 f.a) v').run Tryz.prog w2 = .ok () w3 ∧ w2.heap[gm]? = w.heap[gm]? ∧ w2.heap[lb]? = w.heap[lb]? ∧ w3.heap[lb]? = w.heap[lb]? ∧
      Groups w3 gm (n + 1) (D.put (.int .i64 f.a) (.held v')) (fun k => if k = f.a then G k ++ [f] else G k) B ∧ w.heap.size ≤ w3.heap.size ∧ (∀ k, k < w.heap.size → k < B → k ≠ gm → w3.heap[k]? = w.heap[k]?) ∧ w3.os = w.os ∧ w3.tape = w.tape ∧ w3.output = w.output := by
  obtain ⟨w0, hw0⟩ : ∃ q, w.alloc (.cells (flC f).toArray 114) = q := ⟨_, rfl⟩
  have b0 : Below w.heap.size w w0 := by rw [← hw0]; exact (Below.refl _ _).alloc (Nat.le_refl _) _
  have s0 : w0.heap.size = w.heap.size + 1 := by rw [← hw0]; simp
  have bf : Blk w0 w.heap.size 114 (flC f) := by rw [← hw0]; exact heap_alloc_new w _
  rw [hw0]
  have x0 := x.later b0
  obtain ⟨i0, hi, hz0, hz1, hz2⟩ := info_parts info_fl
  obtain ⟨v', w2, hr, hown, hg, _, hat⟩ := run_append_own_at (P := Tryz.prog) w0 B 58 58 114 i0 (.agg (flC default).toArray) 6 48 Tryz.underlying58 hi hz0 hz1 hz2 rfl (by decide) (lookV D f.a) (G f.a).length _ (x0.own f.a) ⟨w.heap.size, 0, none⟩ 1 1 (flC f) (by rw [flC_length])
    (fun j u hu => by rw [add_mid, Nat.zero_add, bf.cell]; exact hu) (flC_one f) (by unfold maxLen; omega) (by have := Nat.mul_le_mul_right 48 (Nat.add_le_add_right hl 1); omega) (by omega)
  have nm : (lookV D f.a).ownBlock ≠ some gm := fun e => by
    obtain ⟨vs, hv⟩ := own_blk (x.own f.a) e
    exact map_ne x.map hv rfl
  have km : ∀ k, k < w.heap.size → (lookV D f.a).ownBlock ≠ some k → w2.heap[k]? = w.heap[k]? := fun k hk hne => (hg.block k (by omega) (Ne.symm hne)).trans (b0.block k hk)
  have m2 : w2.ownsMap Tryz.prog 3 heldR gm n D := ownsMap_same x.map (km gm x.map.lt nm)
  obtain ⟨w3, hu, m3, g3⟩ := m2.update keysI Tryz.underlying131 (by unfold maxLen; omega) (key := .int .i64 f.a) (val := v') (Maps.keyOf_int_mk Tryz.underlying3 (wf_of_i64 hf.1)) (d := .held v') (ps := []) rfl
  have h12 := hg.size
  have h23 := g3.size
  have k3 : ∀ k, k < w2.heap.size → k ≠ gm → w3.heap[k]? = w2.heap[k]? := fun k hk hne => g3.block k hk (fun e => hne (Option.some.inj e))
  have gml := x.map.lt
  have isM : Maps.IsMap D := x.map.isMap
  refine ⟨v', w2, w3, hr, hu, km gm gml nm, km lb hlb (hlb' _), (k3 lb (by omega) hlm).trans (km lb hlb (hlb' _)), ⟨m3, fun k => ?_, fun j k g hjk hj hk => ?_⟩, by omega, fun k hk hkB hne => ?_, ?_, ?_, ?_⟩
  · by_cases e : k = f.a
    · subst e
      rw [lookV_put isM, if_pos rfl]
      have e2 : (G f.a ++ [f]).flatMap flC = (G f.a).flatMap flC ++ flC f := by simp [List.flatMap_append]
      rw [List.length_append, List.length_singleton, e2]
      exact own_same hown (fun g hg2 => k3 g (hown.lt g hg2).2 (fun e3 => by
        obtain ⟨vs, hv⟩ := own_blk hown hg2
        exact map_ne m2 hv e3))
    · rw [lookV_put_other _ _ e, if_neg e]
      refine own_same (x.own k) (fun g hg2 => ?_)
      have hgl := ((x.own k).lt g hg2).2
      refine (k3 g (by omega) (fun e3 => ?_)).trans (km g hgl (fun e4 => x.apart k f.a g e hg2 e4))
      obtain ⟨vs, hv⟩ := own_blk (x.own k) hg2
      exact map_ne x.map hv e3
  · have nw : ∀ q g, q ≠ f.a → (lookV D q).ownBlock = some g → v'.ownBlock ≠ some g := fun q g hq h1 h2 => by
      rcases hat with e | e
      · rw [e] at h2; exact x.apart q f.a g hq h1 h2
      · rw [e] at h2
        have := ((x.own q).lt g h1).2
        have h3 : w0.heap.size = g := Option.some.inj h2
        omega
    by_cases e1 : j = f.a
    · subst e1
      rw [lookV_put isM] at hj
      rw [lookV_put_other _ _ (Ne.symm hjk)] at hk
      exact nw k g (Ne.symm hjk) hk hj
    · rw [lookV_put_other _ _ e1] at hj
      by_cases e2 : k = f.a
      · subst e2
        rw [lookV_put isM] at hk
        exact nw j g e1 hj hk
      · rw [lookV_put_other _ _ e2] at hk
        exact x.apart j k g hjk hj hk
  · refine (k3 k (by omega) hne).trans (km k hk (fun e => ?_))
    have := ((x.own f.a).lt k e).1
    omega
  · rw [g3.os, hg.os, b0.os]
  · rw [g3.tape, hg.tape, b0.tape]
  · rw [g3.output, hg.output, b0.output]
end Go.Proofs.YtnagndnpamcbbaaGreat
