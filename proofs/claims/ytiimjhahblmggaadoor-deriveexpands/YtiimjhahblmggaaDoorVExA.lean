/- DeriveExpands: bytes that are drawn, or refused, in one contract each; what is known of the world; four rows as a Lot. -/
import Derived.Test.YtiimjhahblmggaaDoorRApart1
import Derived.Test.YtiimjhahblmggaaDoorVKeys
import Derived.Test.YtiimjhahblmggaaDoorRVExpand
import Derived.Test.YtiimjhahblmggaaDoorRLent
import Derived.Test.YtiimjhahblmggaaDoorVDraw
namespace Go.Proofs.YtiimjhahblmggaaDoor
open Go.RowKit
set_option linter.unusedVariables false
set_option linter.unusedSimpArgs false

/-- How many bytes there are. -/
def nE (N : Int) : Nat := if ccE N 8160 = 0 then N.toNat else 0
theorem nE_le (N : Int) : nE N ≤ 8160 := by
  unfold nE
  by_cases h : ccE N 8160 = 0
  · rw [if_pos h]
    unfold ccE at h
    split at h
    · cases h
    · split at h
      · cases h
      · omega
  · rw [if_neg h]; omega
theorem nE_good {N : Int} (h : ccE N 8160 = 0) : N = (nE N : Int) := by
  have : 0 ≤ N := by
    unfold ccE at h
    split at h
    · cases h
    · omega
  unfold nE
  rw [if_pos h]
  omega
theorem exps_nil (a b : List Int) : exps a b 0 = [] := List.eq_nil_of_length_eq_zero (exps_length a b 0)
/-- A row of bytes without room behind them, in a block from lo on, or nil. -/
def Own2 (lo : Nat) (w : World) (vo : Option Addr) (n : Nat) (E : List Int) : Prop := (vo = none ∧ n = 0 ∧ E = []) ∨ ∃ R, vo = some ⟨R, 0, none⟩ ∧ lo ≤ R ∧ Blk w R 5 (u8s E) ∧ E.length = n
theorem Own2.later {lo : Nat} {w w' : World} {vo : Option Addr} {n : Nat} {E : List Int} (h : Own2 lo w vo n E) (l : Below w.heap.size w w') : Own2 lo w' vo n E := by
  rcases h with h | ⟨R, e, hlo, hb, hl⟩
  · exact .inl h
  · exact .inr ⟨R, e, hlo, hb.later l hb.lt, hl⟩
theorem Own2.kept {S : Nat → Prop} {lo : Nat} {w w' : World} {vo : Option Addr} {n : Nat} {E : List Int} (h : Own2 lo w vo n E) (k : Kept S w w') (hS : ∀ b, lo ≤ b → ¬ S b) : Own2 lo w' vo n E := by
  rcases h with h | ⟨R, e, hlo, hb, hl⟩
  · exact .inl h
  · exact .inr ⟨R, e, hlo, hb.kept k (hS R hlo), hl⟩
theorem Own2.seen {lo : Nat} {w : World} {vo : Option Addr} {n : Nat} {E : List Int} (h : Own2 lo w vo n E) (hb : Bytes E) (ht : n ≤ 140737488355328) : Seen w vo n E := by
  rcases h with ⟨rfl, rfl, rfl⟩ | ⟨R, rfl, hlo, hR, hl⟩
  · exact Seen.empty _ _
  · have hr : RowAt w R E := ⟨[], by rw [List.append_nil]; exact hR⟩
    have := Seen.of_row (n := n) hr (by omega) ht hb
    rwa [List.take_of_length_le (by omega)] at this
theorem Own2.up {lo lo' : Nat} {w : World} {vo : Option Addr} {n : Nat} {E : List Int} (h : Own2 lo' w vo n E) (hl : lo ≤ lo') : Own2 lo w vo n E := by
  rcases h with h | ⟨R, e, hlo, hb, hl'⟩
  · exact .inl h
  · exact .inr ⟨R, e, Nat.le_trans hl hlo, hb, hl'⟩
theorem Own2.lt {lo : Nat} {w : World} {vo : Option Addr} {n : Nat} {E : List Int} (h : Own2 lo w vo n E) : ∀ R, vo = some ⟨R, 0, none⟩ → R < w.heap.size := fun R e => by
  rcases h with ⟨rfl, _⟩ | ⟨R', rfl, _, hb, _⟩
  · cases e
  · cases e; exact hb.lt
def isEx (lo n : Nat) (c : Int) (E : List Int) (v : Value) (w : World) : Prop := ∃ vo, v = .tuple #[.slice vo n n, .int .i64 c] ∧ Own2 lo w vo n E
theorem isEx_later (lo n : Nat) (c : Int) (E : List Int) : ∀ v w w', Below w.heap.size w w' → isEx lo n c E v w → isEx lo n c E v w' := fun _ _ _ hb ⟨vo, e, h⟩ => ⟨vo, e, h.later hb⟩
theorem ex_out (prk : List Int) (hp : prk.length = 32) (hpb : Bytes prk) (io : Option Addr) (im ic : Nat) (info : List Int) (N : Int) (w : World) (hx : Seen w io im info) (hic : im ≤ ic) (hK : KTab w) :
    Calls Tryd.prog 25 #[.agg (u8s prk).toArray, .slice io im ic, .int .i64 N] w fun e w' => ∃ v, e = .returned v ∧ isEx w.heap.size (nE N) (ccE N 8160) (exps prk info (nE N)) v w' ∧ Below w.heap.size w w' := by
  by_cases h : ccE N 8160 = 0
  · have hN := nE_good h
    have hle := nE_le N
    rw [h]
    obtain ⟨n, hn⟩ : ∃ n, nE N = n := ⟨_, rfl⟩
    rw [hn] at hN hle ⊢
    subst hN
    refine (expand_any prk hp hpb io im ic info n hle w hx hic hK).mono ?_
    rintro e w1 ⟨R, rfl, hR, hb, l⟩
    exact ⟨_, rfl, ⟨_, rfl, .inr ⟨R, rfl, hR, hb, exps_length _ _ _⟩⟩, l⟩
  · have e0 : nE N = 0 := by unfold nE; rw [if_neg h]
    rw [e0]
    refine (expand_bad prk io im ic N w h).mono ?_
    rintro e w1 ⟨rfl, l⟩
    rw [exps_nil]
    exact ⟨_, rfl, ⟨none, rfl, .inl ⟨rfl, rfl, rfl⟩⟩, l⟩
theorem de_out (so : Option Addr) (sn sc : Nat) (salt : List Int) (xo : Option Addr) (xn xc : Nat) (sec : List Int) (io : Option Addr) (im ic : Nat) (info : List Int) (N : Int) (w : World) (hs : Seen w so sn salt) (hsc : sn ≤ sc) (hx : Seen w xo xn sec) (hxc : xn ≤ xc) (hi : Seen w io im info) (hic : im ≤ ic) (hK : KTab w) :
    Calls Tryd.prog 26 #[.slice so sn sc, .slice xo xn xc, .slice io im ic, .int .i64 N] w fun e w' => ∃ v, e = .returned v ∧ isEx w.heap.size (nE N) (ccE N 8160) (exps (mac salt sec) info (nE N)) v w' ∧ Below w.heap.size w w' := by
  by_cases h : ccE N 8160 = 0
  · have hN := nE_good h
    have hle := nE_le N
    rw [h]
    obtain ⟨n, hn⟩ : ∃ n, nE N = n := ⟨_, rfl⟩
    rw [hn] at hN hle ⊢
    subst hN
    refine (derive_any so sn sc salt xo xn xc sec io im ic info n hle w hs hsc hx hxc hi hic hK).mono ?_
    rintro e w1 ⟨R, rfl, hR, hb, l⟩
    exact ⟨_, rfl, ⟨_, rfl, .inr ⟨R, rfl, hR, hb, exps_length _ _ _⟩⟩, l⟩
  · have e0 : nE N = 0 := by unfold nE; rw [if_neg h]
    rw [e0]
    refine (derive_bad so sn sc salt xo xn xc sec io im ic N w hs hsc hx hxc hK h).mono ?_
    rintro e w1 ⟨rfl, l⟩
    rw [exps_nil]
    exact ⟨_, rfl, ⟨none, rfl, .inl ⟨rfl, rfl, rfl⟩⟩, l⟩
theorem rex_out (prk : List Int) (hp : prk.length = 32) (hpb : Bytes prk) (io : Option Addr) (im ic : Nat) (info : List Int) (N : Int) (w : World) (hx : Seen w io im info) (hic : io = none → ic = 0) (him : im ≤ 1048576) :
    Calls Tryd.prog 24 #[.agg (u8s prk).toArray, .slice io im ic, .int .i64 N] w fun e w' => ∃ vo cap, e = .returned (.slice vo (nE N) cap) ∧ Seen w' vo (nE N) (exps prk info (nE N)) ∧ Below w.heap.size w w' := by
  by_cases h : ccE N 8160 = 0
  · have hN := nE_good h
    have hle := nE_le N
    obtain ⟨n, hn⟩ : ∃ n, nE N = n := ⟨_, rfl⟩
    rw [hn] at hN hle ⊢
    subst hN
    exact rexpand_any prk hp hpb io im ic info n hle w hx hic him
  · have e0 : nE N = 0 := by unfold nE; rw [if_neg h]
    rw [e0]
    refine (rexpand_bad prk io im ic N w h).mono ?_
    rintro e w1 ⟨rfl, l⟩
    rw [exps_nil]
    exact ⟨none, 0, rfl, Seen.empty _ _, l⟩
theorem rsame_low (ao bo : Option Addr) (n c c' : Nat) (xs : List Int) (w : World) (hx : Seen w ao n xs) (hy : Seen w bo n xs) :
    Calls Tryd.prog 16 #[.slice ao n c, .slice bo n c'] w fun e w' => e = .returned (.bool true) ∧ Below w.heap.size w w' :=
  (rsame_yes ao bo n c c' xs w hx hy).mono fun e w' ⟨he, q, hq⟩ => ⟨he, by rw [hq]; exact below_dn (Below.refl _ _) q⟩
theorem sl_lent (g n c h : Nat) (hh : h ≤ c) (w : World) : (Instr.sliceAt 22 (.slice (some ⟨g, 0, none⟩) n c) none (some (.int .i64 h)) none).run Tryd.prog w = .ok (.slice (some ⟨g, 0, none⟩) h c) w := by
  rw [sl_h _ _ _ _ hh]
  congr 2
  unfold subA
  split <;> rfl
/-- Half turned: the first k bytes of info are turned. -/
def mixT (info : List Int) (k : Nat) : List Int := (turn 68 info).take k ++ info.drop k
theorem mixT_length (info : List Int) (k : Nat) (hk : k ≤ info.length) : (mixT info k).length = info.length := by simp [mixT, turn_length]; omega
theorem mixT_zero (info : List Int) : mixT info 0 = info := by simp [mixT]
theorem mixT_all (info : List Int) : mixT info info.length = turn 68 info := by simp [mixT, turn_length, List.take_of_length_le]
theorem mixT_at (info : List Int) (k : Nat) (hk : k < info.length) : (mixT info k ++ marks).getD k 0 = info.getD k 0 := by
  rw [getD_front _ _ _ (by rw [mixT_length _ _ (by omega)]; exact hk)]
  exact half_at _ _ info.length k (turn_length _ _) rfl hk
theorem mixT_set (info : List Int) (k : Nat) (hk : k < info.length) : (mixT info k ++ marks).set k (bits .xor .u8 (info.getD k 0) 68) = mixT info (k + 1) ++ marks := by
  rw [List.set_append_left _ _ (by rw [mixT_length _ _ (by omega)]; exact hk)]
  congr 1
  have e : bits .xor .u8 (info.getD k 0) 68 = (turn 68 info).getD k 0 := by simp [turn, List.getD, hk]
  rw [e]
  exact half_set _ _ info.length k (turn_length _ _) rfl hk
/-- What is known of the world W, from the world w on. -/
structure St (w W : World) (q gi gs gx : Nat) (wo : Option Addr) (n : Nat) (E prk inf : List Int) (so : Option Addr) (sn sc : Nat) (salt : List Int) (xo : Option Addr) (xn xc : Nat) (sec : List Int) (io : Option Addr) (im ic : Nat) (info : List Int) (N : Int) : Prop where
  dr : Blk W w.heap.size 51 (dC so sn sc xo xn xc io im ic N)
  pk : Blk W q 28 (u8s prk)
  wt : Seen W wo n E
  ri : RowAt W gi (inf ++ marks)
  rs : RowAt W gs (salt ++ marks)
  rx : RowAt W gx (sec ++ marks)
  d : Dr W so sn sc salt xo xn xc sec io im ic info
  k : KTab W
  bel : Below w.heap.size w W
theorem St.later {w W W' : World} {q gi gs gx : Nat} {wo : Option Addr} {n : Nat} {E prk inf : List Int} {so : Option Addr} {sn sc : Nat} {salt : List Int} {xo : Option Addr} {xn xc : Nat} {sec : List Int} {io : Option Addr} {im ic : Nat} {info : List Int} {N : Int}
    (s : St w W q gi gs gx wo n E prk inf so sn sc salt xo xn xc sec io im ic info N) (l : Below W.heap.size W W') : St w W' q gi gs gx wo n E prk inf so sn sc salt xo xn xc sec io im ic info N :=
  ⟨s.dr.later l s.dr.lt, s.pk.later l s.pk.lt, s.wt.later l (Nat.le_refl _), s.ri.later l (Nat.le_refl _), s.rs.later l (Nat.le_refl _), s.rx.later l (Nat.le_refl _), s.d.later l, s.k.below l s.k.lt, below_chain s.bel l s.bel.size⟩
theorem blk_all {W : World} {g : Nat} {t : TypeId} {vs : List Value} (h : Blk W g t vs) : W.rangeAt g 0 vs := fun j v hv => by rw [Nat.zero_add, h.cell]; exact hv
theorem wpList_load_g {ops : Array Oper} {rest : List Oper} {o : Oper} {a : Act} {Q : Exit → Act → World → Prop} {w : World} (hw : Region.wanted o (yielded ops a.tmps) = true) (t : TypeId) (x : Operand) (ho : o.op = .load t x) (g : Nat) (hx : a.eval x = .pointer (some ⟨g, 0, none⟩))
    (vs : List Value) (d : TypeDesc) (hb : Blk w g t vs) (hu : Tryd.prog.underlying t = some d) (hd : d.isRow = true) (hi : (Tryd.prog.info? t).map (·.size) = some vs.length)
    (h : wpList Tryd.prog ops Q rest (a.put o.dst (.agg vs.toArray)) w) : wpList Tryd.prog ops Q (o :: rest) a w :=
  wpList_step fun K hK => by
    simp only [hw, if_true]
    exact wp_load_mid t x ho g 0 hx vs d (fun j v hv => by rw [Nat.zero_add, hb.cell]; exact hv) hu hd hi (hK _ _ h)
theorem bs4 (a b c d : Option Addr) (n : Nat) (w : World) : (Instr.buildSlice 23 4 #[(0, .slice a n n), (1, .slice b n n), (2, .slice c n n), (3, .slice d n n)]).run Tryd.prog w = .ok (.slice (some ⟨w.heap.size, 0, none⟩) 4 4) (w.alloc (.cells #[.slice a n n, .slice b n n, .slice c n n, .slice d n n] 22)) := by kernel_rfl
theorem wpList_buildSlice {ops : Array Oper} {rest : List Oper} {o : Oper} {a : Act} {Q : Exit → Act → World → Prop} {w : World} (hgd : o.guard = none) (t : TypeId) (m : Nat) (parts : Array (Nat × Operand)) (ho : o.op = .buildSlice t m parts) (ps : Array (Nat × Value))
    (hp : (parts.map fun (i, x) => (i, a.eval x)) = ps) (v : Value) (w' : World) (hrun : (Instr.buildSlice t m ps).run Tryd.prog w = .ok v w') (h : wpList Tryd.prog ops Q rest (a.put o.dst v) w') : wpList Tryd.prog ops Q (o :: rest) a w := by
  refine wpList_plain hgd fun K hK => ?_
  unfold Oper.wp execOp
  simp only [ho, hp, Sem.run_bind, hrun, Sem.run_pure, Result.andThen_ok]
  exact hK _ _ h
theorem cell_four (w : World) (a b c d : Value) (t : TypeId) (j : Nat) (hj : j < 4) : (w.alloc (.cells #[a, b, c, d] t)).cell? ⟨w.heap.size, j, none⟩ = some ([a, b, c, d].getD j undef) := by
  have h : (w.alloc (.cells #[a, b, c, d] t)).heap[w.heap.size]? = some (.cells #[a, b, c, d] t (0, 0)) := heap_alloc_new w _
  rw [cell_of_row _ _ j _ t (0, 0) h]
  obtain rfl | rfl | rfl | rfl : j = 0 ∨ j = 1 ∨ j = 2 ∨ j = 3 := by omega
  all_goals rfl
def pick4 {α : Type} (a b c d : α) (j : Nat) : α := if j = 0 then a else if j = 1 then b else if j = 2 then c else d
theorem lot4 {W : World} {a b c d : Option Addr} {n l1 l2 l3 l4 : Nat} {E1 E2 E3 E4 : List Int} (h1 : Own2 l1 W a n E1) (h2 : Own2 l2 W b n E2) (h3 : Own2 l3 W c n E3) (h4 : Own2 l4 W d n E4)
    (u1 : ∀ R, a = some ⟨R, 0, none⟩ → R < l2) (u2 : ∀ R, b = some ⟨R, 0, none⟩ → R < l3) (u3 : ∀ R, c = some ⟨R, 0, none⟩ → R < l4) (o1 : l1 ≤ l2) (o2 : l2 ≤ l3) (o3 : l3 ≤ l4) :
    Lot (W.alloc (.cells #[.slice a n n, .slice b n n, .slice c n n, .slice d n n] 22)) W.heap.size 4 (pick4 a b c d) (fun _ => n) (fun j t => (pick4 E1 E2 E3 E4 j).getD t 0) := by
  have l : Below W.heap.size W (W.alloc (.cells #[.slice a n n, .slice b n n, .slice c n n, .slice d n n] 22)) := (Below.refl _ _).alloc (Nat.le_refl _) _
  have key : ∀ {lo : Nat} {vo : Option Addr} {E : List Int}, Own2 lo W vo n E → (vo = none → n = 0) ∧ ∀ t, t < n → ∃ g, vo = some ⟨g, 0, none⟩ ∧ g ≠ W.heap.size ∧ g < (W.alloc (.cells #[.slice a n n, .slice b n n, .slice c n n, .slice d n n] 22)).heap.size ∧ (W.alloc (.cells #[.slice a n n, .slice b n n, .slice c n n, .slice d n n] 22)).cell? ⟨g, t, none⟩ = some (.int .u8 (E.getD t 0)) ∧ (W.alloc (.cells #[.slice a n n, .slice b n n, .slice c n n, .slice d n n] 22)).frozen? ⟨g, t, none⟩ = false := fun h => by
    rcases h with ⟨rfl, rfl, rfl⟩ | ⟨R, rfl, hlo, hb, hl⟩
    · exact ⟨fun _ => rfl, fun t ht => by omega⟩
    · have hb2 := hb.later l hb.lt
      have := hb.lt
      exact ⟨(fun h => by cases h), fun t ht => ⟨R, rfl, by omega, hb2.lt, u8s_cell hb2 t (by omega), hb2.frozen t⟩⟩
  have low : ∀ {lo : Nat} {vo : Option Addr} {E : List Int}, Own2 lo W vo n E → 0 < n → ∀ R, vo = some ⟨R, 0, none⟩ → lo ≤ R := fun h h0 R e => by
    rcases h with ⟨rfl, h1, _⟩ | ⟨R', rfl, hlo, _⟩
    · omega
    · cases e; exact hlo
  refine ⟨by simp, fun j hj => ?_, fun j hj => ?_, fun j t hj ht => ?_, fun j j' g hj hj' p p' e e' => ?_⟩
  · rw [cell_four _ _ _ _ _ _ j hj]
    obtain rfl | rfl | rfl | rfl : j = 0 ∨ j = 1 ∨ j = 2 ∨ j = 3 := by omega
    all_goals rfl
  · obtain rfl | rfl | rfl | rfl : j = 0 ∨ j = 1 ∨ j = 2 ∨ j = 3 := by omega
    · exact (key h1).1
    · exact (key h2).1
    · exact (key h3).1
    · exact (key h4).1
  · obtain rfl | rfl | rfl | rfl : j = 0 ∨ j = 1 ∨ j = 2 ∨ j = 3 := by omega
    · exact (key h1).2 t ht
    · exact (key h2).2 t ht
    · exact (key h3).2 t ht
    · exact (key h4).2 t ht
  · have q1 : ∀ R, a = some ⟨R, 0, none⟩ → l1 ≤ R ∧ R < l2 := fun R e => ⟨low h1 p R e, u1 R e⟩
    have q2 : ∀ R, b = some ⟨R, 0, none⟩ → l2 ≤ R ∧ R < l3 := fun R e => ⟨low h2 p R e, u2 R e⟩
    have q3 : ∀ R, c = some ⟨R, 0, none⟩ → l3 ≤ R ∧ R < l4 := fun R e => ⟨low h3 p R e, u3 R e⟩
    have q4 : ∀ R, d = some ⟨R, 0, none⟩ → l4 ≤ R := fun R e => low h4 p R e
    have cs : ∀ j, j < 4 → pick4 a b c d j = some ⟨g, 0, none⟩ → (j = 0 ∧ l1 ≤ g ∧ g < l2) ∨ (j = 1 ∧ l2 ≤ g ∧ g < l3) ∨ (j = 2 ∧ l3 ≤ g ∧ g < l4) ∨ (j = 3 ∧ l4 ≤ g) := fun j hj e => by
      obtain rfl | rfl | rfl | rfl : j = 0 ∨ j = 1 ∨ j = 2 ∨ j = 3 := by omega
      · exact .inl ⟨rfl, q1 g e⟩
      · exact .inr (.inl ⟨rfl, q2 g e⟩)
      · exact .inr (.inr (.inl ⟨rfl, q3 g e⟩))
      · exact .inr (.inr (.inr ⟨rfl, q4 g e⟩))
    have c1 := cs j hj e
    have c2 := cs j' hj' e'
    omega
end Go.Proofs.YtiimjhahblmggaaDoor
