/- Layer host: HostHonest's round: the statement's own blocks beside the host. -/
import Derived.Test.YtobcolpdkcppoaaHHr
namespace Go.Proofs.Ytobcolpdkcppoaa
open Go.RowKit
set_option linter.unusedVariables false
set_option linter.unusedSimpArgs false

theorem info_rs : (Try.prog.info? 34).map (fun i => (i.zero, i.size, i.bytes)) = some (some (.agg (rsC default).toArray), 4, 48) := by kernel_rfl
theorem rsC_one (r : RS) : ∀ v ∈ rsC r, v.oneCell' = true := stC_one _ _ _
theorem build1_rs (r : RS) (w : World) : (Instr.buildSlice 23 1 #[(0, .agg (rsC r).toArray)]).run Try.prog w = .ok (.slice (some ⟨w.heap.size, 0, none⟩) 1 1) (w.alloc (.cells (rsC r).toArray 34)) := by kernel_rfl
/-- The append of a touch. -/
theorem Lst.log_run {w wr : World} {M : Nat → Prop} {rv lv : Value} {rs : List RS} {lg : List Tc} {lf : List Value} (x : Lst w wr M rv lv rs lg lf) (t : Tc) (ht : t.Good) (hM : ∀ j, M j → j < wr.heap.size) (hl : lg.length < 3000000000000) :
    ∃ v' w1, (Builtin.append_ #[41, 41] 41 #[lv, .slice (some ⟨wr.heap.size, 0, none⟩) 1 1]).run Try.prog (wr.alloc (.cells (tcC t).toArray 49)) = .ok v' w1 ∧ Lst w w1 M rv v' rs (lg ++ [t]) lf ∧ Kept (fun j => lv.ownBlock = some j) wr w1 := by
  obtain ⟨i0, hi, hz0, hz1, hz2⟩ := info_parts info_tc
  have b0 : Below wr.heap.size wr (wr.alloc (.cells (tcC t).toArray 49)) := (Below.refl _ _).alloc (Nat.le_refl _) _
  have bt : Blk (wr.alloc (.cells (tcC t).toArray 49)) wr.heap.size 49 (tcC t) := heap_alloc_new wr _
  have hs := x.life.lt
  obtain ⟨v', w', hr, hown, hg, _, hat⟩ := run_append_own_at (P := Try.prog) (wr.alloc (.cells (tcC t).toArray 49)) (w.heap.size + 1) 41 41 49 i0 (.agg (tcC default).toArray) 15 40 Try.underlying41 hi hz0 hz1 hz2 rfl (by decide) lv lg.length _ (x.later b0).log ⟨wr.heap.size, 0, none⟩ 1 1 (tcC t) (by rw [tcC_length ht])
    (fun j u hu => by rw [add_mid, Nat.zero_add, bt.cell]; exact hu) (tcC_one t) (by unfold maxLen; omega) (by omega) (by simp; omega)
  obtain ⟨y, k⟩ := x.logged t ht hM hown hg hat
  exact ⟨v', w', hr, y, k⟩
/-- The append of a step. -/
theorem Lst.row_run {w wr : World} {M : Nat → Prop} {rv lv : Value} {rs : List RS} {lg : List Tc} {lf : List Value} (x : Lst w wr M rv lv rs lg lf) (r : RS) (hr : Seen w r.a r.s.z.length r.s.z) (hM : ∀ j, M j → j < wr.heap.size) (hl : rs.length < 2932031007402) :
    ∃ v' w1, (Builtin.append_ #[23, 23] 23 #[rv, .slice (some ⟨wr.heap.size, 0, none⟩) 1 1]).run Try.prog (wr.alloc (.cells (rsC r).toArray 34)) = .ok v' w1 ∧ Lst w w1 M v' lv (rs ++ [r]) lg lf ∧ Kept (fun j => rv.ownBlock = some j) wr w1 ∧ ∀ g, g < wr.heap.size → rv.ownBlock ≠ some g → v'.ownBlock ≠ some g := by
  obtain ⟨i0, hi, hz0, hz1, hz2⟩ := info_parts info_rs
  have b0 : Below wr.heap.size wr (wr.alloc (.cells (rsC r).toArray 34)) := (Below.refl _ _).alloc (Nat.le_refl _) _
  have bt : Blk (wr.alloc (.cells (rsC r).toArray 34)) wr.heap.size 34 (rsC r) := heap_alloc_new wr _
  have hs := x.life.lt
  obtain ⟨v', w', hr', hown, hg, _, hat⟩ := run_append_own_at (P := Try.prog) (wr.alloc (.cells (rsC r).toArray 34)) (w.heap.size + 1) 23 23 34 i0 (.agg (rsC default).toArray) 4 48 Try.underlying23 hi hz0 hz1 hz2 rfl (by decide) rv rs.length _ (x.later b0).rows ⟨wr.heap.size, 0, none⟩ 1 1 (rsC r) (by rw [rsC_length])
    (fun j u hu => by rw [add_mid, Nat.zero_add, bt.cell]; exact hu) (rsC_one r) (by unfold maxLen; omega) (by omega) (by simp; omega)
  obtain ⟨y, k⟩ := x.wrote r hr hM hown hg hat
  refine ⟨v', w', hr', y, k, fun g hg2 hne e => ?_⟩
  rcases hat with e2 | e2
  · exact hne (e2 ▸ e)
  · rw [e2] at e
    have e3 : (wr.alloc (.cells (rsC r).toArray 34)).heap.size = g := Option.some.inj e
    simp at e3; omega

/-- Bytes that lay there at the call's begin, or an own new row of bytes. -/
def WantB (w wr : World) (v : Value) (z : List Int) : Prop := (∃ a c, v = .slice a z.length c ∧ Seen w a z.length z) ∨ AnsB w (fun _ => False) wr v z
theorem WantB.kept {w wr w1 : World} {S : Nat → Prop} {v : Value} {z : List Int} (x : WantB w wr v z) (k : Kept S wr w1) (hS : ∀ b vs, Blk wr b 5 vs → ¬ S b) : WantB w w1 v z := by
  rcases x with h | h
  · exact .inl h
  · exact .inr (h.kept k (fun b vs hb _ _ => hS b vs hb))
theorem WantB.seen {w wr : World} {v : Value} {z : List Int} (x : WantB w wr v z) (hb : Below w.heap.size w wr) : ∃ a c, v = .slice a z.length c ∧ Seen wr a z.length z := by
  rcases x with ⟨a, c, e, h⟩ | h
  · exact ⟨a, c, e, h.later hb (Nat.le_refl _)⟩
  · exact h.seen
/-- The round's own blocks: the step, what was told, what it should be. -/
structure Mid (w wr : World) (M : Nat → Prop) (h : Nat) (s : HSt) (rv lv : Value) (rs : List RS) (lg : List Tc) (lf : List Value) (g9 g11 g12 : Nat) (a b c : List Value) (gv : Value) (gz : List Int) (wv : Value) (wz : List Int) : Prop where
  lst : Lst w wr M rv lv rs lg lf
  host : HostAt wr M h s
  b9 : Blk wr g9 34 a
  b11 : Blk wr g11 43 b
  b12 : Blk wr g12 43 c
  n9 : ¬ M g9
  n11 : ¬ M g11
  n12 : ¬ M g12
  l9 : w.heap.size < g9
  l12 : w.heap.size < g12
  ne : g11 ≠ g12
  r9 : rv.ownBlock ≠ some g9
  got : AnsB w M wr gv gz
  wnt : WantB w wr wv wz
section
variable {w wr : World} {M : Nat → Prop} {h : Nat} {s : HSt} {rv lv : Value} {rs : List RS} {lg : List Tc} {lf : List Value} {g9 g11 g12 : Nat} {a b c : List Value} {gv : Value} {gz : List Int} {wv : Value} {wz : List Int} (x : Mid w wr M h s rv lv rs lg lf g9 g11 g12 a b c gv gz wv wz)
include x
theorem Mid.low : ∀ j, M j → j < wr.heap.size := x.host.all
theorem Mid.later {w1 : World} (l : Below wr.heap.size wr w1) : Mid w w1 M h s rv lv rs lg lf g9 g11 g12 a b c gv gz wv wz :=
  ⟨x.lst.later l, x.host.later l, x.b9.later l x.b9.lt, x.b11.later l x.b11.lt, x.b12.later l x.b12.lt, x.n9, x.n11, x.n12, x.l9, x.l12, x.ne, x.r9, x.got.kept (S := fun _ => False) (Kept.new _ l) (fun _ _ _ _ _ h => h), x.wnt.kept (S := fun _ => False) (Kept.new _ l) (fun _ _ _ h => h)⟩
theorem Mid.ans {w1 : World} (l : Below wr.heap.size wr w1) {v : Value} {z : List Int} (hw : WantB w w1 v z) : Mid w w1 M h s rv lv rs lg lf g9 g11 g12 a b c gv gz v z :=
  { x.later l with wnt := hw }
/-- A store into what it should be. -/
theorem Mid.want {w1 : World} {c' : List Value} (k : Kept (fun j => j = g12) wr w1) (hb : Blk w1 g12 43 c') : Mid w w1 M h s rv lv rs lg lf g9 g11 g12 a b c' gv gz wv wz := by
  refine ⟨x.lst.kept k (fun j e => by rw [e]; exact x.l12) (fun g hg e => ?_) (fun g hg e => ?_), hostAt_kept x.host k (fun j e hM => x.n12 (e ▸ hM)), x.b9.kept k (blk_ne x.b9 x.b12 (by decide)), x.b11.kept k x.ne, hb, x.n9, x.n11, x.n12, x.l9, x.l12, x.ne, x.r9, x.got.kept k (fun b vs hb _ _ => blk_ne hb x.b12 (by decide)), x.wnt.kept k (fun b vs hb => blk_ne hb x.b12 (by decide))⟩
  · obtain ⟨vs, hv⟩ := own_blk x.lst.rows hg
    exact blk_ne hv x.b12 (by decide) e
  · obtain ⟨vs, hv⟩ := own_blk x.lst.log hg
    exact blk_ne hv x.b12 (by decide) e
theorem Mid.set (j : Nat) (v : Value) : Mid w (wr.setCell ⟨g12, j, none⟩ v) M h s rv lv rs lg lf g9 g11 g12 a b (c.set j v) gv gz wv wz :=
  x.want ((Kept.refl (fun k => k = g12) wr).setCell (p := ⟨g12, j, none⟩) rfl _) (x.b12.set j v)
theorem Mid.logged (t : Tc) (ht : t.Good) (hl : lg.length < 3000000000000) :
    ∃ v' w1, (Builtin.append_ #[41, 41] 41 #[lv, .slice (some ⟨wr.heap.size, 0, none⟩) 1 1]).run Try.prog (wr.alloc (.cells (tcC t).toArray 49)) = .ok v' w1 ∧ Mid w w1 M h s rv v' rs (lg ++ [t]) lf g9 g11 g12 a b c gv gz wv wz ∧ Kept (fun j => lv.ownBlock = some j) wr w1 := by
  obtain ⟨v', w1, hr, y, k⟩ := x.lst.log_run t ht x.low hl
  have nb : ∀ {g : Nat} {ty : TypeId} {vs : List Value}, Blk wr g ty vs → ty ≠ 49 → ¬ lv.ownBlock = some g := fun hb hne e => by
    obtain ⟨us, hv⟩ := own_blk x.lst.log e
    exact blk_ne hb hv hne rfl
  exact ⟨v', w1, hr, ⟨y, hostAt_kept x.host k (fun j e => x.lst.nl j e), x.b9.kept k (nb x.b9 (by decide)), x.b11.kept k (nb x.b11 (by decide)), x.b12.kept k (nb x.b12 (by decide)), x.n9, x.n11, x.n12, x.l9, x.l12, x.ne, x.r9, x.got.kept k (fun b vs hb _ _ => nb hb (by decide)), x.wnt.kept k (fun b vs hb => nb hb (by decide))⟩, k⟩
theorem Mid.wrote (r : RS) (hr : Seen w r.a r.s.z.length r.s.z) (hl : rs.length < 2932031007402) :
    ∃ v' w1, (Builtin.append_ #[23, 23] 23 #[rv, .slice (some ⟨wr.heap.size, 0, none⟩) 1 1]).run Try.prog (wr.alloc (.cells (rsC r).toArray 34)) = .ok v' w1 ∧ Mid w w1 M h s v' lv (rs ++ [r]) lg lf g9 g11 g12 a b c gv gz wv wz ∧ Kept (fun j => rv.ownBlock = some j) wr w1 := by
  obtain ⟨v', w1, hr, y, k, hn⟩ := x.lst.row_run r hr x.low hl
  have nb : ∀ {g : Nat} {ty : TypeId} {vs : List Value}, Blk wr g ty vs → ty ≠ 34 → ¬ rv.ownBlock = some g := fun hb hne e => by
    obtain ⟨us, hv⟩ := own_blk x.lst.rows e
    exact blk_ne hb hv hne rfl
  have b9 := x.b9.kept k x.r9
  exact ⟨v', w1, hr, ⟨y, hostAt_kept x.host k (fun j e => x.lst.nr j e), b9, x.b11.kept k (nb x.b11 (by decide)), x.b12.kept k (nb x.b12 (by decide)), x.n9, x.n11, x.n12, x.l9, x.l12, x.ne, hn g9 x.b9.lt x.r9, x.got.kept k (fun b vs hb _ _ => nb hb (by decide)), x.wnt.kept k (fun b vs hb => nb hb (by decide))⟩, k⟩
end
/-- At the switch. -/
theorem mid_mk {w wr w5 w6 w8 w10 : World} {M M2 : Nat → Prop} {h : Nat} {s s' : HSt} {rv lv : Value} {rs : List RS} {lg : List Tc} {lf a b c : List Value} {gv : Value} {gz : List Int} (L : Lst w wr M rv lv rs lg lf) (x : HostAt wr M h s) (l5 : Below wr.heap.size wr w5) (b5 : Blk w5 wr.heap.size 34 a) (a6 : AnsB w5 M2 w6 gv gz) (y6 : HostAt w6 M2 h s') (go6 : Goes M M2 w5 w6) (l8 : Below w6.heap.size w6 w8) (b8 : Blk w8 w6.heap.size 43 b) (l10 : Below w8.heap.size w8 w10) (b10 : Blk w10 w8.heap.size 43 c) :
    Mid w w10 M2 h s' rv lv rs lg lf wr.heap.size w6.heap.size w8.heap.size a b c gv gz (.slice none 0 0) [] := by
  have n9 : ¬ M wr.heap.size := fun e => by have := x.all _ e; omega
  obtain ⟨b6, n6⟩ := go6.blk b5 n9
  have lw := L.life.lt
  have g5 := b5.lt
  have g6 := b6.lt
  have g8 := b8.lt
  have hl5 := l5.size
  have L10 := (((L.later l5).goes go6).later l8).later l10
  refine ⟨L10, (y6.later l8).later l10, (b6.later l8 g6).later l10 (b6.later l8 g6).lt, b8.later l10 g8, b10, n6, fun e => (by have := y6.all _ e; omega), fun e => (by have := y6.all _ e; omega), lw, by omega, by omega, fun e => (by have := (L.rows.lt _ e).2; omega), ?_, .inr (.inl ⟨rfl, rfl⟩)⟩
  have a7 : AnsB w5 M2 w10 gv gz := (a6.kept (S := fun _ => False) (Kept.new _ l8) (fun _ _ _ _ _ h => h)).kept (S := fun _ => False) (Kept.new _ l10) (fun _ _ _ _ _ h => h)
  rcases a7 with e | ⟨g, e1, e2, e3, e4, e5⟩
  · exact .inl e
  · exact .inr ⟨g, e1, e2, e3, by omega, e5⟩
/-- Behind the switch. -/
def CutR (w : World) (M2 : Nat → Prop) (h : Nat) (s : HSt) (t : Stp1) (P Z k : Nat) (lf : List Value) (g9 g11 g12 : Nat) (a b : List Value) (gv : Value) (rv' lv' rg' : Value) (wc : World) : Prop :=
  ∃ (rv2 lv2 : Value) (rs' : List RS) (wv : Value), rv2 = rv' ∧ lv2 = lv' ∧ rg' = .int .u64 (tdS s t).reg ∧ Hon (tdS s t) P Z rs' ∧ rs'.length ≤ k + 1 ∧ (tdS s t).ops = (tdS s t).log.length ∧ (tdS s t).ops ≤ k + 1 ∧
    Mid w wc M2 h (tdS s t) rv2 lv2 rs' (tdS s t).log lf g9 g11 g12 a b (tdC wv (tdV s t) (tdE s t)) gv (tdB s t) wv (tdB s t)
theorem cut_mk {w wc : World} {M2 : Nat → Prop} {h : Nat} {s : HSt} {t : Stp1} {P Z k : Nat} {lf : List Value} {g9 g11 g12 : Nat} {a b : List Value} {gv rv lv rg wv : Value} {rs rs' : List RS} {reg V E : Int} {lg : List Tc} {B : List Int} (ST : Stepped s t P Z rs rs' reg lg B V E) (ho : s.ops = s.log.length) (hk : s.ops ≤ k) (hlg : lg.length ≤ 1) (hl : rs'.length ≤ k + 1) (hg : rg = .int .u64 reg)
    (m : Mid w wc M2 h (tdS s t) rv lv rs' (s.log ++ lg) lf g9 g11 g12 a b (tdC wv V E) gv (tdB s t) wv B) : CutR w M2 h s t P Z k lf g9 g11 g12 a b gv rv lv rg wc := by
  refine ⟨rv, lv, rs', wv, rfl, rfl, by rw [hg, ST.reg], ST.hon, hl, ?_, ?_, ?_⟩
  · rw [ST.ops, ST.log, List.length_append, ho]
  · rw [ST.ops]; omega
  · rw [ST.log, ST.v, ST.e]
    have e := ST.b
    rw [← e] at m
    exact m
theorem want_of {w w10 w11 : World} (hb : Below w.heap.size w w10) {l : List RS} (hs : ∀ r ∈ l, Seen w r.a r.s.z.length r.s.z) {a : Option Addr} {c : Nat} {z : List Int} (o : (∃ r ∈ l, r.a = a ∧ z = r.s.z) ∨ AnsB w10 (fun _ => False) w11 (.slice a z.length c) z) : WantB w w11 (.slice a z.length c) z := by
  rcases o with ⟨r, hr, rfl, rfl⟩ | o
  · exact .inl ⟨_, _, rfl, hs r hr⟩
  · rcases o with e | ⟨g, e1, e2, e3, e4, e5⟩
    · exact .inr (.inl e)
    · exact .inr (.inr ⟨g, e1, e2, e3, Nat.le_trans hb.size e4, e5⟩)
theorem Mid.nil {w wr : World} {M : Nat → Prop} {h : Nat} {s : HSt} {rv lv : Value} {rs : List RS} {lg : List Tc} {lf : List Value} {g9 g11 g12 : Nat} {a b c : List Value} {gv : Value} {gz : List Int} {wv : Value} {wz : List Int} (x : Mid w wr M h s rv lv rs lg lf g9 g11 g12 a b c gv gz wv wz) : Mid w wr M h s rv lv rs lg lf g9 g11 g12 a b c gv gz (.slice none 0 0) [] :=
  { x with wnt := .inr (.inl ⟨rfl, rfl⟩) }
theorem TcS.same {w w' : World} {v : Value} {l : List Tc} (x : TcS w v l) (hs : w.heap.size ≤ w'.heap.size) (hb : ∀ g, g < w.heap.size → w'.heap[g]? = w.heap[g]?) : TcS w' v l := by
  obtain ⟨hg, a, c, e, hx⟩ := x
  refine ⟨hg, a, c, e, fun i hi => ?_⟩
  obtain ⟨g, o, h1, h2, h3⟩ := hx i hi
  exact ⟨g, o, h1, by omega, rangeAt_same h3 (hb g h2)⟩
theorem TcS.later {w w' : World} {v : Value} {l : List Tc} (x : TcS w v l) (hb : Below w.heap.size w w') : TcS w' v l := x.same hb.size hb.block
theorem TcS.len {w : World} {a : Option Addr} {n c : Nat} {l : List Tc} (x : TcS w (.slice a n c) l) : n = l.length := by
  obtain ⟨_, _, _, e, _⟩ := x
  cases e; rfl
theorem Mid.side {w wr w1 : World} {M : Nat → Prop} {h : Nat} {s : HSt} {rv lv : Value} {rs : List RS} {lg : List Tc} {lf : List Value} {g9 g11 g12 g13 : Nat} {a b c vs : List Value} {gv : Value} {gz : List Int} {wv : Value} {wz : List Int} (x : Mid w wr M h s rv lv rs lg lf g9 g11 g12 a b c gv gz wv wz) (k : Kept (fun j => j = g13) wr w1) (hb : Blk wr g13 49 vs) (hM : ¬ M g13) (hlv : lv.ownBlock ≠ some g13) (hgt : w.heap.size < g13) : Mid w w1 M h s rv lv rs lg lf g9 g11 g12 a b c gv gz wv wz := by
  refine ⟨x.lst.kept k (fun j e => by rw [e]; exact hgt) (fun g hg e => ?_) (fun g hg e => hlv (e ▸ hg)), hostAt_kept x.host k (fun j e hj => hM (e ▸ hj)), x.b9.kept k (blk_ne x.b9 hb (by decide)), x.b11.kept k (blk_ne x.b11 hb (by decide)), x.b12.kept k (blk_ne x.b12 hb (by decide)), x.n9, x.n11, x.n12, x.l9, x.l12, x.ne, x.r9, x.got.kept k (fun g us hg _ _ => blk_ne hg hb (by decide)), x.wnt.kept k (fun g us hg => blk_ne hg hb (by decide))⟩
  obtain ⟨us, hv⟩ := own_blk x.lst.rows hg
  exact blk_ne hv hb (by decide) e
def hdL (zs : List Int) (j : Nat) : List Int := zs.take j ++ List.replicate (12 - j) 0
theorem hdL_length (zs : List Int) (j : Nat) (h1 : j ≤ 12) (h2 : j ≤ zs.length) : (hdL zs j).length = 12 := by simp [hdL]; omega
theorem hdL_set (zs : List Int) (j : Nat) (h1 : j < 12) (h2 : j < zs.length) : (hdL zs j).set j (zs.getD j 0) = hdL zs (j + 1) := by
  have e : (zs.take j).length = j := by simp; omega
  have g : zs.getD j 0 = zs[j] := by simp [List.getD, h2]
  rw [g]
  unfold hdL
  rw [List.take_succ_eq_append_getElem h2, List.append_assoc, show 12 - j = (12 - (j + 1)) + 1 by omega, List.replicate_succ]
  have := List.set_append_right (s := zs.take j) (t := (0 : Int) :: List.replicate (12 - (j + 1)) 0) (i := j) (x := zs[j]) (by omega)
  rw [this, e, Nat.sub_self]
  rfl
theorem hdL_done (zs : List Int) (j : Nat) (h : (j = 12 ∧ 12 ≤ zs.length) ∨ (j = zs.length ∧ zs.length < 12)) : hdL zs j = headL zs := by
  unfold hdL headL
  rcases h with ⟨rfl, h⟩ | ⟨rfl, h⟩
  · rw [show 12 - zs.length = 0 by omega]
  · rw [List.take_of_length_le (Nat.le_refl _), List.take_of_length_le (by omega)]
theorem tcC_set (p z : Int) (zs : List Int) (j : Nat) (h1 : j < 12) (h2 : j < zs.length) : (tcC ⟨1, p, z, hdL zs j⟩).set (3 + j) (.int .u8 (zs.getD j 0)) = tcC ⟨1, p, z, hdL zs (j + 1)⟩ := by
  rw [← hdL_set zs j h1 h2]
  unfold tcC
  rw [Nat.add_comm]
  simp [u8s, List.map_set]
theorem tcC_at (p z : Int) (zs : List Int) (j : Nat) (h1 : j < 12) (h2 : j < zs.length) : ∃ v, (tcC ⟨1, p, z, hdL zs j⟩)[3 + j]? = some v :=
  ⟨_, List.getElem?_eq_getElem (by rw [tcC_length (show (Tc.mk 1 p z (hdL zs j)).Good from hdL_length zs j (by omega) (by omega))]; omega)⟩
theorem build_t3 (op p z : Int) (w : World) : (Instr.build 49 #[(0, .int .i64 op), (1, .int .i64 p), (2, .int .i64 z)]).run Try.prog w = .ok (.agg (tcC ⟨op, p, z, List.replicate 12 0⟩).toArray) w := by kernel_rfl
theorem build_t2 (op : Int) (w : World) : (Instr.build 49 #[(0, .int .i64 op), (2, .int .i64 8)]).run Try.prog w = .ok (.agg (tcC (tcA op)).toArray) w := by kernel_rfl
end Go.Proofs.Ytobcolpdkcppoaa
