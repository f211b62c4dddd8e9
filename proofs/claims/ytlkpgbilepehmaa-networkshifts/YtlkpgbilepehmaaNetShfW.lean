/- Layer network: NetworkShifts, the walk. -/
import Derived.Test.YtlkpgbilepehmaaNetSrtW
import Derived.Test.YtlkpgbilepehmaaRShf
namespace Go.Proofs.Ytlkpgbilepehmaa
open Go.RowKit
set_option linter.unusedVariables false
set_option linter.unusedSimpArgs false

theorem aN_le (n : Nat) (zs : List Int) (hl : zs.length = n) : (aN n zs).length ≤ 65536 := by
  unfold aN
  by_cases h : n ≤ 65536
  · rw [if_pos h]; omega
  · rw [if_neg h]; exact Nat.zero_le _
theorem rw_seen {w : World} {B k c : Nat} {ao : Option Addr} {l : List Int} (hl : l.length = k) (h : w.ownsRow B 3 1 (.slice ao k c) k (l.map (Value.int .i64))) : SeenZ w ao k l := by
  subst hl
  obtain ⟨a, c2, e, hs⟩ := own_z h
  simp only [Value.slice.injEq] at e
  rw [e.1]; exact hs
structure Gx (w W : World) (gx cx : Nat) (us : List Int) : Prop where
  bel : Below w.heap.size w W
  row : RowI W gx cx (us ++ mk3)
  ge : w.heap.size ≤ gx
theorem Gx.kept {S : Nat → Prop} {w W W' : World} {gx cx : Nat} {us : List Int} (h : Gx w W gx cx us) (hk : Kept S W W') (hS : ∀ k, S k → w.heap.size ≤ k ∧ k ≠ gx) : Gx w W' gx cx us :=
  ⟨⟨hk.os.trans h.bel.os, hk.tape.trans h.bel.tape, hk.output.trans h.bel.output, Nat.le_trans h.bel.size hk.size, fun k hlt => (hk.block k (by have := h.bel.size; omega) (fun e => by have := (hS k e).1; omega)).trans (h.bel.block k hlt)⟩,
    h.row.block (hk.block gx h.row.lt (fun e => (hS gx e).2 rfl)), h.ge⟩
theorem Gx.seen {w W : World} {gx cx n : Nat} {us : List Int} (h : Gx w W gx cx us) (hl : us.length = n) : SeenZ W (some ⟨gx, 0, none⟩) n us :=
  ⟨hl, fun h0 => ⟨gx, 0, rfl, h.row.lt, fun i hi => by
    rw [Nat.zero_add, h.row.cell i (by simp; omega)]
    congr 2
    simp [List.getD, List.getElem?_append, hl, hi]⟩⟩
theorem Gx.mark {w W : World} {gx cx n : Nat} {us : List Int} (h : Gx w W gx cx us) (hl : us.length = n) : W.cell? ⟨gx, n, none⟩ = some (.int .i64 (-7)) ∧ W.cell? ⟨gx, n + 1, none⟩ = some (.int .i64 (-8)) ∧ W.cell? ⟨gx, n + 2, none⟩ = some (.int .i64 (-9)) := by
  subst hl
  refine ⟨?_, ?_, ?_⟩ <;> rw [h.row.cell _ (by simp [mk3])] <;> simp [mk3, List.getD, List.getElem?_append]
theorem Gx.set {w W : World} {gx cx : Nat} {us : List Int} (h : Gx w W gx cx us) (t : Nat) (ht : t < us.length) (z : Int) : Gx w (W.setCell ⟨gx, t, none⟩ (.int .i64 z)) gx cx (us.set t z) := by
  refine ⟨h.bel.setCell (p := ⟨gx, t, none⟩) h.ge _, ?_, h.ge⟩
  have := h.row.set t (by simp; omega) z
  rwa [List.set_append_left _ _ ht] at this
theorem Rw.kept {S : Nat → Prop} {w W W' : World} {ao : Option Addr} {k c : Nat} {l : List Int} (h : Rw w W ao k c l) (hk : Kept S W W') (hS : ∀ b, S b → ao ≠ some ⟨b, 0, none⟩) : Rw w W' ao k c l :=
  h.block fun g hg => hk.block g (h.own.lt g (by rw [hg]; rfl)).2 (fun e => hS g e hg)
theorem kept_below {S : Nat → Prop} {W W' : World} (h : Below W.heap.size W W') : Kept S W W' := ⟨h.os, h.tape, h.output, h.size, fun k hk _ => h.block k hk⟩
theorem made_g {w w1 w2 : World} {n : Nat} {zs : List Int} {v1 v2 : Value} {ob : Obj} (hl : zs.length = n) (b1 : Below w.heap.size w w1)
    (o1 : w1.ownsRow w.heap.size 3 1 v1 n (zs.map (Value.int .i64))) (g2 : (w1.alloc ob).grownBy w2 v1.ownBlock) (o2 : w2.ownsRow w.heap.size 3 1 v2 (n + 3) (zs.map (Value.int .i64) ++ [.int .i64 (-7), .int .i64 (-8), .int .i64 (-9)])) :
    ∃ gx cx, v2 = .slice (some ⟨gx, 0, none⟩) (n + 3) cx ∧ n + 3 ≤ cx ∧ cx ≤ maxLen ∧ Gx w w2 gx cx zs := by
  have e : zs.map (Value.int .i64) ++ [.int .i64 (-7), .int .i64 (-8), .int .i64 (-9)] = (zs ++ mk3).map (Value.int .i64) := by simp [mk3]
  rw [e] at o2
  obtain ⟨gx, cx, rfl, hg, hc, hr⟩ := own_rowI o2 (by omega)
  have hb : Below w.heap.size w w2 := (b1.alloc b1.size _).grown g2 (by have := b1.size; simp; omega) (fun j hj => (o1.lt j hj).1)
  have hle := hr.le
  exact ⟨gx, cx, rfl, by simp [mk3] at hle; omega, hc, hb, hr, hg⟩
/-- What stands beside one another: the list that was made, the document's answer, two of the program's, and what was asked. -/
structure Qk (w W : World) (gx cx : Nat) (us : List Int) (a3 a4 a5 : Option Addr) (k c3 c4 c5 : Nat) (l : List Int) (A : Nat) (v : Value) (lq : List Int) : Prop where
  gx : Gx w W gx cx us
  r3 : Rw w W a3 k c3 l
  r4 : Rw w W a4 k c4 l
  r5 : Rw w W a5 k c5 l
  ask : Ask W A v lq
theorem Qk.kept {S : Nat → Prop} {w W W' : World} {gx cx : Nat} {us : List Int} {a3 a4 a5 : Option Addr} {k c3 c4 c5 : Nat} {l : List Int} {A : Nat} {v : Value} {lq : List Int} (h : Qk w W gx cx us a3 a4 a5 k c3 c4 c5 l A v lq) (hk : Kept S W W')
    (hS : ∀ b, S b → w.heap.size ≤ b ∧ b ≠ gx ∧ a3 ≠ some ⟨b, 0, none⟩ ∧ a4 ≠ some ⟨b, 0, none⟩ ∧ a5 ≠ some ⟨b, 0, none⟩ ∧ b ≠ A ∧ v.ownBlock ≠ some b) : Qk w W' gx cx us a3 a4 a5 k c3 c4 c5 l A v lq :=
  ⟨h.gx.kept hk (fun b hb => ⟨(hS b hb).1, (hS b hb).2.1⟩), h.r3.kept hk (fun b hb => (hS b hb).2.2.1), h.r4.kept hk (fun b hb => (hS b hb).2.2.2.1), h.r5.kept hk (fun b hb => (hS b hb).2.2.2.2.1), h.ask.kept hk (fun e => (hS A e).2.2.2.2.2.1 rfl) (fun b hb e => (hS b e).2.2.2.2.2.2 hb)⟩
theorem Qk.later {w W W' : World} {gx cx : Nat} {us : List Int} {a3 a4 a5 : Option Addr} {k c3 c4 c5 : Nat} {l : List Int} {A : Nat} {v : Value} {lq : List Int} (h : Qk w W gx cx us a3 a4 a5 k c3 c4 c5 l A v lq) (hb : Below W.heap.size W W') : Qk w W' gx cx us a3 a4 a5 k c3 c4 c5 l A v lq :=
  h.kept (S := fun _ => False) (kept_below hb) (fun _ e => e.elim)
/-- In blocks that are apart: the list's own copy from all else. -/
structure Apq (w : World) (gx : Nat) (a3 a4 a5 a6 : Option Addr) (A : Nat) (v : Value) : Prop where
  x3 : ∀ b, a3 = some ⟨b, 0, none⟩ → b ≠ gx ∧ a6 ≠ some ⟨b, 0, none⟩
  x4 : ∀ b, a4 = some ⟨b, 0, none⟩ → b ≠ gx ∧ a6 ≠ some ⟨b, 0, none⟩
  x5 : ∀ b, a5 = some ⟨b, 0, none⟩ → b ≠ gx ∧ a6 ≠ some ⟨b, 0, none⟩
  x6 : ∀ b, a6 = some ⟨b, 0, none⟩ → b ≠ gx ∧ w.heap.size ≤ b ∧ b ≠ A
  xv : ∀ b, v.ownBlock = some b → b ≠ gx ∧ a6 ≠ some ⟨b, 0, none⟩
  xA : A ≠ gx
theorem kept_cell (W : World) (b o : Nat) (u : Value) : Kept (fun k => k = b) W (W.setCell ⟨b, o, none⟩ u) := (Kept.refl (fun k => k = b) W).setCell (p := ⟨b, o, none⟩) rfl u
theorem both_setQ {w W : World} {gx cx n c6 : Nat} {us : List Int} {a3 a4 a5 : Option Addr} {g6 k c3 c4 c5 : Nat} {l : List Int} {A : Nat} {v : Value} {lq : List Int} (h : Qk w W gx cx us a3 a4 a5 k c3 c4 c5 l A v lq) (h6 : Rw w W (some ⟨g6, 0, none⟩) n c6 us) (ha : Apq w gx a3 a4 a5 (some ⟨g6, 0, none⟩) A v) (t : Nat) (ht : t < n) (z : Int) :
    Qk w ((W.setCell ⟨gx, t, none⟩ (.int .i64 z)).setCell ⟨g6, t, none⟩ (.int .i64 z)) gx cx (us.set t z) a3 a4 a5 k c3 c4 c5 l A v lq ∧ Rw w ((W.setCell ⟨gx, t, none⟩ (.int .i64 z)).setCell ⟨g6, t, none⟩ (.int .i64 z)) (some ⟨g6, 0, none⟩) n c6 (us.set t z) ∧
      (W.setCell ⟨gx, t, none⟩ (.int .i64 z)).cell? ⟨g6, t, none⟩ = some (.int .i64 (us.getD t 0)) ∧ (W.setCell ⟨gx, t, none⟩ (.int .i64 z)).frozen? ⟨g6, t, none⟩ = false := by
  have hl := h6.len
  have hx := ha.x6 g6 rfl
  have k1 := kept_cell W gx t (.int .i64 z)
  have h6' : Rw w (W.setCell ⟨gx, t, none⟩ (.int .i64 z)) (some ⟨g6, 0, none⟩) n c6 us := h6.kept k1 (fun b hb e => by cases e; exact hx.1 hb)
  have h1 : Qk w (W.setCell ⟨gx, t, none⟩ (.int .i64 z)) gx cx (us.set t z) a3 a4 a5 k c3 c4 c5 l A v lq :=
    ⟨h.gx.set t (by omega) z, h.r3.kept k1 (fun b hb e => (ha.x3 b e).1 hb), h.r4.kept k1 (fun b hb e => (ha.x4 b e).1 hb), h.r5.kept k1 (fun b hb e => (ha.x5 b e).1 hb), h.ask.kept k1 ha.xA (fun b hb e => (ha.xv b hb).1 e)⟩
  have k2 := kept_cell (W.setCell ⟨gx, t, none⟩ (.int .i64 z)) g6 t (.int .i64 z)
  refine ⟨h1.kept k2 (fun b hb => ?_), ⟨own_set h6'.own t ht z, by simp [hl]⟩, own_at h6'.own t ht⟩
  have hb : b = g6 := hb
  subst hb
  exact ⟨hx.2.1, hx.1, fun e => (ha.x3 b e).2 rfl, fun e => (ha.x4 b e).2 rfl, fun e => (ha.x5 b e).2 rfl, hx.2.2, fun e => (ha.xv b e).2 rfl⟩
set_option maxRecDepth 100000 in
set_option maxHeartbeats 8000000 in
theorem shiftsLaw (ao : Option Addr) (n c : Nat) (zs : List Int) (w : World) (hs : SeenZ w ao n zs) (hn : n ≤ 17592186043904) :
    Calls Try.prog 7 #[.slice ao n c] w fun e w' => e = .returned (.bool true) ∧ Below w.heap.size w w' := by
  obtain ⟨i0, hi, hz0, hz1, hz2⟩ := info_parts info_int
  have hk := kN_le n
  have HS : Hid (SeenZ w ao n zs) := hs
  clear hs
  go_enter Try.func7, Try.ntmps7
  go_wp2_with (first
    | (go_at_call 19; refine (copyInts_any ao n c zs w HS.out (by omega)).mono ?_; rintro e w1 ⟨v1, rfl, o1, b1⟩; have hb1 := b1.size)
    | (at_builtin; refine wpList_append_own _ rfl _ _ 44 rfl w.heap.size 3 i0 (.int .i64 0) 1 8 Try.underlying44 hi hz0 hz1 hz2 rfl (by decide) _ n _ rfl (o1.alloc _) ⟨w1.heap.size, 0, none⟩ 3 3 [.int .i64 (-7), .int .i64 (-8), .int .i64 (-9)] rfl rfl (cell_three_new _ _ _ _ _) (by simp [Value.oneCell']) (by simp only [maxLen]; omega) (by omega) (by simp; omega) ?_; intro v2 w2 o2 g2 hj3; clear hj3; obtain ⟨gx, cx, rfl, hcx, hcm, fx⟩ := made_g HS.out.len b1 o1 g2 o2; have HG2 : Hid (Gx w w2 gx cx zs) := fx; clear o1 o2 g2 b1 fx))
  have HN0 : Hid (SeenZ w ao n zs ∧ zs.length = n) := ⟨HS.out, HS.out.len⟩
  obtain ⟨A, hA⟩ : ∃ A, w2.heap.size = A := ⟨_, rfl⟩
  have bA0 : Boxed (w2.alloc (.cells #[.slice none 0 0] 44)) w2.heap.size 44 (.slice none 0 0) := Boxed.new w2 _ _
  have hG3 : Gx w (w2.alloc (.cells #[.slice none 0 0] 44)) gx cx zs := HG2.out.kept (S := fun _ => False) ((Kept.refl _ w2).alloc _) (fun _ e => e.elim)
  have hsz3 : (w2.alloc (.cells #[.slice none 0 0] 44)).heap.size = w2.heap.size + 1 := by simp
  have hgxA := HG2.out.row.lt
  obtain ⟨wb, hwb⟩ : ∃ wb, w2.alloc (.cells #[.slice none 0 0] 44) = wb := ⟨_, rfl⟩
  rw [hwb] at bA0 hG3 hsz3 ⊢
  rw [hA] at bA0 hsz3 hgxA ⊢
  have hAs0 : Ask wb A (.slice none 0 0) [] := ⟨bA0, World.ownsRow_nil _ _ _ _⟩
  have H3 : Hid (Gx w wb gx cx zs ∧ Ask wb A (.slice none 0 0) [] ∧ wb.heap.size = A + 1 ∧ gx < A ∧ w.heap.size ≤ gx) := ⟨hG3, hAs0, hsz3, hgxA, HG2.out.ge⟩
  have hcx2 : (n : Int) ≤ (cx : Int) := by omega
  clear hwb hA bA0 hG3 hsz3 hgxA hAs0 HG2
  refine (shifted_any ao n c zs wb (HS.out.later H3.out.1.bel (Nat.le_refl _)) hn).mono ?_
  rintro e w3 ⟨v3, rfl, o3, b3⟩
  obtain ⟨a3, c3, rfl, r3, p3⟩ := rw_of w o3 (sN_length n zs) H3.out.1.bel.size
  have HF3 : Hid (Gx w w3 gx cx zs ∧ Rw w w3 a3 (kN n) c3 (sN n zs) ∧ Ask w3 A (.slice none 0 0) [] ∧ A + 1 ≤ w3.heap.size ∧ ∀ g, a3 = some ⟨g, 0, none⟩ → A < g ∧ g < w3.heap.size) := ⟨H3.out.1.kept (S := fun _ => False) (kept_below b3) (fun _ e => e.elim), r3, H3.out.2.1.later b3, by have := b3.size; have := H3.out.2.2.1; omega, fun g e => by have := p3 g e; have := H3.out.2.2.1; omega⟩
  clear o3 b3 r3 p3
  go_wp2_with (fail)
  refine (shf_any ⟨gx, 0, none⟩ n cx A (.slice none 0 0) [] zs w3 (HF3.out.1.seen HS.out.len) HF3.out.2.2.1 (by simp)).mono ?_
  rintro e w4 ⟨v4, rfl, o4, va, hA4, hv4, k4⟩
  obtain ⟨a4, c4, rfl, r4, p4⟩ := rw_of w o4 (sN_length n zs) HF3.out.1.bel.size
  obtain ⟨q, hq⟩ : ∃ q, aN n zs = q := ⟨_, rfl⟩
  have hqn : (n ≤ 65536 → q = zs) ∧ (¬ n ≤ 65536 → q = []) ∧ q.length ≤ 65536 := by
    rw [← hq]; unfold aN
    refine ⟨fun h => if_pos h, fun h => if_neg h, ?_⟩
    split
    · have := HS.out.len; omega
    · simp
  simp only [List.nil_append] at hA4
  rw [hq] at hA4
  clear hq
  obtain ⟨nq, hnq⟩ : ∃ nq, q.length = nq := ⟨_, rfl⟩
  have oq := hA4.row
  rw [hnq] at oq
  obtain ⟨aq, cq, rfl⟩ := own_sl oq
  have HQ : Hid ((n ≤ 65536 → q = zs) ∧ (¬ n ≤ 65536 → q = []) ∧ q.length ≤ 65536 ∧ q.length = nq) := ⟨hqn.1, hqn.2.1, hqn.2.2, hnq⟩
  have HF4 : Hid (Gx w w4 gx cx zs ∧ Rw w w4 a3 (kN n) c3 (sN n zs) ∧ Rw w w4 a4 (kN n) c4 (sN n zs) ∧ Ask w4 A (.slice aq nq cq) q ∧ w3.heap.size ≤ w4.heap.size) := by
    have hS : ∀ b, AskS A (.slice none 0 0) b → b = A := fun b e => by rcases e with e | e; exact e; cases e
    exact ⟨HF3.out.1.kept k4 (fun b e => by rw [hS b e]; have := H3.out; exact ⟨by omega, by omega⟩), HF3.out.2.1.kept k4 (fun b e e2 => by have := HF3.out.2.2.2.2 b e2; rw [hS b e] at this; omega), r4, hA4, k4.size⟩
  have HP4 : Hid ((∀ g, a4 = some ⟨g, 0, none⟩ → w3.heap.size ≤ g ∧ g < w4.heap.size) ∧ ∀ b, (Value.slice aq nq cq).ownBlock = some b → w3.heap.size ≤ b ∧ b < w4.heap.size ∧ a4 ≠ some ⟨b, 0, none⟩) := by
    refine ⟨p4, fun b hb => ?_⟩
    rcases hv4 with h | h
    · rw [h] at hb; cases hb
    · exact ⟨(h b hb).1, (oq.lt b hb).2, fun e => (h b hb).2 (by rw [e]; rfl)⟩
  have cA := hA4.box.cell
  clear o4 r4 p4 hA4 hv4 k4 oq hqn hnq
  have hSq : SeenZ w4 aq nq q := by
    have h1 := HF4.out.2.2.2.1.row
    rw [HQ.out.2.2.2] at h1
    exact rw_seen HQ.out.2.2.2 h1
  have HSq : Hid (SeenZ w4 aq nq q) := hSq
  clear hSq
  by_cases hn6 : n ≤ 65536
  · have hi6 : (n : Int) ≤ 65536 := by omega
    have hi7 : ¬ (65536 : Int) < (n : Int) := by omega
    go_wp2_with (fail)
    refine (eqInts_yes aq ao nq n cq c zs w4 (by have h1 := HQ.out.1 hn6; have h2 := HSq.out; rw [h1] at h2; exact h2) (HS.out.later HF4.out.1.bel (Nat.le_refl _)) (by have := HQ.out.2; omega) (by omega)).mono ?_
    rintro e w5 ⟨rfl, b5⟩
    have HF5 : Hid (Gx w w5 gx cx zs ∧ Rw w w5 a3 (kN n) c3 (sN n zs) ∧ Rw w w5 a4 (kN n) c4 (sN n zs) ∧ Ask w5 A (.slice aq nq cq) q ∧ w4.heap.size ≤ w5.heap.size) :=
      ⟨HF4.out.1.kept (S := fun _ => False) (kept_below b5) (fun _ e => e.elim), HF4.out.2.1.later b5, HF4.out.2.2.1.later b5, HF4.out.2.2.2.1.later b5, b5.size⟩
    clear b5 cA
    go_wp2_with (fail)
    obtain ⟨va, hva⟩ : ∃ va, Value.slice aq nq cq = va := ⟨_, rfl⟩
    rw [hva] at HF5 HP4
    clear hva
    have HZ : Hid (w4.heap.size ≤ w5.heap.size) := HF5.out.2.2.2.2
    refine (shf_any ⟨gx, 0, none⟩ n cx A _ q zs w5 (HF5.out.1.seen HS.out.len) HF5.out.2.2.2.1 (by have := HQ.out.2.2.1; omega)).mono ?_
    rintro e w6 ⟨v6, rfl, o6, vb, hA6, hv6, k6⟩
    obtain ⟨a5, c5, rfl, r5, p5⟩ := rw_of w o6 (sN_length n zs) HF5.out.1.bel.size
    have HP6 : Hid ((∀ g, a5 = some ⟨g, 0, none⟩ → w5.heap.size ≤ g ∧ g < w6.heap.size) ∧ (∀ b, vb.ownBlock = some b → (w3.heap.size ≤ b ∧ b < w4.heap.size ∧ a4 ≠ some ⟨b, 0, none⟩) ∨ (w5.heap.size ≤ b ∧ b < w6.heap.size ∧ a5 ≠ some ⟨b, 0, none⟩)) ∧ w5.heap.size ≤ w6.heap.size) := by
      refine ⟨p5, fun b hb => ?_, k6.size⟩
      rcases hv6 with h | h
      · exact .inl (HP4.out.2 b (h ▸ hb))
      · exact .inr ⟨(h b hb).1, (hA6.row.lt b hb).2, fun e => (h b hb).2 (by rw [e]; rfl)⟩
    have HQ6 : Hid (Qk w w6 gx cx zs a3 a4 a5 (kN n) c3 c4 c5 (sN n zs) A vb (q ++ aN n zs)) := by
      have hS : ∀ b, AskS A va b → b = A ∨ (w3.heap.size ≤ b ∧ b < w4.heap.size ∧ a4 ≠ some ⟨b, 0, none⟩) := fun b e => by rcases e with e | e; exact .inl e; exact .inr (HP4.out.2 b e)
      have h3 := H3.out.2.2
      have h4 := HF3.out.2.2.2
      refine ⟨HF5.out.1.kept k6 (fun b e => ?_), HF5.out.2.1.kept k6 (fun b e e2 => ?_), HF5.out.2.2.1.kept k6 (fun b e e2 => ?_), r5, hA6⟩
      · rcases hS b e with h | h <;> exact ⟨by omega, by omega⟩
      · have := h4.2 b e2
        rcases hS b e with h | h <;> omega
      · have := HP4.out.1 b e2
        rcases hS b e with h | h
        · omega
        · exact h.2.2 e2
    clear o6 r5 p5 hA6 hv6 k6 HF5
    go_wp2_with (fail)
    refine (eqInts_yes a4 a3 (kN n) (kN n) c4 c3 (sN n zs) w6 HQ6.out.r4.seen HQ6.out.r3.seen (by omega) (by omega)).mono ?_
    rintro e w7 ⟨rfl, b7⟩
    have HQ7 : Hid (Qk w w7 gx cx zs a3 a4 a5 (kN n) c3 c4 c5 (sN n zs) A vb (q ++ aN n zs) ∧ w6.heap.size ≤ w7.heap.size) := ⟨HQ6.out.later b7, b7.size⟩
    clear b7 HQ6
    go_wp2_with (fail)
    refine (eqInts_yes a5 a3 (kN n) (kN n) c5 c3 (sN n zs) w7 HQ7.out.1.r5.seen HQ7.out.1.r3.seen (by omega) (by omega)).mono ?_
    rintro e w8 ⟨rfl, b8⟩
    have HQ8 : Hid (Qk w w8 gx cx zs a3 a4 a5 (kN n) c3 c4 c5 (sN n zs) A vb (q ++ aN n zs) ∧ w6.heap.size ≤ w8.heap.size) := ⟨HQ7.out.1.later b8, by have := HQ7.out.2; have := b8.size; omega⟩
    clear b8 HQ7
    go_wp2_with (fail)
    refine (eqInts_yes (some ⟨gx, 0, none⟩) ao n n cx c zs w8 (HQ8.out.1.gx.seen HS.out.len) (HS.out.later HQ8.out.1.gx.bel (Nat.le_refl _)) (by omega) (by omega)).mono ?_
    rintro e w9 ⟨rfl, b9⟩
    have HQ9 : Hid (Qk w w9 gx cx zs a3 a4 a5 (kN n) c3 c4 c5 (sN n zs) A vb (q ++ aN n zs) ∧ w6.heap.size ≤ w9.heap.size) := ⟨HQ8.out.1.later b9, by have := HQ8.out.2; have := b9.size; omega⟩
    clear b9 HQ8
    go_wp2_with (fail)
    refine (copyInts_any ao n c zs w9 (HS.out.later HQ9.out.1.gx.bel (Nat.le_refl _)) (by omega)).mono ?_
    rintro e w10 ⟨v10, rfl, o10, b10⟩
    obtain ⟨a6, c6, rfl, r6, p6⟩ := rw_of w o10 HS.out.len HQ9.out.1.gx.bel.size
    have HQ10 : Hid (Qk w w10 gx cx zs a3 a4 a5 (kN n) c3 c4 c5 (sN n zs) A vb (q ++ aN n zs) ∧ Rw w w10 a6 n c6 zs ∧ w6.heap.size ≤ w10.heap.size) := ⟨HQ9.out.1.later b10, r6, by have := HQ9.out.2; have := b10.size; omega⟩
    have HA6 : Hid (∀ g, a6 = some ⟨g, 0, none⟩ → w6.heap.size ≤ g) := fun g e => by have := p6 g e; have := HQ9.out.2; omega
    have HA : Hid (Apq w gx a3 a4 a5 a6 A vb) := by
      have h3 := H3.out.2.2
      have h4 := HF3.out.2.2.2
      have h5 := HF4.out.2.2.2.2
      have h6 := HP6.out
      have hz := HZ.out
      exact ⟨fun b e => ⟨by have := h4.2 b e; omega, fun e2 => by have := h4.2 b e; have := HA6.out b e2; omega⟩,
        fun b e => ⟨by have := HP4.out.1 b e; omega, fun e2 => by have := HP4.out.1 b e; have := HA6.out b e2; omega⟩,
        fun b e => ⟨by have := h6.1 b e; omega, fun e2 => by have := h6.1 b e; have := HA6.out b e2; omega⟩,
        fun b e => ⟨by have := HA6.out b e; omega, by have := HA6.out b e; omega, by have := HA6.out b e; omega⟩,
        fun b e => ⟨by rcases h6.2.1 b e with h | h <;> omega, fun e2 => by have := HA6.out b e2; rcases h6.2.1 b e with h | h <;> omega⟩, by omega⟩
    clear o10 b10 r6 p6 HQ9
    go_wp2_with (fail)
    go_loopw [10] (fun v wr => ∃ t : Nat, v = .int .i64 (t : Int) ∧ t ≤ n ∧ ∃ us : List Int, us.length = n ∧ Qk w wr gx cx us a3 a4 a5 (kN n) c3 c4 c5 (sN n zs) A vb (q ++ aN n zs) ∧ Rw w wr a6 n c6 us ∧ w6.heap.size ≤ wr.heap.size) (fun v _ => n - (intOf v).toNat)
    case atStart => exact ⟨0, rfl, by omega, zs, HS.out.len, HQ10.out.1, HQ10.out.2.1, HQ10.out.2.2⟩
    case round =>
      clear HQ10
      obtain ⟨t, rfl, ht, us, hul, hpk, hr6, hsz⟩ := hrel
      by_cases hlt : t < n
      · obtain ⟨g6, e6⟩ : ∃ g6, a6 = some ⟨g6, 0, none⟩ := by
          rcases hr6.own.2 with ⟨_, h0⟩ | ⟨g, cap, cur, e, _⟩
          · omega
          · simp only [Value.slice.injEq] at e; exact ⟨g, e.1⟩
        subst e6
        have c1 := hpk.gx.row.cell t (by simp; omega)
        have f1 := hpk.gx.row.frozen t
        obtain ⟨X, hX⟩ : ∃ X, us.getD t 0 = X := ⟨_, rfl⟩
        rw [show (us ++ mk3).getD t 0 = X from by rw [← hX]; simp [List.getD, List.getElem?_append, hul, hlt]] at c1
        have HB := fun z => both_setQ hpk hr6 HA.out t hlt z
        rw [hX] at HB
        have i1 : (0 : Int) ≤ (t : Int) := by omega
        have i2 : (t : Int) < (n : Int) := by omega
        have i3 : (t : Int) < ((n + 3 : Nat) : Int) := by omega
        obtain ⟨R, hR⟩ : ∃ R, (t : Int).tmod 2 = R := ⟨_, rfl⟩
        have hRb : 0 ≤ R ∧ R < 2 := by
          have h1 : (t : Int).tmod 2 = ((t % 2 : Nat) : Int) := by rw [show (2 : Int) = ((2 : Nat) : Int) from rfl, Int.ofNat_tmod]
          rw [h1] at hR; omega
        have hRw : wrap64 R = R := by simp [wrap64]; omega
        clear hpk hr6 hX
        go_wp2_with (fail)
        refine ⟨⟨t + 1, by simp, by omega, us.set t (bits BinOp.xor IntKind.i64 X R), by simp [hul], (HB _).1, (HB _).2.1, by simpa [World.setCell] using hsz⟩, ?_⟩
        simp [intOf]; omega
      · obtain rfl : t = n := by omega
        clear hlt ht
        obtain ⟨w11, hw11⟩ : ∃ w11, w11 = wr := ⟨_, rfl⟩
        rw [← hw11] at hpk hr6 hsz ⊢
        clear hw11
        have HP : Hid (Qk w w11 gx cx us a3 a4 a5 (kN t) c3 c4 c5 (sN t zs) A vb (q ++ aN t zs) ∧ Rw w w11 a6 t c6 us ∧ w6.heap.size ≤ w11.heap.size) := ⟨hpk, hr6, hsz⟩
        have HU : Hid (us.length = t) := hul
        clear hpk hr6 hsz hul
        go_wp2_with (fail)
        refine (shf_any ⟨gx, 0, none⟩ t cx A vb _ us w11 (HP.out.1.gx.seen HU.out) HP.out.1.ask (by have h1 := HQ.out.2.2.1; have h2 : (aN t zs).length ≤ 65536 := aN_le t zs HS.out.len; rw [List.length_append]; omega)).mono ?_
        rintro e w12 ⟨v12, rfl, o12, vc, hA12, hv12, k12⟩
        obtain ⟨a8, c8, rfl, r8, p8⟩ := rw_of w o12 (sN_length t us) HP.out.1.gx.bel.size
        have HP2 : Hid (Gx w w12 gx cx us ∧ Rw w w12 a3 (kN t) c3 (sN t zs) ∧ Rw w w12 a4 (kN t) c4 (sN t zs) ∧ Rw w w12 a5 (kN t) c5 (sN t zs) ∧ Rw w w12 a6 t c6 us ∧ Rw w w12 a8 (kN t) c8 (sN t us) ∧ (∀ g, a8 = some ⟨g, 0, none⟩ → w11.heap.size ≤ g ∧ g < w12.heap.size) ∧ w11.heap.size ≤ w12.heap.size ∧ w6.heap.size ≤ w11.heap.size ∧ gx < w6.heap.size ∧ (∀ g, a6 = some ⟨g, 0, none⟩ → g < w11.heap.size)) := by
          have h3 := H3.out.2.2
          have h4 := HF3.out.2.2.2
          have h5 := HF4.out.2.2.2.2
          have h6 := HP6.out
          have hz := HZ.out
          have hp := HP.out
          have hS : ∀ b, AskS A vb b → b = A ∨ (w3.heap.size ≤ b ∧ b < w4.heap.size ∧ a4 ≠ some ⟨b, 0, none⟩) ∨ (w5.heap.size ≤ b ∧ b < w6.heap.size ∧ a5 ≠ some ⟨b, 0, none⟩) := fun b e => by rcases e with e | e; exact .inl e; exact .inr (h6.2.1 b e)
          refine ⟨hp.1.gx.kept k12 (fun b e => ?_), hp.1.r3.kept k12 (fun b e e2 => ?_), hp.1.r4.kept k12 (fun b e e2 => ?_), hp.1.r5.kept k12 (fun b e e2 => ?_), hp.2.1.kept k12 (fun b e e2 => ?_), r8, p8, k12.size, hp.2.2, by omega, fun g e => (hp.2.1.own.lt g (by rw [e]; rfl)).2⟩
          · rcases hS b e with h | h | h <;> exact ⟨by omega, by omega⟩
          · have := h4.2 b e2
            rcases hS b e with h | h | h <;> omega
          · have := HP4.out.1 b e2
            rcases hS b e with h | h | h
            · omega
            · exact h.2.2 e2
            · omega
          · have := h6.1 b e2
            rcases hS b e with h | h | h
            · omega
            · omega
            · exact h.2.2 e2
          · have := HA6.out b e2
            rcases hS b e with h | h | h <;> omega
        clear o12 r8 p8 hA12 hv12 k12 HP
        go_wp2_with (fail)
        refine (shifted_any a6 t c6 us w12 HP2.out.2.2.2.2.1.seen hn).mono ?_
        rintro e w13 ⟨v13, rfl, o13, b13⟩
        obtain ⟨a9, c9, rfl, r9, p9⟩ := rw_of w o13 (sN_length t us) HP2.out.1.bel.size
        have HP3 : Hid (Gx w w13 gx cx us ∧ Rw w w13 a3 (kN t) c3 (sN t zs) ∧ Rw w w13 a4 (kN t) c4 (sN t zs) ∧ Rw w w13 a5 (kN t) c5 (sN t zs) ∧ Rw w w13 a6 t c6 us ∧ Rw w w13 a8 (kN t) c8 (sN t us) ∧ Rw w w13 a9 (kN t) c9 (sN t us)) :=
          ⟨HP2.out.1.kept (S := fun _ => False) (kept_below b13) (fun _ e => e.elim), HP2.out.2.1.later b13, HP2.out.2.2.1.later b13, HP2.out.2.2.2.1.later b13, HP2.out.2.2.2.2.1.later b13, HP2.out.2.2.2.2.2.1.later b13, r9⟩
        clear o13 r9 p9 b13
        go_wp2_with (fail)
        refine (eqInts_yes a8 a9 (kN t) (kN t) c8 c9 (sN t us) w13 HP3.out.2.2.2.2.2.1.seen HP3.out.2.2.2.2.2.2.seen (by omega) (by omega)).mono ?_
        rintro e w14 ⟨rfl, b14⟩
        have HP4' : Hid (Gx w w14 gx cx us ∧ Rw w w14 a3 (kN t) c3 (sN t zs) ∧ Rw w w14 a4 (kN t) c4 (sN t zs) ∧ Rw w w14 a5 (kN t) c5 (sN t zs) ∧ Rw w w14 a6 t c6 us ∧ Rw w w14 a8 (kN t) c8 (sN t us)) :=
          ⟨HP3.out.1.kept (S := fun _ => False) (kept_below b14) (fun _ e => e.elim), HP3.out.2.1.later b14, HP3.out.2.2.1.later b14, HP3.out.2.2.2.1.later b14, HP3.out.2.2.2.2.1.later b14, HP3.out.2.2.2.2.2.1.later b14⟩
        clear b14 HP3
        go_wp2_with (fail)
        refine (eqInts_yes a4 a3 (kN t) (kN t) c4 c3 (sN t zs) w14 HP4'.out.2.2.1.seen HP4'.out.2.1.seen (by omega) (by omega)).mono ?_
        rintro e w15 ⟨rfl, b15⟩
        have HP5' : Hid (Gx w w15 gx cx us ∧ Rw w w15 a4 (kN t) c4 (sN t zs) ∧ Rw w w15 a5 (kN t) c5 (sN t zs) ∧ Rw w w15 a6 t c6 us ∧ Rw w w15 a8 (kN t) c8 (sN t us)) :=
          ⟨HP4'.out.1.kept (S := fun _ => False) (kept_below b15) (fun _ e => e.elim), HP4'.out.2.2.1.later b15, HP4'.out.2.2.2.1.later b15, HP4'.out.2.2.2.2.1.later b15, HP4'.out.2.2.2.2.2.later b15⟩
        clear b15 HP4'
        obtain ⟨m1, m2, m3⟩ := HP5'.out.1.mark HU.out
        have j1 : (0 : Int) ≤ (t : Int) := by omega
        have j2 : (t : Int) < ((t + 3 : Nat) : Int) := by omega
        have j3 : (t : Int) + 1 < ((t + 3 : Nat) : Int) := by omega
        have j4 : (t : Int) + 2 < ((t + 3 : Nat) : Int) := by omega
        go_wp2_with (fail)
        have HL := lot3I HP5'.out.2.1 HP5'.out.2.2.1 HP5'.out.2.2.2.2 w5.heap.size w6.heap.size (by have := HP6.out.2.2; omega) (fun g e => by have := (HP4.out.1 g e).2; have := HZ.out; omega) (fun g e => HP6.out.1 g e) (fun g e => by have := (HP2.out.2.2.2.2.2.2.1 g e).1; have := HP2.out.2.2.2.2.2.2.2.2.1; omega)
        refine (rapart_any w15.heap.size 3 3 _ _ _ _ _ _ HL (by omega) (fun j hj => by omega)).mono ?_
        rintro e w16 ⟨rfl, kp⟩
        have hS : ∀ g, LotS 3 (V3 a4 a5 a8) g → (w.heap.size ≤ g ∧ g ≠ gx) ∧ a6 ≠ some ⟨g, 0, none⟩ := by
          rintro g ⟨j, hj, hv⟩
          have q0 := HA.out
          have q1 := H3.out.2.2
          have q2 := HP2.out.2.2.2.2.2.2
          have q3 := HF3.out.2.2.2.1
          have q4 := HF4.out.2.2.2.2
          match j, hj with
          | 0, _ => exact ⟨⟨by have := HP4.out.1 g hv; omega, (q0.x4 g hv).1⟩, (q0.x4 g hv).2⟩
          | 1, _ => exact ⟨⟨by have := HP6.out.1 g hv; have := HZ.out; omega, (q0.x5 g hv).1⟩, (q0.x5 g hv).2⟩
          | 2, _ => exact ⟨⟨by have := q2.1 g hv; omega, by have := q2.1 g hv; omega⟩, fun e => by have := q2.2.2.2.2 g e; have := q2.1 g hv; omega⟩
        have kz : Kept (LotS 3 (V3 a4 a5 a8)) w15 w16 := ((Kept.refl _ w15).alloc _).trans kp
        have HP6' : Hid (Gx w w16 gx cx us ∧ Rw w w16 a6 t c6 us) := ⟨HP5'.out.1.kept kz (fun g hg => (hS g hg).1), HP5'.out.2.2.2.1.kept kz (fun g hg => (hS g hg).2)⟩
        clear HL kp kz hS m1 m2 m3 HP5'
        go_wp2_with (fail)
        refine (eqInts_yes (some ⟨gx, 0, none⟩) a6 t t cx c6 us w16 (HP6'.out.1.seen HU.out) HP6'.out.2.seen (by omega) (by omega)).mono ?_
        rintro e w17 ⟨rfl, b17⟩
        have HP7 : Hid (Below w.heap.size w w17) := below_low HP6'.out.1.bel b17
        clear b17 HP6'
        go_wp2_with (fail)
        refine (nworks_any w17).mono ?_
        rintro e w18 ⟨rfl, b18⟩
        have HP8 : Hid (Below w.heap.size w w18) := below_low HP7.out b18
        clear b18 HP7
        go_wp2_with (fail)
        go_ret
        exact ⟨rfl, HP8.out⟩
  · have hi6 : ¬ (n : Int) ≤ 65536 := by omega
    have hi7 : (65536 : Int) < (n : Int) := by omega
    have hq1 : nq = 0 := by rw [← HQ.out.2.2.2, HQ.out.2.1 hn6]; rfl
    subst hq1
    go_wp2_with (fail)
    obtain ⟨w5, hw5⟩ : ∃ w5, w5 = w4 := ⟨_, rfl⟩
    have HF5 : Hid (Gx w w5 gx cx zs ∧ Rw w w5 a3 (kN n) c3 (sN n zs) ∧ Rw w w5 a4 (kN n) c4 (sN n zs) ∧ Ask w5 A (.slice aq 0 cq) q ∧ w4.heap.size ≤ w5.heap.size) := by
      show _ ∧ _ ∧ _ ∧ _ ∧ _
      rw [hw5]; exact ⟨HF4.out.1, HF4.out.2.1, HF4.out.2.2.1, HF4.out.2.2.2.1, Nat.le_refl _⟩
    rw [← hw5]
    clear hw5 cA
    obtain ⟨va, hva⟩ : ∃ va, Value.slice aq 0 cq = va := ⟨_, rfl⟩
    rw [hva] at HF5 HP4
    clear hva
    have HZ : Hid (w4.heap.size ≤ w5.heap.size) := HF5.out.2.2.2.2
    refine (shf_any ⟨gx, 0, none⟩ n cx A _ q zs w5 (HF5.out.1.seen HS.out.len) HF5.out.2.2.2.1 (by have := HQ.out.2.2.1; omega)).mono ?_
    rintro e w6 ⟨v6, rfl, o6, vb, hA6, hv6, k6⟩
    obtain ⟨a5, c5, rfl, r5, p5⟩ := rw_of w o6 (sN_length n zs) HF5.out.1.bel.size
    have HP6 : Hid ((∀ g, a5 = some ⟨g, 0, none⟩ → w5.heap.size ≤ g ∧ g < w6.heap.size) ∧ (∀ b, vb.ownBlock = some b → (w3.heap.size ≤ b ∧ b < w4.heap.size ∧ a4 ≠ some ⟨b, 0, none⟩) ∨ (w5.heap.size ≤ b ∧ b < w6.heap.size ∧ a5 ≠ some ⟨b, 0, none⟩)) ∧ w5.heap.size ≤ w6.heap.size) := by
      refine ⟨p5, fun b hb => ?_, k6.size⟩
      rcases hv6 with h | h
      · exact .inl (HP4.out.2 b (h ▸ hb))
      · exact .inr ⟨(h b hb).1, (hA6.row.lt b hb).2, fun e => (h b hb).2 (by rw [e]; rfl)⟩
    have HQ6 : Hid (Qk w w6 gx cx zs a3 a4 a5 (kN n) c3 c4 c5 (sN n zs) A vb (q ++ aN n zs)) := by
      have hS : ∀ b, AskS A va b → b = A ∨ (w3.heap.size ≤ b ∧ b < w4.heap.size ∧ a4 ≠ some ⟨b, 0, none⟩) := fun b e => by rcases e with e | e; exact .inl e; exact .inr (HP4.out.2 b e)
      have h3 := H3.out.2.2
      have h4 := HF3.out.2.2.2
      refine ⟨HF5.out.1.kept k6 (fun b e => ?_), HF5.out.2.1.kept k6 (fun b e e2 => ?_), HF5.out.2.2.1.kept k6 (fun b e e2 => ?_), r5, hA6⟩
      · rcases hS b e with h | h <;> exact ⟨by omega, by omega⟩
      · have := h4.2 b e2
        rcases hS b e with h | h <;> omega
      · have := HP4.out.1 b e2
        rcases hS b e with h | h
        · omega
        · exact h.2.2 e2
    clear o6 r5 p5 hA6 hv6 k6 HF5
    go_wp2_with (fail)
    refine (eqInts_yes a4 a3 (kN n) (kN n) c4 c3 (sN n zs) w6 HQ6.out.r4.seen HQ6.out.r3.seen (by omega) (by omega)).mono ?_
    rintro e w7 ⟨rfl, b7⟩
    have HQ7 : Hid (Qk w w7 gx cx zs a3 a4 a5 (kN n) c3 c4 c5 (sN n zs) A vb (q ++ aN n zs) ∧ w6.heap.size ≤ w7.heap.size) := ⟨HQ6.out.later b7, b7.size⟩
    clear b7 HQ6
    go_wp2_with (fail)
    refine (eqInts_yes a5 a3 (kN n) (kN n) c5 c3 (sN n zs) w7 HQ7.out.1.r5.seen HQ7.out.1.r3.seen (by omega) (by omega)).mono ?_
    rintro e w8 ⟨rfl, b8⟩
    have HQ8 : Hid (Qk w w8 gx cx zs a3 a4 a5 (kN n) c3 c4 c5 (sN n zs) A vb (q ++ aN n zs) ∧ w6.heap.size ≤ w8.heap.size) := ⟨HQ7.out.1.later b8, by have := HQ7.out.2; have := b8.size; omega⟩
    clear b8 HQ7
    go_wp2_with (fail)
    refine (eqInts_yes (some ⟨gx, 0, none⟩) ao n n cx c zs w8 (HQ8.out.1.gx.seen HS.out.len) (HS.out.later HQ8.out.1.gx.bel (Nat.le_refl _)) (by omega) (by omega)).mono ?_
    rintro e w9 ⟨rfl, b9⟩
    have HQ9 : Hid (Qk w w9 gx cx zs a3 a4 a5 (kN n) c3 c4 c5 (sN n zs) A vb (q ++ aN n zs) ∧ w6.heap.size ≤ w9.heap.size) := ⟨HQ8.out.1.later b9, by have := HQ8.out.2; have := b9.size; omega⟩
    clear b9 HQ8
    go_wp2_with (fail)
    refine (copyInts_any ao n c zs w9 (HS.out.later HQ9.out.1.gx.bel (Nat.le_refl _)) (by omega)).mono ?_
    rintro e w10 ⟨v10, rfl, o10, b10⟩
    obtain ⟨a6, c6, rfl, r6, p6⟩ := rw_of w o10 HS.out.len HQ9.out.1.gx.bel.size
    have HQ10 : Hid (Qk w w10 gx cx zs a3 a4 a5 (kN n) c3 c4 c5 (sN n zs) A vb (q ++ aN n zs) ∧ Rw w w10 a6 n c6 zs ∧ w6.heap.size ≤ w10.heap.size) := ⟨HQ9.out.1.later b10, r6, by have := HQ9.out.2; have := b10.size; omega⟩
    have HA6 : Hid (∀ g, a6 = some ⟨g, 0, none⟩ → w6.heap.size ≤ g) := fun g e => by have := p6 g e; have := HQ9.out.2; omega
    have HA : Hid (Apq w gx a3 a4 a5 a6 A vb) := by
      have h3 := H3.out.2.2
      have h4 := HF3.out.2.2.2
      have h5 := HF4.out.2.2.2.2
      have h6 := HP6.out
      have hz := HZ.out
      exact ⟨fun b e => ⟨by have := h4.2 b e; omega, fun e2 => by have := h4.2 b e; have := HA6.out b e2; omega⟩,
        fun b e => ⟨by have := HP4.out.1 b e; omega, fun e2 => by have := HP4.out.1 b e; have := HA6.out b e2; omega⟩,
        fun b e => ⟨by have := h6.1 b e; omega, fun e2 => by have := h6.1 b e; have := HA6.out b e2; omega⟩,
        fun b e => ⟨by have := HA6.out b e; omega, by have := HA6.out b e; omega, by have := HA6.out b e; omega⟩,
        fun b e => ⟨by rcases h6.2.1 b e with h | h <;> omega, fun e2 => by have := HA6.out b e2; rcases h6.2.1 b e with h | h <;> omega⟩, by omega⟩
    clear o10 b10 r6 p6 HQ9
    go_wp2_with (fail)
    go_loopw [10] (fun v wr => ∃ t : Nat, v = .int .i64 (t : Int) ∧ t ≤ n ∧ ∃ us : List Int, us.length = n ∧ Qk w wr gx cx us a3 a4 a5 (kN n) c3 c4 c5 (sN n zs) A vb (q ++ aN n zs) ∧ Rw w wr a6 n c6 us ∧ w6.heap.size ≤ wr.heap.size) (fun v _ => n - (intOf v).toNat)
    case atStart => exact ⟨0, rfl, by omega, zs, HS.out.len, HQ10.out.1, HQ10.out.2.1, HQ10.out.2.2⟩
    case round =>
      clear HQ10
      obtain ⟨t, rfl, ht, us, hul, hpk, hr6, hsz⟩ := hrel
      by_cases hlt : t < n
      · obtain ⟨g6, e6⟩ : ∃ g6, a6 = some ⟨g6, 0, none⟩ := by
          rcases hr6.own.2 with ⟨_, h0⟩ | ⟨g, cap, cur, e, _⟩
          · omega
          · simp only [Value.slice.injEq] at e; exact ⟨g, e.1⟩
        subst e6
        have c1 := hpk.gx.row.cell t (by simp; omega)
        have f1 := hpk.gx.row.frozen t
        obtain ⟨X, hX⟩ : ∃ X, us.getD t 0 = X := ⟨_, rfl⟩
        rw [show (us ++ mk3).getD t 0 = X from by rw [← hX]; simp [List.getD, List.getElem?_append, hul, hlt]] at c1
        have HB := fun z => both_setQ hpk hr6 HA.out t hlt z
        rw [hX] at HB
        have i1 : (0 : Int) ≤ (t : Int) := by omega
        have i2 : (t : Int) < (n : Int) := by omega
        have i3 : (t : Int) < ((n + 3 : Nat) : Int) := by omega
        obtain ⟨R, hR⟩ : ∃ R, (t : Int).tmod 2 = R := ⟨_, rfl⟩
        have hRb : 0 ≤ R ∧ R < 2 := by
          have h1 : (t : Int).tmod 2 = ((t % 2 : Nat) : Int) := by rw [show (2 : Int) = ((2 : Nat) : Int) from rfl, Int.ofNat_tmod]
          rw [h1] at hR; omega
        have hRw : wrap64 R = R := by simp [wrap64]; omega
        clear hpk hr6 hX
        go_wp2_with (fail)
        refine ⟨⟨t + 1, by simp, by omega, us.set t (bits BinOp.xor IntKind.i64 X R), by simp [hul], (HB _).1, (HB _).2.1, by simpa [World.setCell] using hsz⟩, ?_⟩
        simp [intOf]; omega
      · obtain rfl : t = n := by omega
        clear hlt ht
        obtain ⟨w11, hw11⟩ : ∃ w11, w11 = wr := ⟨_, rfl⟩
        rw [← hw11] at hpk hr6 hsz ⊢
        clear hw11
        have HP : Hid (Qk w w11 gx cx us a3 a4 a5 (kN t) c3 c4 c5 (sN t zs) A vb (q ++ aN t zs) ∧ Rw w w11 a6 t c6 us ∧ w6.heap.size ≤ w11.heap.size) := ⟨hpk, hr6, hsz⟩
        have HU : Hid (us.length = t) := hul
        clear hpk hr6 hsz hul
        go_wp2_with (fail)
        refine (shf_any ⟨gx, 0, none⟩ t cx A vb _ us w11 (HP.out.1.gx.seen HU.out) HP.out.1.ask (by have h1 := HQ.out.2.2.1; have h2 : (aN t zs).length ≤ 65536 := aN_le t zs HS.out.len; rw [List.length_append]; omega)).mono ?_
        rintro e w12 ⟨v12, rfl, o12, vc, hA12, hv12, k12⟩
        obtain ⟨a8, c8, rfl, r8, p8⟩ := rw_of w o12 (sN_length t us) HP.out.1.gx.bel.size
        have HP2 : Hid (Gx w w12 gx cx us ∧ Rw w w12 a3 (kN t) c3 (sN t zs) ∧ Rw w w12 a4 (kN t) c4 (sN t zs) ∧ Rw w w12 a5 (kN t) c5 (sN t zs) ∧ Rw w w12 a6 t c6 us ∧ Rw w w12 a8 (kN t) c8 (sN t us) ∧ (∀ g, a8 = some ⟨g, 0, none⟩ → w11.heap.size ≤ g ∧ g < w12.heap.size) ∧ w11.heap.size ≤ w12.heap.size ∧ w6.heap.size ≤ w11.heap.size ∧ gx < w6.heap.size ∧ (∀ g, a6 = some ⟨g, 0, none⟩ → g < w11.heap.size)) := by
          have h3 := H3.out.2.2
          have h4 := HF3.out.2.2.2
          have h5 := HF4.out.2.2.2.2
          have h6 := HP6.out
          have hz := HZ.out
          have hp := HP.out
          have hS : ∀ b, AskS A vb b → b = A ∨ (w3.heap.size ≤ b ∧ b < w4.heap.size ∧ a4 ≠ some ⟨b, 0, none⟩) ∨ (w5.heap.size ≤ b ∧ b < w6.heap.size ∧ a5 ≠ some ⟨b, 0, none⟩) := fun b e => by rcases e with e | e; exact .inl e; exact .inr (h6.2.1 b e)
          refine ⟨hp.1.gx.kept k12 (fun b e => ?_), hp.1.r3.kept k12 (fun b e e2 => ?_), hp.1.r4.kept k12 (fun b e e2 => ?_), hp.1.r5.kept k12 (fun b e e2 => ?_), hp.2.1.kept k12 (fun b e e2 => ?_), r8, p8, k12.size, hp.2.2, by omega, fun g e => (hp.2.1.own.lt g (by rw [e]; rfl)).2⟩
          · rcases hS b e with h | h | h <;> exact ⟨by omega, by omega⟩
          · have := h4.2 b e2
            rcases hS b e with h | h | h <;> omega
          · have := HP4.out.1 b e2
            rcases hS b e with h | h | h
            · omega
            · exact h.2.2 e2
            · omega
          · have := h6.1 b e2
            rcases hS b e with h | h | h
            · omega
            · omega
            · exact h.2.2 e2
          · have := HA6.out b e2
            rcases hS b e with h | h | h <;> omega
        clear o12 r8 p8 hA12 hv12 k12 HP
        go_wp2_with (fail)
        refine (shifted_any a6 t c6 us w12 HP2.out.2.2.2.2.1.seen hn).mono ?_
        rintro e w13 ⟨v13, rfl, o13, b13⟩
        obtain ⟨a9, c9, rfl, r9, p9⟩ := rw_of w o13 (sN_length t us) HP2.out.1.bel.size
        have HP3 : Hid (Gx w w13 gx cx us ∧ Rw w w13 a3 (kN t) c3 (sN t zs) ∧ Rw w w13 a4 (kN t) c4 (sN t zs) ∧ Rw w w13 a5 (kN t) c5 (sN t zs) ∧ Rw w w13 a6 t c6 us ∧ Rw w w13 a8 (kN t) c8 (sN t us) ∧ Rw w w13 a9 (kN t) c9 (sN t us)) :=
          ⟨HP2.out.1.kept (S := fun _ => False) (kept_below b13) (fun _ e => e.elim), HP2.out.2.1.later b13, HP2.out.2.2.1.later b13, HP2.out.2.2.2.1.later b13, HP2.out.2.2.2.2.1.later b13, HP2.out.2.2.2.2.2.1.later b13, r9⟩
        clear o13 r9 p9 b13
        go_wp2_with (fail)
        refine (eqInts_yes a8 a9 (kN t) (kN t) c8 c9 (sN t us) w13 HP3.out.2.2.2.2.2.1.seen HP3.out.2.2.2.2.2.2.seen (by omega) (by omega)).mono ?_
        rintro e w14 ⟨rfl, b14⟩
        have HP4' : Hid (Gx w w14 gx cx us ∧ Rw w w14 a3 (kN t) c3 (sN t zs) ∧ Rw w w14 a4 (kN t) c4 (sN t zs) ∧ Rw w w14 a5 (kN t) c5 (sN t zs) ∧ Rw w w14 a6 t c6 us ∧ Rw w w14 a8 (kN t) c8 (sN t us)) :=
          ⟨HP3.out.1.kept (S := fun _ => False) (kept_below b14) (fun _ e => e.elim), HP3.out.2.1.later b14, HP3.out.2.2.1.later b14, HP3.out.2.2.2.1.later b14, HP3.out.2.2.2.2.1.later b14, HP3.out.2.2.2.2.2.1.later b14⟩
        clear b14 HP3
        go_wp2_with (fail)
        refine (eqInts_yes a4 a3 (kN t) (kN t) c4 c3 (sN t zs) w14 HP4'.out.2.2.1.seen HP4'.out.2.1.seen (by omega) (by omega)).mono ?_
        rintro e w15 ⟨rfl, b15⟩
        have HP5' : Hid (Gx w w15 gx cx us ∧ Rw w w15 a4 (kN t) c4 (sN t zs) ∧ Rw w w15 a5 (kN t) c5 (sN t zs) ∧ Rw w w15 a6 t c6 us ∧ Rw w w15 a8 (kN t) c8 (sN t us)) :=
          ⟨HP4'.out.1.kept (S := fun _ => False) (kept_below b15) (fun _ e => e.elim), HP4'.out.2.2.1.later b15, HP4'.out.2.2.2.1.later b15, HP4'.out.2.2.2.2.1.later b15, HP4'.out.2.2.2.2.2.later b15⟩
        clear b15 HP4'
        obtain ⟨m1, m2, m3⟩ := HP5'.out.1.mark HU.out
        have j1 : (0 : Int) ≤ (t : Int) := by omega
        have j2 : (t : Int) < ((t + 3 : Nat) : Int) := by omega
        have j3 : (t : Int) + 1 < ((t + 3 : Nat) : Int) := by omega
        have j4 : (t : Int) + 2 < ((t + 3 : Nat) : Int) := by omega
        go_wp2_with (fail)
        have HL := lot3I HP5'.out.2.1 HP5'.out.2.2.1 HP5'.out.2.2.2.2 w5.heap.size w6.heap.size (by have := HP6.out.2.2; omega) (fun g e => by have := (HP4.out.1 g e).2; have := HZ.out; omega) (fun g e => HP6.out.1 g e) (fun g e => by have := (HP2.out.2.2.2.2.2.2.1 g e).1; have := HP2.out.2.2.2.2.2.2.2.2.1; omega)
        refine (rapart_any w15.heap.size 3 3 _ _ _ _ _ _ HL (by omega) (fun j hj => by omega)).mono ?_
        rintro e w16 ⟨rfl, kp⟩
        have hS : ∀ g, LotS 3 (V3 a4 a5 a8) g → (w.heap.size ≤ g ∧ g ≠ gx) ∧ a6 ≠ some ⟨g, 0, none⟩ := by
          rintro g ⟨j, hj, hv⟩
          have q0 := HA.out
          have q1 := H3.out.2.2
          have q2 := HP2.out.2.2.2.2.2.2
          have q3 := HF3.out.2.2.2.1
          have q4 := HF4.out.2.2.2.2
          match j, hj with
          | 0, _ => exact ⟨⟨by have := HP4.out.1 g hv; omega, (q0.x4 g hv).1⟩, (q0.x4 g hv).2⟩
          | 1, _ => exact ⟨⟨by have := HP6.out.1 g hv; have := HZ.out; omega, (q0.x5 g hv).1⟩, (q0.x5 g hv).2⟩
          | 2, _ => exact ⟨⟨by have := q2.1 g hv; omega, by have := q2.1 g hv; omega⟩, fun e => by have := q2.2.2.2.2 g e; have := q2.1 g hv; omega⟩
        have kz : Kept (LotS 3 (V3 a4 a5 a8)) w15 w16 := ((Kept.refl _ w15).alloc _).trans kp
        have HP6' : Hid (Gx w w16 gx cx us ∧ Rw w w16 a6 t c6 us) := ⟨HP5'.out.1.kept kz (fun g hg => (hS g hg).1), HP5'.out.2.2.2.1.kept kz (fun g hg => (hS g hg).2)⟩
        clear HL kp kz hS m1 m2 m3 HP5'
        go_wp2_with (fail)
        refine (eqInts_yes (some ⟨gx, 0, none⟩) a6 t t cx c6 us w16 (HP6'.out.1.seen HU.out) HP6'.out.2.seen (by omega) (by omega)).mono ?_
        rintro e w17 ⟨rfl, b17⟩
        have HP7 : Hid (Below w.heap.size w w17) := below_low HP6'.out.1.bel b17
        clear b17 HP6'
        go_wp2_with (fail)
        refine (nworks_any w17).mono ?_
        rintro e w18 ⟨rfl, b18⟩
        have HP8 : Hid (Below w.heap.size w w18) := below_low HP7.out b18
        clear b18 HP7
        go_wp2_with (fail)
        go_ret
        exact ⟨rfl, HP8.out⟩
end Go.Proofs.Ytlkpgbilepehmaa
