/- The statements' apart: lists that were handed out share nothing: written full, grown one by one, and looked at. -/
import Derived.Test.YtmgkjldjeomcmaaDoorOMem
namespace Go.Proofs.YtmgkjldjeomcmaaDoor
open Go.RowKit
set_option linter.unusedVariables false
set_option linter.unusedSimpArgs false

theorem info_bytes : (Tryd.prog.info? 24).map (fun i => (i.zero, i.size, i.bytes)) = some (some (.slice none 0 0), 1, 24) := by kernel_rfl
theorem one_int (z : Int) : ∀ u ∈ [Value.int .u8 z], u.oneCell' = true := by intro u hu; simp at hu; subst hu; rfl
theorem one_header (a : Option Addr) (n c : Nat) : ∀ u ∈ [Value.slice a n c], u.oneCell' = true := by intro u hu; simp at hu; subst hu; rfl
def mk1 (j : Nat) : Int := 1 + (j : Int) % 100
def mk2 (j : Nat) : Int := 120 + (j : Int) % 100
theorem own_block {w w' : World} {base : Nat} {e : TypeId} {v : Value} {n : Nat} {xs : List Value} (h : w.ownsRow base e 1 v n xs) (hb : ∀ k, v.ownBlock = some k → w'.heap[k]? = w.heap[k]?) : w'.ownsRow base e 1 v n xs := by
  refine ⟨h.1, ?_⟩
  rcases h.2 with h1 | ⟨g, cap, cur, rfl, h1, h2, h3⟩
  · exact .inl h1
  · exact .inr ⟨g, cap, cur, rfl, h1, by rw [hb g rfl]; exact h2, h3⟩
theorem own_kept {S : Nat → Prop} {w w' : World} {base : Nat} {e : TypeId} {v : Value} {n : Nat} {xs : List Value} (h : w.ownsRow base e 1 v n xs) (hk : Kept S w w') (hS : ∀ k, v.ownBlock = some k → ¬ S k) : w'.ownsRow base e 1 v n xs :=
  own_block h fun k hk' => hk.block k (h.lt k hk').2 (hS k hk')
theorem own_set {w : World} {base g n cap : Nat} {zs : List Int} (h : w.ownsRow base 5 1 (.slice (some ⟨g, 0, none⟩) n cap) n (zs.map (Value.int .u8))) (j : Nat) (hj : j < n) (z : Int) :
    (w.setCell ⟨g, j, none⟩ (.int .u8 z)).ownsRow base 5 1 (.slice (some ⟨g, 0, none⟩) n cap) n ((zs.set j z).map (Value.int .u8)) := by
  obtain ⟨hl, h⟩ := h
  rcases h with ⟨h, _⟩ | ⟨g', cap', cur, h, hb, hh, hc, hm, hs, ht⟩
  · cases h
  · simp only [Value.slice.injEq, Option.some.injEq, Addr.mk.injEq, and_true, true_and] at h
    obtain ⟨rfl, rfl⟩ := h
    refine ⟨by simpa using hl, .inr ⟨g, cap, _, rfl, hb, heap_setCell_same w g j cur 5 (.int .u8 z) hh, hc, hm, by simpa using hs, ?_⟩⟩
    rw [Nat.mul_one] at ht ⊢
    rw [List.map_set, ← ht, Array.toList_setIfInBounds, List.take_set]
theorem own_prefix {w : World} {base : Nat} {ao : Option Addr} {n m cap : Nat} {xs ys : List Value} (hx : xs.length = n) (h : w.ownsRow base 5 1 (.slice ao (n + m) cap) (n + m) (xs ++ ys)) : w.ownsRow base 5 1 (.slice ao n cap) n xs := by
  refine ⟨by rw [hx, Nat.mul_one], ?_⟩
  rcases h.2 with ⟨h1, h2⟩ | ⟨g', cap', cur, h1, hb, hh, hc, hm, hs, ht⟩
  · simp only [Value.slice.injEq] at h1
    obtain ⟨rfl, _, rfl⟩ := h1
    obtain rfl : n = 0 := by omega
    exact .inl ⟨rfl, rfl⟩
  · simp only [Value.slice.injEq] at h1
    obtain ⟨rfl, _, rfl⟩ := h1
    refine .inr ⟨g', cap, cur, rfl, hb, hh, by omega, hm, hs, ?_⟩
    rw [Nat.mul_one] at ht ⊢
    have h3 : (cur.toList.take (n + m)).take n = (xs ++ ys).take n := by rw [ht]
    have h4 : (xs ++ ys).take n = xs := by rw [List.take_append_of_le_length (by omega), List.take_of_length_le (by omega)]
    rw [List.take_take, Nat.min_eq_left (by omega), h4] at h3
    exact h3
theorem own_at {w : World} {base g n cap : Nat} {zs : List Int} (h : w.ownsRow base 5 1 (.slice (some ⟨g, 0, none⟩) n cap) n (zs.map (Value.int .u8))) (j : Nat) (hj : j < n) : w.cell? ⟨g, j, none⟩ = some (.int .u8 (zs.getD j 0)) ∧ w.frozen? ⟨g, j, none⟩ = false := by
  have := RowAt.of_own h
  exact ⟨this.1.cell j (by omega), this.1.frozen j⟩
theorem own_olds {w : World} {base : Nat} {ao : Option Addr} {n cap : Nat} {zs : List Int} (h : w.ownsRow base 5 1 (.slice ao n cap) n (zs.map (Value.int .u8))) :
    (ao = none → n = 0 ∧ cap = 0) ∧ ((zs.map (Value.int .u8)).length = n * 1) ∧ ∀ b, ao = some b → ∀ j u, (zs.map (Value.int .u8))[j]? = some u → w.cell? (b.add j) = some u := by
  refine ⟨?_, h.1, ?_⟩
  · rintro rfl
    rcases h.2 with ⟨h1, h2⟩ | ⟨g, c, cur, h1, _⟩
    · simp only [Value.slice.injEq] at h1; exact ⟨h2, h1.2.2⟩
    · simp at h1
  · rintro b rfl j u hj
    rcases h.2 with ⟨h1, _⟩ | ⟨g, c, cur, h1, _⟩
    · simp at h1
    · simp only [Value.slice.injEq, Option.some.injEq] at h1
      obtain ⟨rfl, _, rfl⟩ := h1
      have hlt : j < n := by
        have h2 := h.1
        rcases Nat.lt_or_ge j n with h' | h'
        · exact h'
        · rw [List.getElem?_eq_none (by rw [h2]; omega)] at hj; cases hj
      rw [add_at, Nat.zero_add, (own_at h j hlt).1, ← hj, List.getElem?_map]
      have : j < zs.length := by have := h.1; simp at this; omega
      simp [List.getD, this]

/-- n lists behind the headers of block O, each a row of its own, list j holding f j. -/
structure Lot (w : World) (O n : Nat) (V : Nat → Option Addr) (len cap cap0 : Nat → Nat) (f : Nat → List Int) : Prop where
  olt : O < w.heap.size
  heads : ∀ j, j < n → w.cell? ⟨O, j, none⟩ = some (.slice (V j) (len j) (cap j))
  own : ∀ j, j < n → w.ownsRow 0 5 1 (.slice (V j) (len j) (cap0 j)) (len j) ((f j).map (Value.int .u8))
  caps : ∀ j, j < n → cap j = cap0 j ∨ cap j = len j
  apart : ∀ j j' g, j < n → j' < n → V j = some ⟨g, 0, none⟩ → V j' = some ⟨g, 0, none⟩ → j = j'
  off : ∀ j g, j < n → V j = some ⟨g, 0, none⟩ → g ≠ O
/-- The blocks that hold the lists. -/
def LotS (n : Nat) (V : Nat → Option Addr) (k : Nat) : Prop := ∃ j, j < n ∧ V j = some ⟨k, 0, none⟩
theorem own_addr {w : World} {base : Nat} {ao : Option Addr} {n cap : Nat} {xs : List Value} {k : Nat} (h : w.ownsRow base 5 1 (.slice ao n cap) n xs) (hk : (Value.slice ao n cap).ownBlock = some k) : ao = some ⟨k, 0, none⟩ := by
  rcases h.2 with ⟨h1, _⟩ | ⟨g, c, cur, h1, _⟩
  · simp only [Value.slice.injEq] at h1; rw [h1.1] at hk; cases hk
  · simp only [Value.slice.injEq] at h1
    rw [h1.1] at hk
    simp [Value.ownBlock] at hk
    rw [h1.1, hk]
theorem Lot.at {w : World} {O n : Nat} {V : Nat → Option Addr} {len cap cap0 : Nat → Nat} {f : Nat → List Int} (h : Lot w O n V len cap cap0 f) {j : Nat} (hj : j < n) (h0 : 0 < cap0 j) : ∃ g, V j = some ⟨g, 0, none⟩ ∧ g < w.heap.size := by
  rcases (h.own j hj).2 with ⟨h1, _⟩ | ⟨g, c, cur, h1, h2, h3, _⟩
  · simp only [Value.slice.injEq] at h1; omega
  · simp only [Value.slice.injEq] at h1
    refine ⟨g, h1.1, ?_⟩
    rcases Nat.lt_or_ge g w.heap.size with h' | h'
    · exact h'
    · rw [Array.getElem?_eq_none h'] at h3; cases h3
theorem Lot.capLe {w : World} {O n : Nat} {V : Nat → Option Addr} {len cap cap0 : Nat → Nat} {f : Nat → List Int} (h : Lot w O n V len cap cap0 f) {j : Nat} (hj : j < n) : len j ≤ cap0 j := by
  rcases (h.own j hj).2 with ⟨h1, h2⟩ | ⟨g, c, cur, h1, h2, h3, h4, _⟩
  · omega
  · simp only [Value.slice.injEq] at h1; omega
/-- One list written at one place. -/
theorem Lot.set {w : World} {O n : Nat} {V : Nat → Option Addr} {len cap cap0 : Nat → Nat} {f : Nat → List Int} (h : Lot w O n V len cap cap0 f) {j t g : Nat} (hj : j < n) (ht : t < len j) (hg : V j = some ⟨g, 0, none⟩) (z : Int) :
    Lot (w.setCell ⟨g, t, none⟩ (.int .u8 z)) O n V len cap cap0 (fun j' => if j' = j then (f j).set t z else f j') := by
  have hs : (w.setCell ⟨g, t, none⟩ (.int .u8 z)).heap.size = w.heap.size := by simp [World.setCell]
  refine ⟨by rw [hs]; exact h.olt, fun j' hj' => ?_, fun j' hj' => ?_, h.caps, h.apart, h.off⟩
  · rw [World.cell?_setCell_other _ _ _ _ (by intro e; simp only [Addr.mk.injEq] at e; exact h.off j g hj hg e.1)]
    exact h.heads j' hj'
  · by_cases e : j' = j
    · subst e
      have ho := h.own j' hj'
      rw [hg] at ho ⊢
      rw [if_pos rfl]
      exact own_set ho t ht z
    · rw [if_neg e]
      refine own_block (h.own j' hj') fun k hk => Below.heap_setCell _ _ _ _ ?_
      intro hkg
      have := own_addr (h.own j' hj') hk
      rw [hkg] at this
      exact e (h.apart j' j g hj' hj this hg)
theorem Lot.congr {w : World} {O n : Nat} {V : Nat → Option Addr} {len cap cap0 : Nat → Nat} {f f' : Nat → List Int} (h : Lot w O n V len cap cap0 f) (e : ∀ j, j < n → f j = f' j) : Lot w O n V len cap cap0 f' :=
  ⟨h.olt, h.heads, fun j hj => by rw [← e j hj]; exact h.own j hj, h.caps, h.apart, h.off⟩
theorem Lot.later {w w' : World} {O n : Nat} {V : Nat → Option Addr} {len cap cap0 : Nat → Nat} {f : Nat → List Int} (h : Lot w O n V len cap cap0 f) {B : Nat} (hb : Below B w w') (hB : w.heap.size ≤ B) : Lot w' O n V len cap cap0 f :=
  ⟨Nat.lt_of_lt_of_le h.olt hb.size, fun j hj => (hb.cell (p := ⟨O, j, none⟩) (Nat.lt_of_lt_of_le h.olt hB)).trans (h.heads j hj),
    fun j hj => own_block (h.own j hj) fun k hk => hb.block k (Nat.lt_of_lt_of_le ((h.own j hj).lt k hk).2 hB), h.caps, h.apart, h.off⟩
/-- All but list k as it was, and list k told anew. -/
theorem Lot.kept {w w' : World} {O n : Nat} {V : Nat → Option Addr} {len cap cap0 : Nat → Nat} {f : Nat → List Int} (h : Lot w O n V len cap cap0 f) {k : Nat} (hk : k < n) (hK : Kept (fun b => V k = some ⟨b, 0, none⟩) w w')
    (ho : w'.ownsRow 0 5 1 (.slice (V k) (len k) (cap0 k)) (len k) ((f k).map (Value.int .u8))) : Lot w' O n V len cap cap0 f :=
  ⟨Nat.lt_of_lt_of_le h.olt hK.size, fun j hj => (hK.cell (p := ⟨O, j, none⟩) h.olt (fun e => h.off k O hk e rfl)).trans (h.heads j hj), fun j hj => by
    by_cases e : j = k
    · subst e; exact ho
    · exact own_kept (h.own j hj) hK (fun b hb e2 => e (h.apart j k b hj hk (own_addr (h.own j hj) hb) e2)), h.caps, h.apart, h.off⟩

theorem Lot.below {w w' : World} {O n : Nat} {V : Nat → Option Addr} {len cap cap0 : Nat → Nat} {f : Nat → List Int} (h : Lot w O n V len cap cap0 f) {B : Nat} (hb : Below B w w') (hO : O < B) (hV : ∀ j g, j < n → V j = some ⟨g, 0, none⟩ → g < B) : Lot w' O n V len cap cap0 f :=
  ⟨Nat.lt_of_lt_of_le h.olt hb.size, fun j hj => (hb.cell (p := ⟨O, j, none⟩) hO).trans (h.heads j hj),
    fun j hj => own_block (h.own j hj) fun k hk => hb.block k (hV j k hj (own_addr (h.own j hj) hk)), h.caps, h.apart, h.off⟩
theorem Kept.alloc {S : Nat → Prop} {a w : World} (h : Kept S a w) (o : Obj) : Kept S a (w.alloc o) :=
  h.trans ⟨rfl, rfl, rfl, by simp, fun k hk _ => Below.heap_alloc w o k hk⟩
theorem Kept.grown {S : Nat → Prop} {a w w' : World} {row : Option Nat} (h : Kept S a w) (hg : w.grownBy w' row) (hr : ∀ k, row = some k → k < a.heap.size → S k) : Kept S a w' :=
  ⟨hg.os.trans h.os, hg.tape.trans h.tape, hg.output.trans h.output, Nat.le_trans h.size hg.size, fun k hk hs => (hg.block k (Nat.lt_of_lt_of_le hk h.size) (fun e => hs (hr k e.symm hk))).trans (h.block k hk hs)⟩

/-- The list k, full of its mark; and grown m times. -/
def ful (len : Nat → Nat) (j : Nat) : List Int := List.replicate (len j) (mk1 j)
def gro (len : Nat → Nat) (j m : Nat) : List Int := ful len j ++ List.replicate m (mk2 j)
theorem ful_length (len : Nat → Nat) (j : Nat) : (ful len j).length = len j := by simp [ful]
theorem gro_length (len : Nat → Nat) (j m : Nat) : (gro len j m).length = len j + m := by simp [gro, ful]
theorem gro_succ (len : Nat → Nat) (j m : Nat) : (gro len j (m + 1)).map (Value.int .u8) = (gro len j m).map (Value.int .u8) ++ [.int .u8 (mk2 j)] := by
  simp [gro, List.replicate_succ']
theorem gro_zero (len : Nat → Nat) (j : Nat) : gro len j 0 = ful len j := by simp [gro]
theorem ful_at (len : Nat → Nat) (j t : Nat) (ht : t < len j) : (ful len j).getD t 0 = mk1 j := by simp [ful, List.getD, ht]
theorem gro_at (len : Nat → Nat) (j m t : Nat) (ht : t < len j) : (gro len j m).getD t 0 = mk1 j := by
  rw [← ful_at len j t ht]
  have : t < (ful len j).length := by rw [ful_length]; exact ht
  simp [gro, List.getD, List.getElem?_append, this]
theorem gro_in (len : Nat → Nat) (j m t : Nat) (ht : t < m) : (gro len j m).getD (len j + t) 0 = mk2 j := by
  unfold gro
  rw [app_getD _ _ _ _ (ful_length len j)]
  simp [List.getD, ht]

/-- The lists that were grown, i of them. -/
structure Grew (base : Nat) (w : World) (gv : Value) (i : Nat) (V : Nat → Option Addr) (len : Nat → Nat) (hd : List Value) : Prop where
  outer : w.ownsRow base 24 1 gv i hd
  inner : ∀ j, j < i → ∃ g cap, hd[j]? = some (.slice (some ⟨g, 0, none⟩) (len j + 100) cap) ∧ RowAt w g (gro len j 100) ∧ (base ≤ g ∨ V j = some ⟨g, 0, none⟩)
theorem row_ne {w : World} {g base : Nat} {zs : List Int} {v : Value} {k : Nat} {hd : List Value} (h : RowAt w g zs) (ho : w.ownsRow base 24 1 v k hd) : some g ≠ v.ownBlock := by
  obtain ⟨rest, h⟩ := h
  rcases ho.2 with ⟨rfl, _⟩ | ⟨g', cap, cur, rfl, _, hh, _⟩
  · intro e; cases e
  · intro e
    simp [Value.ownBlock] at e
    subst e
    rw [hh] at h
    simp at h
theorem row_grown {w w' : World} {g : Nat} {zs : List Int} {row : Option Nat} (h : RowAt w g zs) (hg : w.grownBy w' row) (hne : some g ≠ row) : RowAt w' g zs := h.block (hg.block g h.lt hne)
theorem Grew.step {base n : Nat} {w w1 w2 : World} {gv gv' : Value} {i : Nat} {V : Nat → Option Addr} {len : Nat → Nat} {hd : List Value} {g cap : Nat} (h : Grew base w gv i V len hd)
    (hap : ∀ j j' g, j < n → j' < n → V j = some ⟨g, 0, none⟩ → V j' = some ⟨g, 0, none⟩ → j = j') (hin : i < n) (hlt : ∀ g, V i = some ⟨g, 0, none⟩ → g < base)
    (hK : Kept (fun b => V i = some ⟨b, 0, none⟩) w w1) (hr : RowAt w1 g (gro len i 100)) (hgb : base ≤ g ∨ V i = some ⟨g, 0, none⟩)
    (ho : w2.ownsRow base 24 1 gv' (i + 1) (hd ++ [.slice (some ⟨g, 0, none⟩) (len i + 100) cap])) (hg : (w1.alloc (.cells #[.slice (some ⟨g, 0, none⟩) (len i + 100) cap] 24)).grownBy w2 gv.ownBlock) (ho1 : w1.ownsRow base 24 1 gv i hd) :
    Grew base w2 gv' (i + 1) V len (hd ++ [.slice (some ⟨g, 0, none⟩) (len i + 100) cap]) := by
  have hl : hd.length = i := by have := h.outer.1; omega
  have keep : ∀ g zs, RowAt w1 g zs → RowAt w2 g zs := fun g zs h => row_grown (h.alloc _) hg (row_ne h ho1)
  refine ⟨ho, fun j hj => ?_⟩
  by_cases hji : j < i
  · obtain ⟨g', cap', e', hr', hb'⟩ := h.inner j hji
    refine ⟨g', cap', by rw [List.getElem?_append_left (by omega)]; exact e', keep _ _ (hr'.kept hK ?_), hb'⟩
    intro e
    rcases hb' with hb' | hb'
    · have := hlt g' e; omega
    · have := hap j i g' (by omega) hin hb' e; omega
  · have e : j = i := by omega
    subst e
    exact ⟨g, cap, by rw [List.getElem?_append_right (by omega)]; simp [hl], keep _ _ hr, hgb⟩
end Go.Proofs.YtmgkjldjeomcmaaDoor
