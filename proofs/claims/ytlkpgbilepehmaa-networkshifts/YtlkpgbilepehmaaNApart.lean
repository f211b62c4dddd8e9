/- Layer network: the document's ApartInts, over a Lot of rows of numbers. -/
import Derived.BigRegion
import Derived.Deep.RegionHeld3
import Derived.Deep.DrawnRows
import Derived.Deep.QuietTactic
import Derived.BigQuiet
import Derived.Test.YtlkpgbilepehmaaRLay
import Derived.Test.YtlkpgbilepehmaaNInts
namespace Go.Proofs.Ytlkpgbilepehmaa
open Go.RowKit
set_option linter.unusedVariables false
set_option linter.unusedSimpArgs false

def mkR (j t : Nat) : Int := (j : Int) * 100003 + (t : Int)
/-- Of the blocks that were there all but those of S are as they were. -/
structure Kept (S : Nat → Prop) (w w' : World) : Prop where
  os : w'.os = w.os
  tape : w'.tape = w.tape
  output : w'.output = w.output
  size : w.heap.size ≤ w'.heap.size
  block : ∀ k, k < w.heap.size → ¬ S k → w'.heap[k]? = w.heap[k]?
theorem Kept.refl (S : Nat → Prop) (w : World) : Kept S w w := ⟨rfl, rfl, rfl, Nat.le_refl _, fun _ _ _ => rfl⟩
theorem Kept.trans {S : Nat → Prop} {a b c : World} (h : Kept S a b) (k : Kept S b c) : Kept S a c :=
  ⟨k.os.trans h.os, k.tape.trans h.tape, k.output.trans h.output, Nat.le_trans h.size k.size, fun i hi hs => (k.block i (Nat.lt_of_lt_of_le hi h.size) hs).trans (h.block i hi hs)⟩
theorem Kept.mono {S T : Nat → Prop} {a b : World} (h : Kept S a b) (hST : ∀ k, S k → T k) : Kept T a b :=
  ⟨h.os, h.tape, h.output, h.size, fun i hi hs => h.block i hi (fun x => hs (hST i x))⟩
theorem Kept.drew {S : Nat → Prop} {a w : World} (h : Kept S a w) : Kept S a w.drew := ⟨h.os, h.tape, h.output, h.size, h.block⟩
theorem Kept.setCell {S : Nat → Prop} {a w : World} (h : Kept S a w) {p : Addr} (hp : S p.block) (u : Value) : Kept S a (w.setCell p u) :=
  h.trans ⟨rfl, rfl, rfl, by simp [World.setCell], fun k _ hs => Below.heap_setCell _ _ _ _ (fun e => hs (e ▸ hp))⟩
theorem Kept.below {S : Nat → Prop} {a w : World} (h : Kept S a w) {B : Nat} (hB : B ≤ a.heap.size) (hS : ∀ k, S k → B ≤ k) : Below B a w :=
  ⟨h.os, h.tape, h.output, h.size, fun k hk => h.block k (by omega) (fun x => by have := hS k x; omega)⟩

/-- Block g begins with the bytes zs, and may be written. -/
def RowAt (w : World) (g : Nat) (zs : List Int) : Prop := ∃ rest : List Value, w.heap[g]? = some (.cells (zs.map (Value.int .i64) ++ rest).toArray 3 (0, 0))
theorem RowAt.cell {w : World} {g : Nat} {zs : List Int} (h : RowAt w g zs) (j : Nat) (hj : j < zs.length) : w.cell? ⟨g, j, none⟩ = some (.int .i64 (zs.getD j 0)) := by
  obtain ⟨rest, h⟩ := h
  rw [cell_of_row w g j _ 3 (0, 0) h]
  simp [hj, List.getElem?_append]
theorem RowAt.frozen {w : World} {g : Nat} {zs : List Int} (h : RowAt w g zs) (j : Nat) : w.frozen? ⟨g, j, none⟩ = false := by
  obtain ⟨rest, h⟩ := h
  exact frozen_of_row w g j _ 3 h
theorem RowAt.set {w : World} {g : Nat} {zs : List Int} (h : RowAt w g zs) (j : Nat) (hj : j < zs.length) (z : Int) : RowAt (w.setCell ⟨g, j, none⟩ (.int .i64 z)) g (zs.set j z) := by
  obtain ⟨rest, h⟩ := h
  refine ⟨rest, ?_⟩
  rw [heap_setCell_same w g j _ 3 _ h, List.map_set]
  simp [hj]
theorem RowAt.other {w : World} {g : Nat} {zs : List Int} (h : RowAt w g zs) {p : Addr} (hp : g ≠ p.block) (u : Value) : RowAt (w.setCell p u) g zs := by
  obtain ⟨rest, h⟩ := h
  exact ⟨rest, by rw [Below.heap_setCell _ _ _ _ hp]; exact h⟩
theorem RowAt.drew {w : World} {g : Nat} {zs : List Int} (h : RowAt w g zs) : RowAt w.drew g zs := h
theorem RowAt.drewN {w : World} {g : Nat} {zs : List Int} (h : RowAt w g zs) (k : Nat) : RowAt (w.drewN k) g zs := h
theorem RowAt.lt {w : World} {g : Nat} {zs : List Int} (h : RowAt w g zs) : g < w.heap.size := by
  obtain ⟨rest, h⟩ := h
  rcases Nat.lt_or_ge g w.heap.size with h' | h'
  · exact h'
  · rw [Array.getElem?_eq_none h'] at h; cases h
theorem RowAt.block {w w' : World} {g : Nat} {zs : List Int} (h : RowAt w g zs) (e : w'.heap[g]? = w.heap[g]?) : RowAt w' g zs := by
  obtain ⟨rest, h⟩ := h
  exact ⟨rest, by rw [e]; exact h⟩
theorem RowAt.alloc {w : World} {g : Nat} {zs : List Int} (h : RowAt w g zs) (o : Obj) : RowAt (w.alloc o) g zs := h.block (Below.heap_alloc w o g h.lt)
theorem RowAt.of_own {w : World} {base : Nat} {g n cap : Nat} {zs : List Int} (h : w.ownsRow base 3 1 (.slice (some ⟨g, 0, none⟩) n cap) n (zs.map (Value.int .i64))) : RowAt w g zs ∧ base ≤ g ∧ n ≤ cap ∧ cap ≤ maxLen ∧ zs.length = n := by
  obtain ⟨hl, h⟩ := h
  rcases h with ⟨h, _⟩ | ⟨g', cap', cur, h, hb, hh, hc, hm, hs, ht⟩
  · cases h
  · simp only [Value.slice.injEq, Option.some.injEq, Addr.mk.injEq, and_true, true_and] at h
    obtain ⟨rfl, rfl⟩ := h
    rw [Nat.mul_one] at ht
    refine ⟨⟨cur.toList.drop n, ?_⟩, hb, hc, hm, by simpa using hl⟩
    rw [← ht, List.take_append_drop]; simpa using hh
theorem Kept.cell {S : Nat → Prop} {w w' : World} (h : Kept S w w') {p : Addr} (hp : p.block < w.heap.size) (hS : ¬ S p.block) : w'.cell? p = w.cell? p := World.cell?_of_block (w := w) (h.block p.block hp hS)
/-- A value that owns the bytes zs in new memory: nil, or a row. -/
theorem own_cases {w : World} {base : Nat} {v : Value} {zs : List Int} (h : w.ownsRow base 3 1 v zs.length (zs.map (Value.int .i64))) :
    (v = .slice none 0 0 ∧ zs = []) ∨ ∃ g cap, v = .slice (some ⟨g, 0, none⟩) zs.length cap ∧ RowAt w g zs ∧ base ≤ g ∧ zs.length ≤ cap ∧ cap ≤ maxLen := by
  rcases h.2 with ⟨h1, h2⟩ | ⟨g, cap, cur, rfl, r⟩
  · left; exact ⟨h1, List.length_eq_zero_iff.1 h2⟩
  · right
    have := RowAt.of_own h
    exact ⟨g, cap, rfl, this.1, this.2.1, this.2.2.1, this.2.2.2.1⟩

theorem own_len {w : World} {base : Nat} {v : Value} {n : Nat} {zs : List Int} (hl : zs.length = n) (h : w.ownsRow base 3 1 v n (zs.map (Value.int .i64))) :
    (v = .slice none 0 0 ∧ n = 0) ∨ ∃ g cap, v = .slice (some ⟨g, 0, none⟩) n cap ∧ RowAt w g zs ∧ base ≤ g ∧ n ≤ cap ∧ cap ≤ maxLen := by
  subst hl
  rcases own_cases h with ⟨h1, h2⟩ | h
  · left; exact ⟨h1, by rw [h2]; rfl⟩
  · right; exact h

theorem RowAt.later {w w' : World} {g : Nat} {zs : List Int} (h : RowAt w g zs) {B : Nat} (hb : Below B w w') (hB : w.heap.size ≤ B) : RowAt w' g zs := h.block (hb.block g (Nat.lt_of_lt_of_le h.lt hB))
theorem RowAt.kept {S : Nat → Prop} {w w' : World} {g : Nat} {zs : List Int} (h : RowAt w g zs) (hk : Kept S w w') (hS : ¬ S g) : RowAt w' g zs := h.block (hk.block g h.lt hS)
theorem ownsRow_below {w w' : World} {base : Nat} {e : TypeId} {size : Nat} {v : Value} {n : Nat} {xs : List Value} (h : w.ownsRow base e size v n xs) (hb : Below w.heap.size w w') : w'.ownsRow base e size v n xs := by
  refine ⟨h.1, ?_⟩
  rcases h.2 with h2 | ⟨g, cap, cur, hv, hg, hh, r⟩
  · exact .inl h2
  · exact .inr ⟨g, cap, cur, hv, hg, by rw [hb.block g (lt_of_block hh)]; exact hh, r⟩
theorem ownsRow_base {w : World} {base base' : Nat} {e : TypeId} {size : Nat} {v : Value} {n : Nat} {xs : List Value} (h : w.ownsRow base e size v n xs) (hb : base' ≤ base) : w.ownsRow base' e size v n xs := by
  refine ⟨h.1, ?_⟩
  rcases h.2 with h2 | ⟨g, cap, cur, hv, hg, r⟩
  · exact .inl h2
  · exact .inr ⟨g, cap, cur, hv, by omega, r⟩
theorem add_at (b o j : Nat) : (⟨b, o, none⟩ : Addr).add j = ⟨b, o + j, none⟩ := by
  unfold Addr.add
  split
  · next h => subst h; rfl
  · rfl
theorem set_take (l : List Int) (k : Nat) (z : Int) (h : k < l.length) : (l.set k z).take (k + 1) = l.take k ++ [z] := by
  rw [List.take_succ_eq_append_getElem (by simpa using h)]
  simp [List.take_set_of_le]
theorem info_intsA : (Try.prog.info? 44).map (fun i => (i.zero, i.size, i.bytes)) = some (some (.slice none 0 0), 1, 24) := by kernel_rfl
theorem one_int (z : Int) : ∀ u ∈ [Value.int .i64 z], u.oneCell' = true := by intro u hu; simp at hu; subst hu; rfl
theorem one_header (a : Option Addr) (n c : Nat) : ∀ u ∈ [Value.slice a n c], u.oneCell' = true := by intro u hu; simp at hu; subst hu; rfl
theorem own_block {w w' : World} {base : Nat} {e : TypeId} {v : Value} {n : Nat} {xs : List Value} (h : w.ownsRow base e 1 v n xs) (hb : ∀ k, v.ownBlock = some k → w'.heap[k]? = w.heap[k]?) : w'.ownsRow base e 1 v n xs := by
  refine ⟨h.1, ?_⟩
  rcases h.2 with h1 | ⟨g, cap, cur, rfl, h1, h2, h3⟩
  · exact .inl h1
  · exact .inr ⟨g, cap, cur, rfl, h1, by rw [hb g rfl]; exact h2, h3⟩
theorem own_kept {S : Nat → Prop} {w w' : World} {base : Nat} {e : TypeId} {v : Value} {n : Nat} {xs : List Value} (h : w.ownsRow base e 1 v n xs) (hk : Kept S w w') (hS : ∀ k, v.ownBlock = some k → ¬ S k) : w'.ownsRow base e 1 v n xs :=
  own_block h fun k hk' => hk.block k (h.lt k hk').2 (hS k hk')
theorem own_set {w : World} {base g n cap : Nat} {zs : List Int} (h : w.ownsRow base 3 1 (.slice (some ⟨g, 0, none⟩) n cap) n (zs.map (Value.int .i64))) (j : Nat) (hj : j < n) (z : Int) :
    (w.setCell ⟨g, j, none⟩ (.int .i64 z)).ownsRow base 3 1 (.slice (some ⟨g, 0, none⟩) n cap) n ((zs.set j z).map (Value.int .i64)) := by
  obtain ⟨hl, h⟩ := h
  rcases h with ⟨h, _⟩ | ⟨g', cap', cur, h, hb, hh, hc, hm, hs, ht⟩
  · cases h
  · simp only [Value.slice.injEq, Option.some.injEq, Addr.mk.injEq, and_true, true_and] at h
    obtain ⟨rfl, rfl⟩ := h
    refine ⟨by simpa using hl, .inr ⟨g, cap, _, rfl, hb, heap_setCell_same w g j cur 3 (.int .i64 z) hh, hc, hm, by simpa using hs, ?_⟩⟩
    rw [Nat.mul_one] at ht ⊢
    rw [List.map_set, ← ht, Array.toList_setIfInBounds, List.take_set]
theorem own_prefix {w : World} {base : Nat} {ao : Option Addr} {n m cap : Nat} {xs ys : List Value} (hx : xs.length = n) (h : w.ownsRow base 3 1 (.slice ao (n + m) cap) (n + m) (xs ++ ys)) : w.ownsRow base 3 1 (.slice ao n cap) n xs := by
  refine ⟨by rw [hx, Nat.mul_one], ?_⟩
  rcases h.2 with ⟨h1, h2⟩ | ⟨g', cap', cur, h1, hb, hh, hc, hm, hs, ht⟩
  · simp only [Value.slice.injEq] at h1
    obtain ⟨rfl, _, rfl⟩ := h1
    obtain rfl : n = 0 := by omega
    exact .inl ⟨rfl, rfl⟩
  · simp only [Value.slice.injEq] at h1
    obtain ⟨rfl, _, rfl⟩ := h1
    refine .inr ⟨g', cap, cur, rfl, hb, hh, by omega, hm, hs, ?_⟩
    rw [Nat.mul_one] at ht ⊢
    have h3 : (cur.toList.take (n + m)).take n = (xs ++ ys).take n := by rw [ht]
    have h4 : (xs ++ ys).take n = xs := by rw [List.take_append_of_le_length (by omega), List.take_of_length_le (by omega)]
    rw [List.take_take, Nat.min_eq_left (by omega), h4] at h3
    exact h3
theorem own_at {w : World} {base g n cap : Nat} {zs : List Int} (h : w.ownsRow base 3 1 (.slice (some ⟨g, 0, none⟩) n cap) n (zs.map (Value.int .i64))) (j : Nat) (hj : j < n) : w.cell? ⟨g, j, none⟩ = some (.int .i64 (zs.getD j 0)) ∧ w.frozen? ⟨g, j, none⟩ = false := by
  have := RowAt.of_own h
  exact ⟨this.1.cell j (by omega), this.1.frozen j⟩
theorem own_olds {w : World} {base : Nat} {ao : Option Addr} {n cap : Nat} {zs : List Int} (h : w.ownsRow base 3 1 (.slice ao n cap) n (zs.map (Value.int .i64))) :
    (ao = none → n = 0 ∧ cap = 0) ∧ ((zs.map (Value.int .i64)).length = n * 1) ∧ ∀ b, ao = some b → ∀ j u, (zs.map (Value.int .i64))[j]? = some u → w.cell? (b.add j) = some u := by
  refine ⟨?_, h.1, ?_⟩
  · rintro rfl
    rcases h.2 with ⟨h1, h2⟩ | ⟨g, c, cur, h1, _⟩
    · simp only [Value.slice.injEq] at h1; exact ⟨h2, h1.2.2⟩
    · simp at h1
  · rintro b rfl j u hj
    rcases h.2 with ⟨h1, _⟩ | ⟨g, c, cur, h1, _⟩
    · simp at h1
    · simp only [Value.slice.injEq, Option.some.injEq] at h1
      obtain ⟨rfl, _, rfl⟩ := h1
      have hlt : j < n := by
        have h2 := h.1
        rcases Nat.lt_or_ge j n with h' | h'
        · exact h'
        · rw [List.getElem?_eq_none (by rw [h2]; omega)] at hj; cases hj
      rw [add_at, Nat.zero_add, (own_at h j hlt).1, ← hj, List.getElem?_map]
      have : j < zs.length := by have := h.1; simp at this; omega
      simp [List.getD, this]

/-- n lists behind the headers of block O, each a row of its own, list j holding f j. -/
structure Lot (w : World) (O n : Nat) (V : Nat → Option Addr) (len cap cap0 : Nat → Nat) (f : Nat → List Int) : Prop where
  olt : O < w.heap.size
  heads : ∀ j, j < n → w.cell? ⟨O, j, none⟩ = some (.slice (V j) (len j) (cap j))
  own : ∀ j, j < n → w.ownsRow 0 3 1 (.slice (V j) (len j) (cap0 j)) (len j) ((f j).map (Value.int .i64))
  caps : ∀ j, j < n → cap j = cap0 j ∨ cap j = len j
  apart : ∀ j j' g, j < n → j' < n → V j = some ⟨g, 0, none⟩ → V j' = some ⟨g, 0, none⟩ → j = j'
  off : ∀ j g, j < n → V j = some ⟨g, 0, none⟩ → g ≠ O
/-- The blocks that hold the lists. -/
def LotS (n : Nat) (V : Nat → Option Addr) (k : Nat) : Prop := ∃ j, j < n ∧ V j = some ⟨k, 0, none⟩
theorem own_addr {w : World} {base : Nat} {ao : Option Addr} {n cap : Nat} {xs : List Value} {k : Nat} (h : w.ownsRow base 3 1 (.slice ao n cap) n xs) (hk : (Value.slice ao n cap).ownBlock = some k) : ao = some ⟨k, 0, none⟩ := by
  rcases h.2 with ⟨h1, _⟩ | ⟨g, c, cur, h1, _⟩
  · simp only [Value.slice.injEq] at h1; rw [h1.1] at hk; cases hk
  · simp only [Value.slice.injEq] at h1
    rw [h1.1] at hk
    simp [Value.ownBlock] at hk
    rw [h1.1, hk]
theorem Lot.at {w : World} {O n : Nat} {V : Nat → Option Addr} {len cap cap0 : Nat → Nat} {f : Nat → List Int} (h : Lot w O n V len cap cap0 f) {j : Nat} (hj : j < n) (h0 : 0 < cap0 j) : ∃ g, V j = some ⟨g, 0, none⟩ ∧ g < w.heap.size := by
  rcases (h.own j hj).2 with ⟨h1, _⟩ | ⟨g, c, cur, h1, h2, h3, _⟩
  · simp only [Value.slice.injEq] at h1; omega
  · simp only [Value.slice.injEq] at h1
    refine ⟨g, h1.1, ?_⟩
    rcases Nat.lt_or_ge g w.heap.size with h' | h'
    · exact h'
    · rw [Array.getElem?_eq_none h'] at h3; cases h3
theorem Lot.capLe {w : World} {O n : Nat} {V : Nat → Option Addr} {len cap cap0 : Nat → Nat} {f : Nat → List Int} (h : Lot w O n V len cap cap0 f) {j : Nat} (hj : j < n) : len j ≤ cap0 j := by
  rcases (h.own j hj).2 with ⟨h1, h2⟩ | ⟨g, c, cur, h1, h2, h3, h4, _⟩
  · omega
  · simp only [Value.slice.injEq] at h1; omega
/-- One list written at one place. -/
theorem Lot.set {w : World} {O n : Nat} {V : Nat → Option Addr} {len cap cap0 : Nat → Nat} {f : Nat → List Int} (h : Lot w O n V len cap cap0 f) {j t g : Nat} (hj : j < n) (ht : t < len j) (hg : V j = some ⟨g, 0, none⟩) (z : Int) :
    Lot (w.setCell ⟨g, t, none⟩ (.int .i64 z)) O n V len cap cap0 (fun j' => if j' = j then (f j).set t z else f j') := by
  have hs : (w.setCell ⟨g, t, none⟩ (.int .i64 z)).heap.size = w.heap.size := by simp [World.setCell]
  refine ⟨by rw [hs]; exact h.olt, fun j' hj' => ?_, fun j' hj' => ?_, h.caps, h.apart, h.off⟩
  · rw [World.cell?_setCell_other _ _ _ _ (by intro e; simp only [Addr.mk.injEq] at e; exact h.off j g hj hg e.1)]
    exact h.heads j' hj'
  · by_cases e : j' = j
    · subst e
      have ho := h.own j' hj'
      rw [hg] at ho ⊢
      rw [if_pos rfl]
      exact own_set ho t ht z
    · rw [if_neg e]
      refine own_block (h.own j' hj') fun k hk => Below.heap_setCell _ _ _ _ ?_
      intro hkg
      have := own_addr (h.own j' hj') hk
      rw [hkg] at this
      exact e (h.apart j' j g hj' hj this hg)
theorem Lot.congr {w : World} {O n : Nat} {V : Nat → Option Addr} {len cap cap0 : Nat → Nat} {f f' : Nat → List Int} (h : Lot w O n V len cap cap0 f) (e : ∀ j, j < n → f j = f' j) : Lot w O n V len cap cap0 f' :=
  ⟨h.olt, h.heads, fun j hj => by rw [← e j hj]; exact h.own j hj, h.caps, h.apart, h.off⟩
theorem Lot.later {w w' : World} {O n : Nat} {V : Nat → Option Addr} {len cap cap0 : Nat → Nat} {f : Nat → List Int} (h : Lot w O n V len cap cap0 f) {B : Nat} (hb : Below B w w') (hB : w.heap.size ≤ B) : Lot w' O n V len cap cap0 f :=
  ⟨Nat.lt_of_lt_of_le h.olt hb.size, fun j hj => (hb.cell (p := ⟨O, j, none⟩) (Nat.lt_of_lt_of_le h.olt hB)).trans (h.heads j hj),
    fun j hj => own_block (h.own j hj) fun k hk => hb.block k (Nat.lt_of_lt_of_le ((h.own j hj).lt k hk).2 hB), h.caps, h.apart, h.off⟩
/-- All but list k as it was, and list k told anew. -/
theorem Lot.kept {w w' : World} {O n : Nat} {V : Nat → Option Addr} {len cap cap0 : Nat → Nat} {f : Nat → List Int} (h : Lot w O n V len cap cap0 f) {k : Nat} (hk : k < n) (hK : Kept (fun b => V k = some ⟨b, 0, none⟩) w w')
    (ho : w'.ownsRow 0 3 1 (.slice (V k) (len k) (cap0 k)) (len k) ((f k).map (Value.int .i64))) : Lot w' O n V len cap cap0 f :=
  ⟨Nat.lt_of_lt_of_le h.olt hK.size, fun j hj => (hK.cell (p := ⟨O, j, none⟩) h.olt (fun e => h.off k O hk e rfl)).trans (h.heads j hj), fun j hj => by
    by_cases e : j = k
    · subst e; exact ho
    · exact own_kept (h.own j hj) hK (fun b hb e2 => e (h.apart j k b hj hk (own_addr (h.own j hj) hb) e2)), h.caps, h.apart, h.off⟩

theorem Lot.below {w w' : World} {O n : Nat} {V : Nat → Option Addr} {len cap cap0 : Nat → Nat} {f : Nat → List Int} (h : Lot w O n V len cap cap0 f) {B : Nat} (hb : Below B w w') (hO : O < B) (hV : ∀ j g, j < n → V j = some ⟨g, 0, none⟩ → g < B) : Lot w' O n V len cap cap0 f :=
  ⟨Nat.lt_of_lt_of_le h.olt hb.size, fun j hj => (hb.cell (p := ⟨O, j, none⟩) hO).trans (h.heads j hj),
    fun j hj => own_block (h.own j hj) fun k hk => hb.block k (hV j k hj (own_addr (h.own j hj) hk)), h.caps, h.apart, h.off⟩
theorem Kept.alloc {S : Nat → Prop} {a w : World} (h : Kept S a w) (o : Obj) : Kept S a (w.alloc o) :=
  h.trans ⟨rfl, rfl, rfl, by simp, fun k hk _ => Below.heap_alloc w o k hk⟩
theorem Kept.grown {S : Nat → Prop} {a w w' : World} {row : Option Nat} (h : Kept S a w) (hg : w.grownBy w' row) (hr : ∀ k, row = some k → k < a.heap.size → S k) : Kept S a w' :=
  ⟨hg.os.trans h.os, hg.tape.trans h.tape, hg.output.trans h.output, Nat.le_trans h.size hg.size, fun k hk hs => (hg.block k (Nat.lt_of_lt_of_le hk h.size) (fun e => hs (hr k e.symm hk))).trans (h.block k hk hs)⟩

theorem row_ne {w : World} {g base : Nat} {zs : List Int} {v : Value} {k : Nat} {hd : List Value} (h : RowAt w g zs) (ho : w.ownsRow base 44 1 v k hd) : some g ≠ v.ownBlock := by
  obtain ⟨rest, h⟩ := h
  rcases ho.2 with ⟨rfl, _⟩ | ⟨g', cap, cur, rfl, _, hh, _⟩
  · intro e; cases e
  · intro e
    simp [Value.ownBlock] at e
    subst e
    rw [hh] at h
    simp at h
theorem row_grown {w w' : World} {g : Nat} {zs : List Int} {row : Option Nat} (h : RowAt w g zs) (hg : w.grownBy w' row) (hne : some g ≠ row) : RowAt w' g zs := h.block (hg.block g h.lt hne)
/-- The list k, full of its marks; and grown m times. -/
def fulR (len : Nat → Nat) (j : Nat) : List Int := (List.range (len j)).map (mkR j)
def groR (len : Nat → Nat) (j m : Nat) : List Int := (List.range (len j + m)).map (mkR j)
theorem fulR_length (len : Nat → Nat) (j : Nat) : (fulR len j).length = len j := by simp [fulR]
theorem groR_length (len : Nat → Nat) (j m : Nat) : (groR len j m).length = len j + m := by simp [groR]
theorem groR_succ (len : Nat → Nat) (j m : Nat) : (groR len j (m + 1)).map (Value.int .i64) = (groR len j m).map (Value.int .i64) ++ [.int .i64 (mkR j (len j + m))] := by
  rw [groR, groR, ← Nat.add_assoc, List.range_succ, List.map_append, List.map_append]; rfl
theorem groR_zero (len : Nat → Nat) (j : Nat) : groR len j 0 = fulR len j := rfl
theorem groR_app (len : Nat → Nat) (j m : Nat) : groR len j m = fulR len j ++ (List.range m).map (fun t => mkR j (len j + t)) := by
  rw [groR, fulR, List.range_add, List.map_append, List.map_map]; rfl
theorem fulR_at (len : Nat → Nat) (j t : Nat) (ht : t < len j) : (fulR len j).getD t 0 = mkR j t := by simp [fulR, List.getD, ht]
theorem groR_at (len : Nat → Nat) (j m t : Nat) (ht : t < len j + m) : (groR len j m).getD t 0 = mkR j t := by simp [groR, List.getD, ht]
/-- The lists that were grown, i of them. -/
structure GrewR (base : Nat) (w : World) (gv : Value) (i : Nat) (V : Nat → Option Addr) (len : Nat → Nat) (hd : List Value) : Prop where
  outer : w.ownsRow base 44 1 gv i hd
  inner : ∀ j, j < i → ∃ g cap, hd[j]? = some (.slice (some ⟨g, 0, none⟩) (len j + 70) cap) ∧ RowAt w g (groR len j 70) ∧ (base ≤ g ∨ V j = some ⟨g, 0, none⟩)
theorem GrewR.step {base n : Nat} {w w1 w2 : World} {gv gv' : Value} {i : Nat} {V : Nat → Option Addr} {len : Nat → Nat} {hd : List Value} {g cap : Nat} (h : GrewR base w gv i V len hd)
    (hap : ∀ j j' g, j < n → j' < n → V j = some ⟨g, 0, none⟩ → V j' = some ⟨g, 0, none⟩ → j = j') (hin : i < n) (hlt : ∀ g, V i = some ⟨g, 0, none⟩ → g < base)
    (hK : Kept (fun b => V i = some ⟨b, 0, none⟩) w w1) (hr : RowAt w1 g (groR len i 70)) (hgb : base ≤ g ∨ V i = some ⟨g, 0, none⟩)
    (ho : w2.ownsRow base 44 1 gv' (i + 1) (hd ++ [.slice (some ⟨g, 0, none⟩) (len i + 70) cap])) (hg : (w1.alloc (.cells #[.slice (some ⟨g, 0, none⟩) (len i + 70) cap] 44)).grownBy w2 gv.ownBlock) (ho1 : w1.ownsRow base 44 1 gv i hd) :
    GrewR base w2 gv' (i + 1) V len (hd ++ [.slice (some ⟨g, 0, none⟩) (len i + 70) cap]) := by
  have hl : hd.length = i := by have := h.outer.1; omega
  have keep : ∀ g zs, RowAt w1 g zs → RowAt w2 g zs := fun g zs h => row_grown (h.alloc _) hg (row_ne h ho1)
  refine ⟨ho, fun j hj => ?_⟩
  by_cases hji : j < i
  · obtain ⟨g', cap', e', hr', hb'⟩ := h.inner j hji
    refine ⟨g', cap', by rw [List.getElem?_append_left (by omega)]; exact e', keep _ _ (hr'.kept hK ?_), hb'⟩
    intro e
    rcases hb' with hb' | hb'
    · have := hlt g' e; omega
    · have := hap j i g' (by omega) hin hb' e; omega
  · have e : j = i := by omega
    subst e
    exact ⟨g, cap, by rw [List.getElem?_append_right (by omega)]; simp [hl], keep _ _ hr, hgb⟩
set_option maxRecDepth 20000 in
set_option maxHeartbeats 8000000 in
theorem rapart_any (O n c : Nat) (V : Nat → Option Addr) (len cap cap0 : Nat → Nat) (f : Nat → List Int) (w : World) (hx : Lot w O n V len cap cap0 f) (hn : n ≤ 1048576) (hl : ∀ j, j < n → len j + 70 ≤ 17592186044416) :
    Calls Try.prog 25 #[.slice (some ⟨O, 0, none⟩) n c] w fun e w' => e = .returned (.bool true) ∧ Kept (LotS n V) w w' := by
  have HX : Hid (Lot w O n V len cap cap0 f) := hx
  clear hx
  go_enter Try.func25, Try.ntmps25
  go_wp2
  go_loopw [3, 4] (fun i _ wr => ∃ (k : Nat) (f' : Nat → List Int), k ≤ n ∧ i = .int .i64 k ∧ Lot wr O n V len cap cap0 f' ∧ (∀ j, j < k → f' j = fulR len j) ∧ Kept (LotS n V) w wr) (fun i _ _ => n - (intOf i).toNat)
  case atStart => exact ⟨0, f, Nat.zero_le _, rfl, HX.out, fun j h => by omega, Kept.refl _ _⟩
  case round =>
    clear HX
    obtain ⟨i, f', hi, rfl, hlot, hfu, hkept⟩ := hrel
    by_cases hlt : i < n
    · have c1 := hlot.heads i hlt
      have tL := hl i hlt
      have a1 : (0 : Int) ≤ (i : Int) := by omega
      have a2 : (i : Int) < (n : Int) := by omega
      have HH : Hid (Lot _ O n V len cap cap0 f' ∧ (∀ j, j < i → f' j = fulR len j) ∧ Kept (LotS n V) w _) := ⟨hlot, hfu, hkept⟩
      clear hkept hlot hfu
      go_wp2
      go_loopw [4] (fun t wr => ∃ (k : Nat) (f2 : Nat → List Int), k ≤ len i ∧ t = .int .i64 k ∧ Lot wr O n V len cap cap0 f2 ∧ (∀ j, j < i → f2 j = fulR len j) ∧ (f2 i).take k = (List.range k).map (mkR i) ∧ Kept (LotS n V) w wr) (fun t _ => len i - (intOf t).toNat)
      case atStart => exact ⟨0, f', Nat.zero_le _, rfl, HH.out.1, HH.out.2.1, by simp, HH.out.2.2⟩
      case round =>
        clear HH c1
        obtain ⟨k, f2, hk, rfl, hlot, hfu, htk, hkept⟩ := hrel
        have c1 := hlot.heads i hlt
        have hfl : (f2 i).length = len i := by have := (hlot.own i hlt).1; simpa using this
        by_cases hlk : k < len i
        · obtain ⟨g, eg, hglt⟩ := hlot.at hlt (by have := hlot.capLe hlt; omega)
          have ho := hlot.own i hlt
          rw [eg] at ho c1
          obtain ⟨hgc, hgf⟩ := own_at ho k hlk
          have R0 := hlot.set hlt hlk eg (mkR i k)
          obtain ⟨f3, hf3⟩ : ∃ f3 : Nat → List Int, (fun j' => if j' = i then (f2 i).set k (mkR i k) else f2 j') = f3 := ⟨_, rfl⟩
          rw [hf3] at R0
          have R1 : Hid _ := R0
          have R2 : Hid _ := (hkept.setCell (p := ⟨g, k, none⟩) (by exact ⟨i, hlt, eg⟩) (.int .i64 (mkR i k)))
          have R3 : Hid ((∀ j, j < i → f3 j = fulR len j) ∧ (f3 i).take (k + 1) = (List.range (k + 1)).map (mkR i)) := by
            rw [← hf3]
            refine ⟨fun j hj => ?_, ?_⟩
            · show (if j = i then _ else f2 j) = _
              rw [if_neg (by omega)]; exact hfu j hj
            · show (if i = i then _ else f2 i).take (k + 1) = _
              rw [if_pos rfl, set_take _ _ _ (by omega), htk, List.range_succ, List.map_append]; rfl
          clear hf3 R0
          have a3 : (0 : Int) ≤ (k : Int) := by omega
          have a4 : (k : Int) < (len i : Int) := by omega
          have HMV : Hid (mkR i k = (i : Int) * 100003 + (k : Int)) := rfl
          clear hlot hkept eg ho hfu htk hfl
          go_wp2
          go_roundw
          case rel => exact ⟨k + 1, _, by omega, by go_num, R1.out, R3.out.1, R3.out.2, R2.out⟩
          case measure => simp [intOf]; omega
        · have e : k = len i := by omega
          subst e
          have R3 : Hid (∀ j, j < i + 1 → f2 j = fulR len j) := fun j hj => by
            by_cases h : j < i
            · exact hfu j h
            · obtain rfl : j = i := by omega
              rw [List.take_of_length_le (by omega)] at htk
              exact htk
          have R1 : Hid _ := hlot
          have R2 : Hid _ := hkept
          clear hlot hkept htk hfu hfl
          go_wp2
          go_roundw
          case rel => exact ⟨i + 1, f2, by omega, by go_num, R1.out, R3.out, R2.out⟩
          case measure => simp [intOf]; omega
    · have e : i = n := by omega
      subst e
      have hl1 := hlot.congr hfu
      obtain ⟨w1, hw1⟩ : ∃ x, x = wr := ⟨_, rfl⟩
      subst hw1
      have HK1 : Hid _ := hkept
      clear hlot hkept hfu
      obtain ⟨iB, hiB, hB0, hB1, hB2⟩ := info_parts info_int
      obtain ⟨iL, hiL, hL0, hL1, hL2⟩ := info_parts info_intsA
      have HG1 : Hid (∀ j g, j < i → V j = some ⟨g, 0, none⟩ → g < w1.heap.size) := fun j g hj hg => by
        have h1 := hl1.own j hj
        rw [hg] at h1
        exact (h1.lt g rfl).2
      have HAP : Hid (∀ j j' g, j < i → j' < i → V j = some ⟨g, 0, none⟩ → V j' = some ⟨g, 0, none⟩ → j = j') := hl1.apart
      have HL1 : Hid _ := hl1
      have HO1 : Hid (O < w1.heap.size) := hl1.olt
      have z1 := HK1.out.size
      clear hl1
      go_wp2
      go_loopw [5, 6, 7, 8] (fun gv a _ _ wr => ∃ (k : Nat) (hd : List Value), k ≤ i ∧ a = .int .i64 k ∧ GrewR w1.heap.size wr gv k V len hd ∧ Lot wr O i V len cap cap0 (fulR len) ∧ Kept (LotS i V) w wr ∧ w1.heap.size ≤ wr.heap.size) (fun _ a _ _ _ => i - (intOf a).toNat)
      case atStart => exact ⟨0, [], Nat.zero_le _, rfl, ⟨World.ownsRow_nil _ _ _ _, fun j h => by omega⟩, HL1.out, HK1.out, Nat.le_refl _⟩
      case round =>
        clear HL1 HK1
        obtain ⟨k, hd, hk, rfl, hgr, hlr, hkr, hsr⟩ := hrel
        by_cases hlt : k < i
        · have c1 := hlr.heads k hlt
          have tL := hl k hlt
          have a1 : (0 : Int) ≤ (k : Int) := by omega
          have a2 : (k : Int) < (i : Int) := by omega
          obtain ⟨w2, hw2⟩ : ∃ x, x = wr := ⟨_, rfl⟩
          subst hw2
          have hok := hlr.own k hlt
          have HOK : Hid (w2.ownsRow 0 3 1 (.slice (V k) (len k) (cap0 k)) (len k) ((fulR len k).map (Value.int .i64))) := hok
          have HGR : Hid _ := hgr
          have HLR : Hid _ := hlr
          have HKR : Hid _ := hkr
          clear hgr hlr hkr hok
          go_wp2
          go_loopw [7, 8] (fun v t wr => ∃ m : Nat, m ≤ 70 ∧ t = .int .i64 m ∧ Kept (fun b => V k = some ⟨b, 0, none⟩) w2 wr ∧ wr.ownsRow 0 3 1 (.slice (V k) (len k) (cap0 k)) (len k) ((fulR len k).map (Value.int .i64)) ∧
            ((v = .slice (V k) (len k + m) (cap k) ∧ wr.ownsRow 0 3 1 (.slice (V k) (len k + m) (cap0 k)) (len k + m) ((groR len k m).map (Value.int .i64))) ∨ (0 < m ∧ wr.ownsRow w2.heap.size 3 1 v (len k + m) ((groR len k m).map (Value.int .i64))))) (fun _ t _ => 70 - (intOf t).toNat)
          case atStart => exact ⟨0, Nat.zero_le _, rfl, Kept.refl _ _, HOK.out, .inl ⟨rfl, by rw [groR_zero]; exact HOK.out⟩⟩
          case round =>
            clear c1 HOK
            obtain ⟨m, hm, rfl, hkw, hokw, hown⟩ := hrel
            have c1 : wr.cell? ⟨O, k, none⟩ = some (.slice (V k) (len k) (cap k)) := (hkw.cell (p := ⟨O, k, none⟩) HLR.out.olt (fun e => HLR.out.off k O hlt e rfl)).trans (HLR.out.heads k hlt)
            have hsw := hkw.size
            have HKW : Hid _ := hkw
            have HOKW : Hid (wr.ownsRow 0 3 1 (.slice (V k) (len k) (cap0 k)) (len k) ((fulR len k).map (Value.int .i64))) := hokw
            clear hkw hokw
            by_cases hmt : m < 70
            · have HGS : Hid _ := groR_succ len k m
              have HMK : Hid (mkR k (len k + m) = (k : Int) * 100003 + (len k : Int) + (m : Int)) := by show mkR k (len k + m) = _; unfold mkR; omega
              rw [HMK.out] at HGS
              rcases hown with ⟨hv, hA⟩ | ⟨hm0, hB⟩
              · by_cases hroom : len k + m + 1 ≤ cap k
                · have hcc : cap0 k = cap k := by
                    rcases HLR.out.caps k hlt with h | h
                    · exact h.symm
                    · omega
                  obtain ⟨g, eg, _⟩ := HLR.out.at hlt (by omega)
                  rw [eg] at hv hA
                  rw [hcc] at hA
                  have HCC : Hid (cap0 k = cap k) := hcc
                  clear hcc
                  subst hv
                  have R4 : Hid (V k = some ⟨g, 0, none⟩) := eg
                  clear eg
                  go_wp2_with (at_builtin; refine wpList_append_fits _ rfl _ _ 44 rfl 0 3 iB 1 Try.underlying44 hiB hB1 g (len k + m) (cap k) _ rfl (hA.alloc _) ⟨wr.heap.size, 0, none⟩ 1 1 [.int .i64 ((k : Int) * 100003 + (len k : Int) + (m : Int))] rfl rfl (cell_one_newN _ _ _) (one_int _) ?b1 ?_)
                  case b1 => omega
                  · intro w3 hown' hgrow
                    have R1 : w3.ownsRow 0 3 1 (.slice (some ⟨g, 0, none⟩) (len k + (m + 1)) (cap k)) (len k + (m + 1)) ((groR len k (m + 1)).map (Value.int .i64)) := by rw [HGS.out]; exact hown'
                    have R2 : Kept (fun b => V k = some ⟨b, 0, none⟩) w2 w3 := (HKW.out.alloc _).grown hgrow (fun b hb _ => by cases hb; exact R4.out)
                    have R3 : w3.ownsRow 0 3 1 (.slice (V k) (len k) (cap0 k)) (len k) ((fulR len k).map (Value.int .i64)) := by
                      rw [R4.out, HCC.out]
                      refine own_prefix (m := m + 1) (ys := ((List.range (m + 1)).map (fun t => mkR k (len k + t))).map (Value.int .i64)) (by simp [fulR_length]) ?_
                      rw [← List.map_append, ← groR_app]; exact R1
                    clear hown' hgrow hA
                    go_wp2
                    go_roundw
                    case rel => exact ⟨m + 1, by omega, by go_num, R2, R3, .inl ⟨by rw [R4.out]; rfl, by rw [R4.out, HCC.out]; exact R1⟩⟩
                    case measure => simp [intOf]; omega
                · subst hv
                  obtain ⟨hno, hlo, hol⟩ := own_olds (hA.alloc (.cells #[.int .i64 ((k : Int) * 100003 + (len k : Int) + (m : Int))] 3))
                  have HNO : Hid (V k = none → len k + m = 0 ∧ cap k = 0) := fun h => ⟨(hno h).1, by have := hno h; rcases HLR.out.caps k hlt with h1 | h1 <;> omega⟩
                  have HLO : Hid _ := hlo
                  have HOL : Hid _ := hol
                  have HRO : Hid (¬ len k + m + 1 ≤ cap k) := hroom
                  clear hno hlo hol hA hroom
                  go_wp2_with (at_builtin; refine wpList_append_grows _ rfl _ _ 44 rfl 3 iB (.int .i64 0) 1 8 Try.underlying44 hiB hB0 hB1 hB2 rfl (by decide) (V k) (len k + m) (cap k) ((groR len k m).map (Value.int .i64)) rfl HNO.out HLO.out HOL.out ⟨wr.heap.size, 0, none⟩ 1 1 [.int .i64 ((k : Int) * 100003 + (len k : Int) + (m : Int))] rfl rfl (cell_one_newN _ _ _) (one_int _) ?b0 ?b1 ?b2 ?_)
                  case b0 => have := HRO.out; omega
                  case b1 => unfold maxLen; omega
                  case b2 => omega
                  · intro v' w3 hown' hgrow
                    have R1 : w3.ownsRow w2.heap.size 3 1 v' (len k + (m + 1)) ((groR len k (m + 1)).map (Value.int .i64)) := by
                      rw [HGS.out]
                      exact ownsRow_base hown' (by first | omega | (simp; omega))
                    have R2 : Kept (fun b => V k = some ⟨b, 0, none⟩) w2 w3 := (HKW.out.alloc _).grown hgrow (fun b hb _ => by cases hb)
                    have R3 : w3.ownsRow 0 3 1 (.slice (V k) (len k) (cap0 k)) (len k) ((fulR len k).map (Value.int .i64)) :=
                      own_block (HOKW.out.alloc (.cells #[.int .i64 ((k : Int) * 100003 + (len k : Int) + (m : Int))] 3)) fun b hb => hgrow.block b ((HOKW.out.alloc (.cells #[.int .i64 ((k : Int) * 100003 + (len k : Int) + (m : Int))] 3)).lt b hb).2 (fun e => by cases e)
                    clear hown' hgrow
                    go_wp2
                    go_roundw
                    case rel => exact ⟨m + 1, by omega, by go_num, R2, R3, .inr ⟨by omega, R1⟩⟩
                    case measure => simp [intOf]; omega
              · go_wp2_with (at_builtin; refine wpList_append_own _ rfl _ _ 44 rfl w2.heap.size 3 iB (.int .i64 0) 1 8 Try.underlying44 hiB hB0 hB1 hB2 rfl (by decide) _ _ _ rfl (hB.alloc _) ⟨wr.heap.size, 0, none⟩ 1 1 [.int .i64 ((k : Int) * 100003 + (len k : Int) + (m : Int))] rfl rfl (cell_one_newN _ _ _) (one_int _) ?d1 ?d2 ?d3 ?_)
                case d1 => unfold maxLen; omega
                case d2 => omega
                case d3 => first | omega | (simp; omega)
                · intro v' w3 hown' hgrow _
                  have R1 : w3.ownsRow w2.heap.size 3 1 v' (len k + (m + 1)) ((groR len k (m + 1)).map (Value.int .i64)) := by rw [HGS.out]; exact hown'
                  have R2 : Kept (fun b => V k = some ⟨b, 0, none⟩) w2 w3 := (HKW.out.alloc _).grown hgrow (fun b hb hlt => by have := (hB.lt b hb).1; omega)
                  have R3 : w3.ownsRow 0 3 1 (.slice (V k) (len k) (cap0 k)) (len k) ((fulR len k).map (Value.int .i64)) :=
                    own_block (HOKW.out.alloc (.cells #[.int .i64 ((k : Int) * 100003 + (len k : Int) + (m : Int))] 3)) fun b hb => hgrow.block b ((HOKW.out.alloc (.cells #[.int .i64 ((k : Int) * 100003 + (len k : Int) + (m : Int))] 3)).lt b hb).2 (fun e => by
                      have h1 := (hB.lt b e.symm).1
                      have h2 := HG1.out k b hlt (own_addr HOKW.out hb)
                      omega)
                  clear hown' hgrow hB
                  go_wp2
                  go_roundw
                  case rel => exact ⟨m + 1, by omega, by go_num, R2, R3, .inr ⟨by omega, R1⟩⟩
                  case measure => simp [intOf]; omega
            · have e : m = 70 := by omega
              subst e
              clear c1
              obtain ⟨g, cap', rfl, hrow, hgb⟩ : ∃ g cap', u7 = .slice (some ⟨g, 0, none⟩) (len k + 70) cap' ∧ RowAt wr g (groR len k 70) ∧ (w1.heap.size ≤ g ∨ V k = some ⟨g, 0, none⟩) := by
                rcases hown with ⟨hv, hA⟩ | ⟨_, hB⟩
                · rcases own_len (groR_length len k 70) hA with ⟨_, h0⟩ | ⟨g, cap', e, hr, _⟩
                  · omega
                  · simp only [Value.slice.injEq] at e
                    exact ⟨g, cap k, by rw [hv, e.1], hr, .inr e.1⟩
                · rcases own_len (groR_length len k 70) hB with ⟨_, h0⟩ | ⟨g, cap', e, hr, hg, _⟩
                  · omega
                  · exact ⟨g, cap', e, hr, .inl (by omega)⟩
              have ho : wr.ownsRow w1.heap.size 44 1 u5 k hd := own_kept HGR.out.outer HKW.out (fun b hb e => by
                have h1 := (HGR.out.outer.lt b hb).1
                have h2 := HG1.out k b hlt e
                omega)
              have HRW : Hid (RowAt wr g (groR len k 70) ∧ (w1.heap.size ≤ g ∨ V k = some ⟨g, 0, none⟩)) := ⟨hrow, hgb⟩
              clear hown hrow hgb
              go_wp2_with (at_builtin; refine wpList_append_own _ rfl _ _ 53 rfl w1.heap.size 44 iL (.slice none 0 0) 1 24 Try.underlying53 hiL hL0 hL1 hL2 rfl (by decide) _ _ _ rfl (ho.alloc _) ⟨wr.heap.size, 0, none⟩ 1 1 [.slice (some ⟨g, 0, none⟩) (len k + 70) cap'] rfl rfl (cell_one_newN _ _ _) (one_header _ _ _) ?f1 ?f2 ?f3 ?_)
              case f1 => unfold maxLen; omega
              case f2 => omega
              case f3 => first | omega | (simp; omega)
              · intro v' w3 hown' hgrow _
                have R1 := HGR.out.step HAP.out hlt (fun g hg => HG1.out k g hlt hg) HKW.out HRW.out.1 HRW.out.2 hown' hgrow ho
                have R2 : Lot w3 O i V len cap cap0 (fulR len) := (HLR.out.kept hlt HKW.out HOKW.out).below (B := w1.heap.size) (((Below.refl _ _).alloc (by omega) _).grown hgrow (by simp; omega) (fun j hj => (ho.lt j hj).1)) HO1.out HG1.out
                have R3 : Kept (LotS i V) w w3 := ((HKR.out.trans (HKW.out.mono (fun b hb => ⟨k, hlt, hb⟩))).alloc _).grown hgrow (fun b hb hlt => by have := (ho.lt b hb).1; omega)
                have R4 : w1.heap.size ≤ w3.heap.size := by have := hgrow.size; simp at this; omega
                clear hown' hgrow ho
                go_wp2
                go_roundw
                case rel => exact ⟨k + 1, _, by omega, by go_num, R1, R2, R3, R4⟩
                case measure => simp [intOf]; omega
        · have e : k = i := by omega
          subst e
          obtain ⟨w3, hw3⟩ : ∃ x, x = wr := ⟨_, rfl⟩
          subst hw3
          have HKK : Hid (Kept (LotS k V) w w3) := hkr
          have heads2 : ∀ j, j < k → ∃ GO cg g cap', u5 = .slice (some ⟨GO, 0, none⟩) k cg ∧ w3.cell? ⟨GO, j, none⟩ = some (.slice (some ⟨g, 0, none⟩) (len j + 70) cap') ∧ (∀ t, t < len j + 70 → w3.cell? ⟨g, t, none⟩ = some (.int .i64 (mkR j t))) := by
            intro j hj
            obtain ⟨g, cap', e, hr, _⟩ := hgr.inner j hj
            rcases hgr.outer.2 with ⟨_, h0⟩ | ⟨GO, cg, cur, hv, r⟩
            · omega
            · have ho := hgr.outer
              rw [hv] at ho
              refine ⟨GO, cg, g, cap', hv, by rw [ho.cellAt j (by omega)]; exact e, fun t ht => ?_⟩
              rw [hr.cell t (by rw [groR_length]; omega), groR_at len j 70 t ht]
          have HH2 : Hid _ := heads2
          have HLR : Hid _ := hlr
          clear hgr hlr hkr heads2
          go_wp2
          go_loopw [9, 10] (fun a _ wr => ∃ j : Nat, j ≤ k ∧ a = .int .i64 j ∧ ∃ q, wr = w3.drewN q) (fun a _ _ => k - (intOf a).toNat)
          case atStart => exact ⟨0, Nat.zero_le _, rfl, 0, rfl⟩
          case round =>
            obtain ⟨j, hj, rfl, q, rfl⟩ := hrel
            by_cases hlt : j < k
            · have c1 := HLR.out.heads j hlt
              have tL := hl j hlt
              have a1 : (0 : Int) ≤ (j : Int) := by omega
              have a2 : (j : Int) < (k : Int) := by omega
              obtain ⟨GO, cg, g, cap', rfl, hgc, hg1⟩ := HH2.out j hlt
              have HG : Hid _ := hg1
              clear hg1
              go_wp2
              go_loopw [10] (fun a wr => ∃ t : Nat, t ≤ len j + 70 ∧ a = .int .i64 t ∧ ∃ q, wr = w3.drewN q) (fun a _ => len j + 70 - (intOf a).toNat)
              case atStart => exact ⟨0, Nat.zero_le _, rfl, _, rfl⟩
              case round =>
                obtain ⟨t, ht, rfl, q2, hwr⟩ := hrel
                have HW : Hid (wr = w3.drewN q2) := hwr
                have c1' : wr.cell? ⟨O, j, none⟩ = some (.slice (V j) (len j) (cap j)) := by rw [hwr]; exact c1
                have hgc' : wr.cell? ⟨GO, j, none⟩ = some (.slice (some ⟨g, 0, none⟩) (len j + 70) cap') := by rw [hwr]; exact hgc
                by_cases hltt : t < len j
                · obtain ⟨g0, eg, _⟩ := HLR.out.at hlt (by have := HLR.out.capLe hlt; omega)
                  have ho := HLR.out.own j hlt
                  rw [eg] at ho c1'
                  have c2 : wr.cell? ⟨g0, t, none⟩ = some (.int .i64 (mkR j t)) := by rw [hwr]; exact (own_at ho t hltt).1.trans (by rw [fulR_at len j t hltt])
                  have c3 : wr.cell? ⟨g, t, none⟩ = some (.int .i64 (mkR j t)) := by rw [hwr]; exact HG.out t (by omega)
                  have hMK : mkR j t = (j : Int) * 100003 + (t : Int) := rfl
                  rw [hMK] at c2 c3
                  have a3 : (0 : Int) ≤ (t : Int) := by omega
                  have a4 : (t : Int) < (len j : Int) := by omega
                  have a5 : (t : Int) < (len j : Int) + 70 := by omega
                  clear eg ho hwr c1 hgc hMK
                  go_wp2
                  go_roundw
                  case rel => exact ⟨t + 1, by omega, by go_num, _, HW.out⟩
                  case measure => simp [intOf]; omega
                · by_cases hlt3 : t < len j + 70
                  · have c3 : wr.cell? ⟨g, t, none⟩ = some (.int .i64 (mkR j t)) := by rw [hwr]; exact HG.out t hlt3
                    have hMK : mkR j t = (j : Int) * 100003 + (t : Int) := rfl
                    rw [hMK] at c3
                    have a3 : (0 : Int) ≤ (t : Int) := by omega
                    have a5 : (t : Int) < (len j : Int) + 70 := by omega
                    have a6 : ¬ (t : Int) < (len j : Int) := by omega
                    have d1 : decide ((t : Int) < (len j : Int)) = false := by simp; omega
                    have d2 : decide (t < len j) = false := by simp; omega
                    clear hwr c1 hgc hMK
                    go_wp2
                    go_roundw
                    case rel => exact ⟨t + 1, by omega, by go_num, _, HW.out⟩
                    case measure => simp [intOf]; omega
                  · have hlt4 : ¬ (t : Int) < (len j : Int) + 70 := by omega
                    clear hlt3 hltt hwr c1 hgc
                    go_wp2
                    go_roundw
                    case rel => exact ⟨j + 1, by omega, by go_num, _, HW.out⟩
                    case measure => simp [intOf]; omega
            · have HF : Hid (Kept (LotS k V) w (w3.drewN q)) := HKK.out.trans ⟨rfl, rfl, rfl, Nat.le_refl _, fun _ _ _ => rfl⟩
              go_wp2
              go_ret
              exact ⟨rfl, HF.out⟩
end Go.Proofs.Ytlkpgbilepehmaa
