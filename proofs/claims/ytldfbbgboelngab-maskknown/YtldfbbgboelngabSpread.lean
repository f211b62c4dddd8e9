/- Bytes that are spread over memory, list by list: what is written into them; and lists seen within known blocks. -/
import Derived.Test.YtldfbbgboelngabApart
namespace Go.Proofs.Ytldfbbgboelngab
open Go.RowKit
set_option linter.unusedVariables false
set_option linter.unusedSimpArgs false

/-- List j lies at A j (a block and a place in it), and holds f j. -/
structure Spread (w : World) (A : Nat → Nat × Nat) (n : Nat) (len : Nat → Nat) (f : Nat → Nat → Int) : Prop where
  cells : ∀ j t, j < n → t < len j → (A j).1 < w.heap.size ∧ w.cell? ⟨(A j).1, (A j).2 + t, none⟩ = some (.int .u8 (f j t)) ∧ w.frozen? ⟨(A j).1, (A j).2 + t, none⟩ = false
  inj : ∀ j t j' t', j < n → t < len j → j' < n → t' < len j' → (A j).1 = (A j').1 → (A j).2 + t = (A j').2 + t' → j = j' ∧ t = t'
theorem Spread.set {w : World} {A : Nat → Nat × Nat} {n : Nat} {len : Nat → Nat} {f : Nat → Nat → Int} (h : Spread w A n len f) {j t : Nat} (hj : j < n) (ht : t < len j) (z : Int) :
    Spread (w.setCell ⟨(A j).1, (A j).2 + t, none⟩ (.int .u8 z)) A n len (put f j t z) := by
  have hs : (w.setCell ⟨(A j).1, (A j).2 + t, none⟩ (.int .u8 z)).heap.size = w.heap.size := by simp [World.setCell]
  refine ⟨fun j' t' hj' ht' => ?_, h.inj⟩
  obtain ⟨hlt', hc', hf'⟩ := h.cells j' t' hj' ht'
  refine ⟨by rw [hs]; exact hlt', ?_, by simpa using hf'⟩
  by_cases e : j' = j ∧ t' = t
  · obtain ⟨rfl, rfl⟩ := e
    rw [World.cell?_setCell_same _ _ _ hc']
    simp [put]
  · rw [World.cell?_setCell_other _ _ _ _ (by
      intro e1
      simp only [Addr.mk.injEq, and_true] at e1
      have := h.inj j t j' t' hj ht hj' ht' e1.1 e1.2
      exact e ⟨this.1.symm, this.2.symm⟩), hc']
    simp [put, e]
theorem Spread.other {w : World} {A : Nat → Nat × Nat} {n : Nat} {len : Nat → Nat} {f : Nat → Nat → Int} (h : Spread w A n len f) {p : Addr} (hp : ∀ j, j < n → 0 < len j → (A j).1 ≠ p.block) (u : Value) : Spread (w.setCell p u) A n len f := by
  have hs : (w.setCell p u).heap.size = w.heap.size := by simp [World.setCell]
  refine ⟨fun j t hj ht => ?_, h.inj⟩
  obtain ⟨hlt, hc, hf⟩ := h.cells j t hj ht
  refine ⟨by rw [hs]; exact hlt, ?_, by simpa using hf⟩
  rw [World.cell?_setCell_other _ _ _ _ (by intro e1; exact hp j hj (by omega) (by rw [e1]))]
  exact hc
theorem Spread.congr {w : World} {A : Nat → Nat × Nat} {n : Nat} {len : Nat → Nat} {f f' : Nat → Nat → Int} (h : Spread w A n len f) (e : ∀ j t, j < n → t < len j → f j t = f' j t) : Spread w A n len f' :=
  ⟨fun j t hj ht => by rw [← e j t hj ht]; exact h.cells j t hj ht, h.inj⟩
theorem Spread.drew {w : World} {A : Nat → Nat × Nat} {n : Nat} {len : Nat → Nat} {f : Nat → Nat → Int} (h : Spread w A n len f) : Spread w.drew A n len f := ⟨h.cells, h.inj⟩
theorem Spread.later {w w' : World} {A : Nat → Nat × Nat} {n : Nat} {len : Nat → Nat} {f : Nat → Nat → Int} (h : Spread w A n len f) {B : Nat} (hb : Below B w w') (hB : w.heap.size ≤ B) : Spread w' A n len f :=
  ⟨fun j t hj ht => by
    obtain ⟨hlt, hc, hf⟩ := h.cells j t hj ht
    have hl : (A j).1 < B := Nat.lt_of_lt_of_le hlt hB
    exact ⟨Nat.lt_of_lt_of_le hlt hb.size, (hb.cell (p := ⟨(A j).1, (A j).2 + t, none⟩) hl).trans hc, (hb.frozen (p := ⟨(A j).1, (A j).2 + t, none⟩) hl).trans hf⟩, h.inj⟩

/-- Turned by 0x5a: those up to (i, k). -/
def x5 (z : Int) : Int := bits .xor .u8 z 90
theorem x5_bd (z : Int) (h : 0 ≤ z ∧ z < 256) : 0 ≤ x5 z ∧ x5 z < 256 := by
  unfold x5
  rw [u8_xor z 90 h.1 h.2 (by decide) (by decide)]
  have : z.toNat ^^^ (90 : Int).toNat < 2 ^ 8 := Nat.xor_lt_two_pow (by omega) (by decide)
  omega
def turn (f : Nat → Nat → Int) (i k : Nat) : Nat → Nat → Int := fun j t => if j < i ∨ (j = i ∧ t < k) then x5 (f j t) else f j t
theorem turn_zero (f : Nat → Nat → Int) : turn f 0 0 = f := by
  funext j t; unfold turn; rw [if_neg (by omega)]
theorem turn_put (f : Nat → Nat → Int) (i k : Nat) : ∀ j t, put (turn f i k) i k (x5 (f i k)) j t = turn f i (k + 1) j t := by
  intro j t
  unfold put turn
  by_cases h : j = i ∧ t = k
  · obtain ⟨rfl, rfl⟩ := h; simp
  · rw [if_neg h]
    by_cases h1 : j < i ∨ (j = i ∧ t < k)
    · rw [if_pos h1, if_pos (by omega)]
    · rw [if_neg h1, if_neg (by omega)]
theorem turn_next (f : Nat → Nat → Int) (len : Nat → Nat) (i : Nat) : ∀ j t, t < len j → turn f i (len i) j t = turn f (i + 1) 0 j t := by
  intro j t ht
  unfold turn
  by_cases h : j < i ∨ (j = i ∧ t < len i)
  · rw [if_pos h, if_pos (by omega)]
  · have h2 : ¬ (j < i + 1 ∨ (j = i + 1 ∧ t < 0)) := by
      intro h3
      rcases h3 with h3 | h3
      · have : j = i := by omega
        subst this; exact h (.inr ⟨rfl, ht⟩)
      · omega
    rw [if_neg h, if_neg h2]
theorem turn_here (f : Nat → Nat → Int) (i k : Nat) : turn f i k i k = f i k := by unfold turn; rw [if_neg (by omega)]
/-- The lists turned. -/
def turned (zss : List (List Int)) : List (List Int) := zss.map (·.map x5)
def byteAt (zss : List (List Int)) (j t : Nat) : Int := (zss.getD j []).getD t 0
theorem turned_length (zss : List (List Int)) : (turned zss).length = zss.length := by simp [turned]
theorem turned_list (zss : List (List Int)) (j : Nat) : (turned zss).getD j [] = (zss.getD j []).map x5 := by
  unfold turned
  simp only [List.getD_eq_getElem?_getD, List.getElem?_map]
  cases zss[j]? <;> simp
theorem turned_len (zss : List (List Int)) (j : Nat) : lenAt (turned zss) j = lenAt zss j := by
  show ((turned zss).getD j []).length = _; rw [turned_list, List.length_map]
theorem turned_all (zss : List (List Int)) (n : Nat) : ∀ j t, j < n → t < lenAt zss j → turn (byteAt zss) n 0 j t = byteAt (turned zss) j t := by
  intro j t hj ht
  have ht' : t < (zss.getD j []).length := ht
  unfold turn byteAt
  rw [if_pos (.inl hj), turned_list]
  simp only [List.getD_eq_getElem?_getD] at ht' ⊢
  simp [ht']
theorem turned_rowOf (zss : List (List Int)) (a : Int) : rowOf (turned zss) a = ((rowOf zss a).1.map x5, (rowOf zss a).2) := by
  unfold rowOf
  rw [turned_length]
  by_cases h : a < 0 ∨ (zss.length : Int) ≤ a
  · rw [if_pos h, if_pos h]; rfl
  · rw [if_neg h, if_neg h]
    simp only [turned_len]
    by_cases h2 : ∀ i, i < zss.length → lenAt zss i = lenAt zss 0
    · rw [if_pos h2, if_pos h2, turned_list]
    · rw [if_neg h2, if_neg h2]; rfl
theorem turned_bytes (zss : List (List Int)) (j : Nat) (h : Bytes (zss.getD j [])) : Bytes ((turned zss).getD j []) := by
  rw [turned_list]
  intro z hz
  obtain ⟨y, hy, rfl⟩ := List.mem_map.1 hz
  exact x5_bd y (h y hy)

/-- Out of headers: where each list lies, and its room. -/
def hdV (hd : List Value) (j : Nat) : Option Addr × Nat := match hd[j]? with | some (.slice so _ c) => (so, c) | _ => (none, 0)
def hdA (hd : List Value) (j : Nat) : Nat × Nat := (match (hdV hd j).1 with | some a => a.block | none => 0, 0)
theorem OwnL.out {base : Nat} {w : World} {v : Value} {n : Nat} {zss : List (List Int)} {hd : List Value} (h : OwnL base w v n zss hd) :
    Spread w (hdA hd) n (lenAt zss) (byteAt zss) ∧ ∀ j, j < n → hd[j]? = some (.slice (hdV hd j).1 (lenAt zss j) (hdV hd j).2) ∧
      (0 < lenAt zss j → (hdV hd j).1 = some ⟨(hdA hd j).1, 0, none⟩ ∧ base ≤ (hdA hd j).1 ∧ (hdA hd j).1 < w.heap.size ∧ some (hdA hd j).1 ≠ v.ownBlock) := by
  have key : ∀ j, j < n → hd[j]? = some (.slice (hdV hd j).1 (lenAt zss j) (hdV hd j).2) ∧ (0 < lenAt zss j → (hdV hd j).1 = some ⟨(hdA hd j).1, 0, none⟩ ∧ base ≤ (hdA hd j).1 ∧ RowAt w (hdA hd j).1 (zss.getD j [])) := by
    intro j hj
    obtain ⟨so, c, e, hr⟩ := h.inner j hj
    have e1 : hdV hd j = (so, c) := by unfold hdV; rw [e]
    refine ⟨by rw [e1]; exact e, fun h0 => ?_⟩
    obtain ⟨g, rfl, hg, hrow⟩ := hr h0
    have e2 : (hdA hd j).1 = g := by unfold hdA; rw [e1]
    rw [e1, e2]
    exact ⟨rfl, hg, hrow⟩
  refine ⟨⟨fun j t hj ht => ?_, fun j t j' t' hj ht hj' ht' e1 e2 => ?_⟩, fun j hj => ?_⟩
  · obtain ⟨_, h2⟩ := key j hj
    obtain ⟨_, _, hr⟩ := h2 (by omega)
    have e : (hdA hd j).2 + t = t := by show 0 + t = t; omega
    rw [e]
    exact ⟨hr.lt, hr.cell t ht, hr.frozen t⟩
  · obtain ⟨k1, k2⟩ := key j hj
    obtain ⟨k1', k2'⟩ := key j' hj'
    obtain ⟨a1, _, _⟩ := k2 (by omega)
    obtain ⟨a1', _, _⟩ := k2' (by omega)
    have et : t = t' := by have : 0 + t = 0 + t' := e2; omega
    refine ⟨?_, et⟩
    rw [a1] at k1
    rw [a1', ← e1] at k1'
    rcases Nat.lt_trichotomy j j' with hh | hh | hh
    · exact (h.apart j j' _ _ _ _ _ hh hj' (by omega) (by omega) k1 k1').elim
    · exact hh
    · exact (h.apart j' j _ _ _ _ _ hh hj (by omega) (by omega) k1' k1).elim
  · obtain ⟨k1, k2⟩ := key j hj
    refine ⟨k1, fun h0 => ?_⟩
    obtain ⟨a1, a2, a3⟩ := k2 h0
    exact ⟨a1, a2, a3.lt, row_ne a3 h.outer⟩

/-- Lists seen, all whose blocks are of P. -/
structure SeenLB (P : Nat → Prop) (w : World) (ao : Option Addr) (n : Nat) (zss : List (List Int)) : Prop where
  len : zss.length = n
  top : n ≤ 1048576
  cells : ∀ i, i < n → ∃ b o so c, ao = some ⟨b, o, none⟩ ∧ P b ∧ b < w.heap.size ∧ w.cell? ⟨b, o + i, none⟩ = some (.slice so (lenAt zss i) c) ∧ Seen w so (lenAt zss i) (zss.getD i []) ∧ ∀ b' o', 0 < lenAt zss i → so = some ⟨b', o', none⟩ → P b'
theorem SeenLB.plain {P : Nat → Prop} {w : World} {ao : Option Addr} {n : Nat} {zss : List (List Int)} (h : SeenLB P w ao n zss) : SeenL w ao n zss :=
  ⟨h.len, h.top, fun i hi => by obtain ⟨b, o, so, c, e, _, hlt, hc, hs, _⟩ := h.cells i hi; exact ⟨b, o, so, c, e, hlt, hc, hs⟩⟩
theorem SeenLB.later {P : Nat → Prop} {w w' : World} {ao : Option Addr} {n : Nat} {zss : List (List Int)} (h : SeenLB P w ao n zss) {B : Nat} (hb : Below B w w') (hB : w.heap.size ≤ B) : SeenLB P w' ao n zss :=
  ⟨h.len, h.top, fun i hi => by
    obtain ⟨b, o, so, c, e, hp, hlt, hc, hs, hq⟩ := h.cells i hi
    exact ⟨b, o, so, c, e, hp, Nat.lt_of_lt_of_le hlt hb.size, (hb.cell (p := ⟨b, o + i, none⟩) (Nat.lt_of_lt_of_le hlt hB)).trans hc, hs.later hb hB, hq⟩⟩
theorem SeenLB.kept {P S : Nat → Prop} {w w' : World} {ao : Option Addr} {n : Nat} {zss : List (List Int)} (h : SeenLB P w ao n zss) (hk : Kept S w w') (hS : ∀ b, P b → ¬ S b) : SeenLB P w' ao n zss :=
  ⟨h.len, h.top, fun i hi => by
    obtain ⟨b, o, so, c, e, hp, hlt, hc, hs, hq⟩ := h.cells i hi
    exact ⟨b, o, so, c, e, hp, Nat.lt_of_lt_of_le hlt hk.size, (hk.cell (p := ⟨b, o + i, none⟩) hlt (hS b hp)).trans hc, hs.kept hk (fun b' o' h0 e' => hS b' (hq b' o' h0 e')), hq⟩⟩
theorem SeenLB.kept0 {P S : Nat → Prop} {w w' : World} {ao : Option Addr} {n : Nat} {zss : List (List Int)} (h : SeenLB P w ao n zss) (hk : Kept S w w') (hS : 0 < n → ∀ b, P b → ¬ S b) : SeenLB P w' ao n zss := by
  by_cases h0 : 0 < n
  · exact h.kept hk (hS h0)
  · exact ⟨h.len, h.top, fun i hi => by omega⟩
theorem SeenLB.drewN {P : Nat → Prop} {w : World} {ao : Option Addr} {n : Nat} {zss : List (List Int)} (h : SeenLB P w ao n zss) (k : Nat) : SeenLB P (w.drewN k) ao n zss := h.later (B := w.heap.size) (below_dn (Below.refl _ _) k) (Nat.le_refl _)
theorem Fresh.kept {S : Nat → Prop} {base : Nat} {w w' : World} {vo : Option Addr} {zs : List Int} (h : Fresh base w vo zs) (hk : Kept S w w') (hS : ∀ b o, 0 < zs.length → vo = some ⟨b, o, none⟩ → ¬ S b) : Fresh base w' vo zs :=
  ⟨h.nil, fun hn => by obtain ⟨g, e, hg, hr⟩ := h.row hn; exact ⟨g, e, hg, hr.kept hk (hS g 0 hn e)⟩, h.bytes, h.top⟩
theorem Fresh.drewN {base : Nat} {w : World} {vo : Option Addr} {zs : List Int} (h : Fresh base w vo zs) (k : Nat) : Fresh base (w.drewN k) vo zs := h.later (B := w.heap.size) (below_dn (Below.refl _ _) k) (Nat.le_refl _)
theorem lenAt_turned (zss : List (List Int)) : lenAt (turned zss) = lenAt zss := funext (turned_len zss)
/-- Three lists that were answered, behind the headers of a new block. -/
theorem lot_three {w : World} {p1 p2 p3 : Option Addr} {z1 z2 z3 : List Int} {b1 b2 b3 : Nat} (f1 : Fresh b1 w p1 z1) (f2 : Fresh b2 w p2 z2) (f3 : Fresh b3 w p3 z3)
    (d1 : ∀ b o, 0 < z1.length → p1 = some ⟨b, o, none⟩ → b < b2) (d2 : ∀ b o, 0 < z2.length → p2 = some ⟨b, o, none⟩ → b < b3) (d12 : b1 ≤ b2) (d23 : b2 ≤ b3) :
    Lot (w.alloc (.cells #[.slice p1 z1.length z1.length, .slice p2 z2.length z2.length, .slice p3 z3.length z3.length] 23)) w.heap.size 3 (fun j => if j = 0 then p1 else if j = 1 then p2 else p3)
      (fun j => if j = 0 then z1.length else if j = 1 then z2.length else z3.length) (fun j t => if j = 0 then z1.getD t 0 else if j = 1 then z2.getD t 0 else z3.getD t 0) := by
  have row : ∀ {b : Nat} {p : Option Addr} {z : List Int}, Fresh b w p z → ∀ t, t < z.length → ∃ g, p = some ⟨g, 0, none⟩ ∧ g ≠ w.heap.size ∧ g < (w.alloc (.cells #[.slice p1 z1.length z1.length, .slice p2 z2.length z2.length, .slice p3 z3.length z3.length] 23)).heap.size ∧
      (w.alloc (.cells #[.slice p1 z1.length z1.length, .slice p2 z2.length z2.length, .slice p3 z3.length z3.length] 23)).cell? ⟨g, t, none⟩ = some (.int .u8 (z.getD t 0)) ∧ (w.alloc (.cells #[.slice p1 z1.length z1.length, .slice p2 z2.length z2.length, .slice p3 z3.length z3.length] 23)).frozen? ⟨g, t, none⟩ = false := by
    intro b p z hf t ht
    obtain ⟨g, e, _, hr⟩ := hf.row (by omega)
    have hl := hr.lt
    have hr' := hr.alloc (.cells #[.slice p1 z1.length z1.length, .slice p2 z2.length z2.length, .slice p3 z3.length z3.length] 23)
    exact ⟨g, e, by omega, hr'.lt, hr'.cell t ht, hr'.frozen t⟩
  have lo1 : ∀ b o, 0 < z1.length → p1 = some ⟨b, o, none⟩ → b1 ≤ b := fun b o h e => by obtain ⟨g, e', hg, _⟩ := f1.row h; rw [e] at e'; simp at e'; omega
  have lo2 : ∀ b o, 0 < z2.length → p2 = some ⟨b, o, none⟩ → b2 ≤ b := fun b o h e => by obtain ⟨g, e', hg, _⟩ := f2.row h; rw [e] at e'; simp at e'; omega
  have lo3 : ∀ b o, 0 < z3.length → p3 = some ⟨b, o, none⟩ → b3 ≤ b := fun b o h e => by obtain ⟨g, e', hg, _⟩ := f3.row h; rw [e] at e'; simp at e'; omega
  have hh := heap_alloc_new w (.cells #[.slice p1 z1.length z1.length, .slice p2 z2.length z2.length, .slice p3 z3.length z3.length] 23)
  refine ⟨by simp, fun j hj => ?_, fun j hj e => ?_, fun j t hj ht => ?_, fun j j' g hj hj' h0 h0' e e' => ?_⟩
  · rw [cell_of_row _ w.heap.size j _ 23 (0, 0) hh]
    match j, hj with
    | 0, _ => rfl
    | 1, _ => rfl
    | 2, _ => rfl
  · match j, hj with
    | 0, _ => have := f1.nil e; simp [this]
    | 1, _ => have := f2.nil e; simp [this]
    | 2, _ => have := f3.nil e; simp [this]
  · match j, hj with
    | 0, _ => exact row f1 t ht
    | 1, _ => exact row f2 t ht
    | 2, _ => exact row f3 t ht
  · match j, j', hj, hj' with
    | 0, 0, _, _ => rfl
    | 1, 1, _, _ => rfl
    | 2, 2, _, _ => rfl
    | 0, 1, _, _ => have := d1 g 0 h0 e; have := lo2 g 0 h0' e'; omega
    | 0, 2, _, _ => have := d1 g 0 h0 e; have := lo3 g 0 h0' e'; omega
    | 1, 0, _, _ => have := d1 g 0 h0' e'; have := lo2 g 0 h0 e; omega
    | 1, 2, _, _ => have := d2 g 0 h0 e; have := lo3 g 0 h0' e'; omega
    | 2, 0, _, _ => have := d1 g 0 h0' e'; have := lo3 g 0 h0 e; omega
    | 2, 1, _, _ => have := d2 g 0 h0' e'; have := lo3 g 0 h0 e; omega
theorem three_blocks {p1 p2 p3 : Option Addr} {z1 z2 z3 : List Int} {k : Nat}
    (h : LotS 3 (fun j => if j = 0 then p1 else if j = 1 then p2 else p3) (fun j => if j = 0 then z1.length else if j = 1 then z2.length else z3.length) k) :
    (0 < z1.length ∧ p1 = some ⟨k, 0, none⟩) ∨ (0 < z2.length ∧ p2 = some ⟨k, 0, none⟩) ∨ (0 < z3.length ∧ p3 = some ⟨k, 0, none⟩) := by
  obtain ⟨j, hj, h0, e⟩ := h
  match j, hj with
  | 0, _ => exact .inl ⟨h0, e⟩
  | 1, _ => exact .inr (.inl ⟨h0, e⟩)
  | 2, _ => exact .inr (.inr ⟨h0, e⟩)
/-- Headers and what is spread, seen. -/
theorem SeenLB.of_spread {P : Nat → Prop} {w : World} {O n : Nat} {V : Nat → Option Addr × Nat} {A : Nat → Nat × Nat} {zss : List (List Int)} (hn : zss.length = n) (ht : n ≤ 1048576) (hO : O < w.heap.size) (pO : P O)
    (heads : ∀ j, j < n → w.cell? ⟨O, j, none⟩ = some (.slice (V j).1 (lenAt zss j) (V j).2)) (hV : ∀ j, j < n → 0 < lenAt zss j → (V j).1 = some ⟨(A j).1, (A j).2, none⟩ ∧ P (A j).1)
    (hs : Spread w A n (lenAt zss) (byteAt zss)) (hb : ∀ i, i < n → Bytes (zss.getD i []) ∧ lenAt zss i ≤ 140737488355328) : SeenLB P w (some ⟨O, 0, none⟩) n zss :=
  ⟨hn, ht, fun i hi => ⟨O, 0, (V i).1, (V i).2, rfl, pO, hO, by rw [Nat.zero_add]; exact heads i hi, ⟨rfl, (hb i hi).2, (hb i hi).1, fun h0 => by
      obtain ⟨e, _⟩ := hV i hi h0
      exact ⟨(A i).1, (A i).2, e, (hs.cells i 0 hi h0).1, fun t ht => (hs.cells i t hi ht).2.1⟩⟩, fun b' o' h0 e => by
      obtain ⟨e2, hp⟩ := hV i hi h0
      rw [e2] at e
      simp at e
      rw [← e.1]; exact hp⟩⟩
end Go.Proofs.Ytldfbbgboelngab
