/- Layer network: waysOf of Things; the function that tells which are live. -/
import Derived.Test.YtlkpgbilepehmaaNThing
import Derived.Test.YtlkpgbilepehmaaNShM
namespace Go.Proofs.Ytlkpgbilepehmaa
open Go.RowKit
set_option linter.unusedVariables false
set_option linter.unusedSimpArgs false
/-- The Things by what stands where. -/
def thP (n : Nat) (P : Nat → Nat) : List Thg := (List.range n).map fun q => ((ByteArray.empty, (P q : Int)) : Thg)
def wyP (live : Nat → Bool) (n : Nat) (P : Nat → Nat) : List Int := (List.range n).map fun q => ((wayO live (P q) : Nat) : Int)
theorem thP_length (n : Nat) (P : Nat → Nat) : (thP n P).length = n := by simp [thP]
theorem wyP_length (live : Nat → Bool) (n : Nat) (P : Nat → Nat) : (wyP live n P).length = n := by simp [wyP]
theorem thP_get (n : Nat) (P : Nat → Nat) (q : Nat) (hq : q < n) : (thP n P).getD q default = (ByteArray.empty, (P q : Int)) := by simp [thP, List.getD, hq]
theorem wyP_get (live : Nat → Bool) (n : Nat) (P : Nat → Nat) (q : Nat) (hq : q < n) : (wyP live n P).getD q 0 = ((wayO live (P q) : Nat) : Int) := by simp [wyP, List.getD, hq]
/-- Two places trade what stands there. -/
def swP (P : Nat → Nat) (a b q : Nat) : Nat := if q = b then P a else if q = a then P b else P q
theorem map_sw {α : Type} (F : Nat → α) (n a b : Nat) (P : Nat → Nat) (ha : a < n) (hb : b < n) : (((List.range n).map fun q => F (P q)).set a (F (P b))).set b (F (P a)) = (List.range n).map fun q => F (swP P a b q) := by
  refine List.ext_getElem (by simp) fun i h1 h2 => ?_
  simp only [List.length_set, List.length_map, List.length_range] at h1
  rw [List.getElem_set]
  by_cases hib : b = i
  · subst hib; simp [swP]
  · rw [if_neg hib, List.getElem_set]
    by_cases hia : a = i
    · subst hia; simp [swP, hib, Ne.symm hib]
    · rw [if_neg hia]; simp [swP, Ne.symm hib, Ne.symm hia, fun h => hib (Eq.symm h), fun h => hia (Eq.symm h)]
theorem thP_trade (n a b : Nat) (P : Nat → Nat) (ha : a < n) (hb : b < n) : tradeT (thP n P) a b = thP n (swP P a b) := by
  unfold tradeT
  rw [thP_get n P b hb, thP_get n P a ha]
  exact map_sw (fun i => ((ByteArray.empty, (i : Int)) : Thg)) n a b P ha hb
theorem wyP_trade (live : Nat → Bool) (n a b : Nat) (P : Nat → Nat) (ha : a < n) (hb : b < n) : trade (wyP live n P) a b = wyP live n (swP P a b) := by
  unfold trade
  rw [wyP_get live n P b hb, wyP_get live n P a ha]
  exact map_sw (fun i => ((wayO live i : Nat) : Int)) n a b P ha hb
/-- A slice at ao of n bools, which are told by live. -/
def SeenB (w : World) (ao : Option Addr) (n : Nat) (live : Nat → Bool) : Prop := 0 < n → ∃ b o, ao = some ⟨b, o, none⟩ ∧ b < w.heap.size ∧ ∀ i, i < n → w.cell? ⟨b, o + i, none⟩ = some (.bool (live i))
theorem SeenB.later {w w' : World} {ao : Option Addr} {n : Nat} {live : Nat → Bool} (h : SeenB w ao n live) (hb : Below w.heap.size w w') : SeenB w' ao n live := fun h0 => by
  obtain ⟨b, o, e, hlt, hc⟩ := h h0
  exact ⟨b, o, e, Nat.lt_of_lt_of_le hlt hb.size, fun i hi => (hb.cell (p := ⟨b, o + i, none⟩) hlt).trans (hc i hi)⟩
theorem made_ints (w4 : World) (g n base : Nat) (h : w4.ownsRow base 3 1 (.slice (some ⟨g, 0, none⟩) n n) n (madeCells (Value.int .i64 0).cells (n * 1)).toList) : RowI w4 g n (List.replicate n 0) := by
  rcases h.2 with ⟨h0, _⟩ | ⟨g2, cap, cur, e, hg, hh, h1, h2, h3, h4⟩
  · cases h0
  · simp only [Value.slice.injEq, Option.some.injEq, Addr.mk.injEq] at e
    obtain ⟨⟨rfl, _⟩, _, rfl⟩ := e
    refine ⟨[], by simp, ?_⟩
    rw [hh]
    have e1 : cur.toList = (madeCells (Value.int .i64 0).cells (n * 1)).toList := by
      rw [← h4]; exact (List.take_of_length_le (by simp; omega)).symm
    have e2 : cur = (List.map (Value.int .i64) (List.replicate n 0) ++ []).toArray := by
      rw [← Array.toArray_toList (xs := cur), e1]
      congr 1
      refine List.ext_getElem (by simp [madeCells]) fun i h1 h2 => ?_
      simp [madeCells, Value.cells, Nat.mod_one]
    rw [e2]
/-- The ways of the first k, noughts behind them. -/
def wyK (live : Nat → Bool) (n k : Nat) : List Int := (List.range n).map fun q => if q < k then ((wayO live q : Nat) : Int) else 0
theorem wyK_length (live : Nat → Bool) (n k : Nat) : (wyK live n k).length = n := by simp [wyK]
theorem wyK_zero (live : Nat → Bool) (n : Nat) : wyK live n 0 = List.replicate n 0 := by
  refine List.ext_getElem (by simp [wyK]) fun i h1 h2 => by simp [wyK]
theorem wyK_full (live : Nat → Bool) (n : Nat) : wyK live n n = wyP live n id := by
  refine List.ext_getElem (by simp [wyK, wyP]) fun i h1 h2 => ?_
  simp only [wyK, List.length_map, List.length_range] at h1
  simp [wyK, wyP, h1]
theorem wyK_live (live : Nat → Bool) (n k : Nat) (hk : k < n) (hl : live k = true) : (wyK live n k).set k ((dd live k : Nat) : Int) = wyK live n (k + 1) := by
  refine List.ext_getElem (by simp [wyK]) fun i h1 h2 => ?_
  rw [List.getElem_set]
  by_cases h : k = i
  · subst h; simp [wyK, wayO, hl]
  · rw [if_neg h]
    simp only [wyK, List.getElem_map, List.getElem_range]
    by_cases hi : i < k
    · rw [if_pos hi, if_pos (by omega)]
    · rw [if_neg hi, if_neg (by omega)]
theorem wyK_dead (live : Nat → Bool) (n k : Nat) (hl : live k = false) : wyK live n k = wyK live n (k + 1) := by
  unfold wyK
  apply List.map_congr_left
  intro q _
  by_cases h : q = k
  · subst h; simp [wayO, hl]
  · by_cases hi : q < k
    · rw [if_pos hi, if_pos (by omega)]
    · rw [if_neg hi, if_neg (by omega)]
end Go.Proofs.Ytlkpgbilepehmaa
