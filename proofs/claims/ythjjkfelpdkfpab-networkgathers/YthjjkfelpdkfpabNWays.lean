/- Layer network: waysOf of Things; the function that tells which are live. -/
import Derived.Test.YthjjkfelpdkfpabNThing
import Derived.Test.YthjjkfelpdkfpabNShM
namespace Go.Proofs.Ythjjkfelpdkfpab
open Go.RowKit
set_option linter.unusedVariables false
set_option linter.unusedSimpArgs false
/-- The Things by what stands where. -/
def thP (n : Nat) (P : Nat → Nat) : List Thg := (List.range n).map fun q => ((ByteArray.empty, (P q : Int)) : Thg)
def wyP (live : Nat → Bool) (n : Nat) (P : Nat → Nat) : List Int := (List.range n).map fun q => ((wayO live (P q) : Nat) : Int)
theorem thP_length (n : Nat) (P : Nat → Nat) : (thP n P).length = n := by simp [thP]
theorem wyP_length (live : Nat → Bool) (n : Nat) (P : Nat → Nat) : (wyP live n P).length = n := by simp [wyP]
theorem thP_get (n : Nat) (P : Nat → Nat) (q : Nat) (hq : q < n) : (thP n P).getD q default = (ByteArray.empty, (P q : Int)) := by simp [thP, List.getD, hq]
theorem wyP_get (live : Nat → Bool) (n : Nat) (P : Nat → Nat) (q : Nat) (hq : q < n) : (wyP live n P).getD q 0 = ((wayO live (P q) : Nat) : Int) := by simp [wyP, List.getD, hq]
/-- Two places trade what stands there. -/
def swP (P : Nat → Nat) (a b q : Nat) : Nat := if q = b then P a else if q = a then P b else P q
theorem map_sw {α : Type} (F : Nat → α) (n a b : Nat) (P : Nat → Nat) (ha : a < n) (hb : b < n) : (((List.range n).map fun q => F (P q)).set a (F (P b))).set b (F (P a)) = (List.range n).map fun q => F (swP P a b q) := by
  refine List.ext_getElem (by simp) fun i h1 h2 => ?_
  simp only [List.length_set, List.length_map, List.length_range] at h1
  rw [List.getElem_set]
  by_cases hib : b = i
  · subst hib; simp [swP]
  · rw [if_neg hib, List.getElem_set]
    by_cases hia : a = i
    · subst hia; simp [swP, hib, Ne.symm hib]
    · rw [if_neg hia]; simp [swP, Ne.symm hib, Ne.symm hia, fun h => hib (Eq.symm h), fun h => hia (Eq.symm h)]
theorem thP_trade (n a b : Nat) (P : Nat → Nat) (ha : a < n) (hb : b < n) : tradeT (thP n P) a b = thP n (swP P a b) := by
  unfold tradeT
  rw [thP_get n P b hb, thP_get n P a ha]
  exact map_sw (fun i => ((ByteArray.empty, (i : Int)) : Thg)) n a b P ha hb
theorem wyP_trade (live : Nat → Bool) (n a b : Nat) (P : Nat → Nat) (ha : a < n) (hb : b < n) : trade (wyP live n P) a b = wyP live n (swP P a b) := by
  unfold trade
  rw [wyP_get live n P b hb, wyP_get live n P a ha]
  exact map_sw (fun i => ((wayO live i : Nat) : Int)) n a b P ha hb
/-- A slice at ao of n bools, which are told by live. -/
def SeenB (w : World) (ao : Option Addr) (n : Nat) (live : Nat → Bool) : Prop := 0 < n → ∃ b o, ao = some ⟨b, o, none⟩ ∧ b < w.heap.size ∧ ∀ i, i < n → w.cell? ⟨b, o + i, none⟩ = some (.bool (live i))
theorem SeenB.later {w w' : World} {ao : Option Addr} {n : Nat} {live : Nat → Bool} (h : SeenB w ao n live) (hb : Below w.heap.size w w') : SeenB w' ao n live := fun h0 => by
  obtain ⟨b, o, e, hlt, hc⟩ := h h0
  exact ⟨b, o, e, Nat.lt_of_lt_of_le hlt hb.size, fun i hi => (hb.cell (p := ⟨b, o + i, none⟩) hlt).trans (hc i hi)⟩
set_option maxHeartbeats 1000000 in
theorem live1_any (ao : Option Addr) (n c Bl p : Nat) (live : Nat → Bool) (s : ByteArray) (w : World) (hB : Boxed w Bl 22 (.slice ao n c)) (hs : SeenB w ao n live) (hp : p < n) (hn : n ≤ 1048576) :
    Calls Try.prog 7 #[.agg #[.string s, .int .i64 (p : Int)], .pointer (some ⟨Bl, 0, none⟩)] w fun e w' => e = .returned (.bool (live p)) ∧ Below w.heap.size w w' := by
  obtain ⟨b, o, rfl, hb, hc⟩ := hs (by omega)
  have c1 : ∀ ob, (w.alloc ob).cell? ⟨Bl, 0, none⟩ = some (.slice (some ⟨b, o, none⟩) n c) := fun ob => (hB.alloc ob).cell
  have c2 : ∀ ob, (w.alloc ob).cell? ⟨b, o + p, none⟩ = some (.bool (live p)) := fun ob => ((((Below.refl w.heap.size w).alloc (Nat.le_refl _) ob)).cell (p := ⟨b, o + p, none⟩) hb).trans (hc p hp)
  have i1 : (p : Int) < (n : Int) := by omega
  obtain ⟨t, ht⟩ : ∃ t, live p = t := ⟨_, rfl⟩
  rw [ht] at c2 ⊢
  clear ht hc
  go_enter Try.func7, Try.ntmps7
  go_wp2
  go_ret
  exact ⟨rfl, (Below.refl _ _).alloc (Nat.le_refl _) _⟩
theorem made_ints (w4 : World) (g n base : Nat) (h : w4.ownsRow base 3 1 (.slice (some ⟨g, 0, none⟩) n n) n (madeCells (Value.int .i64 0).cells (n * 1)).toList) : RowI w4 g n (List.replicate n 0) := by
  rcases h.2 with ⟨h0, _⟩ | ⟨g2, cap, cur, e, hg, hh, h1, h2, h3, h4⟩
  · cases h0
  · simp only [Value.slice.injEq, Option.some.injEq, Addr.mk.injEq] at e
    obtain ⟨⟨rfl, _⟩, _, rfl⟩ := e
    refine ⟨[], by simp, ?_⟩
    rw [hh]
    have e1 : cur.toList = (madeCells (Value.int .i64 0).cells (n * 1)).toList := by
      rw [← h4]; exact (List.take_of_length_le (by simp; omega)).symm
    have e2 : cur = (List.map (Value.int .i64) (List.replicate n 0) ++ []).toArray := by
      rw [← Array.toArray_toList (xs := cur), e1]
      congr 1
      refine List.ext_getElem (by simp [madeCells]) fun i h1 h2 => ?_
      simp [madeCells, Value.cells, Nat.mod_one]
    rw [e2]
/-- The ways of the first k, noughts behind them. -/
def wyK (live : Nat → Bool) (n k : Nat) : List Int := (List.range n).map fun q => if q < k then ((wayO live q : Nat) : Int) else 0
theorem wyK_length (live : Nat → Bool) (n k : Nat) : (wyK live n k).length = n := by simp [wyK]
theorem wyK_zero (live : Nat → Bool) (n : Nat) : wyK live n 0 = List.replicate n 0 := by
  refine List.ext_getElem (by simp [wyK]) fun i h1 h2 => by simp [wyK]
theorem wyK_full (live : Nat → Bool) (n : Nat) : wyK live n n = wyP live n id := by
  refine List.ext_getElem (by simp [wyK, wyP]) fun i h1 h2 => ?_
  simp only [wyK, List.length_map, List.length_range] at h1
  simp [wyK, wyP, h1]
theorem wyK_live (live : Nat → Bool) (n k : Nat) (hk : k < n) (hl : live k = true) : (wyK live n k).set k ((dd live k : Nat) : Int) = wyK live n (k + 1) := by
  refine List.ext_getElem (by simp [wyK]) fun i h1 h2 => ?_
  rw [List.getElem_set]
  by_cases h : k = i
  · subst h; simp [wyK, wayO, hl]
  · rw [if_neg h]
    simp only [wyK, List.getElem_map, List.getElem_range]
    by_cases hi : i < k
    · rw [if_pos hi, if_pos (by omega)]
    · rw [if_neg hi, if_neg (by omega)]
theorem wyK_dead (live : Nat → Bool) (n k : Nat) (hl : live k = false) : wyK live n k = wyK live n (k + 1) := by
  unfold wyK
  apply List.map_congr_left
  intro q _
  by_cases h : q = k
  · subst h; simp [wayO, hl]
  · by_cases hi : q < k
    · rw [if_pos hi, if_pos (by omega)]
    · rw [if_neg hi, if_neg (by omega)]
set_option maxRecDepth 20000 in
set_option maxHeartbeats 2000000 in
theorem ways_any (g0 n c0 : Nat) (B : FuncId) (caps : Array Value) (live : Nat → Bool) (w : World) (hr : RowT w g0 c0 (thP n id)) (hn : n ≤ 65536)
    (hent : ∀ args w, (callFunc B args).run Try.prog w = .ok (.enter B args) w)
    (hlv : ∀ p W, p < n → Below w.heap.size w W → Calls Try.prog B (#[.agg #[.string ByteArray.empty, .int .i64 (p : Int)]] ++ caps) W fun e W' => e = .returned (.bool (live p)) ∧ Below W.heap.size W W') :
    Calls Try.prog 22 #[.slice (some ⟨g0, 0, none⟩) n c0, .func (.func B) #[] caps] w fun e w' => ∃ g, e = .returned (.slice (some ⟨g, 0, none⟩) n n) ∧ w.heap.size ≤ g ∧ RowI w' g n (wyP live n id) ∧ Below w.heap.size w w' := by
  obtain ⟨i0, hi, hz0, hz1, hz2⟩ := info_parts info_int
  have HR : Hid (RowT w g0 c0 (thP n id)) := hr
  have hlt0 := hr.lt
  clear hr
  go_enter Try.func22, Try.ntmps22
  go_wp2_with (at_make; refine wpList_make_full _ rfl _ _ 33 rfl w.heap.size 3 i0 (.int .i64 0) 1 Try.underlying33 hi hz0 hz1 .i64 .i64 _ _ n (by rfl) (by rfl) (by rfl) (by rfl) (by rw [hz2]; omega) (by unfold maxLen; omega) (Nat.le_refl _) ?_; intro w1 hown1 hgrow1)
  have r1 := made_ints w1 _ _ _ hown1
  rw [← wyK_zero live n] at r1
  have hB1 : Below w.heap.size w w1 := (Below.refl _ w).grown hgrow1 (Nat.le_refl _) (fun j e => by cases e)
  clear hown1 hgrow1
  go_loopw [6, 14] (fun d v wr => ∃ k : Nat, v = .int .i64 (k : Int) ∧ k ≤ n ∧ d = .int .i64 ((dd live k : Nat) : Int) ∧ RowI wr w.heap.size n (wyK live n k) ∧ Below w.heap.size w wr) (fun _ v _ => n - (intOf v).toNat)
  case atStart => exact ⟨0, rfl, by omega, rfl, r1, hB1⟩
  case round =>
    obtain ⟨k, rfl, hk, rfl, r2, hB2⟩ := hrel
    by_cases hlt : k < n
    · have hT := HR.out.block (hB2.block g0 hlt0)
      have c1 := hT.key k (by rw [thP_length]; exact hlt)
      have c2 := hT.place k (by rw [thP_length]; exact hlt)
      rw [thP_get n id k hlt] at c1 c2
      dsimp only [id] at c1 c2
      have hdk := dd_le live k
      have dl : live k = true → dd live (k + 1) = dd live k := fun h => by rw [dd, if_pos h]; rfl
      have dn : live k = false → dd live (k + 1) = dd live k + 1 := fun h => by rw [dd, h]; rfl
      obtain ⟨D, hD⟩ : ∃ D, dd live k = D := ⟨_, rfl⟩
      rw [hD] at hdk dl dn ⊢
      have HD : Hid (dd live k = D ∧ (live k = true → dd live (k + 1) = D) ∧ (live k = false → dd live (k + 1) = D + 1)) := ⟨hD, dl, dn⟩
      have i1 : (0 : Int) ≤ (k : Int) := by omega
      have i2 : (k : Int) < (n : Int) := by omega
      clear hT dl dn hD
      go_wp2_with (fail)
      refine (hlv k _ hlt (hB2.alloc hB2.size _)).mono ?_
      rintro e W3 ⟨rfl, b3⟩
      have hB3 : Below w.heap.size w W3 := (hB2.alloc hB2.size (.cells #[.string ByteArray.empty, .int .i64 (k : Int)] 25)).trans ⟨b3.os, b3.tape, b3.output, b3.size, fun j hj => b3.block j (by have := hB2.size; simp; omega)⟩
      have r3 : RowI W3 w.heap.size n (wyK live n k) := (r2.block (Below.heap_alloc _ _ _ r2.lt)).block (b3.block _ (by have := r2.lt; simp; omega))
      clear b3 c1 c2 r2 hB2
      cases hl : live k with
      | true =>
        have c3 := r3.cell k (by rw [wyK_length]; exact hlt)
        have f3 := r3.frozen k
        go_wp2_with (fail)
        go_roundw
        case rel =>
          refine ⟨k + 1, by go_num, by omega, by rw [HD.out.2.1 hl], ?_, ?_⟩
          · rw [← wyK_live live n k hlt hl, HD.out.1]
            exact r3.set k (by rw [wyK_length]; exact hlt) _
          · exact hB3.setCell (p := ⟨w.heap.size, k, none⟩) (Nat.le_refl _) _
        case measure => simp [intOf]; omega
      | false =>
        go_wp2_with (fail)
        go_roundw
        case rel => exact ⟨k + 1, by go_num, by omega, by rw [HD.out.2.2 hl]; go_num, by rw [← wyK_dead live n k hl]; exact r3, hB3⟩
        case measure => simp [intOf]; omega
    · obtain rfl : k = n := by omega
      rw [wyK_full] at r2
      clear hlt hk
      go_wp2_with (fail)
      go_ret
      exact ⟨_, rfl, Nat.le_refl _, r2, hB2⟩
end Go.Proofs.Ythjjkfelpdkfpab
