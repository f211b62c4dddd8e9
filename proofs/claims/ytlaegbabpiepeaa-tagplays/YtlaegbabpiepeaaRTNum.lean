/- Rows of numbers, as data; the document's clean. -/
import Derived.Test.YtlaegbabpiepeaaRTMath
import Derived.Test.YtlaegbabpiepeaaDCopy
namespace Go.Proofs.Ytlaegbabpiepeaa
open Go.RowKit
set_option linter.unusedVariables false
set_option linter.unusedSimpArgs false

theorem info_int : (Try.prog.info? 3).map (fun i => (i.zero, i.size, i.bytes)) = some (some (.int .i64 0), 1, 8) := by kernel_rfl
def i64s (l : List Int) : List Value := l.map (Value.int .i64)
theorem i64s_length (l : List Int) : (i64s l).length = l.length := List.length_map ..
theorem i64s_set (l : List Int) (j : Nat) (x : Int) : (i64s l).set j (.int .i64 x) = i64s (l.set j x) := by simp [i64s, List.map_set]
/-- Digits that are no numbers below 0 and not too great. -/
def Small (ds : List Int) : Prop := ∀ d ∈ ds, 0 ≤ d ∧ d ≤ 1073741824
theorem Small.at {zs : List Int} (h : Small zs) (j : Nat) (hj : j < zs.length) : 0 ≤ zs.getD j 0 ∧ zs.getD j 0 ≤ 1073741824 := by
  have e : zs.getD j 0 = zs[j] := by simp [List.getD, hj]
  rw [e]; exact h _ (List.getElem_mem hj)
theorem small_of_bytes {zs : List Int} (h : Bytes zs) : Small zs := fun d hd => by have := h d hd; omega
theorem Small.nn {zs : List Int} (h : Small zs) : ∀ d ∈ zs, 0 ≤ d := fun d hd => (h d hd).1
theorem bytes_nn {zs : List Int} (h : Bytes zs) : ∀ d ∈ zs, 0 ≤ d := fun d hd => (h d hd).1
/-- A slice at ao of n numbers, which are zs. -/
structure SeenN (w : World) (ao : Option Addr) (n : Nat) (zs : List Int) : Prop where
  len : zs.length = n
  top : n ≤ 1000
  small : Small zs
  cells : 0 < n → ∃ b o, ao = some ⟨b, o, none⟩ ∧ b < w.heap.size ∧ ∀ i, i < n → w.cell? ⟨b, o + i, none⟩ = some (.int .i64 (zs.getD i 0))
theorem SeenN.later {w w' : World} {ao : Option Addr} {n : Nat} {zs : List Int} (h : SeenN w ao n zs) {B : Nat} (hb : Below B w w') (hB : w.heap.size ≤ B) : SeenN w' ao n zs :=
  ⟨h.len, h.top, h.small, fun hn => by
    obtain ⟨b, o, e, hlt, hc⟩ := h.cells hn
    exact ⟨b, o, e, Nat.lt_of_lt_of_le hlt hb.size, fun i hi => (hb.cell (p := ⟨b, o + i, none⟩) (Nat.lt_of_lt_of_le hlt hB)).trans (hc i hi)⟩⟩
theorem SeenN.kept {S : Nat → Prop} {w w' : World} {ao : Option Addr} {n : Nat} {zs : List Int} (h : SeenN w ao n zs) (hk : Kept S w w') (hS : ∀ b, b < w.heap.size → ¬ S b) : SeenN w' ao n zs :=
  ⟨h.len, h.top, h.small, fun hn => by
    obtain ⟨b, o, e, hlt, hc⟩ := h.cells hn
    exact ⟨b, o, e, Nat.lt_of_lt_of_le hlt hk.size, fun i hi => (hk.cell (p := ⟨b, o + i, none⟩) hlt (hS b hlt)).trans (hc i hi)⟩⟩
/-- Block g begins with the numbers zs, has room for cap, and may be written. -/
def RowN (w : World) (r cap : Nat) (zs : List Int) : Prop := ∃ rest : List Value, w.heap[r]? = some (.cells (i64s zs ++ rest).toArray 3 (0, 0)) ∧ zs.length + rest.length = cap
theorem RowN.cell {w : World} {g cap : Nat} {zs : List Int} (h : RowN w g cap zs) (j : Nat) (hj : j < zs.length) : w.cell? ⟨g, j, none⟩ = some (.int .i64 (zs.getD j 0)) := by
  obtain ⟨rest, h, _⟩ := h
  rw [cell_of_row w g j _ 3 (0, 0) h]
  simp [i64s, hj, List.getElem?_append]
theorem RowN.frozen {w : World} {g cap : Nat} {zs : List Int} (h : RowN w g cap zs) (j : Nat) : w.frozen? ⟨g, j, none⟩ = false := by
  obtain ⟨rest, h, _⟩ := h
  exact frozen_of_row w g j _ 3 h
theorem RowN.set {w : World} {g cap : Nat} {zs : List Int} (h : RowN w g cap zs) (j : Nat) (hj : j < zs.length) (z : Int) : RowN (w.setCell ⟨g, j, none⟩ (.int .i64 z)) g cap (zs.set j z) := by
  obtain ⟨rest, h, hc⟩ := h
  refine ⟨rest, ?_, by simpa using hc⟩
  rw [heap_setCell_same w g j _ 3 _ h, ← i64s_set]
  simp [i64s_length, hj]
theorem RowN.lt {w : World} {g cap : Nat} {zs : List Int} (h : RowN w g cap zs) : g < w.heap.size := by
  obtain ⟨rest, h, _⟩ := h
  rcases Nat.lt_or_ge g w.heap.size with h' | h'
  · exact h'
  · rw [Array.getElem?_eq_none h'] at h; cases h
theorem RowN.block {w w' : World} {r cap : Nat} {zs : List Int} (h : RowN w r cap zs) (e : w'.heap[r]? = w.heap[r]?) : RowN w' r cap zs := by
  obtain ⟨rest, h, hc⟩ := h
  exact ⟨rest, by rw [e]; exact h, hc⟩
theorem RowN.later {w w' : World} {r cap : Nat} {zs : List Int} (h : RowN w r cap zs) {B : Nat} (hb : Below B w w') (hB : w.heap.size ≤ B) : RowN w' r cap zs := h.block (hb.block r (Nat.lt_of_lt_of_le h.lt hB))
theorem RowN.drew {w : World} {r cap : Nat} {zs : List Int} (h : RowN w r cap zs) : RowN w.drew r cap zs := h
theorem RowN.of_own {w : World} {base r n cap : Nat} {zs : List Int} (h : w.ownsRow base 3 1 (.slice (some ⟨r, 0, none⟩) n cap) n (i64s zs)) : RowN w r cap zs ∧ base ≤ r ∧ n ≤ cap ∧ cap ≤ maxLen ∧ zs.length = n := by
  obtain ⟨hl, h⟩ := h
  rcases h with ⟨h, _⟩ | ⟨g', cap', cur, h, hb, hh, hc, hm, hs, ht⟩
  · cases h
  · simp only [Value.slice.injEq, Option.some.injEq, Addr.mk.injEq, and_true, true_and] at h
    obtain ⟨rfl, rfl⟩ := h
    rw [Nat.mul_one] at ht hs
    have hl' : zs.length = n := by simpa [i64s] using hl
    refine ⟨⟨cur.toList.drop n, ?_, ?_⟩, hb, hc, hm, hl'⟩
    · rw [← ht, List.take_append_drop]; simpa using hh
    · simp; omega
theorem RowN.own {w : World} {base r n cap : Nat} {zs : List Int} (h : RowN w r cap zs) (hl : zs.length = n) (hb : base ≤ r) (hm : cap ≤ maxLen) : w.ownsRow base 3 1 (.slice (some ⟨r, 0, none⟩) n cap) n (i64s zs) := by
  obtain ⟨rest, h, hc⟩ := h
  refine ⟨by rw [i64s_length]; omega, .inr ⟨r, cap, _, rfl, hb, h, by omega, hm, by simp [i64s_length]; omega, ?_⟩⟩
  rw [Nat.mul_one]
  simp [i64s_length, hl]
theorem RowN.seen {w : World} {g cap : Nat} {zs : List Int} (h : RowN w g cap zs) (ht : zs.length ≤ 1000) (hs : Small zs) : SeenN w (some ⟨g, 0, none⟩) zs.length zs :=
  ⟨rfl, ht, hs, fun _ => ⟨g, 0, rfl, h.lt, fun i hi => by rw [Nat.zero_add]; exact h.cell i hi⟩⟩
theorem ownN {w : World} {base n : Nat} {v : Value} {zs : List Int} (hl : zs.length = n) (h : w.ownsRow base 3 1 v n (i64s zs)) :
    (v = .slice none 0 0 ∧ n = 0 ∧ zs = []) ∨ ∃ g cap, v = .slice (some ⟨g, 0, none⟩) n cap ∧ RowN w g cap zs ∧ base ≤ g ∧ n ≤ cap ∧ cap ≤ maxLen := by
  rcases h.2 with ⟨h1, h2⟩ | ⟨g, cap, cur, rfl, r⟩
  · left
    subst h2
    exact ⟨h1, rfl, List.length_eq_zero_iff.1 hl⟩
  · right
    have := RowN.of_own h
    exact ⟨g, cap, rfl, this.1, this.2.1, this.2.2.1, this.2.2.2.1⟩
/-- A slice of these numbers. -/
def isN (zs : List Int) (v : Value) (w : World) : Prop := ∃ vo n c, v = .slice vo n c ∧ SeenN w vo n zs
theorem isN_later (zs : List Int) : ∀ v w w', Below w.heap.size w w' → isN zs v w → isN zs v w' := fun _ _ _ hb ⟨b, o, c, h1, h2⟩ => ⟨b, o, c, h1, h2.later hb (Nat.le_refl _)⟩
theorem isN_own {w : World} {base n : Nat} {v : Value} {zs : List Int} (hl : zs.length = n) (ht : n ≤ 1000) (hs : Small zs) (h : w.ownsRow base 3 1 v n (i64s zs)) : isN zs v w := by
  rcases ownN hl h with ⟨rfl, rfl, rfl⟩ | ⟨g, cap, rfl, hr, _, _, _⟩
  · exact ⟨none, 0, 0, rfl, rfl, Nat.zero_le _, (fun d hd => by cases hd), fun h => (by omega)⟩
  · subst hl
    exact ⟨_, _, cap, rfl, hr.seen ht hs⟩
/-- A number more. -/
theorem ownN_more {w wr w1 : World} {v v' : Value} {zs : List Int} {z : Int}
    (hb : Below w.heap.size w wr) (hown : wr.ownsRow w.heap.size 3 1 v zs.length (i64s zs))
    (hown' : w1.ownsRow w.heap.size 3 1 v' (zs.length + 1) (i64s zs ++ [.int .i64 z])) (hg : (wr.alloc (.cells #[.int .i64 z] 3)).grownBy w1 v.ownBlock) :
    w1.ownsRow w.heap.size 3 1 v' (zs ++ [z]).length (i64s (zs ++ [z])) ∧ Below w.heap.size w w1 := by
  constructor
  · rw [i64s, List.map_append, List.length_append]; exact hown'
  · exact (hb.alloc hb.size _).grown hg (by have := hb.size; simp; omega) (fun j hj => (hown.lt j hj).1)
theorem madeN (n : Nat) : (madeCells #[Value.int .i64 0] n) = (i64s (List.replicate n 0)).toArray := by
  apply Array.ext'
  rw [toList_madeCells_one]
  simp [i64s]
theorem tq256 (c : Int) (h : 0 ≤ c) : c.tdiv 256 = c / 256 ∧ c.tmod 256 = c % 256 := ⟨Int.tdiv_eq_ediv_of_nonneg h, Int.tmod_eq_emod_of_nonneg h⟩
theorem clean_len (n i : Nat) (c : Int) (h0 : 0 < c) (h : ∃ t, i = n + t ∧ c ≤ 1099511627776 / 256 ^ t) : i ≤ n + 5 := by
  obtain ⟨t, rfl, hc⟩ := h
  rcases Nat.lt_or_ge t 6 with h6 | h6
  · omega
  · rw [pow40 t h6] at hc; omega
set_option maxHeartbeats 1000000 in
set_option maxRecDepth 20000 in
theorem clean_any (ao : Option Addr) (n c : Nat) (ds : List Int) (w : World) (hx : SeenN w ao n ds) (hn : n ≤ 900) :
    Calls Try.prog 41 #[.slice ao n c] w fun e w' => ∃ v, e = .returned v ∧ ∃ es, isN es v w' ∧ Bytes es ∧ le es = le ds ∧ n ≤ es.length ∧ es.length ≤ n + 6 ∧ Below w.heap.size w w' := by
  have HX : Hid (SeenN w ao n ds ∧ ds.length = n) := ⟨hx, hx.len⟩
  obtain ⟨i0, hi, hz0, hz1, hz2⟩ := info_parts info_int
  clear hx
  go_enter Try.func41, Try.ntmps41
  go_wp2
  go_loopw [3, 4, 5] (fun v c i wr => ∃ (k : Nat) (C : Int) (out : List Int), i = .int .i64 k ∧ c = .int .i64 C ∧ CleanI ds out C k ∧ C ≤ 1099511627776 ∧ (n ≤ k → ∃ t, k = n + t ∧ C ≤ 1099511627776 / 256 ^ t) ∧ k ≤ n + 6 ∧ wr.ownsRow w.heap.size 3 1 v k (i64s out) ∧ Below w.heap.size w wr) (fun _ c i _ => (n - (intOf i).toNat) * 1099511627780 + (intOf c).toNat)
  case atStart => exact ⟨0, 0, [], rfl, rfl, clean_zero ds, by decide, fun h => ⟨0, by omega, by simp⟩, by omega, World.ownsRow_nil _ _ _ _, Below.refl _ _⟩
  case round =>
    obtain ⟨k, C, out, rfl, rfl, hcl, hC, ht, hk6, hown, hbel⟩ := hrel
    have hC0 := hcl.2.2.1
    have hol := hcl.1
    have HC : Hid (CleanI ds out C k ∧ (n ≤ k → ∃ t, k = n + t ∧ C ≤ 1099511627776 / 256 ^ t)) := ⟨hcl, ht⟩
    have hsz := hbel.size
    have i1 : (0 : Int) ≤ (k : Int) := by omega
    clear hcl ht
    by_cases hlt : k < n
    · obtain ⟨b, o, rfl, hb, hc⟩ := HX.out.1.cells (by omega)
      have c1 := (hbel.cell (p := ⟨b, o + k, none⟩) hb).trans (hc k hlt)
      have hs := HX.out.1.small.at k (by rw [HX.out.2]; exact hlt)
      have hst := fun h => clean_step HC.out.1 (c1 := C + ds.getD k 0) rfl h
      obtain ⟨D, hD⟩ : ∃ D, ds.getD k 0 = D := ⟨_, rfl⟩
      rw [hD] at c1 hs hst
      have HN : Hid (CleanI ds (out ++ [(C + D) % 256]) ((C + D) / 256) (k + 1)) := hst (by omega)
      have q1 := (tq256 (C + D) (by omega)).1
      have q2 := (tq256 (C + D) (by omega)).2
      have i2 : (k : Int) < (n : Int) := by omega
      clear hc hst hD
      go_wp2_with (at_builtin; refine wpList_append_own _ rfl _ _ 66 rfl w.heap.size 3 i0 (.int .i64 0) 1 8 Try.underlying66 hi hz0 hz1 hz2 rfl (by decide) _ _ _ rfl (hown.alloc _) ⟨wr.heap.size, 0, none⟩ 1 1 [.int .i64 ((C + D) % 256)] rfl rfl ?c1 ?c2 ?c3 ?c4 ?c5 ?_)
      case c1 => exact one_new _ _ _
      case c2 => first | rfl | (intro u hu; simp at hu; subst hu; rfl)
      case c3 => unfold maxLen; omega
      case c4 => omega
      case c5 => first | omega | (simp; omega)
      · intro v' w1 hown' hgrow _
        rw [← hol] at hown hown'
        have R := ownN_more hbel hown hown' hgrow
        clear hown' hgrow hown hbel c1
        go_wp2
        refine ⟨⟨k + 1, (C + D) / 256, out ++ [(C + D) % 256], by go_num, rfl, HN.out, by omega, fun h => ⟨0, by omega, by simp; omega⟩, by omega, ?_, R.2⟩, ?_⟩
        · have := R.1; rw [List.length_append, hol] at this; exact this
        · simp [intOf]; omega
    · have i2 : ¬ (k : Int) < (n : Int) := by omega
      obtain ⟨t, HT⟩ : ∃ t, Hid (k = n + t ∧ C ≤ 1099511627776 / 256 ^ t) := by
        obtain ⟨t, h1, h2⟩ := HC.out.2 (by omega)
        exact ⟨t, ⟨h1, h2⟩⟩
      by_cases hp : 0 < C
      · have hle := clean_len n k C hp ⟨t, HT.out⟩
        have e0 : ds.getD k 0 = 0 := by simp [List.getD, show ds.length ≤ k by rw [HX.out.2]; omega]
        have hst := clean_step HC.out.1 (c1 := C) (by rw [e0]; omega) hC0
        have HN : Hid (CleanI ds (out ++ [C % 256]) (C / 256) (k + 1) ∧ C / 256 ≤ 1099511627776 / 256 ^ (t + 1)) := ⟨hst, div40 C t HT.out.2⟩
        have q1 := (tq256 C hC0).1
        have q2 := (tq256 C hC0).2
        clear hst e0
        go_wp2_with (at_builtin; refine wpList_append_own _ rfl _ _ 66 rfl w.heap.size 3 i0 (.int .i64 0) 1 8 Try.underlying66 hi hz0 hz1 hz2 rfl (by decide) _ _ _ rfl (hown.alloc _) ⟨wr.heap.size, 0, none⟩ 1 1 [.int .i64 (C % 256)] rfl rfl ?c1 ?c2 ?c3 ?c4 ?c5 ?_)
        try case c1 => exact one_new _ _ _
        case c2 => first | rfl | (intro u hu; simp at hu; subst hu; rfl)
        case c3 => unfold maxLen; omega
        case c4 => omega
        case c5 => first | omega | (simp; omega)
        · intro v' w1 hown' hgrow _
          rw [← hol] at hown hown'
          have R := ownN_more hbel hown hown' hgrow
          clear hown' hgrow hown hbel
          go_wp2
          refine ⟨⟨k + 1, C / 256, out ++ [C % 256], by go_num, rfl, HN.out.1, by omega, fun h => ⟨t + 1, by have := HT.out.1; omega, HN.out.2⟩, by omega, ?_, R.2⟩, ?_⟩
          · have := R.1; rw [List.length_append, hol] at this; exact this
          · simp [intOf]; omega
      · obtain rfl : C = 0 := by omega
        have HO : Hid (isN out u3 wr ∧ Below w.heap.size w wr ∧ k ≤ n + 6 ∧ n ≤ k) := ⟨isN_own hol (by omega) (small_of_bytes HC.out.1.2.1) hown, hbel, hk6, by omega⟩
        clear hown hbel
        go_wp2
        go_ret
        exact ⟨_, rfl, out, HO.out.1, HC.out.1.2.1, clean_end HC.out.1 (by rw [HX.out.2]; exact HO.out.2.2.2), by rw [hol]; exact HO.out.2.2.2, by rw [hol]; exact HO.out.2.2.1, HO.out.2.1⟩
end Go.Proofs.Ytlaegbabpiepeaa
