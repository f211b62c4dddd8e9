/- Layer network: Things: rows of them, exchange, Clone; the order by Key. -/
import Derived.Test.YtlkpgbilepehmaaNInts
namespace Go.Proofs.Ytlkpgbilepehmaa
open Go.RowKit
set_option linter.unusedVariables false
set_option linter.unusedSimpArgs false
abbrev Thg := ByteArray × Int
def thC (x : Thg) : List Value := [.string x.1, .int .i64 x.2]
def thV (x : Thg) : Value := .agg #[.string x.1, .int .i64 x.2]
def thB (a b : Thg) : Bool := Op.bytesLess a.1.toList b.1.toList
theorem before_any (a b : Thg) (w : World) : Calls Try.prog 31 #[thV a, thV b] w fun e w' => e = .returned (.bool (thB a b)) ∧ Below w.heap.size w w' := by
  unfold thV thB
  go_enter Try.func31, Try.ntmps31
  go_wp2
  go_ret
  exact ⟨rfl, ((Below.refl _ _).alloc (Nat.le_refl _) _).alloc (by simp) _⟩
theorem flat_length (zs : List Thg) : (zs.flatMap thC).length = 2 * zs.length := by
  induction zs with
  | nil => rfl
  | cons z zs ih => rw [List.flatMap_cons, List.length_append, ih]; simp [thC]; omega
theorem flat_at (zs : List Thg) (j : Nat) (hj : j < zs.length) : (zs.flatMap thC)[j * 2]? = some (.string (zs.getD j default).1) ∧ (zs.flatMap thC)[j * 2 + 1]? = some (.int .i64 (zs.getD j default).2) := by
  induction zs generalizing j with
  | nil => simp at hj
  | cons z zs ih =>
    rw [List.flatMap_cons]
    cases j with
    | zero => exact ⟨rfl, rfl⟩
    | succ j =>
      have := ih j (by simpa using hj)
      have e1 : (j + 1) * 2 = (thC z).length + j * 2 := by simp [thC]; omega
      have e2 : (j + 1) * 2 + 1 = (thC z).length + (j * 2 + 1) := by simp [thC]; omega
      rw [e2, e1, List.getElem?_append_right (Nat.le_add_right _ _), List.getElem?_append_right (Nat.le_add_right _ _), Nat.add_sub_cancel_left, Nat.add_sub_cancel_left]
      exact this
theorem flat_set (zs : List Thg) (j : Nat) (x : Thg) : ((zs.flatMap thC).set (j * 2) (.string x.1)).set (j * 2 + 1) (.int .i64 x.2) = (zs.set j x).flatMap thC := by
  induction zs generalizing j with
  | nil => simp
  | cons z zs ih =>
    cases j with
    | zero => simp [List.flatMap_cons, thC]
    | succ j =>
      rw [List.set_cons_succ, List.flatMap_cons, List.flatMap_cons, ← ih j]
      show ((Value.string z.1 :: Value.int .i64 z.2 :: zs.flatMap thC).set ((j + 1) * 2) _).set ((j + 1) * 2 + 1) _ = _
      have e1 : (j + 1) * 2 = j * 2 + 1 + 1 := by omega
      have e2 : (j + 1) * 2 + 1 = j * 2 + 1 + 1 + 1 := by omega
      rw [e2, e1, List.set_cons_succ, List.set_cons_succ, List.set_cons_succ, List.set_cons_succ]
      rfl
/-- Block g has room for c Things, begins with zs, and may be written. -/
def RowT (w : World) (g c : Nat) (zs : List Thg) : Prop := ∃ rest : List Value, 2 * zs.length + rest.length = 2 * c ∧ w.heap[g]? = some (.cells (zs.flatMap thC ++ rest).toArray 61 (0, 0))
theorem RowT.lt {w : World} {g c : Nat} {zs : List Thg} (h : RowT w g c zs) : g < w.heap.size := by
  obtain ⟨rest, _, h⟩ := h
  exact (Array.getElem?_eq_some_iff.1 h).1
theorem RowT.le {w : World} {g c : Nat} {zs : List Thg} (h : RowT w g c zs) : zs.length ≤ c := by
  obtain ⟨rest, e, h⟩ := h
  omega
theorem RowT.key {w : World} {g c : Nat} {zs : List Thg} (h : RowT w g c zs) (j : Nat) (hj : j < zs.length) : w.cell? ⟨g, j * 2, none⟩ = some (.string (zs.getD j default).1) := by
  obtain ⟨rest, _, h⟩ := h
  have hl := flat_length zs
  rw [cell_of_row w g _ _ 61 (0, 0) h, List.getElem?_toArray, List.getElem?_append_left (by omega)]
  exact (flat_at zs j hj).1
theorem RowT.place {w : World} {g c : Nat} {zs : List Thg} (h : RowT w g c zs) (j : Nat) (hj : j < zs.length) : w.cell? ⟨g, j * 2 + 1, none⟩ = some (.int .i64 (zs.getD j default).2) := by
  obtain ⟨rest, _, h⟩ := h
  have hl := flat_length zs
  rw [cell_of_row w g _ _ 61 (0, 0) h, List.getElem?_toArray, List.getElem?_append_left (by omega)]
  exact (flat_at zs j hj).2
theorem RowT.frozen {w : World} {g c : Nat} {zs : List Thg} (h : RowT w g c zs) (j : Nat) : w.frozen? ⟨g, j, none⟩ = false := by
  obtain ⟨rest, _, h⟩ := h
  exact frozen_of_row w g j _ 61 h
theorem RowT.set {w : World} {g c : Nat} {zs : List Thg} (h : RowT w g c zs) (j : Nat) (hj : j < zs.length) (x : Thg) : RowT ((w.setCell ⟨g, j * 2, none⟩ (.string x.1)).setCell ⟨g, j * 2 + 1, none⟩ (.int .i64 x.2)) g c (zs.set j x) := by
  obtain ⟨rest, e, h⟩ := h
  refine ⟨rest, by simpa using e, ?_⟩
  have hl := flat_length zs
  have h1 := heap_setCell_same w g (j * 2) _ 61 (.string x.1) h
  rw [heap_setCell_same _ g (j * 2 + 1) _ 61 _ h1, ← flat_set zs j x]
  simp only [List.setIfInBounds_toArray]
  rw [List.set_append_left _ _ (by omega), List.set_append_left _ _ (by rw [List.length_set]; omega)]
theorem RowT.block {w w' : World} {g c : Nat} {zs : List Thg} (h : RowT w g c zs) (e : w'.heap[g]? = w.heap[g]?) : RowT w' g c zs := by
  obtain ⟨rest, e0, h⟩ := h
  exact ⟨rest, e0, e.trans h⟩
set_option maxRecDepth 20000 in
set_option maxHeartbeats 1000000 in
theorem exchT_any (g n c i j : Nat) (a b : Thg) (w : World) (hi : i < n) (hj : j < n) (hij : i ≠ j) (hn : n ≤ 65536)
    (c1 : w.cell? ⟨g, i * 2, none⟩ = some (.string a.1)) (c2 : w.cell? ⟨g, i * 2 + 1, none⟩ = some (.int .i64 a.2)) (c3 : w.cell? ⟨g, j * 2, none⟩ = some (.string b.1)) (c4 : w.cell? ⟨g, j * 2 + 1, none⟩ = some (.int .i64 b.2)) (f : ∀ k, w.frozen? ⟨g, k, none⟩ = false) :
    Calls Try.prog 48 #[.slice (some ⟨g, 0, none⟩) n c, .int .i64 i, .int .i64 j] w fun e w' => (∃ v, e = .returned v) ∧ w' = ((((w.setCell ⟨g, i * 2, none⟩ (.string b.1)).setCell ⟨g, i * 2 + 1, none⟩ (.int .i64 b.2)).setCell ⟨g, j * 2, none⟩ (.string a.1)).setCell ⟨g, j * 2 + 1, none⟩ (.int .i64 a.2)).drew := by
  have f1 := f (i * 2)
  have f2 := f (i * 2 + 1)
  have f3 := f (j * 2)
  have f4 := f (j * 2 + 1)
  clear f
  go_enter Try.func48, Try.ntmps48
  go_wp2
  go_region_with (fail)
  all_goals
    go_end0
    exact ⟨⟨_, rfl⟩, rfl⟩
/-- Two Things of a row trade places. -/
def tradeT (zs : List Thg) (i j : Nat) : List Thg := (zs.set i (zs.getD j default)).set j (zs.getD i default)
theorem exchT_row (g n c i j : Nat) (zs : List Thg) (w : World) (hr : RowT w g c zs) (hl : zs.length = n) (hi : i < n) (hj : j < n) (hij : i ≠ j) (hn : n ≤ 65536) :
    Calls Try.prog 48 #[.slice (some ⟨g, 0, none⟩) n c, .int .i64 i, .int .i64 j] w fun e w' => (∃ v, e = .returned v) ∧ RowT w' g c (tradeT zs i j) ∧ w.grownBy w' (some g) := by
  refine (exchT_any g n c i j (zs.getD i default) (zs.getD j default) w hi hj hij hn (hr.key i (by omega)) (hr.place i (by omega)) (hr.key j (by omega)) (hr.place j (by omega)) hr.frozen).mono ?_
  rintro e w' ⟨he, rfl⟩
  refine ⟨he, ?_, ?_⟩
  · exact ((hr.set i (by omega) _).set j (by simp; omega) _)
  · refine ⟨rfl, rfl, rfl, by simp [World.setCell, World.drew], fun k hk hne => ?_⟩
    have h1 : k ≠ g := fun e => hne (by rw [e])
    show ((((w.setCell _ _).setCell _ _).setCell _ _).setCell _ _).heap[k]? = _
    rw [Below.heap_setCell _ _ _ _ h1, Below.heap_setCell _ _ _ _ h1, Below.heap_setCell _ _ _ _ h1, Below.heap_setCell _ _ _ _ h1]
/-- A slice at ao of n Things, which are zs. -/
structure SeenT (w : World) (ao : Option Addr) (n : Nat) (zs : List Thg) : Prop where
  len : zs.length = n
  cells : 0 < n → ∃ b o, ao = some ⟨b, o, none⟩ ∧ b < w.heap.size ∧ ∀ i, i < n * 2 → w.cell? ⟨b, o + i, none⟩ = (zs.flatMap thC)[i]?
theorem SeenT.later {w w' : World} {ao : Option Addr} {n : Nat} {zs : List Thg} (h : SeenT w ao n zs) {B : Nat} (hb : Below B w w') (hB : w.heap.size ≤ B) : SeenT w' ao n zs :=
  ⟨h.len, fun h0 => by
    obtain ⟨b, o, e, hlt, hc⟩ := h.cells h0
    exact ⟨b, o, e, Nat.lt_of_lt_of_le hlt hb.size, fun i hi => (hb.cell (p := ⟨b, o + i, none⟩) (Nat.lt_of_lt_of_le hlt hB)).trans (hc i hi)⟩⟩
theorem RowT.seen {w : World} {g c : Nat} {zs : List Thg} (h : RowT w g c zs) : SeenT w (some ⟨g, 0, none⟩) zs.length zs :=
  ⟨rfl, fun _ => ⟨g, 0, rfl, h.lt, fun i hi => by
    obtain ⟨rest, _, hh⟩ := h
    have hl := flat_length zs
    rw [Nat.zero_add, cell_of_row w g i _ 61 (0, 0) hh, List.getElem?_toArray, List.getElem?_append_left (by omega)]⟩⟩
theorem info_th : (Try.prog.info? 61).map (fun i => (i.zero, i.size, i.bytes)) = some (some (.agg #[.string ByteArray.empty, .int .i64 0]), 2, 24) := by kernel_rfl
theorem own_rowT {w : World} {base n : Nat} {v : Value} {zs : List Thg} (h : w.ownsRow base 61 2 v n (zs.flatMap thC)) (hn : 0 < n) : ∃ g c, v = .slice (some ⟨g, 0, none⟩) n c ∧ base ≤ g ∧ c ≤ maxLen ∧ RowT w g c zs := by
  have hl : zs.length = n := by have h1 := h.1; have h2 := flat_length zs; omega
  rcases h.2 with ⟨_, h0⟩ | ⟨g, cap, cur, rfl, hg, hh, h1, h2, h3, h4⟩
  · omega
  · refine ⟨g, cap, rfl, hg, h2, cur.toList.drop (n * 2), ?_, ?_⟩
    · simp; omega
    · rw [hh, ← h4, List.take_append_drop]
set_option maxRecDepth 20000 in
set_option maxHeartbeats 1000000 in
theorem scloneT_any (ad : Addr) (n c : Nat) (zs : List Thg) (w : World) (hs : SeenT w (some ad) n zs) (hn : n ≤ 1048576) :
    Calls Try.prog 47 #[.slice (some ad) n c] w fun e w' => ∃ v, e = .returned v ∧ w'.ownsRow w.heap.size 61 2 v n (zs.flatMap thC) ∧ Below w.heap.size w w' := by
  obtain ⟨i0, hi, hz0, hz1, hz2⟩ := info_parts info_th
  have HS : Hid (SeenT w (some ad) n zs) := hs
  clear hs
  have hq : ∀ wx, (binOp .eql 59 (.slice (some ad) n c) (.slice none 0 0)).run Try.prog wx = .ok (.bool false) wx := fun wx => Lib.run_eql_slice_nil wx 59 61 (some ad) n c 0 0 Try.underlying59
  go_enter Try.func47, Try.ntmps47
  go_wp2_with (at_builtin; refine wpList_append_own _ rfl _ _ 59 rfl w.heap.size 61 i0 (.agg #[.string ByteArray.empty, .int .i64 0]) 2 24 Try.underlying59 hi hz0 hz1 hz2 rfl (by decide) _ 0 [] rfl (World.ownsRow_made w #[] 0 (Nat.le_refl _) (Nat.zero_le _) rfl) ad n c (zs.flatMap thC) rfl ?c1 ?c2 ?c3 ?c4 ?c5 ?c6 ?_)
  case c1 => rw [flat_length, HS.out.len, Nat.mul_comm]
  case c2 =>
    intro j u hj
    have hjl := (List.getElem?_eq_some_iff.1 hj).1
    have hl := HS.out.len
    rw [flat_length] at hjl
    obtain ⟨b, o, e, hlt, hc⟩ := HS.out.cells (by omega)
    cases e
    rw [show (⟨b, o, none⟩ : Addr).add j = ⟨b, o + j, none⟩ by simp [Addr.add]]
    have h1 := ((Below.refl w.heap.size w).alloc (Nat.le_refl _) (.cells #[] 61)).cell (p := ⟨b, o + j, none⟩) hlt
    rw [h1, hc j (by omega), hj]
  case c3 => intro u hu; obtain ⟨z, _, hz⟩ := List.mem_flatMap.1 hu; simp only [thC, List.mem_cons, List.not_mem_nil, or_false] at hz; rcases hz with rfl | rfl <;> rfl
  case c4 => unfold maxLen; omega
  case c5 => omega
  case c6 => simp
  intro v' w1 ho hg _
  have HO : Hid (w1.ownsRow w.heap.size 61 2 v' n (zs.flatMap thC) ∧ Below w.heap.size w w1) := ⟨by simpa using ho, ((Below.refl _ _).alloc (Nat.le_refl _) _).grown hg (by simp) (fun j hj => by have : some w.heap.size = some j := hj; cases this; exact Nat.le_refl _)⟩
  clear ho hg
  go_wp2
  go_ret
  exact ⟨_, rfl, HO.out.1, HO.out.2⟩
end Go.Proofs.Ytlkpgbilepehmaa
