/- Joined texts: RSRow RTMath RTNum RSState DSpare RSBlock DHeld. -/
import Derived.Test.YtcimiajkbgabiaaGreatZF
import Derived.Test.YtcimiajkbgabiaaGreatZE
import Derived.Test.YtcimiajkbgabiaaGreatZA
import Derived.Test.YtcimiajkbgabiaaGreatZD
import Derived.Test.YtcimiajkbgabiaaGreatZB
import Derived.Laws.OwnMore
namespace Go.Proofs.YtcimiajkbgabiaaGreat
open Go.RowKit
set_option linter.unusedVariables false
set_option linter.unusedSimpArgs false

theorem info_w : (Tryz.prog.info? 24).map (fun i => (i.zero, i.size, i.bytes)) = some (some (.int .u64 0), 1, 8) := by kernel_rfl
def Wds (zs : List Int) : Prop := ∀ z ∈ zs, Wd z
theorem Wds.at {zs : List Int} (h : Wds zs) (j : Nat) (hj : j < zs.length) : Wd (zs.getD j 0) := by
  have e : zs.getD j 0 = zs[j] := by simp [List.getD, hj]
  rw [e]; exact h _ (List.getElem_mem hj)
def w64s (l : List Int) : List Value := l.map (Value.int .u64)
theorem w64s_length (l : List Int) : (w64s l).length = l.length := List.length_map ..
theorem w64s_set (l : List Int) (j : Nat) (x : Int) : (w64s l).set j (.int .u64 x) = w64s (l.set j x) := by simp [w64s, List.map_set]
/-- A slice at ao of n numbers, which are zs. -/
structure SeenU (w : World) (ao : Option Addr) (n : Nat) (zs : List Int) : Prop where
  len : zs.length = n
  top : n ≤ 1000
  wd : Wds zs
  cells : 0 < n → ∃ b o, ao = some ⟨b, o, none⟩ ∧ b < w.heap.size ∧ ∀ i, i < n → w.cell? ⟨b, o + i, none⟩ = some (.int .u64 (zs.getD i 0))
theorem SeenU.later {w w' : World} {ao : Option Addr} {n : Nat} {zs : List Int} (h : SeenU w ao n zs) {B : Nat} (hb : Below B w w') (hB : w.heap.size ≤ B) : SeenU w' ao n zs :=
  ⟨h.len, h.top, h.wd, fun hn => by
    obtain ⟨b, o, e, hlt, hc⟩ := h.cells hn
    exact ⟨b, o, e, Nat.lt_of_lt_of_le hlt hb.size, fun i hi => (hb.cell (p := ⟨b, o + i, none⟩) (Nat.lt_of_lt_of_le hlt hB)).trans (hc i hi)⟩⟩
theorem SeenU.kept {S : Nat → Prop} {w w' : World} {ao : Option Addr} {n : Nat} {zs : List Int} (h : SeenU w ao n zs) (hk : Kept S w w') (hS : ∀ b, b < w.heap.size → ¬ S b) : SeenU w' ao n zs :=
  ⟨h.len, h.top, h.wd, fun hn => by
    obtain ⟨b, o, e, hlt, hc⟩ := h.cells hn
    exact ⟨b, o, e, Nat.lt_of_lt_of_le hlt hk.size, fun i hi => (hk.cell (p := ⟨b, o + i, none⟩) hlt (hS b hlt)).trans (hc i hi)⟩⟩
/-- Block g begins with the numbers zs, has room for cap, and may be written. -/
def RowU (w : World) (r cap : Nat) (zs : List Int) : Prop := ∃ rest : List Value, w.heap[r]? = some (.cells (w64s zs ++ rest).toArray 24 (0, 0)) ∧ zs.length + rest.length = cap
theorem RowU.cell {w : World} {g cap : Nat} {zs : List Int} (h : RowU w g cap zs) (j : Nat) (hj : j < zs.length) : w.cell? ⟨g, j, none⟩ = some (.int .u64 (zs.getD j 0)) := by
  obtain ⟨rest, h, _⟩ := h
  rw [cell_of_row w g j _ 24 (0, 0) h]
  simp [w64s, hj, List.getElem?_append]
theorem RowU.frozen {w : World} {g cap : Nat} {zs : List Int} (h : RowU w g cap zs) (j : Nat) : w.frozen? ⟨g, j, none⟩ = false := by
  obtain ⟨rest, h, _⟩ := h
  exact frozen_of_row w g j _ 24 h
theorem RowU.set {w : World} {g cap : Nat} {zs : List Int} (h : RowU w g cap zs) (j : Nat) (hj : j < zs.length) (z : Int) : RowU (w.setCell ⟨g, j, none⟩ (.int .u64 z)) g cap (zs.set j z) := by
  obtain ⟨rest, h, hc⟩ := h
  refine ⟨rest, ?_, by simpa using hc⟩
  rw [heap_setCell_same w g j _ 24 _ h, ← w64s_set]
  simp [w64s_length, hj]
theorem RowU.lt {w : World} {g cap : Nat} {zs : List Int} (h : RowU w g cap zs) : g < w.heap.size := by
  obtain ⟨rest, h, _⟩ := h
  rcases Nat.lt_or_ge g w.heap.size with h' | h'
  · exact h'
  · rw [Array.getElem?_eq_none h'] at h; cases h
theorem RowU.block {w w' : World} {r cap : Nat} {zs : List Int} (h : RowU w r cap zs) (e : w'.heap[r]? = w.heap[r]?) : RowU w' r cap zs := by
  obtain ⟨rest, h, hc⟩ := h
  exact ⟨rest, by rw [e]; exact h, hc⟩
theorem RowU.later {w w' : World} {r cap : Nat} {zs : List Int} (h : RowU w r cap zs) {B : Nat} (hb : Below B w w') (hB : w.heap.size ≤ B) : RowU w' r cap zs := h.block (hb.block r (Nat.lt_of_lt_of_le h.lt hB))
theorem RowU.drew {w : World} {r cap : Nat} {zs : List Int} (h : RowU w r cap zs) : RowU w.drew r cap zs := h
theorem RowU.of_own {w : World} {base r n cap : Nat} {zs : List Int} (h : w.ownsRow base 24 1 (.slice (some ⟨r, 0, none⟩) n cap) n (w64s zs)) : RowU w r cap zs ∧ base ≤ r ∧ n ≤ cap ∧ cap ≤ maxLen ∧ zs.length = n := by
  obtain ⟨hl, h⟩ := h
  rcases h with ⟨h, _⟩ | ⟨g', cap', cur, h, hb, hh, hc, hm, hs, ht⟩
  · cases h
  · simp only [Value.slice.injEq, Option.some.injEq, Addr.mk.injEq, and_true, true_and] at h
    obtain ⟨rfl, rfl⟩ := h
    rw [Nat.mul_one] at ht hs
    have hl' : zs.length = n := by simpa [w64s] using hl
    refine ⟨⟨cur.toList.drop n, ?_, ?_⟩, hb, hc, hm, hl'⟩
    · rw [← ht, List.take_append_drop]; simpa using hh
    · simp; omega
theorem RowU.own {w : World} {base r n cap : Nat} {zs : List Int} (h : RowU w r cap zs) (hl : zs.length = n) (hb : base ≤ r) (hm : cap ≤ maxLen) : w.ownsRow base 24 1 (.slice (some ⟨r, 0, none⟩) n cap) n (w64s zs) := by
  obtain ⟨rest, h, hc⟩ := h
  refine ⟨by rw [w64s_length]; omega, .inr ⟨r, cap, _, rfl, hb, h, by omega, hm, by simp [w64s_length]; omega, ?_⟩⟩
  rw [Nat.mul_one]
  simp [w64s_length, hl]
theorem RowU.seen {w : World} {g cap : Nat} {zs : List Int} (h : RowU w g cap zs) (ht : zs.length ≤ 1000) (hs : Wds zs) : SeenU w (some ⟨g, 0, none⟩) zs.length zs :=
  ⟨rfl, ht, hs, fun _ => ⟨g, 0, rfl, h.lt, fun i hi => by rw [Nat.zero_add]; exact h.cell i hi⟩⟩
theorem ownU {w : World} {base n : Nat} {v : Value} {zs : List Int} (hl : zs.length = n) (h : w.ownsRow base 24 1 v n (w64s zs)) :
    (v = .slice none 0 0 ∧ n = 0 ∧ zs = []) ∨ ∃ g cap, v = .slice (some ⟨g, 0, none⟩) n cap ∧ RowU w g cap zs ∧ base ≤ g ∧ n ≤ cap ∧ cap ≤ maxLen := by
  rcases h.2 with ⟨h1, h2⟩ | ⟨g, cap, cur, rfl, r⟩
  · left
    subst h2
    exact ⟨h1, rfl, List.length_eq_zero_iff.1 hl⟩
  · right
    have := RowU.of_own h
    exact ⟨g, cap, rfl, this.1, this.2.1, this.2.2.1, this.2.2.2.1⟩
/-- A slice of these numbers. -/
def isU (zs : List Int) (v : Value) (w : World) : Prop := ∃ vo n c, v = .slice vo n c ∧ SeenU w vo n zs
theorem isU_later (zs : List Int) : ∀ v w w', Below w.heap.size w w' → isU zs v w → isU zs v w' := fun _ _ _ hb ⟨b, o, c, h1, h2⟩ => ⟨b, o, c, h1, h2.later hb (Nat.le_refl _)⟩
theorem isU_own {w : World} {base n : Nat} {v : Value} {zs : List Int} (hl : zs.length = n) (ht : n ≤ 1000) (hs : Wds zs) (h : w.ownsRow base 24 1 v n (w64s zs)) : isU zs v w := by
  rcases ownU hl h with ⟨rfl, rfl, rfl⟩ | ⟨g, cap, rfl, hr, _, _, _⟩
  · exact ⟨none, 0, 0, rfl, rfl, Nat.zero_le _, (fun d hd => by cases hd), fun h => (by omega)⟩
  · subst hl
    exact ⟨_, _, cap, rfl, hr.seen ht hs⟩
/-- A number more. -/
theorem ownU_more {w wr w1 : World} {v v' : Value} {zs : List Int} {z : Int}
    (hb : Below w.heap.size w wr) (hown : wr.ownsRow w.heap.size 24 1 v zs.length (w64s zs))
    (hown' : w1.ownsRow w.heap.size 24 1 v' (zs.length + 1) (w64s zs ++ [.int .u64 z])) (hg : (wr.alloc (.cells #[.int .u64 z] 24)).grownBy w1 v.ownBlock) :
    w1.ownsRow w.heap.size 24 1 v' (zs ++ [z]).length (w64s (zs ++ [z])) ∧ Below w.heap.size w w1 := by
  constructor
  · rw [w64s, List.map_append, List.length_append]; exact hown'
  · exact (hb.alloc hb.size _).grown hg (by have := hb.size; simp; omega) (fun j hj => (hown.lt j hj).1)
theorem madeU (n : Nat) : (madeCells #[Value.int .u64 0] n) = (w64s (List.replicate n 0)).toArray := by
  apply Array.ext'
  rw [toList_madeCells_one]
  simp [w64s]
set_option maxHeartbeats 1000000 in
set_option maxRecDepth 20000 in
theorem rlittle_any (ao : Option Addr) (n c : Nat) (zs : List Int) (k : Nat) (hk : k ≤ 8) (w : World) (hx : Seen w ao n zs) :
    Calls Tryz.prog 123 #[.slice ao n c, .int .i64 k] w fun e w' => e = .returned (.tuple #[.int .u64 (leV k n zs), .int .i64 (fit n k)]) ∧ w = w' := by
  have t1 := hx.top
  rcases Nat.lt_trichotomy n k with h | h | h
  · rw [fit_short h, leV_no zs (by omega)]
    have h1 : (n : Int) < (k : Int) := by omega
    go_enter Tryz.func123, Tryz.ntmps123
    go_wp2
    go_ret2
    exact ⟨rfl, rfl⟩
  · subst h
    rw [fit_ok, leV_ok]
    have HL : Hid (zs.length = n) := hx.len
    have HB : Hid (Bytes zs) := hx.bytes
    go_enter Tryz.func123, Tryz.ntmps123
    go_wp2
    go_loopw [6, 7] (fun v i wr => ∃ (m : Nat) (I : Int), m ≤ n ∧ I + 1 = m ∧ i = .int .i64 I ∧ v = .int .u64 (le (zs.drop m)) ∧ wr = w) (fun _ i _ => (intOf i + 1).toNat)
    case atStart => exact ⟨n, (n : Int) - 1, Nat.le_refl _, by omega, rfl, by rw [List.drop_of_length_le (by have := HL.out; omega)]; rfl, rfl⟩
    case round =>
      obtain ⟨m, I, hm, hI, rfl, rfl, rfl⟩ := hrel
      by_cases hlt : 0 < m
      · obtain ⟨b, o, rfl, hb, hc⟩ := hx.cells (by omega)
        obtain ⟨p, rfl⟩ : ∃ p, m = p + 1 := ⟨m - 1, by omega⟩
        obtain rfl : I = (p : Int) := by omega
        have c1 := hc p (by omega)
        have hd := le_drop zs p (by have := HL.out; omega)
        have hbd := le_drop_bd zs HB.out n (p + 1) HL.out hk (by omega)
        have hz := HB.out.at p (by have := HL.out; omega)
        have hbd2 := le_bd (zs.drop p) (bytes_drop HB.out p)
        have hlt2 : le (zs.drop p) < 18446744073709551616 := by
          have : 256 ^ (zs.drop p).length ≤ 256 ^ 8 := Nat.pow_le_pow_right (by decide) (by rw [List.length_drop]; have := HL.out; omega)
          have h2 : (256 : Int) ^ (zs.drop p).length ≤ 256 ^ 8 := by
            show ((256 : Nat) : Int) ^ _ ≤ ((256 : Nat) : Int) ^ 8
            rw [← Int.natCast_pow, ← Int.natCast_pow]
            exact Int.ofNat_le.2 this
          omega
        obtain ⟨Z, hZ⟩ : ∃ Z, zs.getD p 0 = Z := ⟨_, rfl⟩
        obtain ⟨A, hA⟩ : ∃ A, le (zs.drop (p + 1)) = A := ⟨_, rfl⟩
        rw [hZ] at c1 hd hz
        rw [hA] at hd hbd
        rw [hd] at hlt2
        have HO : Hid (A * 256 + Z = le (zs.drop p)) := by show _ = _; rw [hd]; omega
        rw [hA]
        have w1 : A * 256 % 18446744073709551616 = A * 256 := by omega
        have w2 : (A * 256 + Z) % 18446744073709551616 = A * 256 + Z := by omega
        have i1 : (0 : Int) ≤ (p : Int) := by omega
        have i2 : (p : Int) < (n : Int) := by omega
        clear hZ hA hc hx hd hbd2
        go_wp2
        go_roundw
        case rel => exact ⟨p, (p : Int) - 1, by omega, by omega, by go_num, by rw [← HO.out], by first | rfl | trivial⟩
        case measure => simp [intOf] <;> omega
      · obtain rfl : m = 0 := by omega
        obtain rfl : I = -1 := by omega
        rw [List.drop_zero]
        obtain ⟨A, hA⟩ : ∃ A, le zs = A := ⟨_, rfl⟩
        rw [hA]
        have HA : Hid (le zs = A) := hA
        clear hx hA
        go_wp2
        go_ret2
        exact ⟨by rw [HA.out]; rfl, rfl⟩
  · rw [fit_rest h, leV_no zs (by omega)]
    have h1 : (k : Int) < (n : Int) := by omega
    go_enter Tryz.func123, Tryz.ntmps123
    go_wp2
    go_ret2
    exact ⟨rfl, rfl⟩

set_option maxHeartbeats 1000000 in
set_option maxRecDepth 20000 in
theorem rbytes_any (x : Int) (hv : Word x) (k : Nat) (hk : k ≤ 8) (w : World) :
    Calls Tryz.prog 90 #[.int .u64 x, .int .i64 k] w fun e w' => ∃ v, e = .returned v ∧ w'.ownsRow w.heap.size 5 1 v k ((leB k x).map (Value.int .u8)) ∧ Below w.heap.size w w' := by
  have A1 : Hid (∀ i, i < k → (leB k x).getD i 0 = x / 256 ^ i % 256) := fun i hi => leB_at _ _ _ hi
  have A4 : Hid ((leB k x).length = k) := leB_length _ _
  generalize leB k x = zm at *
  obtain ⟨i0, hi, hz0, hz1, hz2⟩ := info_parts info_byte
  go_enter Tryz.func90, Tryz.ntmps90
  go_wp2
  go_loopw [0, 5, 6] (fun u v i wr => ∃ m : Nat, m ≤ k ∧ u = .int .u64 (x / 256 ^ m) ∧ i = .int .i64 m ∧ wr.ownsRow w.heap.size 5 1 v m ((zm.map (Value.int .u8)).take m) ∧ Below w.heap.size w wr) (fun _ _ i _ => k - (intOf i).toNat)
  case atStart => exact ⟨0, Nat.zero_le _, by simp, rfl, by simpa using World.ownsRow_nil _ _ _ _, Below.refl _ _⟩
  case round =>
    obtain ⟨m, hm, rfl, rfl, hown, hbel⟩ := hrel
    have hq : 0 ≤ x / 256 ^ m ∧ x / 256 ^ m < 18446744073709551616 := by
      have hp : (0 : Int) < 256 ^ m := Int.pow_pos (by decide)
      have h1 := Int.ediv_nonneg hv.1 (Int.le_of_lt hp)
      have h2 : x / 256 ^ m ≤ x := Int.ediv_le_self _ hv.1
      have h3 := hv.2
      exact ⟨h1, by omega⟩
    have HP : Hid (x / 256 ^ (m + 1) = x / 256 ^ m / 256) := by
      show _ = _
      rw [Int.pow_succ, Int.ediv_ediv_of_nonneg (Int.le_of_lt (Int.pow_pos (by decide)))]
    by_cases hlt : m < k
    · have HZ : Hid (zm.getD m 0 = x / 256 ^ m % 256) := A1.out m hlt
      obtain ⟨Y, hY⟩ : ∃ Y, x / 256 ^ m = Y := ⟨_, rfl⟩
      have HY : Hid (x / 256 ^ m = Y) := hY
      rw [hY] at hq ⊢
      have e1 : Y % 256 % 256 = Y % 256 := by omega
      have hsz := hbel.size
      have i2 : (m : Int) < (k : Int) := by omega
      clear hY
      go_wp2_with (at_builtin; refine wpList_append_own _ rfl _ _ 28 rfl w.heap.size 5 i0 (.int .u8 0) 1 1 Tryz.underlying28 hi hz0 hz1 hz2 rfl (by decide) _ _ _ rfl (hown.alloc _) ⟨wr.heap.size, 0, none⟩ 1 1 [.int .u8 (Y % 256)] rfl rfl ?c1 ?c2 ?c3 ?c4 ?c5 ?_)
      case c1 => exact cell_one_new _ _ _
      case c2 => intro u hu; simp at hu; subst hu; rfl
      case c3 => unfold maxLen; omega
      case c4 => omega
      case c5 => simp; omega
      · intro v' w1 hown' hgrow _
        have R := step_own hbel hown (by have := A4.out; omega) (by rw [HZ.out, HY.out]) hown' hgrow
        clear hown' hgrow hown hbel
        go_wp2
        go_roundw
        case rel => exact ⟨m + 1, by omega, by rw [HP.out, HY.out], by go_num, R.1, R.2⟩
        case measure => simp [intOf]; omega
    · obtain rfl : m = k := by omega
      have HO : Hid (wr.ownsRow w.heap.size 5 1 u5 m ((zm.map (Value.int .u8)).take m)) := hown
      have HB : Hid _ := hbel
      clear hown hbel
      go_wp2
      go_ret
      refine ⟨_, rfl, ?_, HB.out⟩
      have h := HO.out
      rwa [List.take_of_length_le (by have := A4.out; simp; omega)] at h

theorem rnum_any (ao : Option Addr) (n c : Nat) (zs : List Int) (hn : n ≤ 8) (w : World) (hx : Seen w ao n zs) : Calls Tryz.prog 119 #[.slice ao n c] w fun e w' => e = .returned (.int .u64 (le zs)) ∧ w = w' := by
  have h := rlittle_any ao n c zs n hn w hx
  rw [leV_ok] at h
  go_enter Tryz.func119, Tryz.ntmps119
  go_wp2_with (go_at_call 123; refine h.mono ?_; rintro e w' ⟨rfl, rfl⟩)
  go_ret
  exact ⟨rfl, rfl⟩
theorem le4_wd (l : List Int) (hb : Bytes l) (hl : l.length = 4) : Wd (le l) := by
  have h := le_bd l hb
  rw [hl] at h
  exact ⟨h.1, h.2⟩
theorem wds_wd (zs : List Int) (k : Nat) (hb : Bytes zs) (hl : 4 * k ≤ zs.length) : Wds (wds zs k) := by
  intro z hz
  simp only [wds, List.mem_map, List.mem_range] at hz
  obtain ⟨t, ht, rfl⟩ := hz
  exact le4_wd _ (bytes_take (bytes_drop hb _) _) (by rw [List.length_take, List.length_drop]; omega)
theorem ownU_next {w wr w1 : World} {v v' : Value} {zs : List Int} {z : Int} {k : Nat} (hl : zs.length = k)
    (hb : Below w.heap.size w wr) (hown : wr.ownsRow w.heap.size 24 1 v k (w64s zs))
    (hown' : w1.ownsRow w.heap.size 24 1 v' (k + 1) (w64s zs ++ [.int .u64 z])) (hg : (wr.alloc (.cells #[.int .u64 z] 24)).grownBy w1 v.ownBlock) :
    w1.ownsRow w.heap.size 24 1 v' (k + 1) (w64s (zs ++ [z])) ∧ Below w.heap.size w w1 := by
  subst hl
  have R := ownU_more (zs := zs) (z := z) hb hown hown' hg
  rwa [List.length_append] at R
set_option maxHeartbeats 1000000 in
set_option maxRecDepth 20000 in
theorem words_any (ao : Option Addr) (K c : Nat) (zs : List Int) (hK : K ≤ 8) (w : World) (hx : Seen w ao (4 * K) zs) (hc : 4 * K ≤ c) :
    Calls Tryz.prog 107 #[.slice ao (4 * K) c] w fun e w' => ∃ v, e = .returned v ∧ isU (wds zs K) v w' ∧ Below w.heap.size w w' := by
  have HX : Hid (Seen w ao (4 * K) zs ∧ zs.length = 4 * K ∧ Bytes zs) := ⟨hx, hx.len, hx.bytes⟩
  obtain ⟨i0, hi, hz0, hz1, hz2⟩ := info_parts info_w
  clear hx
  go_enter Tryz.func107, Tryz.ntmps107
  go_wp2_with fail
  go_loopw [3, 4] (fun v i wr => ∃ k : Nat, k ≤ K ∧ i = .int .i64 (4 * (k : Int)) ∧ wr.ownsRow w.heap.size 24 1 v k (w64s (wds zs k)) ∧ Below w.heap.size w wr) (fun _ i _ => 4 * K - (intOf i).toNat)
  case atStart => exact ⟨0, Nat.zero_le _, rfl, World.ownsRow_nil _ _ _ _, Below.refl _ _⟩
  case round =>
    obtain ⟨k, hk, rfl, hown, hbel⟩ := hrel
    have hsz := hbel.size
    by_cases hlt : k < K
    · have i1 : 4 * (k : Int) + 4 ≤ 4 * (K : Int) := by omega
      have i2 : (0 : Int) ≤ 4 * (k : Int) := by omega
      have hsl : ∀ W, (Instr.sliceAt 28 (.slice ao (4 * K) c) (some (.int .i64 (4 * (k : Int)))) (some (.int .i64 (4 * (k : Int) + 4))) none).run Tryz.prog W = .ok (.slice (subA ao (4 * k) c) 4 (c - 4 * k)) W := fun W => by
        have := sl_lh ao (4 * K) c (4 * k) (4 * k + 4) (by omega) (by omega) W
        rw [Nat.add_sub_cancel_left] at this
        simpa using this
      have hs4 := (HX.out.1.later hbel (Nat.le_refl _)).sub (4 * k) (4 * k + 4) c (by omega) (by omega) hc
      rw [Nat.add_sub_cancel_left] at hs4
      have HS : Hid (Seen wr (subA ao (4 * k) c) 4 ((zs.drop (4 * k)).take 4)) := hs4
      obtain ⟨Z, HZ⟩ : ∃ Z, Hid (le ((zs.drop (4 * k)).take 4) = Z) := ⟨_, rfl⟩
      have HE : Hid (wds zs (k + 1) = wds zs k ++ [Z]) := by show _ = _; rw [wds_succ, ← HZ.out]; rfl
      clear hs4
      go_wp2_with fail
      refine (rnum_any _ 4 (c - 4 * k) _ (by decide) wr HS.out).mono ?_
      rintro e w' ⟨rfl, rfl⟩
      rw [HZ.out]
      go_wp2_with (at_builtin; refine wpList_append_own _ rfl _ _ 133 rfl w.heap.size 24 i0 (.int .u64 0) 1 8 Tryz.underlying133 hi hz0 hz1 hz2 rfl (by decide) _ _ _ rfl (hown.alloc _) ⟨wr.heap.size, 0, none⟩ 1 1 [.int .u64 Z] rfl rfl ?c1 ?c2 ?c3 ?c4 ?c5 ?_)
      try case c1 => exact one_new _ _ _
      case c2 => first | rfl | (intro u hu; simp at hu; subst hu; rfl)
      case c3 => unfold maxLen; omega
      case c4 => omega
      case c5 => first | omega | (simp; omega)
      · intro v' w1 hown' hgrow _
        have R := ownU_next (wds_length zs k) hbel hown hown' hgrow
        clear hown' hgrow hown hbel
        go_wp2_with fail
        exact ⟨⟨k + 1, by omega, by go_num, by rw [HE.out]; exact R.1, R.2⟩, by simp [intOf]; omega⟩
    · obtain rfl : K = k := by omega
      have i1 : ¬ 4 * (K : Int) + 4 ≤ 4 * (K : Int) := by omega
      have HO : Hid (isU (wds zs K) u3 wr ∧ Below w.heap.size w wr) := ⟨isU_own (wds_length zs K) (by omega) (wds_wd zs K HX.out.2.2 (by rw [HX.out.2.1]; exact Nat.le_refl _)) hown, hbel⟩
      clear hown hbel
      go_wp2_with fail
      go_ret
      exact ⟨_, rfl, HO.out⟩
end Go.Proofs.YtcimiajkbgabiaaGreat

namespace Go.Proofs.YtcimiajkbgabiaaGreat
open Go.RowKit
set_option linter.unusedVariables false
set_option linter.unusedSimpArgs false

theorem le_nil : le [] = 0 := rfl
theorem le_one (x : Int) : le [x] = x := by simp [le]
theorem le_nonneg {ds : List Int} (h : ∀ d ∈ ds, 0 ≤ d) : 0 ≤ le ds := by
  induction ds with
  | nil => exact Int.le_refl _
  | cons d ds ih =>
    have := h d (by simp)
    have := ih (fun y hy => h y (by simp [hy]))
    simp only [le]; omega
theorem le_rep0 (n : Nat) : le (List.replicate n 0) = 0 := by
  induction n with
  | zero => rfl
  | succ n ih => rw [List.replicate_succ, le, ih]; rfl
theorem le_drop' (ds : List Int) (i : Nat) : le (ds.drop i) = ds.getD i 0 + 256 * le (ds.drop (i + 1)) := by
  by_cases h : i < ds.length
  · exact le_drop ds i h
  · rw [List.drop_eq_nil_of_le (by omega), List.drop_eq_nil_of_le (by omega)]
    simp [le, List.getD, show ds.length ≤ i by omega]
theorem le_take_succ (ds : List Int) (i : Nat) (hi : i < ds.length) : le (ds.take (i + 1)) = le (ds.take i) + 256 ^ i * ds.getD i 0 := by
  rw [List.take_succ_eq_append_getElem hi, le_app, le_one, List.length_take, Nat.min_eq_left (by omega)]
  simp [List.getD, hi]
theorem le_set (ds : List Int) (i : Nat) (x : Int) (hi : i < ds.length) : le (ds.set i (ds.getD i 0 + x)) = le ds + 256 ^ i * x := by
  induction ds generalizing i with
  | nil => simp at hi
  | cons d ds ih =>
    cases i with
    | zero => simp [le]; omega
    | succ i =>
      rw [List.set_cons_succ, List.getD_cons_succ, le, le, ih i (by simpa using hi), Int.pow_succ, Int.mul_comm (256 ^ i) 256, Int.mul_assoc, Int.mul_add]
      omega
theorem le_zero {ds : List Int} (h : ∀ d ∈ ds, 0 ≤ d) : le ds = 0 ↔ ∀ d ∈ ds, d = 0 := by
  induction ds with
  | nil => simp [le]
  | cons d ds ih =>
    have h1 := h d (by simp)
    have h2 := le_nonneg (ds := ds) (fun y hy => h y (by simp [hy]))
    have ih := ih (fun y hy => h y (by simp [hy]))
    simp only [le, List.mem_cons, forall_eq_or_imp]
    constructor
    · intro e
      exact ⟨by omega, ih.1 (by omega)⟩
    · rintro ⟨rfl, e⟩
      rw [ih.2 e]; rfl
/-- Carries handed on: behind i digits. -/
def CleanI (ds out : List Int) (c : Int) (i : Nat) : Prop := out.length = i ∧ Bytes out ∧ 0 ≤ c ∧ le out + 256 ^ i * (c + le (ds.drop i)) = le ds
theorem clean_zero (ds : List Int) : CleanI ds [] 0 0 := ⟨rfl, (fun z hz => by cases hz), Int.le_refl _, by simp [le]⟩
theorem clean_step {ds out : List Int} {c c1 : Int} {i : Nat} (h : CleanI ds out c i) (hc : c1 = c + ds.getD i 0) (h0 : 0 ≤ c1) : CleanI ds (out ++ [c1 % 256]) (c1 / 256) (i + 1) := by
  obtain ⟨h1, h2, h3, h4⟩ := h
  refine ⟨by simp [h1], bytes_app h2 (fun z hz => ?_), by omega, ?_⟩
  · simp at hz; subst hz; omega
  · rw [le_app, le_one, h1, Int.pow_succ, Int.mul_assoc, Int.add_assoc, ← Int.mul_add]
    rw [le_drop' ds i] at h4
    rw [← h4]
    congr 2
    omega
theorem clean_end {ds out : List Int} {i : Nat} (h : CleanI ds out 0 i) (hi : ds.length ≤ i) : le out = le ds := by
  have := h.2.2.2
  rw [List.drop_eq_nil_of_le hi, le_nil] at this
  simpa using this
theorem pow40 (t : Nat) (h : 6 ≤ t) : (1099511627776 : Int) / 256 ^ t = 0 := by
  obtain ⟨u, rfl⟩ : ∃ u, t = 6 + u := ⟨t - 6, by omega⟩
  have hp : (0 : Int) < 256 ^ u := Int.pow_pos (by decide)
  apply Int.ediv_eq_zero_of_lt (by decide)
  rw [Int.pow_add]
  have e : (256 : Int) ^ 6 = 281474976710656 := by decide
  rw [e]
  have : (281474976710656 : Int) * 1 ≤ 281474976710656 * 256 ^ u := Int.mul_le_mul_of_nonneg_left (by omega) (by decide)
  omega
theorem div40 (c : Int) (t : Nat) (h : c ≤ 1099511627776 / 256 ^ t) : c / 256 ≤ 1099511627776 / 256 ^ (t + 1) := by
  rw [Int.pow_succ, ← Int.ediv_ediv_of_nonneg (Int.le_of_lt (Int.pow_pos (by decide)))]
  exact Int.ediv_le_ediv (by decide) h
/-- What stands below the bit 130. -/
def lowL (ds : List Int) : List Int := ds.take 16 ++ (if 16 < ds.length then [ds.getD 16 0 % 4] else [])
/-- What stands from the bit 2 on. -/
def highL : List Int → List Int
  | [] => []
  | x :: t => (x / 4 + t.getD 0 0 % 4 * 64) :: highL t
theorem highL_length (ds : List Int) : (highL ds).length = ds.length := by
  induction ds with
  | nil => rfl
  | cons d ds ih => simp [highL, ih]
theorem highL_bytes (ds : List Int) (h : Bytes ds) : Bytes (highL ds) := by
  induction ds with
  | nil => intro z hz; cases hz
  | cons d ds ih =>
    intro z hz
    have hd := h d (by simp)
    simp only [highL, List.mem_cons] at hz
    rcases hz with rfl | hz
    · generalize ds.getD 0 0 = y
      omega
    · exact ih (fun y hy => h y (by simp [hy])) z hz
theorem highL_snoc (xs : List Int) (y : Int) (hx : 0 < xs.length) : highL (xs ++ [y]) = (highL xs).set (xs.length - 1) ((highL xs).getD (xs.length - 1) 0 + y % 4 * 64) ++ [y / 4] := by
  induction xs with
  | nil => simp at hx
  | cons x t ih =>
    cases t with
    | nil => simp [highL]
    | cons z t =>
      have := ih (by simp)
      rw [List.cons_append, highL, this]
      simp only [List.length_cons, Nat.add_sub_cancel, highL, List.cons_append, List.getD_cons_zero, List.set_cons_succ, List.getD_cons_succ]
theorem highL_le (ds : List Int) (h : Bytes ds) : le (highL ds) = le ds / 4 := by
  induction ds with
  | nil => rfl
  | cons d ds ih =>
    have hd := h d (by simp)
    rw [highL, le, le, ih (fun y hy => h y (by simp [hy]))]
    cases ds with
    | nil => simp [le]
    | cons y t =>
      rw [List.getD_cons_zero, le]
      generalize le t = L
      omega
theorem le_parts (ds : List Int) (h : Bytes ds) : ∃ A T : Int, le ds = A + 340282366920938463463374607431768211456 * T ∧ 0 ≤ A ∧ A < 340282366920938463463374607431768211456 ∧ A = le (ds.take 16) ∧ T = le (ds.drop 16) ∧ (ds.length ≤ 16 → T = 0) := by
  have b := le16_bd (ds.take 16) (bytes_take h _) (by rw [List.length_take]; omega)
  refine ⟨_, _, ?_, b.1, b.2, rfl, rfl, fun hl => by rw [List.drop_eq_nil_of_le hl]; rfl⟩
  by_cases hl : ds.length ≤ 16
  · rw [List.drop_eq_nil_of_le hl, List.take_of_length_le hl, le_nil]; omega
  · conv => lhs; rw [← List.take_append_drop 16 ds, le_app]
    rw [List.length_take, Nat.min_eq_left (by omega)]; rfl
theorem lowL_le (ds : List Int) (h : Bytes ds) : le (lowL ds) = le ds % 1361129467683753853853498429727072845824 := by
  obtain ⟨A, T, e, h0, h1, eA, eT, hT⟩ := le_parts ds h
  unfold lowL
  split
  · next hl =>
    rw [le_app, List.length_take, Nat.min_eq_left (by omega), le_one, ← eA, e]
    rw [le_drop' ds 16] at eT
    have hq : (256 : Int) ^ 16 = 340282366920938463463374607431768211456 := by decide
    rw [hq, eT]
    generalize le (ds.drop (16 + 1)) = L
    generalize ds.getD 16 0 = x
    omega
  · next hl =>
    rw [List.append_nil, ← eA, e, hT (by omega)]; omega
theorem lowL_bytes (ds : List Int) (h : Bytes ds) : Bytes (lowL ds) := by
  unfold lowL
  refine bytes_app (bytes_take h _) ?_
  split
  · intro z hz; simp at hz; subst hz
    generalize ds[16]?.getD 0 = x
    omega
  · intro z hz; cases hz
theorem lowL_length (ds : List Int) : (lowL ds).length ≤ 17 := by
  unfold lowL
  split <;> simp <;> omega
theorem high_le (ds : List Int) (h : Bytes ds) : le (highL (ds.drop 16)) = le ds / 1361129467683753853853498429727072845824 := by
  obtain ⟨A, T, e, h0, h1, eA, eT, hT⟩ := le_parts ds h
  rw [highL_le _ (bytes_drop h _), ← eT, e]; omega
/-- The accumulator, modulo the prime. -/
def docK (r : Int) (m : List Int) : Nat → Int
  | 0 => 0
  | k + 1 => ((docK r m k + (le ((m.drop (16 * k)).take 16) + 256 ^ ((m.drop (16 * k)).take 16).length)) * r) % prime
theorem step_mod (r a b c : Int) (h : a % prime = b) : step5 r a c % prime = ((b + c) * r) % prime := by
  rw [step5, fold5_mod, ← h, Int.mul_emod, Int.add_emod]
  conv => rhs; rw [Int.mul_emod, Int.add_emod, Int.emod_emod_of_dvd _ (Int.dvd_refl _)]
theorem accK_doc (r : Int) (m : List Int) : ∀ k, 16 * k ≤ m.length → accK r m k % prime = docK r m k
  | 0, _ => rfl
  | k + 1, h => by
    have hl : ((m.drop (16 * k)).take 16).length = 16 := by rw [List.length_take, List.length_drop]; omega
    rw [accK, docK, step_mod r _ _ _ (accK_doc r m k (by omega)), hl]
    rfl
theorem lastB_le (m : List Int) : le (lastB m) = le (rest16 m) + 256 ^ (rest16 m).length := by
  rw [lastB, le_app, le, zs0, le_rep0]; simp
theorem accE_doc (r : Int) (m : List Int) : accE r m % prime = docK r m ((m.length + 15) / 16) := by
  unfold accE
  split
  · next h =>
    have e : (m.length + 15) / 16 = m.length / 16 + 1 := by omega
    have e2 : (m.drop (16 * (m.length / 16))).take 16 = rest16 m := by
      rw [List.take_of_length_le (by rw [List.length_drop]; omega)]; rfl
    rw [e, docK, e2, step_mod r (acc r m) _ _ (accK_doc r m (m.length / 16) (by omega)), lastB_le]
  · next h =>
    have e : (m.length + 15) / 16 = m.length / 16 := by omega
    rw [e]; exact accK_doc r m _ (by omega)
theorem docK_bd (r : Int) (m : List Int) (k : Nat) : 0 ≤ docK r m k ∧ docK r m k < prime := by
  cases k with
  | zero => rw [docK]; decide
  | succ k => rw [docK]; exact ⟨Int.emod_nonneg _ (by decide), Int.emod_lt_of_pos _ (by decide)⟩
theorem code_doc (r s : Int) (m : List Int) : codeB r s m = leB 16 (docK r m ((m.length + 15) / 16) + s) := by
  have e : ∀ v : Int, leB 16 (v % 340282366920938463463374607431768211456) = leB 16 v := fun v => by
    have h1 := leB_split 16 0 v
    simpa [leB] using h1
  rw [codeB, codeN, accE_doc, e]
  have e2 : ∀ a : Int, leB 16 (a % 340282366920938463463374607431768211456 + s) = leB 16 (a + s) := fun a => by
    rw [← e (a % 340282366920938463463374607431768211456 + s), ← e (a + s)]
    congr 1
    omega
  exact e2 _
/-- The first digits of a sum are the bytes of its number. -/
theorem digits16 (ds : List Int) (h : Bytes ds) (hl : 16 ≤ ds.length) : ds.take 16 = leB 16 (le ds) := by
  have h1 := leB_le (ds.take 16) (bytes_take h _)
  rw [List.length_take, Nat.min_eq_left hl] at h1
  obtain ⟨A, T, e, h0, h2, eA, eT, hT⟩ := le_parts ds h
  have e1 : ∀ v : Int, leB 16 (v % 340282366920938463463374607431768211456) = leB 16 v := fun v => by
    have h1 := leB_split 16 0 v
    simpa [leB] using h1
  rw [← h1, ← eA, ← e1 (le ds), e]
  congr 1
  omega
/-- A number below 2^130, taken modulo the prime. -/
theorem last_mod (v : Int) (h0 : 0 ≤ v) (h1 : v < 1361129467683753853853498429727072845824) : v % prime = if 1361129467683753853853498429727072845824 ≤ v + 5 then (v + 5) % 1361129467683753853853498429727072845824 else v := by
  unfold prime; split <;> omega
end Go.Proofs.YtcimiajkbgabiaaGreat

namespace Go.Proofs.YtcimiajkbgabiaaGreat
open Go.RowKit
set_option linter.unusedVariables false
set_option linter.unusedSimpArgs false

theorem info_int : (Tryz.prog.info? 3).map (fun i => (i.zero, i.size, i.bytes)) = some (some (.int .i64 0), 1, 8) := by kernel_rfl
def i64s (l : List Int) : List Value := l.map (Value.int .i64)
theorem i64s_length (l : List Int) : (i64s l).length = l.length := List.length_map ..
theorem i64s_set (l : List Int) (j : Nat) (x : Int) : (i64s l).set j (.int .i64 x) = i64s (l.set j x) := by simp [i64s, List.map_set]
/-- Digits that are no numbers below 0 and not too great. -/
def Small (ds : List Int) : Prop := ∀ d ∈ ds, 0 ≤ d ∧ d ≤ 1073741824
theorem Small.at {zs : List Int} (h : Small zs) (j : Nat) (hj : j < zs.length) : 0 ≤ zs.getD j 0 ∧ zs.getD j 0 ≤ 1073741824 := by
  have e : zs.getD j 0 = zs[j] := by simp [List.getD, hj]
  rw [e]; exact h _ (List.getElem_mem hj)
theorem small_of_bytes {zs : List Int} (h : Bytes zs) : Small zs := fun d hd => by have := h d hd; omega
theorem Small.nn {zs : List Int} (h : Small zs) : ∀ d ∈ zs, 0 ≤ d := fun d hd => (h d hd).1
theorem bytes_nn {zs : List Int} (h : Bytes zs) : ∀ d ∈ zs, 0 ≤ d := fun d hd => (h d hd).1
/-- A slice at ao of n numbers, which are zs. -/
structure SeenN (w : World) (ao : Option Addr) (n : Nat) (zs : List Int) : Prop where
  len : zs.length = n
  top : n ≤ 1000
  small : Small zs
  cells : 0 < n → ∃ b o, ao = some ⟨b, o, none⟩ ∧ b < w.heap.size ∧ ∀ i, i < n → w.cell? ⟨b, o + i, none⟩ = some (.int .i64 (zs.getD i 0))
theorem SeenN.later {w w' : World} {ao : Option Addr} {n : Nat} {zs : List Int} (h : SeenN w ao n zs) {B : Nat} (hb : Below B w w') (hB : w.heap.size ≤ B) : SeenN w' ao n zs :=
  ⟨h.len, h.top, h.small, fun hn => by
    obtain ⟨b, o, e, hlt, hc⟩ := h.cells hn
    exact ⟨b, o, e, Nat.lt_of_lt_of_le hlt hb.size, fun i hi => (hb.cell (p := ⟨b, o + i, none⟩) (Nat.lt_of_lt_of_le hlt hB)).trans (hc i hi)⟩⟩
theorem SeenN.kept {S : Nat → Prop} {w w' : World} {ao : Option Addr} {n : Nat} {zs : List Int} (h : SeenN w ao n zs) (hk : Kept S w w') (hS : ∀ b, b < w.heap.size → ¬ S b) : SeenN w' ao n zs :=
  ⟨h.len, h.top, h.small, fun hn => by
    obtain ⟨b, o, e, hlt, hc⟩ := h.cells hn
    exact ⟨b, o, e, Nat.lt_of_lt_of_le hlt hk.size, fun i hi => (hk.cell (p := ⟨b, o + i, none⟩) hlt (hS b hlt)).trans (hc i hi)⟩⟩
/-- Block g begins with the numbers zs, has room for cap, and may be written. -/
def RowN (w : World) (r cap : Nat) (zs : List Int) : Prop := ∃ rest : List Value, w.heap[r]? = some (.cells (i64s zs ++ rest).toArray 3 (0, 0)) ∧ zs.length + rest.length = cap
theorem RowN.cell {w : World} {g cap : Nat} {zs : List Int} (h : RowN w g cap zs) (j : Nat) (hj : j < zs.length) : w.cell? ⟨g, j, none⟩ = some (.int .i64 (zs.getD j 0)) := by
  obtain ⟨rest, h, _⟩ := h
  rw [cell_of_row w g j _ 3 (0, 0) h]
  simp [i64s, hj, List.getElem?_append]
theorem RowN.frozen {w : World} {g cap : Nat} {zs : List Int} (h : RowN w g cap zs) (j : Nat) : w.frozen? ⟨g, j, none⟩ = false := by
  obtain ⟨rest, h, _⟩ := h
  exact frozen_of_row w g j _ 3 h
theorem RowN.set {w : World} {g cap : Nat} {zs : List Int} (h : RowN w g cap zs) (j : Nat) (hj : j < zs.length) (z : Int) : RowN (w.setCell ⟨g, j, none⟩ (.int .i64 z)) g cap (zs.set j z) := by
  obtain ⟨rest, h, hc⟩ := h
  refine ⟨rest, ?_, by simpa using hc⟩
  rw [heap_setCell_same w g j _ 3 _ h, ← i64s_set]
  simp [i64s_length, hj]
theorem RowN.lt {w : World} {g cap : Nat} {zs : List Int} (h : RowN w g cap zs) : g < w.heap.size := by
  obtain ⟨rest, h, _⟩ := h
  rcases Nat.lt_or_ge g w.heap.size with h' | h'
  · exact h'
  · rw [Array.getElem?_eq_none h'] at h; cases h
theorem RowN.block {w w' : World} {r cap : Nat} {zs : List Int} (h : RowN w r cap zs) (e : w'.heap[r]? = w.heap[r]?) : RowN w' r cap zs := by
  obtain ⟨rest, h, hc⟩ := h
  exact ⟨rest, by rw [e]; exact h, hc⟩
theorem RowN.later {w w' : World} {r cap : Nat} {zs : List Int} (h : RowN w r cap zs) {B : Nat} (hb : Below B w w') (hB : w.heap.size ≤ B) : RowN w' r cap zs := h.block (hb.block r (Nat.lt_of_lt_of_le h.lt hB))
theorem RowN.drew {w : World} {r cap : Nat} {zs : List Int} (h : RowN w r cap zs) : RowN w.drew r cap zs := h
theorem RowN.of_own {w : World} {base r n cap : Nat} {zs : List Int} (h : w.ownsRow base 3 1 (.slice (some ⟨r, 0, none⟩) n cap) n (i64s zs)) : RowN w r cap zs ∧ base ≤ r ∧ n ≤ cap ∧ cap ≤ maxLen ∧ zs.length = n := by
  obtain ⟨hl, h⟩ := h
  rcases h with ⟨h, _⟩ | ⟨g', cap', cur, h, hb, hh, hc, hm, hs, ht⟩
  · cases h
  · simp only [Value.slice.injEq, Option.some.injEq, Addr.mk.injEq, and_true, true_and] at h
    obtain ⟨rfl, rfl⟩ := h
    rw [Nat.mul_one] at ht hs
    have hl' : zs.length = n := by simpa [i64s] using hl
    refine ⟨⟨cur.toList.drop n, ?_, ?_⟩, hb, hc, hm, hl'⟩
    · rw [← ht, List.take_append_drop]; simpa using hh
    · simp; omega
theorem RowN.own {w : World} {base r n cap : Nat} {zs : List Int} (h : RowN w r cap zs) (hl : zs.length = n) (hb : base ≤ r) (hm : cap ≤ maxLen) : w.ownsRow base 3 1 (.slice (some ⟨r, 0, none⟩) n cap) n (i64s zs) := by
  obtain ⟨rest, h, hc⟩ := h
  refine ⟨by rw [i64s_length]; omega, .inr ⟨r, cap, _, rfl, hb, h, by omega, hm, by simp [i64s_length]; omega, ?_⟩⟩
  rw [Nat.mul_one]
  simp [i64s_length, hl]
theorem RowN.seen {w : World} {g cap : Nat} {zs : List Int} (h : RowN w g cap zs) (ht : zs.length ≤ 1000) (hs : Small zs) : SeenN w (some ⟨g, 0, none⟩) zs.length zs :=
  ⟨rfl, ht, hs, fun _ => ⟨g, 0, rfl, h.lt, fun i hi => by rw [Nat.zero_add]; exact h.cell i hi⟩⟩
theorem ownN {w : World} {base n : Nat} {v : Value} {zs : List Int} (hl : zs.length = n) (h : w.ownsRow base 3 1 v n (i64s zs)) :
    (v = .slice none 0 0 ∧ n = 0 ∧ zs = []) ∨ ∃ g cap, v = .slice (some ⟨g, 0, none⟩) n cap ∧ RowN w g cap zs ∧ base ≤ g ∧ n ≤ cap ∧ cap ≤ maxLen := by
  rcases h.2 with ⟨h1, h2⟩ | ⟨g, cap, cur, rfl, r⟩
  · left
    subst h2
    exact ⟨h1, rfl, List.length_eq_zero_iff.1 hl⟩
  · right
    have := RowN.of_own h
    exact ⟨g, cap, rfl, this.1, this.2.1, this.2.2.1, this.2.2.2.1⟩
/-- A slice of these numbers. -/
def isN (zs : List Int) (v : Value) (w : World) : Prop := ∃ vo n c, v = .slice vo n c ∧ SeenN w vo n zs
theorem isN_later (zs : List Int) : ∀ v w w', Below w.heap.size w w' → isN zs v w → isN zs v w' := fun _ _ _ hb ⟨b, o, c, h1, h2⟩ => ⟨b, o, c, h1, h2.later hb (Nat.le_refl _)⟩
theorem isN_own {w : World} {base n : Nat} {v : Value} {zs : List Int} (hl : zs.length = n) (ht : n ≤ 1000) (hs : Small zs) (h : w.ownsRow base 3 1 v n (i64s zs)) : isN zs v w := by
  rcases ownN hl h with ⟨rfl, rfl, rfl⟩ | ⟨g, cap, rfl, hr, _, _, _⟩
  · exact ⟨none, 0, 0, rfl, rfl, Nat.zero_le _, (fun d hd => by cases hd), fun h => (by omega)⟩
  · subst hl
    exact ⟨_, _, cap, rfl, hr.seen ht hs⟩
/-- A number more. -/
theorem ownN_more {w wr w1 : World} {v v' : Value} {zs : List Int} {z : Int}
    (hb : Below w.heap.size w wr) (hown : wr.ownsRow w.heap.size 3 1 v zs.length (i64s zs))
    (hown' : w1.ownsRow w.heap.size 3 1 v' (zs.length + 1) (i64s zs ++ [.int .i64 z])) (hg : (wr.alloc (.cells #[.int .i64 z] 3)).grownBy w1 v.ownBlock) :
    w1.ownsRow w.heap.size 3 1 v' (zs ++ [z]).length (i64s (zs ++ [z])) ∧ Below w.heap.size w w1 := by
  constructor
  · rw [i64s, List.map_append, List.length_append]; exact hown'
  · exact (hb.alloc hb.size _).grown hg (by have := hb.size; simp; omega) (fun j hj => (hown.lt j hj).1)
theorem madeN (n : Nat) : (madeCells #[Value.int .i64 0] n) = (i64s (List.replicate n 0)).toArray := by
  apply Array.ext'
  rw [toList_madeCells_one]
  simp [i64s]
theorem tq256 (c : Int) (h : 0 ≤ c) : c.tdiv 256 = c / 256 ∧ c.tmod 256 = c % 256 := ⟨Int.tdiv_eq_ediv_of_nonneg h, Int.tmod_eq_emod_of_nonneg h⟩
theorem clean_len (n i : Nat) (c : Int) (h0 : 0 < c) (h : ∃ t, i = n + t ∧ c ≤ 1099511627776 / 256 ^ t) : i ≤ n + 5 := by
  obtain ⟨t, rfl, hc⟩ := h
  rcases Nat.lt_or_ge t 6 with h6 | h6
  · omega
  · rw [pow40 t h6] at hc; omega
set_option maxHeartbeats 1000000 in
set_option maxRecDepth 20000 in
theorem clean_any (ao : Option Addr) (n c : Nat) (ds : List Int) (w : World) (hx : SeenN w ao n ds) (hn : n ≤ 900) :
    Calls Tryz.prog 111 #[.slice ao n c] w fun e w' => ∃ v, e = .returned v ∧ ∃ es, isN es v w' ∧ Bytes es ∧ le es = le ds ∧ n ≤ es.length ∧ es.length ≤ n + 6 ∧ Below w.heap.size w w' := by
  have HX : Hid (SeenN w ao n ds ∧ ds.length = n) := ⟨hx, hx.len⟩
  obtain ⟨i0, hi, hz0, hz1, hz2⟩ := info_parts info_int
  clear hx
  go_enter Tryz.func111, Tryz.ntmps111
  go_wp2
  go_loopw [3, 4, 5] (fun v c i wr => ∃ (k : Nat) (C : Int) (out : List Int), i = .int .i64 k ∧ c = .int .i64 C ∧ CleanI ds out C k ∧ C ≤ 1099511627776 ∧ (n ≤ k → ∃ t, k = n + t ∧ C ≤ 1099511627776 / 256 ^ t) ∧ k ≤ n + 6 ∧ wr.ownsRow w.heap.size 3 1 v k (i64s out) ∧ Below w.heap.size w wr) (fun _ c i _ => (n - (intOf i).toNat) * 1099511627780 + (intOf c).toNat)
  case atStart => exact ⟨0, 0, [], rfl, rfl, clean_zero ds, by decide, fun h => ⟨0, by omega, by simp⟩, by omega, World.ownsRow_nil _ _ _ _, Below.refl _ _⟩
  case round =>
    obtain ⟨k, C, out, rfl, rfl, hcl, hC, ht, hk6, hown, hbel⟩ := hrel
    have hC0 := hcl.2.2.1
    have hol := hcl.1
    have HC : Hid (CleanI ds out C k ∧ (n ≤ k → ∃ t, k = n + t ∧ C ≤ 1099511627776 / 256 ^ t)) := ⟨hcl, ht⟩
    have hsz := hbel.size
    have i1 : (0 : Int) ≤ (k : Int) := by omega
    clear hcl ht
    by_cases hlt : k < n
    · obtain ⟨b, o, rfl, hb, hc⟩ := HX.out.1.cells (by omega)
      have c1 := (hbel.cell (p := ⟨b, o + k, none⟩) hb).trans (hc k hlt)
      have hs := HX.out.1.small.at k (by rw [HX.out.2]; exact hlt)
      have hst := fun h => clean_step HC.out.1 (c1 := C + ds.getD k 0) rfl h
      obtain ⟨D, hD⟩ : ∃ D, ds.getD k 0 = D := ⟨_, rfl⟩
      rw [hD] at c1 hs hst
      have HN : Hid (CleanI ds (out ++ [(C + D) % 256]) ((C + D) / 256) (k + 1)) := hst (by omega)
      have q1 := (tq256 (C + D) (by omega)).1
      have q2 := (tq256 (C + D) (by omega)).2
      have i2 : (k : Int) < (n : Int) := by omega
      clear hc hst hD
      go_wp2_with (at_builtin; refine wpList_append_own _ rfl _ _ 135 rfl w.heap.size 3 i0 (.int .i64 0) 1 8 Tryz.underlying135 hi hz0 hz1 hz2 rfl (by decide) _ _ _ rfl (hown.alloc _) ⟨wr.heap.size, 0, none⟩ 1 1 [.int .i64 ((C + D) % 256)] rfl rfl ?c1 ?c2 ?c3 ?c4 ?c5 ?_)
      case c1 => exact one_new _ _ _
      case c2 => first | rfl | (intro u hu; simp at hu; subst hu; rfl)
      case c3 => unfold maxLen; omega
      case c4 => omega
      case c5 => first | omega | (simp; omega)
      · intro v' w1 hown' hgrow _
        rw [← hol] at hown hown'
        have R := ownN_more hbel hown hown' hgrow
        clear hown' hgrow hown hbel c1
        go_wp2
        refine ⟨⟨k + 1, (C + D) / 256, out ++ [(C + D) % 256], by go_num, rfl, HN.out, by omega, fun h => ⟨0, by omega, by simp; omega⟩, by omega, ?_, R.2⟩, ?_⟩
        · have := R.1; rw [List.length_append, hol] at this; exact this
        · simp [intOf]; omega
    · have i2 : ¬ (k : Int) < (n : Int) := by omega
      obtain ⟨t, HT⟩ : ∃ t, Hid (k = n + t ∧ C ≤ 1099511627776 / 256 ^ t) := by
        obtain ⟨t, h1, h2⟩ := HC.out.2 (by omega)
        exact ⟨t, ⟨h1, h2⟩⟩
      by_cases hp : 0 < C
      · have hle := clean_len n k C hp ⟨t, HT.out⟩
        have e0 : ds.getD k 0 = 0 := by simp [List.getD, show ds.length ≤ k by rw [HX.out.2]; omega]
        have hst := clean_step HC.out.1 (c1 := C) (by rw [e0]; omega) hC0
        have HN : Hid (CleanI ds (out ++ [C % 256]) (C / 256) (k + 1) ∧ C / 256 ≤ 1099511627776 / 256 ^ (t + 1)) := ⟨hst, div40 C t HT.out.2⟩
        have q1 := (tq256 C hC0).1
        have q2 := (tq256 C hC0).2
        clear hst e0
        go_wp2_with (at_builtin; refine wpList_append_own _ rfl _ _ 135 rfl w.heap.size 3 i0 (.int .i64 0) 1 8 Tryz.underlying135 hi hz0 hz1 hz2 rfl (by decide) _ _ _ rfl (hown.alloc _) ⟨wr.heap.size, 0, none⟩ 1 1 [.int .i64 (C % 256)] rfl rfl ?c1 ?c2 ?c3 ?c4 ?c5 ?_)
        try case c1 => exact one_new _ _ _
        case c2 => first | rfl | (intro u hu; simp at hu; subst hu; rfl)
        case c3 => unfold maxLen; omega
        case c4 => omega
        case c5 => first | omega | (simp; omega)
        · intro v' w1 hown' hgrow _
          rw [← hol] at hown hown'
          have R := ownN_more hbel hown hown' hgrow
          clear hown' hgrow hown hbel
          go_wp2
          refine ⟨⟨k + 1, C / 256, out ++ [C % 256], by go_num, rfl, HN.out.1, by omega, fun h => ⟨t + 1, by have := HT.out.1; omega, HN.out.2⟩, by omega, ?_, R.2⟩, ?_⟩
          · have := R.1; rw [List.length_append, hol] at this; exact this
          · simp [intOf]; omega
      · obtain rfl : C = 0 := by omega
        have HO : Hid (isN out u3 wr ∧ Below w.heap.size w wr ∧ k ≤ n + 6 ∧ n ≤ k) := ⟨isN_own hol (by omega) (small_of_bytes HC.out.1.2.1) hown, hbel, hk6, by omega⟩
        clear hown hbel
        go_wp2
        go_ret
        exact ⟨_, rfl, out, HO.out.1, HC.out.1.2.1, clean_end HC.out.1 (by rw [HX.out.2]; exact HO.out.2.2.2), by rw [hol]; exact HO.out.2.2.2, by rw [hol]; exact HO.out.2.2.1, HO.out.2.1⟩
end Go.Proofs.YtcimiajkbgabiaaGreat

namespace Go.Proofs.YtcimiajkbgabiaaGreat
open Go.RowKit
set_option linter.unusedVariables false
set_option linter.unusedSimpArgs false

theorem wpList_append_seenU {ops : Array Oper} {rest : List Oper} {o : Oper} {a : Act} {Q : Exit → Act → World → Prop} {w : World} (hgd : o.guard = none) (s x : Operand)
    (ho : o.op = .call { callee := .builtin .append, args := #[s, x], argTypes := #[133, 133] }) (base : Nat) (v : Value) (n : Nat) (xs : List Int) (hs : a.eval s = v) (hown : w.ownsRow base 24 1 v n (w64s xs))
    (ao : Option Addr) (m c : Nat) (zs : List Int) (hx : a.eval x = .slice ao m c) (hsn : SeenU w ao m zs) (h0 : 0 < m) (hb : n + m ≤ 2000) (hbase : base ≤ w.heap.size)
    (h : ∀ v' w', w'.ownsRow base 24 1 v' (n + m) (w64s (xs ++ zs)) → w.grownBy w' v.ownBlock → wpList Tryz.prog ops Q rest (a.put o.dst v') w') : wpList Tryz.prog ops Q (o :: rest) a w := by
  obtain ⟨i0, hi, hz0, hz1, hz2⟩ := info_parts info_w
  obtain ⟨b, off, rfl, hlt, hc⟩ := hsn.cells h0
  refine wpList_append_own _ hgd s x 133 ho base 24 i0 (.int .u64 0) 1 8 Tryz.underlying133 hi hz0 hz1 hz2 rfl (by decide) v n (w64s xs) hs hown ⟨b, off, none⟩ m c (w64s zs) hx ?_ ?_ ?_ ?_ ?_ hbase (fun v' w' h1 h2 _ => h v' w' ?_ h2)
  · rw [w64s_length, hsn.len, Nat.mul_one]
  · intro j u hj
    have hjl : j < zs.length := by have := (List.getElem?_eq_some_iff.1 hj).1; simpa [w64s] using this
    rw [show (⟨b, off, none⟩ : Addr).add j = ⟨b, off + j, none⟩ from Addr.add_mid b off j, hc j (by rw [← hsn.len]; exact hjl), ← hj]
    simp [w64s, List.getD, hjl]
  · intro u hu
    obtain ⟨z, _, rfl⟩ := List.mem_map.1 hu
    rfl
  · unfold maxLen; omega
  · omega
  · rw [w64s, List.map_append]; exact h1
theorem wd_app {xs ys : List Int} (hx : Wds xs) (hy : Wds ys) : Wds (xs ++ ys) := fun z hz => by
  rcases List.mem_append.1 hz with h | h
  · exact hx z h
  · exact hy z h
theorem fix_wd : Wds fixW := by unfold Wds fixW Wd; decide
theorem begW_wd (key : List Int) (ctr : Int) (nonce : List Int) (hk : key.length = 32) (hn : nonce.length = 12) (hkb : Bytes key) (hnb : Bytes nonce) (hc : Wd ctr) : Wds (begW key ctr nonce) :=
  wd_app fix_wd (wd_app (wds_wd key 8 hkb (by omega)) (fun z hz => by
    rcases List.mem_cons.1 hz with rfl | h
    · exact hc
    · exact wds_wd nonce 3 hnb (by omega) z h))
theorem one_u64 (w : World) (x : Int) (hx : Wd x) : SeenU (w.alloc (.cells #[.int .u64 x] 24)) (some ⟨w.heap.size, 0, none⟩) 1 [x] := by
  have h : RowU (w.alloc (.cells #[.int .u64 x] 24)) w.heap.size 1 [x] := ⟨[], heap_alloc_new w _, rfl⟩
  exact h.seen (by simp) (fun d hd => by simp at hd; subst hd; exact hx)
theorem below_grownU {w w1 w2 : World} {base n : Nat} {v : Value} {xs : List Value} (hb : Below w.heap.size w w1) (hbs : w.heap.size ≤ base) (ho : w1.ownsRow base 24 1 v n xs) (hg : w1.grownBy w2 v.ownBlock) : Below w.heap.size w w2 :=
  hb.grown hg hb.size (fun j hj => Nat.le_trans hbs (ho.lt j hj).1)
set_option maxHeartbeats 1000000 in
set_option maxRecDepth 20000 in
theorem rstate_any (key : List Int) (ctr : Int) (nonce : List Int) (hk : key.length = 32) (hn : nonce.length = 12) (hkb : Bytes key) (hnb : Bytes nonce) (hc : Wd ctr) (w : World) :
    Calls Tryz.prog 87 #[.agg (u8s key).toArray, .int .u32 ctr, .agg (u8s nonce).toArray] w fun e w' => ∃ v, e = .returned v ∧ w'.ownsRow w.heap.size 24 1 v 16 (w64s (begW key ctr nonce)) ∧ Below w.heap.size w w' := by
  have HS : Hid (key.length = 32 ∧ nonce.length = 12 ∧ Bytes key ∧ Bytes nonce ∧ Wd ctr) := ⟨hk, hn, hkb, hnb, hc⟩
  have v1 : IntKind.u64.wrap ctr = ctr := by simp only [IntKind.wrap, IntKind.bits, IntKind.signed]; simp; unfold Wd at hc; omega
  clear hk hn hkb hnb hc
  go_enter Tryz.func87, Tryz.ntmps87
  go_wp2_with (first | (refine wpList_box_new rfl 23 _ rfl (u8s key) rfl ?_; intro w1 b1 s1 l1) | (refine wpList_box_new rfl 45 _ rfl (u8s nonce) rfl ?_; intro w2 b2 s2 l2))
  have r3 : RowU (w2.alloc (.cells #[.int .u64 1634760805, .int .u64 857760878, .int .u64 2036477234, .int .u64 1797285236] 24)) w2.heap.size 4 fixW := ⟨[], heap_alloc_new w2 _, rfl⟩
  have l3 : Below w2.heap.size w2 (w2.alloc (.cells #[.int .u64 1634760805, .int .u64 857760878, .int .u64 2036477234, .int .u64 1797285236] 24)) := (Below.refl _ _).alloc (Nat.le_refl _) _
  obtain ⟨w3, hw3⟩ : ∃ W, w2.alloc (.cells #[.int .u64 1634760805, .int .u64 857760878, .int .u64 2036477234, .int .u64 1797285236] 24) = W := ⟨_, rfl⟩
  rw [hw3] at r3 l3 ⊢
  have e2 : w2.heap.size = w.heap.size + 1 + 1 := by omega
  rw [e2] at r3
  have H3 : Hid (Blk w3 w.heap.size 23 (u8s key) ∧ Blk w3 (w.heap.size + 1) 45 (u8s nonce) ∧ w3.ownsRow (w.heap.size + 1 + 1) 24 1 (.slice (some ⟨w.heap.size + 1 + 1, 0, none⟩) 4 4) 4 (w64s fixW) ∧ Below w.heap.size w w3) := by
    rw [s1] at b2
    exact ⟨(b1.later l2 (by omega)).later l3 (by omega), b2.later l3 (by omega), r3.own rfl (Nat.le_refl _) (by unfold maxLen; decide), below_chain (below_chain l1 l2 (by omega)) l3 (by omega)⟩
  clear b1 s1 l1 b2 s2 l2 r3 l3 hw3 e2
  have hw8 := words_any (some ⟨w.heap.size, 0, none⟩) 8 32 key (by decide) w3 (by have := seen_blk H3.out.1 HS.out.2.2.1 (by rw [HS.out.1]; decide); rwa [HS.out.1] at this) (by decide)
  go_wp2_with fail
  refine hw8.mono ?_
  rintro e w4 ⟨v4, rfl, hv4, l4⟩
  obtain ⟨a4, n4, c4, rfl, s4⟩ := hv4
  obtain rfl : 8 = n4 := by rw [← s4.len, wds_length]
  have H4 : Hid (Blk w4 (w.heap.size + 1) 45 (u8s nonce) ∧ w4.ownsRow (w.heap.size + 1 + 1) 24 1 (.slice (some ⟨w.heap.size + 1 + 1, 0, none⟩) 4 4) 4 (w64s fixW) ∧ Below w.heap.size w w4 ∧ SeenU w4 a4 8 (wds key 8) ∧ w.heap.size + 1 + 1 ≤ w4.heap.size) := ⟨H3.out.2.1.later l4 H3.out.2.1.lt, ownsRow_below H3.out.2.2.1 l4, below_chain H3.out.2.2.2 l4 H3.out.2.2.2.size, s4, by have := H3.out.2.1.lt; have := l4.size; omega⟩
  clear hw8 s4 l4 H3
  go_wp2_with (first | (at_builtin; refine wpList_append_seenU rfl _ _ rfl (w.heap.size + 1 + 1) _ 4 fixW rfl H4.out.2.1 a4 8 c4 (wds key 8) rfl H4.out.2.2.2.1 (by decide) (by decide) H4.out.2.2.2.2 ?_; intro v5 w5 o5 g5; have H5 : Hid (w5.ownsRow (w.heap.size + 1 + 1) 24 1 v5 (4 + 8) (w64s (fixW ++ wds key 8)) ∧ Below w.heap.size w w5 ∧ Blk w5 (w.heap.size + 1) 45 (u8s nonce)) := (by
    have B5 := H4.out.2.2.1.grown g5 H4.out.2.2.1.size (fun j hj => Nat.le_trans (by omega) (H4.out.2.1.lt j hj).1)
    refine ⟨o5, B5, ?_⟩
    have B6 : Below (w.heap.size + 1 + 1) w4 w5 := (Below.refl (w.heap.size + 1 + 1) w4).grown g5 H4.out.2.2.2.2 (fun j hj => (H4.out.2.1.lt j hj).1)
    exact H4.out.1.later B6 (by omega)); clear o5 g5 H4) | (at_builtin; refine wpList_append_seenU rfl _ _ rfl (w.heap.size + 1 + 1) _ (4 + 8) (fixW ++ wds key 8) rfl (H5.out.1.alloc _) (some ⟨w5.heap.size, 0, none⟩) 1 1 [ctr] rfl (one_u64 w5 ctr HS.out.2.2.2.2) (by decide) (by decide) (by have := H5.out.2.2.lt; simp; omega) ?_; intro v6 w6 o6 g6))
  have H6 : Hid (w6.ownsRow (w.heap.size + 1 + 1) 24 1 v6 (4 + 8 + 1) (w64s (fixW ++ wds key 8 ++ [ctr])) ∧ Below w.heap.size w w6 ∧ Blk w6 (w.heap.size + 1) 45 (u8s nonce)) := by
    have A6 : Below w.heap.size w (w5.alloc (.cells #[.int .u64 ctr] 24)) := H5.out.2.1.alloc H5.out.2.1.size _
    have oA := H5.out.1.alloc (.cells #[.int .u64 ctr] 24)
    have B5 := A6.grown g6 A6.size (fun j hj => Nat.le_trans (by omega) (oA.lt j hj).1)
    refine ⟨o6, B5, ?_⟩
    have q5 := H5.out.2.2.lt
    have B6 : Below (w.heap.size + 1 + 1) w5 w6 := ((Below.refl (w.heap.size + 1 + 1) w5).alloc (by omega) _).grown g6 (by simp; omega) (fun j hj => (oA.lt j hj).1)
    exact H5.out.2.2.later B6 (by omega)
  clear o6 g6 H5
  have hw3 := words_any (some ⟨w.heap.size + 1, 0, none⟩) 3 12 nonce (by decide) w6 (by have := seen_blk H6.out.2.2 HS.out.2.2.2.1 (by rw [HS.out.2.1]; decide); rwa [HS.out.2.1] at this) (by decide)
  refine hw3.mono ?_
  rintro e w7 ⟨v7, rfl, hv7, l7⟩
  obtain ⟨a7, n7, c7, rfl, s7⟩ := hv7
  obtain rfl : 3 = n7 := by rw [← s7.len, wds_length]
  have H7 : Hid (w7.ownsRow (w.heap.size + 1 + 1) 24 1 v6 (4 + 8 + 1) (w64s (fixW ++ wds key 8 ++ [ctr])) ∧ Below w.heap.size w w7 ∧ SeenU w7 a7 3 (wds nonce 3) ∧ w.heap.size + 1 + 1 ≤ w7.heap.size) := ⟨ownsRow_below H6.out.1 l7, below_chain H6.out.2.1 l7 H6.out.2.1.size, s7, by have := H6.out.2.2.lt; have := l7.size; omega⟩
  clear hw3 s7 l7 H6
  go_wp2_with (at_builtin; refine wpList_append_seenU rfl _ _ rfl (w.heap.size + 1 + 1) _ (4 + 8 + 1) (fixW ++ wds key 8 ++ [ctr]) rfl H7.out.1 a7 3 c7 (wds nonce 3) rfl H7.out.2.2.1 (by decide) (by decide) H7.out.2.2.2 ?_; intro v8 w8 o8 g8)
  have H8 : Hid (w8.ownsRow w.heap.size 24 1 v8 16 (w64s (begW key ctr nonce)) ∧ Below w.heap.size w w8) := by
    refine ⟨?_, H7.out.2.1.grown g8 H7.out.2.1.size (fun j hj => Nat.le_trans (by omega) (H7.out.1.lt j hj).1)⟩
    have e : fixW ++ wds key 8 ++ [ctr] ++ wds nonce 3 = begW key ctr nonce := by simp [begW]
    rw [e] at o8
    exact ownsRow_base o8 (by omega)
  clear o8 g8
  go_ret
  exact ⟨_, rfl, H8.out⟩
def placesL : List Int := [0, 4, 8, 12, 1, 5, 9, 13, 2, 6, 10, 14, 3, 7, 11, 15, 0, 5, 10, 15, 1, 6, 11, 12, 2, 7, 8, 13, 3, 4, 9, 14]
theorem places_run (W : World) : (Instr.buildSlice 135 32 #[(0, .int .i64 0), (1, .int .i64 4), (2, .int .i64 8), (3, .int .i64 12), (4, .int .i64 1), (5, .int .i64 5), (6, .int .i64 9), (7, .int .i64 13), (8, .int .i64 2), (9, .int .i64 6), (10, .int .i64 10), (11, .int .i64 14), (12, .int .i64 3), (13, .int .i64 7), (14, .int .i64 11), (15, .int .i64 15), (16, .int .i64 0), (17, .int .i64 5), (18, .int .i64 10), (19, .int .i64 15), (20, .int .i64 1), (21, .int .i64 6), (22, .int .i64 11), (23, .int .i64 12), (24, .int .i64 2), (25, .int .i64 7), (26, .int .i64 8), (27, .int .i64 13), (28, .int .i64 3), (29, .int .i64 4), (30, .int .i64 9), (31, .int .i64 14)]).run Tryz.prog W = .ok (.slice (some ⟨W.heap.size, 0, none⟩) 32 32) (W.alloc (.cells (i64s placesL).toArray 3)) := by kernel_rfl
set_option maxHeartbeats 1000000 in
set_option maxRecDepth 20000 in
theorem rplaces_any (w : World) : Calls Tryz.prog 88 #[] w fun e w' => ∃ g, e = .returned (.slice (some ⟨g, 0, none⟩) 32 32) ∧ RowN w' g 32 placesL ∧ w.heap.size ≤ g ∧ Below w.heap.size w w' := by
  go_enter Tryz.func88, Tryz.ntmps88
  go_wp2_with (refine wpList_buildSlice rfl 135 32 _ rfl _ rfl _ _ (places_run _) ?_)
  go_ret
  refine ⟨w.heap.size, rfl, ?_, Nat.le_refl _, (Below.refl _ _).alloc (Nat.le_refl _) _⟩
  have h : RowN (w.alloc (.cells (i64s placesL).toArray 3)) w.heap.size 32 placesL := ⟨[], by rw [List.append_nil]; exact heap_alloc_new w _, rfl⟩
  exact h
end Go.Proofs.YtcimiajkbgabiaaGreat

namespace Go.Proofs.YtcimiajkbgabiaaGreat
open Go.RowKit
set_option linter.unusedVariables false
set_option linter.unusedSimpArgs false

/-- The mark at a place of the room behind a list. -/
def markB (i : Nat) : Int := bits .xor .i64 165 (i : Int) % 256
def spared (zs : List Int) : List Int := zs ++ (List.range 80).map (fun j => markB (zs.length + j))
theorem spared_length (zs : List Int) : (spared zs).length = zs.length + 80 := by simp [spared]
theorem spared_front (zs : List Int) (i : Nat) (hi : i < zs.length) : (spared zs).getD i 0 = zs.getD i 0 := by
  simp [spared, List.getD, List.getElem?_append_left hi]
theorem spared_mark (zs : List Int) (i : Nat) (h1 : zs.length ≤ i) (h2 : i < zs.length + 80) : (spared zs).getD i 0 = markB i := by
  obtain ⟨j, rfl⟩ : ∃ j, i = zs.length + j := ⟨i - zs.length, by omega⟩
  have hj : j < 80 := by omega
  simp [spared, List.getD, hj]
theorem take_next (xs : List Int) (k : Nat) (hk : k < xs.length) (n : Nat) : (xs.take k ++ List.replicate (n + 1) 0).set k (xs.getD k 0) = xs.take (k + 1) ++ List.replicate n 0 := by
  have e : (xs.take k).length = k := by simp; omega
  have h := set_next (xs.take k) n (xs.getD k 0) 0
  rw [e] at h
  rw [h, List.take_succ_eq_append_getElem hk]
  simp [List.getD, hk]
theorem made_zero (n : Nat) : (madeCells #[Value.int .u8 0] n) = (u8s (List.replicate n 0)).toArray := by
  apply Array.ext'
  rw [toList_madeCells_one]
  simp [u8s]
set_option maxHeartbeats 1000000 in
set_option maxRecDepth 20000 in
theorem spare_any (ao : Option Addr) (n c : Nat) (zs : List Int) (w : World) (hx : Seen w ao n zs) (hn : n ≤ 35184372088832) :
    Calls Tryz.prog 6 #[.slice ao n c] w fun e w' => e = .returned (.slice (some ⟨w.heap.size, 0, none⟩) n (n + 80)) ∧ Blk w' w.heap.size 5 (u8s (spared zs)) ∧ w'.heap.size = w.heap.size + 1 ∧ Below w.heap.size w w' := by
  have HL : Hid (zs.length = n) := hx.len
  have HX : Hid (Seen w ao n zs) := hx
  obtain ⟨i0, hi, hz0, hz1, hz2⟩ := info_parts info_byte
  have hmk := run_make (P := Tryz.prog) w 28 5 i0 (.int .u8 0) Tryz.underlying28 hi hz0 .i64 .i64 ((n : Int) + 80) ((n : Int) + 80) (by omega) (Int.le_refl _) (by rw [hz2]; omega) (by omega)
  rw [hz1, show (((n : Int) + 80).toNat) = n + 80 by omega, Nat.mul_one, show (Value.int .u8 0).cells = #[.int .u8 0] from rfl, made_zero] at hmk
  obtain ⟨w1, hw1, HB⟩ : ∃ w1, w.alloc (.cells (u8s (List.replicate (n + 80) 0)).toArray 5) = w1 ∧ Hid (Blk w1 w.heap.size 5 (u8s (List.replicate (n + 80) 0)) ∧ Below w.heap.size w w1 ∧ w1.heap.size = w.heap.size + 1) := ⟨_, rfl, ⟨heap_alloc_new w _, (Below.refl _ _).alloc (Nat.le_refl _) _, by simp⟩⟩
  rw [hw1] at hmk
  clear hw1 hx hi hz0 hz1 hz2
  go_enter Tryz.func6, Tryz.ntmps6
  go_wp2
  go_loopw [4] (fun i wr => ∃ k : Nat, k ≤ n + 80 ∧ i = .int .i64 k ∧ Blk wr w.heap.size 5 (u8s ((spared zs).take k ++ List.replicate (n + 80 - k) 0)) ∧ Kept (fun b => b = w.heap.size) w1 wr ∧ wr.heap.size = w.heap.size + 1) (fun i _ => n + 80 - (intOf i).toNat)
  case atStart => exact ⟨0, Nat.zero_le _, rfl, HB.out.1, Kept.refl _ _, HB.out.2.2⟩
  case round =>
    obtain ⟨k, hk, rfl, hb, hkp, hws⟩ := hrel
    have hsl := spared_length zs
    have hl := HL.out
    by_cases hlt : k < n + 80
    · have cs := u8s_cell hb k (by simp [hsl]; omega)
      have fs := hb.frozen k
      have i1 : (0 : Int) ≤ (k : Int) := by omega
      have i2 : (k : Int) < (n : Int) + 80 := by omega
      have HT := take_next (spared zs) k (by omega) (n + 80 - (k + 1))
      rw [show n + 80 - (k + 1) + 1 = n + 80 - k by omega] at HT
      have HE : Hid (((spared zs).take k ++ List.replicate (n + 80 - k) 0).set k ((spared zs).getD k 0) = (spared zs).take (k + 1) ++ List.replicate (n + 80 - (k + 1)) 0) := HT
      have X0 : Hid (Blk wr w.heap.size 5 (u8s ((spared zs).take k ++ List.replicate (n + 80 - k) 0)) ∧ Kept (fun b => b = w.heap.size) w1 wr ∧ wr.heap.size = w.heap.size + 1) := ⟨hb, hkp, hws⟩
      by_cases hin : k < n
      · obtain ⟨b, o, rfl, hbl, hc⟩ := HX.out.cells (by omega)
        have c1 : wr.cell? ⟨b, o + k, none⟩ = some (.int .u8 (zs.getD k 0)) := (hkp.cell (p := ⟨b, o + k, none⟩) (by show b < _; have := HB.out.2.2; omega) (by show ¬ b = _; omega)).trans ((HB.out.2.1.cell (p := ⟨b, o + k, none⟩) hbl).trans (hc k hin))
        have HV : Hid ((spared zs).getD k 0 = zs.getD k 0) := spared_front zs k (by omega)
        obtain ⟨Z, hZ⟩ : ∃ Z, zs.getD k 0 = Z := ⟨_, rfl⟩
        rw [hZ] at c1 HV
        have i3 : (k : Int) < (n : Int) := by omega
        clear hb hkp hZ hc HT hsl hl hws
        go_wp2
        have R1 := X0.out.1.set k (.int .u8 Z)
        rw [u8s_set, ← HV.out, HE.out, HV.out] at R1
        exact ⟨⟨k + 1, by omega, by go_num, R1, X0.out.2.1.setCell (S := fun b => b = w.heap.size) rfl _, by have := X0.out.2.2; simpa [World.setCell] using this⟩, by simp [intOf]; omega⟩
      · have HV : Hid ((spared zs).getD k 0 = markB k) := spared_mark zs k (by omega) (by omega)
        have i3 : ¬ (k : Int) < (n : Int) := by omega
        clear hb hkp HT hsl hl hws
        go_wp2
        have R1 := X0.out.1.set k (.int .u8 (markB k))
        rw [u8s_set, ← HV.out, HE.out, HV.out] at R1
        exact ⟨⟨k + 1, by omega, by go_num, R1, X0.out.2.1.setCell (S := fun b => b = w.heap.size) rfl _, by have := X0.out.2.2; simpa [World.setCell] using this⟩, by simp [intOf]; omega⟩
    · obtain rfl : k = n + 80 := by omega
      rw [Nat.sub_self, List.replicate_zero, List.append_nil, List.take_of_length_le (by omega)] at hb
      have X3 : Hid (Blk wr w.heap.size 5 (u8s (spared zs)) ∧ wr.heap.size = w.heap.size + 1 ∧ Below w.heap.size w wr) := ⟨hb, hws, below_kept HB.out.2.1 hkp HB.out.2.1.size (fun j hj => by omega)⟩
      clear hb hkp hws hsl hl
      go_wp2
      go_ret
      exact ⟨rfl, X3.out.1, X3.out.2.1, X3.out.2.2⟩
set_option maxHeartbeats 1000000 in
set_option maxRecDepth 20000 in
theorem eqb_yes (ao bo : Option Addr) (n c d : Nat) (zs : List Int) (w : World) (hx : Seen w ao n zs) (hy : Seen w bo n zs) :
    Calls Tryz.prog 8 #[.slice ao n c, .slice bo n d] w fun e w' => e = .returned (.bool true) ∧ ∃ q, w' = w.drewN q := by
  have t1 := hx.top
  go_enter Tryz.func8, Tryz.ntmps8
  go_wp2
  go_loopw [5] (fun i wr => ∃ k : Nat, k ≤ n ∧ i = .int .i64 k ∧ ∃ q, wr = w.drewN q) (fun i _ => n - (intOf i).toNat)
  case atStart => exact ⟨0, Nat.zero_le _, rfl, 0, rfl⟩
  case round =>
    obtain ⟨k, hk, rfl, q, rfl⟩ := hrel
    by_cases hlt : k < n
    · obtain ⟨b, o, rfl, hb, hc⟩ := hx.cells (by omega)
      obtain ⟨b2, o2, rfl, hb2, hc2⟩ := hy.cells (by omega)
      have c1 : (w.drewN q).cell? ⟨b, o + k, none⟩ = some (.int .u8 (zs.getD k 0)) := hc k hlt
      have c2 : (w.drewN q).cell? ⟨b2, o2 + k, none⟩ = some (.int .u8 (zs.getD k 0)) := hc2 k hlt
      obtain ⟨Z, hZ⟩ : ∃ Z, zs.getD k 0 = Z := ⟨_, rfl⟩
      rw [hZ] at c1 c2
      obtain ⟨wr, hwr⟩ : ∃ wr, w.drewN q = wr := ⟨_, rfl⟩
      rw [hwr] at c1 c2 ⊢
      have HW : Hid (w.drewN q = wr) := hwr
      have i1 : (0 : Int) ≤ (k : Int) := by omega
      have i2 : (k : Int) < (n : Int) := by omega
      clear hZ hc hc2 hx hy hwr
      go_wp2
      go_quiet (fail)
      go_wp2
      refine ⟨⟨k + 1, by omega, by go_num, q + nq, ?_⟩, by simp [intOf]; omega⟩
      rw [← HW.out, World.drewN_drewN]
    · obtain rfl : k = n := by omega
      clear hx hy
      go_wp2
      go_ret
      exact ⟨rfl, q, rfl⟩
/-- A list with marked room, as data. -/
theorem spared_seen {w : World} {g : Nat} {zs : List Int} (h : Blk w g 5 (u8s (spared zs))) (hb : Bytes zs) (ht : zs.length ≤ 35184372088832) : Seen w (some ⟨g, 0, none⟩) zs.length zs :=
  ⟨rfl, by omega, hb, fun _ => ⟨g, 0, rfl, h.lt, fun i hi => by rw [Nat.zero_add, u8s_cell h i (by rw [spared_length]; omega), spared_front zs i hi]⟩⟩
set_option maxHeartbeats 1000000 in
set_option maxRecDepth 20000 in
theorem kept_yes (g : Nat) (bo : Option Addr) (n d : Nat) (zs : List Int) (w : World) (hx : Blk w g 5 (u8s (spared zs))) (hy : Seen w bo n zs) (hn : n ≤ 35184372088832) :
    Calls Tryz.prog 9 #[.slice (some ⟨g, 0, none⟩) n (n + 80), .slice bo n d] w fun e w' => e = .returned (.bool true) ∧ ∃ q, w' = w.drewN q := by
  have hl := hy.len
  have S1 : Hid (Seen w (some ⟨g, 0, none⟩) n zs) := by
    have := spared_seen hx hy.bytes (by omega)
    rwa [hl] at this
  have HY : Hid (Seen w bo n zs ∧ Blk w g 5 (u8s (spared zs)) ∧ zs.length = n) := ⟨hy, hx, hl⟩
  clear hx hy hl
  go_enter Tryz.func9, Tryz.ntmps9
  go_wp2_with fail
  refine (eqb_yes _ bo n (n + 80) d zs w S1.out HY.out.1).mono ?_
  rintro e w1 ⟨rfl, q, rfl⟩
  go_wp2
  go_loopw [6] (fun i wr => ∃ k : Nat, n ≤ k ∧ k ≤ n + 80 ∧ i = .int .i64 k ∧ ∃ q, wr = w.drewN q) (fun i _ => n + 80 - (intOf i).toNat)
  case atStart => exact ⟨n, Nat.le_refl _, by omega, rfl, q, rfl⟩
  case round =>
    obtain ⟨k, hk0, hk, rfl, q, rfl⟩ := hrel
    by_cases hlt : k < n + 80
    · have c1 : (w.drewN q).cell? ⟨g, k, none⟩ = some (.int .u8 (markB k)) := by
        have := u8s_cell HY.out.2.1 k (by rw [spared_length, HY.out.2.2]; omega)
        rw [spared_mark zs k (by rw [HY.out.2.2]; exact hk0) (by rw [HY.out.2.2]; exact hlt)] at this
        exact this
      rw [markB] at c1
      have i1 : (0 : Int) ≤ (k : Int) := by omega
      have i2 : (k : Int) < (n : Int) + 80 := by omega
      go_wp2
      exact ⟨⟨k + 1, by omega, by omega, by go_num, q, rfl⟩, by simp [intOf]; omega⟩
    · obtain rfl : k = n + 80 := by omega
      go_wp2
      go_ret
      exact ⟨rfl, q, rfl⟩
end Go.Proofs.YtcimiajkbgabiaaGreat

namespace Go.Proofs.YtcimiajkbgabiaaGreat
open Go.RowKit
set_option linter.unusedVariables false
set_option linter.unusedSimpArgs false

theorem wB_take (st : List Int) (a b : Nat) (h : a ≤ b) (hb : b ≤ st.length) : wB st a = (wB st b).take (4 * a) := by
  induction b with
  | zero =>
    obtain rfl : a = 0 := by omega
    rfl
  | succ b ih =>
    rcases Nat.lt_or_ge a (b + 1) with h1 | h1
    · rw [wB_succ st b (by omega), List.take_append_of_le_length (by rw [wB_length _ _ (by omega)]; omega)]; exact ih (by omega) (by omega)
    · obtain rfl : a = b + 1 := by omega
      rw [List.take_of_length_le (by rw [wB_length _ _ hb]; exact Nat.le_refl _)]
/-- A slice of these bytes that begins no earlier. -/
def isF (base : Nat) (zs : List Int) (v : Value) (w : World) : Prop := ∃ vo n c, v = .slice vo n c ∧ Seen w vo n zs ∧ ∀ b o, vo = some ⟨b, o, none⟩ → base ≤ b
theorem isF_later (base : Nat) (zs : List Int) : ∀ v w w', Below w.heap.size w w' → isF base zs v w → isF base zs v w' := fun _ _ _ hb ⟨b, o, c, h1, h2, h3⟩ => ⟨b, o, c, h1, h2.later hb (Nat.le_refl _), h3⟩
/-- The quarters of a pass, one by one. -/
def passT (st : List Int) : Nat → List Int
  | 0 => st
  | T + 1 => colStep (passT st T) (T / 4) (T % 4)
theorem passT_8 (st : List Int) : passT st 8 = slants st 2 := rfl
theorem passT_length (st : List Int) (n : Nat) : (passT st n).length = st.length := by
  induction n with
  | zero => rfl
  | succ n ih => rw [passT, colStep_length, ih]
theorem wds_set {st : List Int} (h : Wds st) (i : Nat) (x : Int) (hx : Wd x) : Wds (st.set i x) := fun z hz => by
  rcases List.mem_or_eq_of_mem_set hz with h1 | rfl
  · exact h z h1
  · exact hx
theorem tl16 : TurnL 16 := by unfold TurnL; decide
theorem quarter_wd (q : Q4) (ha : Wd q.a) (hb : Wd q.b) (hc : Wd q.c) (hd : Wd q.d) : Wd (quarter q).a ∧ Wd (quarter q).b ∧ Wd (quarter q).c ∧ Wd (quarter q).d := by
  have h := half_wd q 16 12 ha hb hc hd (by unfold TurnL; decide) (by unfold TurnL; decide)
  exact half_wd _ 8 7 h.1 h.2.1 h.2.2.1 h.2.2.2 (by unfold TurnL; decide) (by unfold TurnL; decide)
theorem getD_wd {st : List Int} (h : Wds st) (i : Nat) : Wd (st.getD i 0) := by
  by_cases hi : i < st.length
  · exact h.at i hi
  · rw [List.getD, List.getElem?_eq_none (by omega)]; exact ⟨by decide, by decide⟩
theorem qPut_wd {st : List Int} (h : Wds st) (q : Q4) (hq : Wd q.a ∧ Wd q.b ∧ Wd q.c ∧ Wd q.d) (i j k l : Nat) : Wds (qPut st q i j k l) := wds_set (wds_set (wds_set (wds_set h i _ hq.1) j _ hq.2.1) k _ hq.2.2.1) l _ hq.2.2.2
theorem colStep_wd {st : List Int} (h : Wds st) (s c : Nat) : Wds (colStep st s c) := qPut_wd h _ (quarter_wd _ (getD_wd h _) (getD_wd h _) (getD_wd h _) (getD_wd h _)) _ _ _ _
theorem passT_wd {st : List Int} (h : Wds st) (n : Nat) : Wds (passT st n) := by
  induction n with
  | zero => exact h
  | succ n ih => exact colStep_wd ih _ _
theorem passN_wd {st : List Int} (h : Wds st) (n : Nat) : Wds (passN st n) := by
  induction n with
  | zero => exact h
  | succ n ih => rw [passN, ← passT_8]; exact passT_wd ih 8
/-- Where quarter T stands. -/
theorem pl_at : ∀ T : Nat, T < 8 → placesL.getD (4 * T) 0 = ((T % 4 % 4 : Nat) : Int) ∧ placesL.getD (4 * T + 1) 0 = ((4 + (T % 4 + T / 4) % 4 : Nat) : Int) ∧ placesL.getD (4 * T + 2) 0 = ((8 + (T % 4 + 2 * (T / 4)) % 4 : Nat) : Int) ∧ placesL.getD (4 * T + 3) 0 = ((12 + (T % 4 + 3 * (T / 4)) % 4 : Nat) : Int) := by decide
/-- The first words of a quarter laid back. -/
def putN (st : List Int) (ps : List Nat) (qs : List Int) (n : Nat) : List Int := (List.range n).foldl (fun s j => s.set (ps.getD j 0) (qs.getD j 0)) st
theorem putN_succ (st : List Int) (ps : List Nat) (qs : List Int) (n : Nat) : putN st ps qs (n + 1) = (putN st ps qs n).set (ps.getD n 0) (qs.getD n 0) := by simp [putN, List.range_succ]
theorem putN_length (st : List Int) (ps : List Nat) (qs : List Int) (n : Nat) : (putN st ps qs n).length = st.length := by
  induction n with
  | zero => rfl
  | succ n ih => rw [putN_succ, List.length_set, ih]
theorem putN_4 (st : List Int) (p0 p1 p2 p3 : Nat) (q : Q4) : putN st [p0, p1, p2, p3] q.list 4 = qPut st q p0 p1 p2 p3 := rfl
theorem build4 (a b c d : Int) (w : World) : (Instr.build 137 #[(0, .int .u64 a), (1, .int .u64 b), (2, .int .u64 c), (3, .int .u64 d)]).run Tryz.prog w = .ok (.agg (q64s [a, b, c, d]).toArray) w := by kernel_rfl
/-- What stands while the words are stirred. -/
structure Env (w W : World) (R gf cf gp gl cl : Nat) (st L : List Int) : Prop where
  bel : Below w.heap.size w W
  res : Blk W R 87 (u8s (zs0 64))
  fst : RowU W gf cf st
  pls : RowN W gp 32 placesL
  row : RowU W gl cl L
  new : w.heap.size ≤ gl
theorem Env.later {w W W' : World} {R gf cf gp gl cl : Nat} {st L : List Int} (h : Env w W R gf cf gp gl cl st L) (hb : Below W.heap.size W W') : Env w W' R gf cf gp gl cl st L :=
  ⟨below_chain h.bel hb h.bel.size, h.res.later hb h.res.lt, h.fst.later hb (Nat.le_refl _), h.pls.later hb (Nat.le_refl _), h.row.later hb (Nat.le_refl _), h.new⟩
theorem Env.set {w W : World} {R gf cf gp gl cl : Nat} {st L : List Int} (h : Env w W R gf cf gp gl cl st L) (ha : R ≠ gl ∧ gf ≠ gl ∧ gp ≠ gl) (j : Nat) (hj : j < L.length) (z : Int) : Env w (W.setCell ⟨gl, j, none⟩ (.int .u64 z)).drew R gf cf gp gl cl st (L.set j z) := by
  have k : Kept (fun x => x = gl) W (W.setCell ⟨gl, j, none⟩ (.int .u64 z)).drew := ((Kept.refl (fun x => x = gl) W).setCell (p := ⟨gl, j, none⟩) rfl _).drew
  exact ⟨below_kept h.bel k h.bel.size (fun i hi => by have := h.new; omega), h.res.kept k ha.1, h.fst.block (k.block gf h.fst.lt ha.2.1), h.pls.block (k.block gp h.pls.lt ha.2.2), (h.row.set j hj z).drew, h.new⟩
set_option maxRecDepth 20000 in
set_option maxHeartbeats 4000000 in
theorem rblock_any (key : List Int) (ctr : Int) (nonce : List Int) (hk : key.length = 32) (hn : nonce.length = 12) (hkb : Bytes key) (hnb : Bytes nonce) (hc : Wd ctr) (w : World) :
    Calls Tryz.prog 70 #[.agg (u8s key).toArray, .int .u32 ctr, .agg (u8s nonce).toArray] w fun e w' => e = .returned (.agg (u8s (blkB key ctr nonce)).toArray) ∧ Below w.heap.size w w' := by
  obtain ⟨Y, hY⟩ : ∃ Y, blkB key ctr nonce = Y := ⟨_, rfl⟩
  obtain ⟨st, hst⟩ : ∃ st, begW key ctr nonce = st := ⟨_, rfl⟩
  have HS : Hid (key.length = 32 ∧ nonce.length = 12 ∧ Bytes key ∧ Bytes nonce ∧ Wd ctr) := ⟨hk, hn, hkb, hnb, hc⟩
  have HY : Hid (Y.length = 64 ∧ Bytes Y ∧ wB (addW (passN st 10) st) 16 = Y ∧ st.length = 16 ∧ Wds st ∧ begW key ctr nonce = st) :=
    ⟨by rw [← hY, blkB_length], by rw [← hY]; exact blkB_bytes _ _ _, by rw [← hY, ← hst]; rfl, by rw [← hst, begW_length], by rw [← hst]; exact begW_wd key ctr nonce hk hn hkb hnb hc, hst⟩
  rw [hY]
  clear hk hn hkb hnb hc hY hst
  go_enter Tryz.func70, Tryz.ntmps70
  go_wp2_with (first | (refine wpList_box_new rfl 23 _ rfl (u8s key) rfl ?_; intro w1 b1 s1 l1) | (refine wpList_box_new rfl 45 _ rfl (u8s nonce) rfl ?_; intro w2 b2 s2 l2) | (refine wpList_alloc_new rfl 87 rfl 64 _ zero64b ?_; intro w3 b3 s3 l3; have K3 : Hid (Blk w3 w.heap.size 23 (u8s key) ∧ Blk w3 w1.heap.size 45 (u8s nonce)) := ⟨(b1.later l2 (by omega)).later l3 (by omega), b2.later l3 (by omega)⟩) | (refine wpList_load_blk rfl 23 _ rfl _ rfl (u8s key) _ K3.out.1 Tryz.underlying23 rfl (by rw [u8s_length, HS.out.1]; exact sizeKey) ?_) | (refine wpList_load_blk rfl 45 _ rfl _ rfl (u8s nonce) _ (by first | exact K3.out.2 | (rw [← s1]; exact K3.out.2)) Tryz.underlying45 rfl (by rw [u8s_length, HS.out.2.1]; exact sizeNonce) ?_))
  have H3 : Hid (Blk w3 w.heap.size 23 (u8s key) ∧ Blk w3 (w.heap.size + 1) 45 (u8s nonce) ∧ Blk w3 (w.heap.size + 1 + 1) 87 (u8s (zs0 64)) ∧ Below w.heap.size w w3 ∧ w3.heap.size = w.heap.size + 3) := by
    have k := K3.out.2
    rw [s1] at k
    rw [s2, s1] at b3
    exact ⟨K3.out.1, k, b3, below_chain (below_chain l1 l2 (by omega)) l3 (by omega), by omega⟩
  clear b1 s1 l1 b2 s2 l2 b3 s3 l3 K3
  refine (rstate_any key ctr nonce HS.out.1 HS.out.2.1 HS.out.2.2.1 HS.out.2.2.2.1 HS.out.2.2.2.2 w3).mono ?_
  rintro e w4 ⟨v4, rfl, o4, l4⟩
  rw [HY.out.2.2.2.2.2] at o4
  rcases ownU HY.out.2.2.2.1 o4 with ⟨_, h0, _⟩ | ⟨gf, cf, rfl, r4, g4, _, _⟩
  · cases h0
  have H4 : Hid (Blk w4 w.heap.size 23 (u8s key) ∧ Blk w4 (w.heap.size + 1) 45 (u8s nonce) ∧ Blk w4 (w.heap.size + 1 + 1) 87 (u8s (zs0 64)) ∧ Below w.heap.size w w4 ∧ RowU w4 gf cf st ∧ w.heap.size + 3 ≤ gf) := ⟨H3.out.1.later l4 H3.out.1.lt, H3.out.2.1.later l4 H3.out.2.1.lt, H3.out.2.2.1.later l4 H3.out.2.2.1.lt, below_chain H3.out.2.2.2.1 l4 H3.out.2.2.2.1.size, r4, by have := H3.out.2.2.2.2; omega⟩
  clear o4 l4 r4 g4 H3
  go_wp2_with (first | (refine wpList_load_blk rfl 23 _ rfl _ rfl (u8s key) _ H4.out.1 Tryz.underlying23 rfl (by rw [u8s_length, HS.out.1]; exact sizeKey) ?_) | (refine wpList_load_blk rfl 45 _ rfl _ rfl (u8s nonce) _ H4.out.2.1 Tryz.underlying45 rfl (by rw [u8s_length, HS.out.2.1]; exact sizeNonce) ?_))
  refine (rstate_any key ctr nonce HS.out.1 HS.out.2.1 HS.out.2.2.1 HS.out.2.2.2.1 HS.out.2.2.2.2 w4).mono ?_
  rintro e w5 ⟨v5, rfl, o5, l5⟩
  rw [HY.out.2.2.2.2.2] at o5
  rcases ownU HY.out.2.2.2.1 o5 with ⟨_, h0, _⟩ | ⟨gl, cl, rfl, r5, g5, _, _⟩
  · cases h0
  have H5 : Hid (Blk w5 (w.heap.size + 1 + 1) 87 (u8s (zs0 64)) ∧ Below w.heap.size w w5 ∧ RowU w5 gf cf st ∧ RowU w5 gl cl st ∧ w.heap.size + 3 ≤ gf ∧ gf < gl) := ⟨H4.out.2.2.1.later l5 H4.out.2.2.1.lt, below_chain H4.out.2.2.2.1 l5 H4.out.2.2.2.1.size, H4.out.2.2.2.2.1.later l5 (Nat.le_refl _), r5, H4.out.2.2.2.2.2, by have := H4.out.2.2.2.2.1.lt; omega⟩
  clear o5 l5 r5 g5 H4
  go_wp2_with fail
  refine (rplaces_any w5).mono ?_
  rintro e w6 ⟨gp, rfl, p6, g6, l6⟩
  have E6 : Hid (Env w w6 (w.heap.size + 1 + 1) gf cf gp gl cl st st ∧ (w.heap.size + 1 + 1 ≠ gl ∧ gf ≠ gl ∧ gp ≠ gl)) := by
    obtain ⟨h1, h2, h3, h4, h5, h6⟩ := H5.out
    have := h4.lt
    exact ⟨⟨below_chain h2 l6 h2.size, h1.later l6 h1.lt, h3.later l6 (Nat.le_refl _), p6, h4.later l6 (Nat.le_refl _), by omega⟩, by omega, by omega, by omega⟩
  have hap := E6.out.2
  clear p6 g6 l6 H5
  go_wp2_with fail
  go_loopw [10] (fun i wr => ∃ N : Nat, N ≤ 10 ∧ i = .int .i64 N ∧ Env w wr (w.heap.size + 1 + 1) gf cf gp gl cl st (passN st N)) (fun i _ => 10 - (intOf i).toNat)
  case atStart => exact ⟨0, Nat.zero_le _, rfl, E6.out.1⟩
  case round =>
    obtain ⟨N, hN, rfl, hE⟩ := hrel
    have EN : Hid (Env w wr (w.heap.size + 1 + 1) gf cf gp gl cl st (passN st N)) := hE
    clear hE
    by_cases hlt : N < 10
    · have i0 : (N : Int) < 10 := by omega
      obtain ⟨S, HSS⟩ : ∃ S, Hid (passN st N = S ∧ S.length = 16 ∧ Wds S) := ⟨_, ⟨rfl, by rw [passN_length]; exact HY.out.2.2.2.1, passN_wd HY.out.2.2.2.2.1 N⟩⟩
      rw [HSS.out.1] at EN
      obtain ⟨w7, hw7⟩ : ∃ W, W = wr := ⟨_, rfl⟩
      subst hw7
      go_wp2_with fail
      go_loopw [11] (fun i wr => ∃ T KK : Nat, T ≤ 8 ∧ KK = 4 * T ∧ i = .int .i64 KK ∧ Env w wr (w.heap.size + 1 + 1) gf cf gp gl cl st (passT S T)) (fun i _ => 32 - (intOf i).toNat)
      case atStart => exact ⟨0, 0, Nat.zero_le _, rfl, rfl, EN.out⟩
      case round =>
        obtain ⟨T, KK, hT, hKK, rfl, hE⟩ := hrel
        by_cases hlT : T < 8
        · have j1 : (KK : Int) < 32 := by omega
          have j2 : (0 : Int) ≤ (KK : Int) := by omega
          have j3 : (KK : Int) + 1 < 32 := by omega
          have j4 : (KK : Int) + 2 < 32 := by omega
          have j5 : (KK : Int) + 3 < 32 := by omega
          have j6 : (0 : Int) ≤ (KK : Int) + 1 := by omega
          have j7 : (0 : Int) ≤ (KK : Int) + 2 := by omega
          have j8 : (0 : Int) ≤ (KK : Int) + 3 := by omega
          have a1 : ((KK : Int) + 1).toNat = KK + 1 := by omega
          have a2 : ((KK : Int) + 2).toNat = KK + 2 := by omega
          have a3 : ((KK : Int) + 3).toNat = KK + 3 := by omega
          have v1 : IntKind.i64.wrap ((KK : Int) + 1) = (KK : Int) + 1 := by rw [IntKind.wrap_i64]; omega
          have v2 : IntKind.i64.wrap ((KK : Int) + 2) = (KK : Int) + 2 := by rw [IntKind.wrap_i64]; omega
          have v3 : IntKind.i64.wrap ((KK : Int) + 3) = (KK : Int) + 3 := by rw [IntKind.wrap_i64]; omega
          have hpl := pl_at T hlT
          rw [← hKK] at hpl
          obtain ⟨L, hL⟩ : ∃ L, passT S T = L := ⟨_, rfl⟩
          rw [hL] at hE
          obtain ⟨p0, hp0⟩ : ∃ p, T % 4 % 4 = p := ⟨_, rfl⟩
          obtain ⟨p1, hp1⟩ : ∃ p, 4 + (T % 4 + T / 4) % 4 = p := ⟨_, rfl⟩
          obtain ⟨p2, hp2⟩ : ∃ p, 8 + (T % 4 + 2 * (T / 4)) % 4 = p := ⟨_, rfl⟩
          obtain ⟨p3, hp3⟩ : ∃ p, 12 + (T % 4 + 3 * (T / 4)) % 4 = p := ⟨_, rfl⟩
          have q0 : p0 < 16 := by omega
          have q1 : p1 < 16 := by omega
          have q2 : p2 < 16 := by omega
          have q3 : p3 < 16 := by omega
          have hLl : L.length = 16 := by rw [← hL, passT_length]; exact HSS.out.2.1
          have hLw : Wds L := by rw [← hL]; exact passT_wd HSS.out.2.2 T
          have HN : Hid (passT S (T + 1) = qPut L (quarter (qOf L p0 p1 p2 p3)) p0 p1 p2 p3) := by show _ = _; rw [passT, hL, colStep, hp0, hp1, hp2, hp3]
          rw [hp0, hp1, hp2, hp3] at hpl
          have HE : Hid (Env w wr (w.heap.size + 1 + 1) gf cf gp gl cl st L ∧ L.length = 16 ∧ Wds L) := ⟨hE, hLl, hLw⟩
          have HP : Hid (∀ W, Below wr.heap.size wr W → W.cell? ⟨gp, KK, none⟩ = some (.int .i64 (p0 : Int)) ∧ W.cell? ⟨gp, KK + 1, none⟩ = some (.int .i64 (p1 : Int)) ∧ W.cell? ⟨gp, KK + 2, none⟩ = some (.int .i64 (p2 : Int)) ∧ W.cell? ⟨gp, KK + 3, none⟩ = some (.int .i64 (p3 : Int)) ∧ W.cell? ⟨gl, p0, none⟩ = some (.int .u64 (L.getD p0 0)) ∧ W.cell? ⟨gl, p1, none⟩ = some (.int .u64 (L.getD p1 0)) ∧ W.cell? ⟨gl, p2, none⟩ = some (.int .u64 (L.getD p2 0)) ∧ W.cell? ⟨gl, p3, none⟩ = some (.int .u64 (L.getD p3 0))) := fun W hW => by
            have e := HE.out.1.later hW
            have c := fun j (hj : j < 32) => e.pls.cell j (show j < placesL.length from hj)
            refine ⟨?_, ?_, ?_, ?_, e.row.cell p0 (by omega), e.row.cell p1 (by omega), e.row.cell p2 (by omega), e.row.cell p3 (by omega)⟩
            · rw [c KK (by omega), hpl.1]
            · rw [c (KK + 1) (by omega), hpl.2.1]
            · rw [c (KK + 2) (by omega), hpl.2.2.1]
            · rw [c (KK + 3) (by omega), hpl.2.2.2]
          have HPL : Hid (placesL.getD KK 0 = (p0 : Int) ∧ placesL.getD (KK + 1) 0 = (p1 : Int) ∧ placesL.getD (KK + 2) 0 = (p2 : Int) ∧ placesL.getD (KK + 3) 0 = (p3 : Int)) := hpl
          have HKK : Hid (KK = 4 * T) := hKK
          have k0 : (p0 : Int) < 16 := by omega
          have k1 : (p1 : Int) < 16 := by omega
          have k2 : (p2 : Int) < 16 := by omega
          have k3 : (p3 : Int) < 16 := by omega
          obtain ⟨q, hq⟩ : ∃ q, qOf L p0 p1 p2 p3 = q := ⟨_, rfl⟩
          have HQ : Hid (qOf L p0 p1 p2 p3 = q ∧ q = ⟨L.getD p0 0, L.getD p1 0, L.getD p2 0, L.getD p3 0⟩ ∧ Wd q.a ∧ Wd q.b ∧ Wd q.c ∧ Wd q.d) := ⟨hq, hq.symm, by rw [← hq]; exact getD_wd hLw _, by rw [← hq]; exact getD_wd hLw _, by rw [← hq]; exact getD_wd hLw _, by rw [← hq]; exact getD_wd hLw _⟩
          rw [hq] at HN
          clear hE hL hp0 hp1 hp2 hp3 hpl hLl hLw hKK hq
          go_wp2_with fail
          try simp only [Act.put, List.setIfInBounds_toArray, List.set_cons_zero, List.set_cons_succ]
          refine region_inv ((.val (.slice (some ⟨gl, 0, none⟩) 16 cl)) :: (.val (.slice (some ⟨gp, 0, none⟩) 32 32)) :: (.val (.int .i64 (KK : Int))) :: (.val (.pointer (some ⟨gp, KK, none⟩))) :: (.val (.int .i64 (p0 : Int))) :: (.val (.pointer (some ⟨gl, p0, none⟩))) :: (.val (.int .u64 (L.getD p0 0))) :: (.val (.slice (some ⟨gl, 0, none⟩) 16 cl)) :: (.val (.slice (some ⟨gp, 0, none⟩) 32 32)) :: (.val (.int .i64 (KK : Int))) :: (.val (.int .i64 ((KK : Int) + 1))) :: (.val (.pointer (some ⟨gp, KK + 1, none⟩))) :: (.val (.int .i64 (p1 : Int))) :: (.val (.pointer (some ⟨gl, p1, none⟩))) :: (.val (.int .u64 (L.getD p1 0))) :: (.val (.slice (some ⟨gl, 0, none⟩) 16 cl)) :: (.val (.slice (some ⟨gp, 0, none⟩) 32 32)) :: (.val (.int .i64 (KK : Int))) :: (.val (.int .i64 ((KK : Int) + 2))) :: (.val (.pointer (some ⟨gp, KK + 2, none⟩))) :: (.val (.int .i64 (p2 : Int))) :: (.val (.pointer (some ⟨gl, p2, none⟩))) :: (.val (.int .u64 (L.getD p2 0))) :: (.val (.slice (some ⟨gl, 0, none⟩) 16 cl)) :: (.val (.slice (some ⟨gp, 0, none⟩) 32 32)) :: (.val (.int .i64 (KK : Int))) :: (.val (.int .i64 ((KK : Int) + 3))) :: (.val (.pointer (some ⟨gp, KK + 3, none⟩))) :: (.val (.int .i64 (p3 : Int))) :: (.val (.pointer (some ⟨gl, p3, none⟩))) :: (.val (.int .u64 (L.getD p3 0))) :: (.val (.agg (q64s q.list).toArray)) :: (.val (.agg (q64s (quarter q).list).toArray)) :: (.blk 137 (q64s [0, 0, 0, 0])) :: []) (by kernel_rfl) (by kernel_rfl) (by kernel_rfl) ?_ ?_
          · refine Steps'.cons ?_ (Steps'.cons ?_ (Steps'.cons ?_ (Steps'.cons ?_ (Steps'.cons ?_ (Steps'.cons ?_ (Steps'.cons ?_ (Steps'.cons ?_ (Steps'.cons ?_ (Steps'.cons ?_ (Steps'.cons ?_ (Steps'.cons ?_ (Steps'.cons ?_ (Steps'.cons ?_ (Steps'.cons ?_ (Steps'.cons ?_ (Steps'.cons ?_ (Steps'.cons ?_ (Steps'.cons ?_ (Steps'.cons ?_ (Steps'.cons ?_ (Steps'.cons ?_ (Steps'.cons ?_ (Steps'.cons ?_ (Steps'.cons ?_ (Steps'.cons ?_ (Steps'.cons ?_ (Steps'.cons ?_ (Steps'.cons ?_ (Steps'.cons ?_ (Steps'.cons ?_ (Steps'.cons ?_ (Steps'.cons ?_ (Steps'.cons ?_ (Steps'.one _ _ _ _ _ _ _))))))))))))))))))))))))))))))))))
            · intro ax wx hb hs hd
              have h8 : ax.tmps.getD 8 undef = (.slice (some ⟨gl, 0, none⟩) 16 cl) := hs 8 (by kernel_rfl)
              refine Does.value (.slice (some ⟨gl, 0, none⟩) 16 cl) ?_ rfl
              go_simp
            · intro ax wx hb hs hd
              have h9 : ax.tmps.getD 9 undef = (.slice (some ⟨gp, 0, none⟩) 32 32) := hs 9 (by kernel_rfl)
              refine Does.value (.slice (some ⟨gp, 0, none⟩) 32 32) ?_ rfl
              go_simp
            · intro ax wx hb hs hd
              have h11 : ax.tmps.getD 11 undef = (.int .i64 (KK : Int)) := hs 11 (by kernel_rfl)
              refine Does.value (.int .i64 (KK : Int)) ?_ rfl
              go_simp
            · intro ax wx hb hs hd
              have h38 : ax.tmps.getD 38 undef = (.slice (some ⟨gp, 0, none⟩) 32 32) := hd 1 38 rfl (by kernel_rfl) (by decide)
              have h39 : ax.tmps.getD 39 undef = (.int .i64 (KK : Int)) := hd 2 39 rfl (by kernel_rfl) (by decide)
              refine Does.value (.pointer (some ⟨gp, KK, none⟩)) ?_ rfl
              go_simp
            · intro ax wx hb hs hd
              have h40 : ax.tmps.getD 40 undef = (.pointer (some ⟨gp, KK, none⟩)) := hd 3 40 rfl (by kernel_rfl) (by decide)
              have cx := (HP.out wx hb).1
              refine Does.value (.int .i64 (p0 : Int)) ?_ rfl
              go_simp
            · intro ax wx hb hs hd
              have h37 : ax.tmps.getD 37 undef = (.slice (some ⟨gl, 0, none⟩) 16 cl) := hd 0 37 rfl (by kernel_rfl) (by decide)
              have h41 : ax.tmps.getD 41 undef = (.int .i64 (p0 : Int)) := hd 4 41 rfl (by kernel_rfl) (by decide)
              refine Does.value (.pointer (some ⟨gl, p0, none⟩)) ?_ rfl
              go_simp
            · intro ax wx hb hs hd
              have h42 : ax.tmps.getD 42 undef = (.pointer (some ⟨gl, p0, none⟩)) := hd 5 42 rfl (by kernel_rfl) (by decide)
              have cx := (HP.out wx hb).2.2.2.2.1
              refine Does.value (.int .u64 (L.getD p0 0)) ?_ rfl
              go_simp
            · intro ax wx hb hs hd
              have h8 : ax.tmps.getD 8 undef = (.slice (some ⟨gl, 0, none⟩) 16 cl) := hs 8 (by kernel_rfl)
              refine Does.value (.slice (some ⟨gl, 0, none⟩) 16 cl) ?_ rfl
              go_simp
            · intro ax wx hb hs hd
              have h9 : ax.tmps.getD 9 undef = (.slice (some ⟨gp, 0, none⟩) 32 32) := hs 9 (by kernel_rfl)
              refine Does.value (.slice (some ⟨gp, 0, none⟩) 32 32) ?_ rfl
              go_simp
            · intro ax wx hb hs hd
              have h11 : ax.tmps.getD 11 undef = (.int .i64 (KK : Int)) := hs 11 (by kernel_rfl)
              refine Does.value (.int .i64 (KK : Int)) ?_ rfl
              go_simp
            · intro ax wx hb hs hd
              have h46 : ax.tmps.getD 46 undef = (.int .i64 (KK : Int)) := hd 9 46 rfl (by kernel_rfl) (by decide)
              refine Does.value (.int .i64 ((KK : Int) + 1)) ?_ rfl
              go_simp
            · intro ax wx hb hs hd
              have h45 : ax.tmps.getD 45 undef = (.slice (some ⟨gp, 0, none⟩) 32 32) := hd 8 45 rfl (by kernel_rfl) (by decide)
              have h47 : ax.tmps.getD 47 undef = (.int .i64 ((KK : Int) + 1)) := hd 10 47 rfl (by kernel_rfl) (by decide)
              refine Does.value (.pointer (some ⟨gp, KK + 1, none⟩)) ?_ rfl
              go_simp
            · intro ax wx hb hs hd
              have h48 : ax.tmps.getD 48 undef = (.pointer (some ⟨gp, KK + 1, none⟩)) := hd 11 48 rfl (by kernel_rfl) (by decide)
              have cx := (HP.out wx hb).2.1
              refine Does.value (.int .i64 (p1 : Int)) ?_ rfl
              go_simp
            · intro ax wx hb hs hd
              have h44 : ax.tmps.getD 44 undef = (.slice (some ⟨gl, 0, none⟩) 16 cl) := hd 7 44 rfl (by kernel_rfl) (by decide)
              have h49 : ax.tmps.getD 49 undef = (.int .i64 (p1 : Int)) := hd 12 49 rfl (by kernel_rfl) (by decide)
              refine Does.value (.pointer (some ⟨gl, p1, none⟩)) ?_ rfl
              go_simp
            · intro ax wx hb hs hd
              have h50 : ax.tmps.getD 50 undef = (.pointer (some ⟨gl, p1, none⟩)) := hd 13 50 rfl (by kernel_rfl) (by decide)
              have cx := (HP.out wx hb).2.2.2.2.2.1
              refine Does.value (.int .u64 (L.getD p1 0)) ?_ rfl
              go_simp
            · intro ax wx hb hs hd
              have h8 : ax.tmps.getD 8 undef = (.slice (some ⟨gl, 0, none⟩) 16 cl) := hs 8 (by kernel_rfl)
              refine Does.value (.slice (some ⟨gl, 0, none⟩) 16 cl) ?_ rfl
              go_simp
            · intro ax wx hb hs hd
              have h9 : ax.tmps.getD 9 undef = (.slice (some ⟨gp, 0, none⟩) 32 32) := hs 9 (by kernel_rfl)
              refine Does.value (.slice (some ⟨gp, 0, none⟩) 32 32) ?_ rfl
              go_simp
            · intro ax wx hb hs hd
              have h11 : ax.tmps.getD 11 undef = (.int .i64 (KK : Int)) := hs 11 (by kernel_rfl)
              refine Does.value (.int .i64 (KK : Int)) ?_ rfl
              go_simp
            · intro ax wx hb hs hd
              have h54 : ax.tmps.getD 54 undef = (.int .i64 (KK : Int)) := hd 17 54 rfl (by kernel_rfl) (by decide)
              refine Does.value (.int .i64 ((KK : Int) + 2)) ?_ rfl
              go_simp
            · intro ax wx hb hs hd
              have h53 : ax.tmps.getD 53 undef = (.slice (some ⟨gp, 0, none⟩) 32 32) := hd 16 53 rfl (by kernel_rfl) (by decide)
              have h55 : ax.tmps.getD 55 undef = (.int .i64 ((KK : Int) + 2)) := hd 18 55 rfl (by kernel_rfl) (by decide)
              refine Does.value (.pointer (some ⟨gp, KK + 2, none⟩)) ?_ rfl
              go_simp
            · intro ax wx hb hs hd
              have h56 : ax.tmps.getD 56 undef = (.pointer (some ⟨gp, KK + 2, none⟩)) := hd 19 56 rfl (by kernel_rfl) (by decide)
              have cx := (HP.out wx hb).2.2.1
              refine Does.value (.int .i64 (p2 : Int)) ?_ rfl
              go_simp
            · intro ax wx hb hs hd
              have h52 : ax.tmps.getD 52 undef = (.slice (some ⟨gl, 0, none⟩) 16 cl) := hd 15 52 rfl (by kernel_rfl) (by decide)
              have h57 : ax.tmps.getD 57 undef = (.int .i64 (p2 : Int)) := hd 20 57 rfl (by kernel_rfl) (by decide)
              refine Does.value (.pointer (some ⟨gl, p2, none⟩)) ?_ rfl
              go_simp
            · intro ax wx hb hs hd
              have h58 : ax.tmps.getD 58 undef = (.pointer (some ⟨gl, p2, none⟩)) := hd 21 58 rfl (by kernel_rfl) (by decide)
              have cx := (HP.out wx hb).2.2.2.2.2.2.1
              refine Does.value (.int .u64 (L.getD p2 0)) ?_ rfl
              go_simp
            · intro ax wx hb hs hd
              have h8 : ax.tmps.getD 8 undef = (.slice (some ⟨gl, 0, none⟩) 16 cl) := hs 8 (by kernel_rfl)
              refine Does.value (.slice (some ⟨gl, 0, none⟩) 16 cl) ?_ rfl
              go_simp
            · intro ax wx hb hs hd
              have h9 : ax.tmps.getD 9 undef = (.slice (some ⟨gp, 0, none⟩) 32 32) := hs 9 (by kernel_rfl)
              refine Does.value (.slice (some ⟨gp, 0, none⟩) 32 32) ?_ rfl
              go_simp
            · intro ax wx hb hs hd
              have h11 : ax.tmps.getD 11 undef = (.int .i64 (KK : Int)) := hs 11 (by kernel_rfl)
              refine Does.value (.int .i64 (KK : Int)) ?_ rfl
              go_simp
            · intro ax wx hb hs hd
              have h62 : ax.tmps.getD 62 undef = (.int .i64 (KK : Int)) := hd 25 62 rfl (by kernel_rfl) (by decide)
              refine Does.value (.int .i64 ((KK : Int) + 3)) ?_ rfl
              go_simp
            · intro ax wx hb hs hd
              have h61 : ax.tmps.getD 61 undef = (.slice (some ⟨gp, 0, none⟩) 32 32) := hd 24 61 rfl (by kernel_rfl) (by decide)
              have h63 : ax.tmps.getD 63 undef = (.int .i64 ((KK : Int) + 3)) := hd 26 63 rfl (by kernel_rfl) (by decide)
              refine Does.value (.pointer (some ⟨gp, KK + 3, none⟩)) ?_ rfl
              go_simp
            · intro ax wx hb hs hd
              have h64 : ax.tmps.getD 64 undef = (.pointer (some ⟨gp, KK + 3, none⟩)) := hd 27 64 rfl (by kernel_rfl) (by decide)
              have cx := (HP.out wx hb).2.2.2.1
              refine Does.value (.int .i64 (p3 : Int)) ?_ rfl
              go_simp
            · intro ax wx hb hs hd
              have h60 : ax.tmps.getD 60 undef = (.slice (some ⟨gl, 0, none⟩) 16 cl) := hd 23 60 rfl (by kernel_rfl) (by decide)
              have h65 : ax.tmps.getD 65 undef = (.int .i64 (p3 : Int)) := hd 28 65 rfl (by kernel_rfl) (by decide)
              refine Does.value (.pointer (some ⟨gl, p3, none⟩)) ?_ rfl
              go_simp
            · intro ax wx hb hs hd
              have h66 : ax.tmps.getD 66 undef = (.pointer (some ⟨gl, p3, none⟩)) := hd 29 66 rfl (by kernel_rfl) (by decide)
              have cx := (HP.out wx hb).2.2.2.2.2.2.2
              refine Does.value (.int .u64 (L.getD p3 0)) ?_ rfl
              go_simp
            · intro ax wx hb hs hd
              have h43 : ax.tmps.getD 43 undef = (.int .u64 (L.getD p0 0)) := hd 6 43 rfl (by kernel_rfl) (by decide)
              have h51 : ax.tmps.getD 51 undef = (.int .u64 (L.getD p1 0)) := hd 14 51 rfl (by kernel_rfl) (by decide)
              have h59 : ax.tmps.getD 59 undef = (.int .u64 (L.getD p2 0)) := hd 22 59 rfl (by kernel_rfl) (by decide)
              have h67 : ax.tmps.getD 67 undef = (.int .u64 (L.getD p3 0)) := hd 30 67 rfl (by kernel_rfl) (by decide)
              have hb4 := build4 (L.getD p0 0) (L.getD p1 0) (L.getD p2 0) (L.getD p3 0) wx
              have eq : q.list = [L.getD p0 0, L.getD p1 0, L.getD p2 0, L.getD p3 0] := by rw [HQ.out.2.1]; rfl
              rw [← eq] at hb4
              exact Does.build 137 _ rfl #[(0, .int .u64 (L.getD p0 0)), (1, .int .u64 (L.getD p1 0)), (2, .int .u64 (L.getD p2 0)), (3, .int .u64 (L.getD p3 0))] (by simp only [List.map_toArray, List.map_cons, List.map_nil, Act.eval, h43, h51, h59, h67]) _ hb4
            · intro ax wx hb hs hd
              have h68 : ax.tmps.getD 68 undef = (.agg (q64s q.list).toArray) := hd 31 68 rfl (by kernel_rfl) (by decide)
              refine Does.call 89 #[(.agg (q64s q.list).toArray)] (by go_simp) ?_
              refine (rq_any q HQ.out.2.2.1 HQ.out.2.2.2.1 HQ.out.2.2.2.2.1 HQ.out.2.2.2.2.2 wx).mono ?_
              rintro e w' ⟨rfl, l⟩
              exact ⟨_, rfl, rfl, l⟩
            · intro ax wx hb hs hd
              exact Does.alloc 137 rfl 4 _ zero4q hb.size
          · intro wx hb
            refine @Ends.val _ _ _ _ _ _ _ _ _ (.slice (some ⟨gl, 0, none⟩) 16 cl) rfl ?_
            refine @Ends.val _ _ _ _ _ _ _ _ _ (.slice (some ⟨gp, 0, none⟩) 32 32) rfl ?_
            refine @Ends.val _ _ _ _ _ _ _ _ _ (.int .i64 (KK : Int)) rfl ?_
            refine @Ends.val _ _ _ _ _ _ _ _ _ (.pointer (some ⟨gp, KK, none⟩)) rfl ?_
            refine @Ends.val _ _ _ _ _ _ _ _ _ (.int .i64 (p0 : Int)) rfl ?_
            refine @Ends.val _ _ _ _ _ _ _ _ _ (.pointer (some ⟨gl, p0, none⟩)) rfl ?_
            refine @Ends.val _ _ _ _ _ _ _ _ _ (.int .u64 (L.getD p0 0)) rfl ?_
            refine @Ends.val _ _ _ _ _ _ _ _ _ (.slice (some ⟨gl, 0, none⟩) 16 cl) rfl ?_
            refine @Ends.val _ _ _ _ _ _ _ _ _ (.slice (some ⟨gp, 0, none⟩) 32 32) rfl ?_
            refine @Ends.val _ _ _ _ _ _ _ _ _ (.int .i64 (KK : Int)) rfl ?_
            refine @Ends.val _ _ _ _ _ _ _ _ _ (.int .i64 ((KK : Int) + 1)) rfl ?_
            refine @Ends.val _ _ _ _ _ _ _ _ _ (.pointer (some ⟨gp, KK + 1, none⟩)) rfl ?_
            refine @Ends.val _ _ _ _ _ _ _ _ _ (.int .i64 (p1 : Int)) rfl ?_
            refine @Ends.val _ _ _ _ _ _ _ _ _ (.pointer (some ⟨gl, p1, none⟩)) rfl ?_
            refine @Ends.val _ _ _ _ _ _ _ _ _ (.int .u64 (L.getD p1 0)) rfl ?_
            refine @Ends.val _ _ _ _ _ _ _ _ _ (.slice (some ⟨gl, 0, none⟩) 16 cl) rfl ?_
            refine @Ends.val _ _ _ _ _ _ _ _ _ (.slice (some ⟨gp, 0, none⟩) 32 32) rfl ?_
            refine @Ends.val _ _ _ _ _ _ _ _ _ (.int .i64 (KK : Int)) rfl ?_
            refine @Ends.val _ _ _ _ _ _ _ _ _ (.int .i64 ((KK : Int) + 2)) rfl ?_
            refine @Ends.val _ _ _ _ _ _ _ _ _ (.pointer (some ⟨gp, KK + 2, none⟩)) rfl ?_
            refine @Ends.val _ _ _ _ _ _ _ _ _ (.int .i64 (p2 : Int)) rfl ?_
            refine @Ends.val _ _ _ _ _ _ _ _ _ (.pointer (some ⟨gl, p2, none⟩)) rfl ?_
            refine @Ends.val _ _ _ _ _ _ _ _ _ (.int .u64 (L.getD p2 0)) rfl ?_
            refine @Ends.val _ _ _ _ _ _ _ _ _ (.slice (some ⟨gl, 0, none⟩) 16 cl) rfl ?_
            refine @Ends.val _ _ _ _ _ _ _ _ _ (.slice (some ⟨gp, 0, none⟩) 32 32) rfl ?_
            refine @Ends.val _ _ _ _ _ _ _ _ _ (.int .i64 (KK : Int)) rfl ?_
            refine @Ends.val _ _ _ _ _ _ _ _ _ (.int .i64 ((KK : Int) + 3)) rfl ?_
            refine @Ends.val _ _ _ _ _ _ _ _ _ (.pointer (some ⟨gp, KK + 3, none⟩)) rfl ?_
            refine @Ends.val _ _ _ _ _ _ _ _ _ (.int .i64 (p3 : Int)) rfl ?_
            refine @Ends.val _ _ _ _ _ _ _ _ _ (.pointer (some ⟨gl, p3, none⟩)) rfl ?_
            refine @Ends.val _ _ _ _ _ _ _ _ _ (.int .u64 (L.getD p3 0)) rfl ?_
            refine @Ends.val _ _ _ _ _ _ _ _ _ (.agg (q64s q.list).toArray) rfl ?_
            refine @Ends.val _ _ _ _ _ _ _ _ _ (.agg (q64s (quarter q).list).toArray) rfl ?_
            refine @Ends.blk _ _ _ _ _ _ _ _ _ 137 (q64s [0, 0, 0, 0]) rfl ?_
            intro g33 hg33 bg33
            refine @Ends.one _ _ _ _ _ _ _ ?_
            simp only [Act.put, List.setIfInBounds_toArray, List.set_cons_zero, List.set_cons_succ]
            refine last_store 137 (.tmp 12) (.tmp 69) rfl rfl g33 rfl 137 _ (q64s (quarter q).list) rfl bg33 rfl size4q (u64s_one _) ?_
            intro w8 b8 s8 k8
            have L8 : Below wr.heap.size wr w8 := below_kept hb k8 hb.size (fun j hj => by omega)
            have E8 : Hid (Env w w8 (w.heap.size + 1 + 1) gf cf gp gl cl st L ∧ Blk w8 g33 137 (q64s (quarter q).list) ∧ gl ≠ g33) := ⟨HE.out.1.later L8, b8, by have := HE.out.1.row.lt; omega⟩
            clear hb bg33 hg33 b8 s8 k8 L8
            go_wp2_with fail
            go_loopw [13] (fun i wr => ∃ j : Nat, j ≤ 4 ∧ i = .int .i64 j ∧ Env w wr (w.heap.size + 1 + 1) gf cf gp gl cl st (putN L [p0, p1, p2, p3] (quarter q).list j) ∧ Blk wr g33 137 (q64s (quarter q).list)) (fun i _ => 4 - (intOf i).toNat)
            case atStart => exact ⟨0, Nat.zero_le _, rfl, E8.out.1, E8.out.2.1⟩
            case round =>
              obtain ⟨j, hj, rfl, hE, hB⟩ := hrel
              by_cases hj4 : j < 4
              · have m1 : (j : Int) < 4 := by omega
                have m2 : (0 : Int) ≤ (j : Int) := by omega
                have m3 : (KK : Int) + (j : Int) < 32 := by omega
                have m4 : (0 : Int) ≤ (KK : Int) + (j : Int) := by omega
                have m5 : ((KK : Int) + (j : Int)).toNat = KK + j := by omega
                have hps : ∃ P : Nat, P < 16 ∧ placesL.getD (KK + j) 0 = (P : Int) ∧ ([p0, p1, p2, p3] : List Nat).getD j 0 = P := by
                  rcases (by omega : j = 0 ∨ j = 1 ∨ j = 2 ∨ j = 3) with rfl | rfl | rfl | rfl
                  · exact ⟨p0, q0, HPL.out.1, rfl⟩
                  · exact ⟨p1, q1, HPL.out.2.1, rfl⟩
                  · exact ⟨p2, q2, HPL.out.2.2.1, rfl⟩
                  · exact ⟨p3, q3, HPL.out.2.2.2, rfl⟩
                obtain ⟨P, hP16, hPp, hPl⟩ := hps
                have cp : wr.cell? ⟨gp, KK + j, none⟩ = some (.int .i64 (P : Int)) := by rw [hE.pls.cell (KK + j) (show KK + j < 32 by omega), hPp]
                have cq := u64s_cell hB j (show j < 4 from hj4)
                obtain ⟨Z, hZ⟩ : ∃ Z, (quarter q).list.getD j 0 = Z := ⟨_, rfl⟩
                have hlen : (putN L [p0, p1, p2, p3] (quarter q).list j).length = 16 := by rw [putN_length]; exact HE.out.2.1
                have cl1 := hE.row.cell P (by rw [hlen]; exact hP16)
                have fl1 := hE.row.frozen P
                have HNX : Hid (Env w (wr.setCell ⟨gl, P, none⟩ (.int .u64 Z)).drew (w.heap.size + 1 + 1) gf cf gp gl cl st (putN L [p0, p1, p2, p3] (quarter q).list (j + 1)) ∧ Blk (wr.setCell ⟨gl, P, none⟩ (.int .u64 Z)).drew g33 137 (q64s (quarter q).list)) := by
                  refine ⟨?_, (hB.other (p := ⟨gl, P, none⟩) (fun e => E8.out.2.2 e.symm) _).drew⟩
                  rw [putN_succ, hPl, hZ]
                  exact hE.set hap P (by rw [hlen]; exact hP16) Z
                rw [hZ] at cq
                obtain ⟨B0, hB0⟩ : ∃ B, (putN L [p0, p1, p2, p3] (quarter q).list j).getD P 0 = B := ⟨_, rfl⟩
                rw [hB0] at cl1
                have n1 : (P : Int) < 16 := by omega
                have n2 : (0 : Int) ≤ (P : Int) := by omega
                have vv : IntKind.i64.wrap ((KK : Int) + (j : Int)) = (KK : Int) + (j : Int) := by rw [IntKind.wrap_i64]; omega
                clear hE hB hZ hB0 hPp hPl hlen
                go_wp2_with fail
                go_region
                all_goals
                  go_wp2_with fail
                  exact ⟨⟨j + 1, by omega, by go_num, HNX.out.1, HNX.out.2⟩, by simp [intOf]; omega⟩
              · obtain rfl : j = 4 := by omega
                have HF : Hid (Env w wr (w.heap.size + 1 + 1) gf cf gp gl cl st (passT S (T + 1))) := by
                  rw [putN_4] at hE
                  rw [HN.out]; exact hE
                clear hE hB
                rw [show ((4 : Nat) : Int) = 4 from rfl]
                go_wp2_with fail
                exact ⟨⟨T + 1, KK + 4, by omega, by have := HKK.out; omega, by go_num, HF.out⟩, by simp [intOf]; omega⟩
        · have hT8 : T = 8 := by omega
          subst hT8
          have hKK2 : KK = 32 := by omega
          subst hKK2
          have HF : Hid (Env w wr (w.heap.size + 1 + 1) gf cf gp gl cl st (passN st (N + 1))) := by
            rw [passT_8, ← HSS.out.1] at hE
            exact hE
          clear hE hKK
          rw [show ((32 : Nat) : Int) = 32 from rfl]
          go_wp2_with fail
          exact ⟨⟨N + 1, by omega, by go_num, HF.out⟩, by simp [intOf]; omega⟩
    · obtain rfl : N = 10 := by omega
      obtain ⟨L, HL⟩ : ∃ L, Hid (passN st 10 = L ∧ L.length = 16 ∧ Wds L) := ⟨_, ⟨rfl, by rw [passN_length]; exact HY.out.2.2.2.1, passN_wd HY.out.2.2.2.2.1 10⟩⟩
      rw [HL.out.1] at EN
      have HY2 : Hid (wB (addW L st) 16 = Y ∧ (addW L st).length = 16 ∧ ∀ i, i < 16 → (addW L st).getD i 0 = (L.getD i 0 + st.getD i 0) % 4294967296) := ⟨by rw [← HL.out.1]; exact HY.out.2.2.1, addW_length _ _ 16 HL.out.2.1 HY.out.2.2.2.1, fun i hi => addW_at _ _ 16 i HL.out.2.1 HY.out.2.2.2.1 hi⟩
      rw [show ((10 : Nat) : Int) = 10 from rfl]
      go_wp2_with (first | (refine wpList_alloc_new rfl 87 rfl 64 _ zero64b ?_; intro w7 b7 s7 l7))
      obtain ⟨G, HG⟩ : ∃ G, Hid (wr.heap.size = G) := ⟨_, rfl⟩
      have HGP : Hid (gp < G) := by rw [← HG.out]; exact EN.out.pls.lt
      have E7 : Hid (Env w w7 (w.heap.size + 1 + 1) gf cf gp gl cl st L ∧ Blk w7 G 87 (u8s (zs0 64)) ∧ gf < G ∧ gl < G ∧ w.heap.size + 1 + 1 < G) := by
        rw [← HG.out]
        exact ⟨EN.out.later l7, b7, EN.out.fst.lt, EN.out.row.lt, EN.out.res.lt⟩
      rw [HG.out]
      clear b7 s7 l7 EN
      go_loopw [15] (fun i wr => ∃ I : Nat, I ≤ 16 ∧ i = .int .i64 I ∧ Env w wr (w.heap.size + 1 + 1) gf cf gp gl cl st L ∧ Blk wr G 87 (u8s (Y.take (4 * I) ++ zs0 (64 - 4 * I)))) (fun i _ => 16 - (intOf i).toNat)
      case atStart => exact ⟨0, Nat.zero_le _, rfl, E7.out.1, E7.out.2.1⟩
      case round =>
        obtain ⟨I, hI, rfl, hE, hB⟩ := hrel
        by_cases hI16 : I < 16
        · have i1 : (I : Int) < 16 := by omega
          have i2 : (0 : Int) ≤ (I : Int) := by omega
          have HE : Hid (Env w wr (w.heap.size + 1 + 1) gf cf gp gl cl st L ∧ Blk wr G 87 (u8s (Y.take (4 * I) ++ zs0 (64 - 4 * I)))) := ⟨hE, hB⟩
          have wa := HL.out.2.2.at I (by rw [HL.out.2.1]; exact hI16)
          have wb := HY.out.2.2.2.2.1.at I (by rw [HY.out.2.2.2.1]; exact hI16)
          have HC : Hid (∀ W, Below wr.heap.size wr W → W.cell? ⟨gl, I, none⟩ = some (.int .u64 (L.getD I 0)) ∧ W.cell? ⟨gf, I, none⟩ = some (.int .u64 (st.getD I 0))) := fun W hW => ⟨(HE.out.1.later hW).row.cell I (by rw [HL.out.2.1]; exact hI16), (HE.out.1.later hW).fst.cell I (by rw [HY.out.2.2.2.1]; exact hI16)⟩
          have HX : Hid (∀ j, j < 4 → Y.getD (4 * I + j) 0 = (leB 4 ((L.getD I 0 + st.getD I 0) % 4294967296)).getD j 0) := fun j hj => by
            have h1 := wB_succ (addW L st) I (by rw [HY2.out.2.1]; exact hI16)
            rw [HY2.out.2.2 I hI16] at h1
            have h2 : wB (addW L st) (I + 1) = Y.take (4 * (I + 1)) := by
              rw [← HY2.out.1]
              exact wB_take (addW L st) (I + 1) 16 (by omega) (by rw [HY2.out.2.1]; exact Nat.le_refl _)
            have h3 : (wB (addW L st) I).length = 4 * I := wB_length _ _ (by rw [HY2.out.2.1]; omega)
            have h4 : (Y.take (4 * (I + 1))).getD (4 * I + j) 0 = Y.getD (4 * I + j) 0 := by simp [List.getD, List.getElem?_take, show 4 * I + j < 4 * (I + 1) by omega]
            rw [← h4, ← h2, h1, ← h3]
            exact app_getD _ _ _ _ rfl
          obtain ⟨A, hA⟩ : ∃ A, L.getD I 0 = A := ⟨_, rfl⟩
          obtain ⟨B, hB'⟩ : ∃ B, st.getD I 0 = B := ⟨_, rfl⟩
          rw [hA, hB'] at HC HX
          rw [hA] at wa
          rw [hB'] at wb
          obtain ⟨Z, hZ⟩ : ∃ Z, (A + B) % 4294967296 = Z := ⟨_, rfl⟩
          have HZ : Hid ((A + B) % 4294967296 = Z ∧ Word Z) := ⟨hZ, by rw [← hZ]; exact ⟨by omega, by omega⟩⟩
          rw [hZ] at HX
          clear hE hB hA hB' hZ
          go_wp2_with fail
          try simp only [Act.put, List.setIfInBounds_toArray, List.set_cons_zero, List.set_cons_succ]
          refine region_inv [.val (.slice (some ⟨gl, 0, none⟩) 16 cl), .val (.int .i64 (I : Int)), .val (.pointer (some ⟨gl, I, none⟩)), .val (.int .u64 A), .val (.slice (some ⟨gf, 0, none⟩) 16 cf), .val (.int .i64 (I : Int)), .val (.pointer (some ⟨gf, I, none⟩)), .val (.int .u64 B), .val (.int .u64 Z), .any (isF wr.heap.size (leB 4 Z)) (isF_later _ _)] (by kernel_rfl) (by kernel_rfl) (by kernel_rfl) ?_ ?_
          · refine Steps'.cons ?_ (Steps'.cons ?_ (Steps'.cons ?_ (Steps'.cons ?_ (Steps'.cons ?_ (Steps'.cons ?_ (Steps'.cons ?_ (Steps'.cons ?_ (Steps'.cons ?_ (Steps'.cons ?_ (Steps'.one _ _ _ _ _ _ _))))))))))
            · intro ax wx hb hs hd
              have h8 : ax.tmps.getD 8 undef = (.slice (some ⟨gl, 0, none⟩) 16 cl) := hs 8 (by kernel_rfl)
              refine Does.value (.slice (some ⟨gl, 0, none⟩) 16 cl) ?_ rfl
              go_simp
            · intro ax wx hb hs hd
              have h15 : ax.tmps.getD 15 undef = (.int .i64 (I : Int)) := hs 15 (by kernel_rfl)
              refine Does.value (.int .i64 (I : Int)) ?_ rfl
              go_simp
            · intro ax wx hb hs hd
              have h89 : ax.tmps.getD 89 undef = (.slice (some ⟨gl, 0, none⟩) 16 cl) := hd 0 89 rfl (by kernel_rfl) (by decide)
              have h90 : ax.tmps.getD 90 undef = (.int .i64 (I : Int)) := hd 1 90 rfl (by kernel_rfl) (by decide)
              refine Does.value (.pointer (some ⟨gl, I, none⟩)) ?_ rfl
              go_simp
            · intro ax wx hb hs hd
              have h91 : ax.tmps.getD 91 undef = (.pointer (some ⟨gl, I, none⟩)) := hd 2 91 rfl (by kernel_rfl) (by decide)
              have cx := (HC.out wx hb).1
              refine Does.value (.int .u64 A) ?_ rfl
              go_simp
            · intro ax wx hb hs hd
              have h7 : ax.tmps.getD 7 undef = (.slice (some ⟨gf, 0, none⟩) 16 cf) := hs 7 (by kernel_rfl)
              refine Does.value (.slice (some ⟨gf, 0, none⟩) 16 cf) ?_ rfl
              go_simp
            · intro ax wx hb hs hd
              have h15 : ax.tmps.getD 15 undef = (.int .i64 (I : Int)) := hs 15 (by kernel_rfl)
              refine Does.value (.int .i64 (I : Int)) ?_ rfl
              go_simp
            · intro ax wx hb hs hd
              have h93 : ax.tmps.getD 93 undef = (.slice (some ⟨gf, 0, none⟩) 16 cf) := hd 4 93 rfl (by kernel_rfl) (by decide)
              have h94 : ax.tmps.getD 94 undef = (.int .i64 (I : Int)) := hd 5 94 rfl (by kernel_rfl) (by decide)
              refine Does.value (.pointer (some ⟨gf, I, none⟩)) ?_ rfl
              go_simp
            · intro ax wx hb hs hd
              have h95 : ax.tmps.getD 95 undef = (.pointer (some ⟨gf, I, none⟩)) := hd 6 95 rfl (by kernel_rfl) (by decide)
              have cx := (HC.out wx hb).2
              refine Does.value (.int .u64 B) ?_ rfl
              go_simp
            · intro ax wx hb hs hd
              have h92 : ax.tmps.getD 92 undef = (.int .u64 A) := hd 3 92 rfl (by kernel_rfl) (by decide)
              have h96 : ax.tmps.getD 96 undef = (.int .u64 B) := hd 7 96 rfl (by kernel_rfl) (by decide)
              refine Does.call 91 #[(.int .u64 A), (.int .u64 B)] (by go_simp) ?_
              have q := rplus_any A B wa wb wx
              rw [HZ.out.1] at q
              refine q.mono ?_
              rintro e w' ⟨rfl, rfl⟩
              exact ⟨_, rfl, rfl, Below.refl _ _⟩
            · intro ax wx hb hs hd
              have h97 : ax.tmps.getD 97 undef = (.int .u64 Z) := hd 8 97 rfl (by kernel_rfl) (by decide)
              refine Does.call 90 #[(.int .u64 Z), (.int .i64 4)] (by go_simp) ?_
              refine (rbytes_any Z HZ.out.2 4 (by decide) wx).mono ?_
              rintro e w' ⟨v, rfl, o, l⟩
              obtain ⟨vo, cap, rfl, hs, hc, _, h4, _⟩ := own_data (leB_bytes 4 Z) (by rw [leB_length]; decide) (by simpa [leB_length] using o)
              exact ⟨_, rfl, ⟨_, _, _, rfl, hs, fun b o e => Nat.le_trans hb.size (h4 b o e).1⟩, l⟩
          · intro wx hb
            refine @Ends.val _ _ _ _ _ _ _ _ _ (.slice (some ⟨gl, 0, none⟩) 16 cl) rfl ?_
            refine @Ends.val _ _ _ _ _ _ _ _ _ (.int .i64 (I : Int)) rfl ?_
            refine @Ends.val _ _ _ _ _ _ _ _ _ (.pointer (some ⟨gl, I, none⟩)) rfl ?_
            refine @Ends.val _ _ _ _ _ _ _ _ _ (.int .u64 A) rfl ?_
            refine @Ends.val _ _ _ _ _ _ _ _ _ (.slice (some ⟨gf, 0, none⟩) 16 cf) rfl ?_
            refine @Ends.val _ _ _ _ _ _ _ _ _ (.int .i64 (I : Int)) rfl ?_
            refine @Ends.val _ _ _ _ _ _ _ _ _ (.pointer (some ⟨gf, I, none⟩)) rfl ?_
            refine @Ends.val _ _ _ _ _ _ _ _ _ (.int .u64 B) rfl ?_
            refine @Ends.val _ _ _ _ _ _ _ _ _ (.int .u64 Z) rfl ?_
            refine @Ends.any _ _ _ _ _ _ _ _ _ (isF wr.heap.size (leB 4 Z)) (isF_later _ _) rfl ?_
            intro v9 p9
            refine @Ends.one _ _ _ _ _ _ _ ?_
            simp only [Act.put, List.setIfInBounds_toArray, List.set_cons_zero, List.set_cons_succ]
            obtain ⟨vo, n9, c9, rfl, s9, h9⟩ := p9
            obtain rfl : 4 = n9 := by rw [← s9.len, leB_length]
            refine last_assign (.tmp 98) rfl (some 16) rfl (.slice vo 4 c9) rfl ?_
            simp only [Act.put, List.setIfInBounds_toArray, List.set_cons_zero, List.set_cons_succ]
            have E9 : Hid (Env w wx (w.heap.size + 1 + 1) gf cf gp gl cl st L ∧ Blk wx G 87 (u8s (Y.take (4 * I) ++ zs0 (64 - 4 * I))) ∧ Seen wx vo 4 (leB 4 Z) ∧ (∀ b o, vo = some ⟨b, o, none⟩ → b ≠ G)) := ⟨HE.out.1.later hb, HE.out.2.later hb HE.out.2.lt, s9, fun b o e => by have := h9 b o e; have := HE.out.2.lt; omega⟩
            clear hb s9 h9
            go_wp2_with fail
            go_loopw [17] (fun i wr => ∃ j : Nat, j ≤ 4 ∧ i = .int .i64 j ∧ Blk wr G 87 (u8s (Y.take (4 * I + j) ++ zs0 (64 - (4 * I + j)))) ∧ Kept (fun x => x = G) wx wr) (fun i _ => 4 - (intOf i).toNat)
            case atStart => exact ⟨0, Nat.zero_le _, rfl, E9.out.2.1, Kept.refl _ _⟩
            case round =>
              obtain ⟨j, hj, rfl, hB, hkp⟩ := hrel
              by_cases hj4 : j < 4
              · obtain ⟨b, o, rfl, hb, hc⟩ := E9.out.2.2.1.cells (by decide)
                have hbG := E9.out.2.2.2 b o rfl
                have c1 := (hkp.cell (p := ⟨b, o + j, none⟩) hb hbG).trans (hc j hj4)
                have hlen : (Y.take (4 * I + j) ++ zs0 (64 - (4 * I + j)) : List Int).length = 64 := by rw [List.length_append, List.length_take, HY.out.1, zs0_length]; omega
                have cg := u8s_cell hB (4 * I + j) (by rw [hlen]; omega)
                have fg := hB.frozen (4 * I + j)
                have hset : (Y.take (4 * I + j) ++ zs0 (64 - (4 * I + j)) : List Int).set (4 * I + j) ((leB 4 Z).getD j 0) = Y.take (4 * I + (j + 1)) ++ zs0 (64 - (4 * I + (j + 1))) := by
                  have h := take_next Y (4 * I + j) (by rw [HY.out.1]; omega) (64 - (4 * I + (j + 1)))
                  rw [show 64 - (4 * I + (j + 1)) + 1 = 64 - (4 * I + j) by omega, HX.out j hj4] at h
                  exact h
                obtain ⟨D, hD⟩ : ∃ D, (leB 4 Z).getD j 0 = D := ⟨_, rfl⟩
                obtain ⟨D0, hD0⟩ : ∃ D, (Y.take (4 * I + j) ++ zs0 (64 - (4 * I + j)) : List Int).getD (4 * I + j) 0 = D := ⟨_, rfl⟩
                rw [hD] at c1 hset
                rw [hD0] at cg
                have HQ : Hid (Blk (wr.setCell ⟨G, 4 * I + j, none⟩ (.int .u8 D)) G 87 (u8s (Y.take (4 * I + (j + 1)) ++ zs0 (64 - (4 * I + (j + 1))))) ∧ Kept (fun x => x = G) wx (wr.setCell ⟨G, 4 * I + j, none⟩ (.int .u8 D))) := by
                  have R := hB.set (4 * I + j) (.int .u8 D)
                  rw [u8s_set, hset] at R
                  exact ⟨R, hkp.setCell rfl _⟩
                have m1 : (j : Int) < 4 := by omega
                have m2 : (0 : Int) ≤ (j : Int) := by omega
                have m3 : 4 * (I : Int) + (j : Int) < 64 := by omega
                have m4 : (0 : Int) ≤ 4 * (I : Int) + (j : Int) := by omega
                have m5 : (4 * (I : Int) + (j : Int)).toNat = 4 * I + j := by omega
                clear hc hD hD0 hset hB hkp hlen
                go_wp2_with fail
                exact ⟨⟨j + 1, by omega, by go_num, HQ.out.1, HQ.out.2⟩, by simp [intOf]; omega⟩
              · obtain rfl : j = 4 := by omega
                have HF : Hid (Env w wr (w.heap.size + 1 + 1) gf cf gp gl cl st L ∧ Blk wr G 87 (u8s (Y.take (4 * (I + 1)) ++ zs0 (64 - 4 * (I + 1))))) := by
                  have e := E9.out.1
                  have hh := E7.out.2.2
                  exact ⟨⟨below_kept e.bel hkp e.bel.size (fun i hi => by omega), e.res.kept hkp (by omega), e.fst.block (hkp.block gf e.fst.lt (by omega)), e.pls.block (hkp.block gp e.pls.lt (by have := HGP.out; omega)), e.row.block (hkp.block gl e.row.lt (by omega)), e.new⟩, hB⟩
                clear hB hkp
                rw [show ((4 : Nat) : Int) = 4 from rfl]
                go_wp2_with fail
                exact ⟨⟨I + 1, by omega, by go_num, HF.out.1, HF.out.2⟩, by simp [intOf]; omega⟩
        · obtain rfl : I = 16 := by omega
          have e1 : Y.take (4 * 16) ++ zs0 (64 - 4 * 16) = Y := by rw [List.take_of_length_le (by rw [HY.out.1]; exact Nat.le_refl _)]; simp [zs0]
          rw [e1] at hB
          have HQ : Hid (Blk wr G 87 (u8s Y) ∧ Blk wr (w.heap.size + 1 + 1) 87 (u8s (zs0 64)) ∧ Below w.heap.size w wr ∧ (Tryz.prog.info? 87).map (·.size) = some (u8s Y).length) := ⟨hB, hE.res, hE.bel, by rw [u8s_length, HY.out.1]; kernel_rfl⟩
          clear hB hE e1
          rw [show ((16 : Nat) : Int) = 16 from rfl]
          go_wp2_with (first | (refine wpList_load_blk rfl 87 _ rfl _ rfl (u8s Y) _ HQ.out.1 Tryz.underlying87 rfl HQ.out.2.2.2 ?_) | (refine wpList_store_blk rfl 87 87 _ _ rfl _ rfl _ (u8s Y) rfl HQ.out.2.1 (by rw [u8s_length, u8s_length, HY.out.1]; rfl) HQ.out.2.2.2 (u8s_one _) ?_; intro w9 b9 s9 k9))
          exact ret_blk rfl (w.heap.size + 1 + 1) (u8s Y) _ rfl b9 Tryz.underlying87 rfl HQ.out.2.2.2 rfl ⟨rfl, below_kept HQ.out.2.2.1 k9 HQ.out.2.2.1.size (fun j hj => by omega)⟩
end Go.Proofs.YtcimiajkbgabiaaGreat

namespace Go.Proofs.YtcimiajkbgabiaaGreat
open Go.RowKit
set_option linter.unusedVariables false
set_option linter.unusedSimpArgs false
/-- An operation that yields its value in every world that meets the condition is taken first. -/
theorem hTake {md : Region.Mode} {ops : Array Oper} {Q : Exit → Act → World → Prop} {S : World → Prop} {oi : Oper} {fuel : Nat} {listed : Array Bool} {a : Act} {w : World} (i : Nat) (d : Option Tmp) (v : Value) (hi : ops[i]? = some oi) (hd : oi.dst = d)
    (hs : Region.noSelect ops = true) (hf : Region.free md ops listed i = true) (hr : (Region.ready md ops listed).contains i = true) (hQ : ∀ c a w, Q (.panic c) (a.put d v) w → Q (.panic c) a w)
    (hw : Region.wanted oi (yielded ops a.tmps) = true) (hy : ∀ w, S w → (execOp a.eval oi).run Tryz.prog w = .ok (.value v) w) (hS : S w)
    (h : wpAnyH Tryz.prog md ops Q S fuel (listed.setIfInBounds i true) (a.put d v) w) : wpAnyH Tryz.prog md ops Q S (fuel + 1) listed a w := by
  subst hd
  exact wpAnyH_take hi hs hf hr hQ (Or.inl ⟨hw, hy⟩) hS h
/-- Many cells that the condition names are read first. -/
theorem hLoad {md : Region.Mode} {ops : Array Oper} {Q : Exit → Act → World → Prop} {S : World → Prop} {oi : Oper} {fuel : Nat} {listed : Array Bool} {a : Act} {w : World} (i : Nat) (d : Option Tmp) (cs : List Value) (hi : ops[i]? = some oi) (hd : oi.dst = d)
    (hs : Region.noSelect ops = true) (hf : Region.free md ops listed i = true) (hr : (Region.ready md ops listed).contains i = true) (hQ : ∀ c a w, Q (.panic c) (a.put d (.agg cs.toArray)) w → Q (.panic c) a w)
    (hw : Region.wanted oi (yielded ops a.tmps) = true) (ty : TypeId) (x : Operand) (ho : oi.op = .load ty x) (b off : Nat) (hx : a.eval x = .pointer (some ⟨b, off, none⟩)) (ds : TypeDesc) (hc : ∀ w, S w → w.rangeAt b off cs)
    (hu : Tryz.prog.underlying ty = some ds) (hdr : ds.isRow = true) (hz : (Tryz.prog.info? ty).map (·.size) = some cs.length) (hS : S w)
    (h : wpAnyH Tryz.prog md ops Q S fuel (listed.setIfInBounds i true) (a.put d (.agg cs.toArray)) w) : wpAnyH Tryz.prog md ops Q S (fuel + 1) listed a w := by
  subst hd
  exact wpAnyH_take hi hs hf hr hQ (yieldsIf_load_mid hw ty x ho b off hx cs ds hc hu hdr hz) hS h
end Go.Proofs.YtcimiajkbgabiaaGreat
