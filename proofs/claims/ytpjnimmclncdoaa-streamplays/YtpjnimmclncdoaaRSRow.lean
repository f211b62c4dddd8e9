/- Rows of words; the document's numbers of bytes and bytes of numbers; words. -/
import Derived.Test.YtpjnimmclncdoaaRSQuart
import Derived.Test.YtpjnimmclncdoaaDCopy
import Derived.Test.YtpjnimmclncdoaaSPlain
namespace Go.Proofs.Ytpjnimmclncdoaa
open Go.RowKit
set_option linter.unusedVariables false
set_option linter.unusedSimpArgs false

theorem info_w : (Try.prog.info? 36).map (fun i => (i.zero, i.size, i.bytes)) = some (some (.int .u64 0), 1, 8) := by kernel_rfl
def Wds (zs : List Int) : Prop := ∀ z ∈ zs, Wd z
theorem Wds.at {zs : List Int} (h : Wds zs) (j : Nat) (hj : j < zs.length) : Wd (zs.getD j 0) := by
  have e : zs.getD j 0 = zs[j] := by simp [List.getD, hj]
  rw [e]; exact h _ (List.getElem_mem hj)
def w64s (l : List Int) : List Value := l.map (Value.int .u64)
theorem w64s_length (l : List Int) : (w64s l).length = l.length := List.length_map ..
theorem w64s_set (l : List Int) (j : Nat) (x : Int) : (w64s l).set j (.int .u64 x) = w64s (l.set j x) := by simp [w64s, List.map_set]
/-- A slice at ao of n numbers, which are zs. -/
structure SeenU (w : World) (ao : Option Addr) (n : Nat) (zs : List Int) : Prop where
  len : zs.length = n
  top : n ≤ 1000
  wd : Wds zs
  cells : 0 < n → ∃ b o, ao = some ⟨b, o, none⟩ ∧ b < w.heap.size ∧ ∀ i, i < n → w.cell? ⟨b, o + i, none⟩ = some (.int .u64 (zs.getD i 0))
theorem SeenU.later {w w' : World} {ao : Option Addr} {n : Nat} {zs : List Int} (h : SeenU w ao n zs) {B : Nat} (hb : Below B w w') (hB : w.heap.size ≤ B) : SeenU w' ao n zs :=
  ⟨h.len, h.top, h.wd, fun hn => by
    obtain ⟨b, o, e, hlt, hc⟩ := h.cells hn
    exact ⟨b, o, e, Nat.lt_of_lt_of_le hlt hb.size, fun i hi => (hb.cell (p := ⟨b, o + i, none⟩) (Nat.lt_of_lt_of_le hlt hB)).trans (hc i hi)⟩⟩
theorem SeenU.kept {S : Nat → Prop} {w w' : World} {ao : Option Addr} {n : Nat} {zs : List Int} (h : SeenU w ao n zs) (hk : Kept S w w') (hS : ∀ b, b < w.heap.size → ¬ S b) : SeenU w' ao n zs :=
  ⟨h.len, h.top, h.wd, fun hn => by
    obtain ⟨b, o, e, hlt, hc⟩ := h.cells hn
    exact ⟨b, o, e, Nat.lt_of_lt_of_le hlt hk.size, fun i hi => (hk.cell (p := ⟨b, o + i, none⟩) hlt (hS b hlt)).trans (hc i hi)⟩⟩
/-- Block g begins with the numbers zs, has room for cap, and may be written. -/
def RowU (w : World) (r cap : Nat) (zs : List Int) : Prop := ∃ rest : List Value, w.heap[r]? = some (.cells (w64s zs ++ rest).toArray 36 (0, 0)) ∧ zs.length + rest.length = cap
theorem RowU.cell {w : World} {g cap : Nat} {zs : List Int} (h : RowU w g cap zs) (j : Nat) (hj : j < zs.length) : w.cell? ⟨g, j, none⟩ = some (.int .u64 (zs.getD j 0)) := by
  obtain ⟨rest, h, _⟩ := h
  rw [cell_of_row w g j _ 36 (0, 0) h]
  simp [w64s, hj, List.getElem?_append]
theorem RowU.frozen {w : World} {g cap : Nat} {zs : List Int} (h : RowU w g cap zs) (j : Nat) : w.frozen? ⟨g, j, none⟩ = false := by
  obtain ⟨rest, h, _⟩ := h
  exact frozen_of_row w g j _ 36 h
theorem RowU.set {w : World} {g cap : Nat} {zs : List Int} (h : RowU w g cap zs) (j : Nat) (hj : j < zs.length) (z : Int) : RowU (w.setCell ⟨g, j, none⟩ (.int .u64 z)) g cap (zs.set j z) := by
  obtain ⟨rest, h, hc⟩ := h
  refine ⟨rest, ?_, by simpa using hc⟩
  rw [heap_setCell_same w g j _ 36 _ h, ← w64s_set]
  simp [w64s_length, hj]
theorem RowU.lt {w : World} {g cap : Nat} {zs : List Int} (h : RowU w g cap zs) : g < w.heap.size := by
  obtain ⟨rest, h, _⟩ := h
  rcases Nat.lt_or_ge g w.heap.size with h' | h'
  · exact h'
  · rw [Array.getElem?_eq_none h'] at h; cases h
theorem RowU.block {w w' : World} {r cap : Nat} {zs : List Int} (h : RowU w r cap zs) (e : w'.heap[r]? = w.heap[r]?) : RowU w' r cap zs := by
  obtain ⟨rest, h, hc⟩ := h
  exact ⟨rest, by rw [e]; exact h, hc⟩
theorem RowU.later {w w' : World} {r cap : Nat} {zs : List Int} (h : RowU w r cap zs) {B : Nat} (hb : Below B w w') (hB : w.heap.size ≤ B) : RowU w' r cap zs := h.block (hb.block r (Nat.lt_of_lt_of_le h.lt hB))
theorem RowU.drew {w : World} {r cap : Nat} {zs : List Int} (h : RowU w r cap zs) : RowU w.drew r cap zs := h
theorem RowU.of_own {w : World} {base r n cap : Nat} {zs : List Int} (h : w.ownsRow base 36 1 (.slice (some ⟨r, 0, none⟩) n cap) n (w64s zs)) : RowU w r cap zs ∧ base ≤ r ∧ n ≤ cap ∧ cap ≤ maxLen ∧ zs.length = n := by
  obtain ⟨hl, h⟩ := h
  rcases h with ⟨h, _⟩ | ⟨g', cap', cur, h, hb, hh, hc, hm, hs, ht⟩
  · cases h
  · simp only [Value.slice.injEq, Option.some.injEq, Addr.mk.injEq, and_true, true_and] at h
    obtain ⟨rfl, rfl⟩ := h
    rw [Nat.mul_one] at ht hs
    have hl' : zs.length = n := by simpa [w64s] using hl
    refine ⟨⟨cur.toList.drop n, ?_, ?_⟩, hb, hc, hm, hl'⟩
    · rw [← ht, List.take_append_drop]; simpa using hh
    · simp; omega
theorem RowU.own {w : World} {base r n cap : Nat} {zs : List Int} (h : RowU w r cap zs) (hl : zs.length = n) (hb : base ≤ r) (hm : cap ≤ maxLen) : w.ownsRow base 36 1 (.slice (some ⟨r, 0, none⟩) n cap) n (w64s zs) := by
  obtain ⟨rest, h, hc⟩ := h
  refine ⟨by rw [w64s_length]; omega, .inr ⟨r, cap, _, rfl, hb, h, by omega, hm, by simp [w64s_length]; omega, ?_⟩⟩
  rw [Nat.mul_one]
  simp [w64s_length, hl]
theorem RowU.seen {w : World} {g cap : Nat} {zs : List Int} (h : RowU w g cap zs) (ht : zs.length ≤ 1000) (hs : Wds zs) : SeenU w (some ⟨g, 0, none⟩) zs.length zs :=
  ⟨rfl, ht, hs, fun _ => ⟨g, 0, rfl, h.lt, fun i hi => by rw [Nat.zero_add]; exact h.cell i hi⟩⟩
theorem ownU {w : World} {base n : Nat} {v : Value} {zs : List Int} (hl : zs.length = n) (h : w.ownsRow base 36 1 v n (w64s zs)) :
    (v = .slice none 0 0 ∧ n = 0 ∧ zs = []) ∨ ∃ g cap, v = .slice (some ⟨g, 0, none⟩) n cap ∧ RowU w g cap zs ∧ base ≤ g ∧ n ≤ cap ∧ cap ≤ maxLen := by
  rcases h.2 with ⟨h1, h2⟩ | ⟨g, cap, cur, rfl, r⟩
  · left
    subst h2
    exact ⟨h1, rfl, List.length_eq_zero_iff.1 hl⟩
  · right
    have := RowU.of_own h
    exact ⟨g, cap, rfl, this.1, this.2.1, this.2.2.1, this.2.2.2.1⟩
/-- A slice of these numbers. -/
def isU (zs : List Int) (v : Value) (w : World) : Prop := ∃ vo n c, v = .slice vo n c ∧ SeenU w vo n zs
theorem isU_later (zs : List Int) : ∀ v w w', Below w.heap.size w w' → isU zs v w → isU zs v w' := fun _ _ _ hb ⟨b, o, c, h1, h2⟩ => ⟨b, o, c, h1, h2.later hb (Nat.le_refl _)⟩
theorem isU_own {w : World} {base n : Nat} {v : Value} {zs : List Int} (hl : zs.length = n) (ht : n ≤ 1000) (hs : Wds zs) (h : w.ownsRow base 36 1 v n (w64s zs)) : isU zs v w := by
  rcases ownU hl h with ⟨rfl, rfl, rfl⟩ | ⟨g, cap, rfl, hr, _, _, _⟩
  · exact ⟨none, 0, 0, rfl, rfl, Nat.zero_le _, (fun d hd => by cases hd), fun h => (by omega)⟩
  · subst hl
    exact ⟨_, _, cap, rfl, hr.seen ht hs⟩
/-- A number more. -/
theorem ownU_more {w wr w1 : World} {v v' : Value} {zs : List Int} {z : Int}
    (hb : Below w.heap.size w wr) (hown : wr.ownsRow w.heap.size 36 1 v zs.length (w64s zs))
    (hown' : w1.ownsRow w.heap.size 36 1 v' (zs.length + 1) (w64s zs ++ [.int .u64 z])) (hg : (wr.alloc (.cells #[.int .u64 z] 36)).grownBy w1 v.ownBlock) :
    w1.ownsRow w.heap.size 36 1 v' (zs ++ [z]).length (w64s (zs ++ [z])) ∧ Below w.heap.size w w1 := by
  constructor
  · rw [w64s, List.map_append, List.length_append]; exact hown'
  · exact (hb.alloc hb.size _).grown hg (by have := hb.size; simp; omega) (fun j hj => (hown.lt j hj).1)
theorem madeU (n : Nat) : (madeCells #[Value.int .u64 0] n) = (w64s (List.replicate n 0)).toArray := by
  apply Array.ext'
  rw [toList_madeCells_one]
  simp [w64s]
set_option maxHeartbeats 1000000 in
set_option maxRecDepth 20000 in
theorem rlittle_any (ao : Option Addr) (n c : Nat) (zs : List Int) (k : Nat) (hk : k ≤ 8) (w : World) (hx : Seen w ao n zs) :
    Calls Try.prog 42 #[.slice ao n c, .int .i64 k] w fun e w' => e = .returned (.tuple #[.int .u64 (leV k n zs), .int .i64 (fit n k)]) ∧ w = w' := by
  have t1 := hx.top
  rcases Nat.lt_trichotomy n k with h | h | h
  · rw [fit_short h, leV_no zs (by omega)]
    have h1 : (n : Int) < (k : Int) := by omega
    go_enter Try.func42, Try.ntmps42
    go_wp2
    go_ret2
    exact ⟨rfl, rfl⟩
  · subst h
    rw [fit_ok, leV_ok]
    have HL : Hid (zs.length = n) := hx.len
    have HB : Hid (Bytes zs) := hx.bytes
    go_enter Try.func42, Try.ntmps42
    go_wp2
    go_loopw [6, 7] (fun v i wr => ∃ (m : Nat) (I : Int), m ≤ n ∧ I + 1 = m ∧ i = .int .i64 I ∧ v = .int .u64 (le (zs.drop m)) ∧ wr = w) (fun _ i _ => (intOf i + 1).toNat)
    case atStart => exact ⟨n, (n : Int) - 1, Nat.le_refl _, by omega, rfl, by rw [List.drop_of_length_le (by have := HL.out; omega)]; rfl, rfl⟩
    case round =>
      obtain ⟨m, I, hm, hI, rfl, rfl, rfl⟩ := hrel
      by_cases hlt : 0 < m
      · obtain ⟨b, o, rfl, hb, hc⟩ := hx.cells (by omega)
        obtain ⟨p, rfl⟩ : ∃ p, m = p + 1 := ⟨m - 1, by omega⟩
        obtain rfl : I = (p : Int) := by omega
        have c1 := hc p (by omega)
        have hd := le_drop zs p (by have := HL.out; omega)
        have hbd := le_drop_bd zs HB.out n (p + 1) HL.out hk (by omega)
        have hz := HB.out.at p (by have := HL.out; omega)
        have hbd2 := le_bd (zs.drop p) (bytes_drop HB.out p)
        have hlt2 : le (zs.drop p) < 18446744073709551616 := by
          have : 256 ^ (zs.drop p).length ≤ 256 ^ 8 := Nat.pow_le_pow_right (by decide) (by rw [List.length_drop]; have := HL.out; omega)
          have h2 : (256 : Int) ^ (zs.drop p).length ≤ 256 ^ 8 := by
            show ((256 : Nat) : Int) ^ _ ≤ ((256 : Nat) : Int) ^ 8
            rw [← Int.natCast_pow, ← Int.natCast_pow]
            exact Int.ofNat_le.2 this
          omega
        obtain ⟨Z, hZ⟩ : ∃ Z, zs.getD p 0 = Z := ⟨_, rfl⟩
        obtain ⟨A, hA⟩ : ∃ A, le (zs.drop (p + 1)) = A := ⟨_, rfl⟩
        rw [hZ] at c1 hd hz
        rw [hA] at hd hbd
        rw [hd] at hlt2
        have HO : Hid (A * 256 + Z = le (zs.drop p)) := by show _ = _; rw [hd]; omega
        rw [hA]
        have w1 : A * 256 % 18446744073709551616 = A * 256 := by omega
        have w2 : (A * 256 + Z) % 18446744073709551616 = A * 256 + Z := by omega
        have i1 : (0 : Int) ≤ (p : Int) := by omega
        have i2 : (p : Int) < (n : Int) := by omega
        clear hZ hA hc hx hd hbd2
        go_wp2
        go_roundw
        case rel => exact ⟨p, (p : Int) - 1, by omega, by omega, by go_num, by rw [← HO.out], by first | rfl | trivial⟩
        case measure => simp [intOf] <;> omega
      · obtain rfl : m = 0 := by omega
        obtain rfl : I = -1 := by omega
        rw [List.drop_zero]
        obtain ⟨A, hA⟩ : ∃ A, le zs = A := ⟨_, rfl⟩
        rw [hA]
        have HA : Hid (le zs = A) := hA
        clear hx hA
        go_wp2
        go_ret2
        exact ⟨by rw [HA.out]; rfl, rfl⟩
  · rw [fit_rest h, leV_no zs (by omega)]
    have h1 : (k : Int) < (n : Int) := by omega
    go_enter Try.func42, Try.ntmps42
    go_wp2
    go_ret2
    exact ⟨rfl, rfl⟩

set_option maxHeartbeats 1000000 in
set_option maxRecDepth 20000 in
theorem rbytes_any (x : Int) (hv : Word x) (k : Nat) (hk : k ≤ 8) (w : World) :
    Calls Try.prog 24 #[.int .u64 x, .int .i64 k] w fun e w' => ∃ v, e = .returned v ∧ w'.ownsRow w.heap.size 5 1 v k ((leB k x).map (Value.int .u8)) ∧ Below w.heap.size w w' := by
  have A1 : Hid (∀ i, i < k → (leB k x).getD i 0 = x / 256 ^ i % 256) := fun i hi => leB_at _ _ _ hi
  have A4 : Hid ((leB k x).length = k) := leB_length _ _
  generalize leB k x = zm at *
  obtain ⟨i0, hi, hz0, hz1, hz2⟩ := info_parts info_byte
  go_enter Try.func24, Try.ntmps24
  go_wp2
  go_loopw [0, 5, 6] (fun u v i wr => ∃ m : Nat, m ≤ k ∧ u = .int .u64 (x / 256 ^ m) ∧ i = .int .i64 m ∧ wr.ownsRow w.heap.size 5 1 v m ((zm.map (Value.int .u8)).take m) ∧ Below w.heap.size w wr) (fun _ _ i _ => k - (intOf i).toNat)
  case atStart => exact ⟨0, Nat.zero_le _, by simp, rfl, by simpa using World.ownsRow_nil _ _ _ _, Below.refl _ _⟩
  case round =>
    obtain ⟨m, hm, rfl, rfl, hown, hbel⟩ := hrel
    have hq : 0 ≤ x / 256 ^ m ∧ x / 256 ^ m < 18446744073709551616 := by
      have hp : (0 : Int) < 256 ^ m := Int.pow_pos (by decide)
      have h1 := Int.ediv_nonneg hv.1 (Int.le_of_lt hp)
      have h2 : x / 256 ^ m ≤ x := Int.ediv_le_self _ hv.1
      have h3 := hv.2
      exact ⟨h1, by omega⟩
    have HP : Hid (x / 256 ^ (m + 1) = x / 256 ^ m / 256) := by
      show _ = _
      rw [Int.pow_succ, Int.ediv_ediv_of_nonneg (Int.le_of_lt (Int.pow_pos (by decide)))]
    by_cases hlt : m < k
    · have HZ : Hid (zm.getD m 0 = x / 256 ^ m % 256) := A1.out m hlt
      obtain ⟨Y, hY⟩ : ∃ Y, x / 256 ^ m = Y := ⟨_, rfl⟩
      have HY : Hid (x / 256 ^ m = Y) := hY
      rw [hY] at hq ⊢
      have e1 : Y % 256 % 256 = Y % 256 := by omega
      have hsz := hbel.size
      have i2 : (m : Int) < (k : Int) := by omega
      clear hY
      go_wp2_with (at_builtin; refine wpList_append_own _ rfl _ _ 41 rfl w.heap.size 5 i0 (.int .u8 0) 1 1 Try.underlying41 hi hz0 hz1 hz2 rfl (by decide) _ _ _ rfl (hown.alloc _) ⟨wr.heap.size, 0, none⟩ 1 1 [.int .u8 (Y % 256)] rfl rfl ?c1 ?c2 ?c3 ?c4 ?c5 ?_)
      case c1 => exact cell_one_new _ _ _
      case c2 => intro u hu; simp at hu; subst hu; rfl
      case c3 => unfold maxLen; omega
      case c4 => omega
      case c5 => simp; omega
      · intro v' w1 hown' hgrow _
        have R := step_own hbel hown (by have := A4.out; omega) (by rw [HZ.out, HY.out]) hown' hgrow
        clear hown' hgrow hown hbel
        go_wp2
        go_roundw
        case rel => exact ⟨m + 1, by omega, by rw [HP.out, HY.out], by go_num, R.1, R.2⟩
        case measure => simp [intOf]; omega
    · obtain rfl : m = k := by omega
      have HO : Hid (wr.ownsRow w.heap.size 5 1 u5 m ((zm.map (Value.int .u8)).take m)) := hown
      have HB : Hid _ := hbel
      clear hown hbel
      go_wp2
      go_ret
      refine ⟨_, rfl, ?_, HB.out⟩
      have h := HO.out
      rwa [List.take_of_length_le (by have := A4.out; simp; omega)] at h

theorem rnum_any (ao : Option Addr) (n c : Nat) (zs : List Int) (hn : n ≤ 8) (w : World) (hx : Seen w ao n zs) : Calls Try.prog 36 #[.slice ao n c] w fun e w' => e = .returned (.int .u64 (le zs)) ∧ w = w' := by
  have h := rlittle_any ao n c zs n hn w hx
  rw [leV_ok] at h
  go_enter Try.func36, Try.ntmps36
  go_wp2_with (go_at_call 42; refine h.mono ?_; rintro e w' ⟨rfl, rfl⟩)
  go_ret
  exact ⟨rfl, rfl⟩
theorem le4_wd (l : List Int) (hb : Bytes l) (hl : l.length = 4) : Wd (le l) := by
  have h := le_bd l hb
  rw [hl] at h
  exact ⟨h.1, h.2⟩
theorem wds_wd (zs : List Int) (k : Nat) (hb : Bytes zs) (hl : 4 * k ≤ zs.length) : Wds (wds zs k) := by
  intro z hz
  simp only [wds, List.mem_map, List.mem_range] at hz
  obtain ⟨t, ht, rfl⟩ := hz
  exact le4_wd _ (bytes_take (bytes_drop hb _) _) (by rw [List.length_take, List.length_drop]; omega)
theorem ownU_next {w wr w1 : World} {v v' : Value} {zs : List Int} {z : Int} {k : Nat} (hl : zs.length = k)
    (hb : Below w.heap.size w wr) (hown : wr.ownsRow w.heap.size 36 1 v k (w64s zs))
    (hown' : w1.ownsRow w.heap.size 36 1 v' (k + 1) (w64s zs ++ [.int .u64 z])) (hg : (wr.alloc (.cells #[.int .u64 z] 36)).grownBy w1 v.ownBlock) :
    w1.ownsRow w.heap.size 36 1 v' (k + 1) (w64s (zs ++ [z])) ∧ Below w.heap.size w w1 := by
  subst hl
  have R := ownU_more (zs := zs) (z := z) hb hown hown' hg
  rwa [List.length_append] at R
set_option maxHeartbeats 1000000 in
set_option maxRecDepth 20000 in
theorem words_any (ao : Option Addr) (K c : Nat) (zs : List Int) (hK : K ≤ 8) (w : World) (hx : Seen w ao (4 * K) zs) (hc : 4 * K ≤ c) :
    Calls Try.prog 30 #[.slice ao (4 * K) c] w fun e w' => ∃ v, e = .returned v ∧ isU (wds zs K) v w' ∧ Below w.heap.size w w' := by
  have HX : Hid (Seen w ao (4 * K) zs ∧ zs.length = 4 * K ∧ Bytes zs) := ⟨hx, hx.len, hx.bytes⟩
  obtain ⟨i0, hi, hz0, hz1, hz2⟩ := info_parts info_w
  clear hx
  go_enter Try.func30, Try.ntmps30
  go_wp2_with fail
  go_loopw [3, 4] (fun v i wr => ∃ k : Nat, k ≤ K ∧ i = .int .i64 (4 * (k : Int)) ∧ wr.ownsRow w.heap.size 36 1 v k (w64s (wds zs k)) ∧ Below w.heap.size w wr) (fun _ i _ => 4 * K - (intOf i).toNat)
  case atStart => exact ⟨0, Nat.zero_le _, rfl, World.ownsRow_nil _ _ _ _, Below.refl _ _⟩
  case round =>
    obtain ⟨k, hk, rfl, hown, hbel⟩ := hrel
    have hsz := hbel.size
    by_cases hlt : k < K
    · have i1 : 4 * (k : Int) + 4 ≤ 4 * (K : Int) := by omega
      have i2 : (0 : Int) ≤ 4 * (k : Int) := by omega
      have hsl : ∀ W, (Instr.sliceAt 41 (.slice ao (4 * K) c) (some (.int .i64 (4 * (k : Int)))) (some (.int .i64 (4 * (k : Int) + 4))) none).run Try.prog W = .ok (.slice (subA ao (4 * k) c) 4 (c - 4 * k)) W := fun W => by
        have := sl_lh ao (4 * K) c (4 * k) (4 * k + 4) (by omega) (by omega) W
        rw [Nat.add_sub_cancel_left] at this
        simpa using this
      have hs4 := (HX.out.1.later hbel (Nat.le_refl _)).sub (4 * k) (4 * k + 4) c (by omega) (by omega) hc
      rw [Nat.add_sub_cancel_left] at hs4
      have HS : Hid (Seen wr (subA ao (4 * k) c) 4 ((zs.drop (4 * k)).take 4)) := hs4
      obtain ⟨Z, HZ⟩ : ∃ Z, Hid (le ((zs.drop (4 * k)).take 4) = Z) := ⟨_, rfl⟩
      have HE : Hid (wds zs (k + 1) = wds zs k ++ [Z]) := by show _ = _; rw [wds_succ, ← HZ.out]; rfl
      clear hs4
      go_wp2_with fail
      refine (rnum_any _ 4 (c - 4 * k) _ (by decide) wr HS.out).mono ?_
      rintro e w' ⟨rfl, rfl⟩
      rw [HZ.out]
      go_wp2_with (at_builtin; refine wpList_append_own _ rfl _ _ 60 rfl w.heap.size 36 i0 (.int .u64 0) 1 8 Try.underlying60 hi hz0 hz1 hz2 rfl (by decide) _ _ _ rfl (hown.alloc _) ⟨wr.heap.size, 0, none⟩ 1 1 [.int .u64 Z] rfl rfl ?c1 ?c2 ?c3 ?c4 ?c5 ?_)
      try case c1 => exact one_new _ _ _
      case c2 => first | rfl | (intro u hu; simp at hu; subst hu; rfl)
      case c3 => unfold maxLen; omega
      case c4 => omega
      case c5 => first | omega | (simp; omega)
      · intro v' w1 hown' hgrow _
        have R := ownU_next (wds_length zs k) hbel hown hown' hgrow
        clear hown' hgrow hown hbel
        go_wp2_with fail
        exact ⟨⟨k + 1, by omega, by go_num, by rw [HE.out]; exact R.1, R.2⟩, by simp [intOf]; omega⟩
    · obtain rfl : K = k := by omega
      have i1 : ¬ 4 * (K : Int) + 4 ≤ 4 * (K : Int) := by omega
      have HO : Hid (isU (wds zs K) u3 wr ∧ Below w.heap.size w wr) := ⟨isU_own (wds_length zs K) (by omega) (wds_wd zs K HX.out.2.2 (by rw [HX.out.2.1]; exact Nat.le_refl _)) hown, hbel⟩
      clear hown hbel
      go_wp2_with fail
      go_ret
      exact ⟨_, rfl, HO.out⟩
end Go.Proofs.Ytpjnimmclncdoaa
