/- The document's Apart: lists that were answered are apart from one another. -/
import Derived.Test.YtiimjhahblmggaaDoorRLent
import Derived.Test.YtiimjhahblmggaaDoorDRows
import Derived.Deep.DrawnRows
namespace Go.Proofs.YtiimjhahblmggaaDoor
open Go.RowKit
set_option linter.unusedVariables false
set_option linter.unusedSimpArgs false

theorem one_header (a : Option Addr) (n c : Nat) : ∀ u ∈ [Value.slice a n c], u.oneCell' = true := by intro u hu; simp at hu; subst hu; rfl
theorem row_grown {w w' : World} {g : Nat} {zs : List Int} {row : Option Nat} (h : RowAt w g zs) (hg : w.grownBy w' row) (hne : some g ≠ row) : RowAt w' g zs := h.block (hg.block g h.lt hne)
/-- n lists behind the headers of block O, each as long as its room, list j holding f j, in blocks that are apart. -/
structure Lot (w : World) (O n : Nat) (V : Nat → Option Addr) (len : Nat → Nat) (f : Nat → Nat → Int) : Prop where
  olt : O < w.heap.size
  heads : ∀ j, j < n → w.cell? ⟨O, j, none⟩ = some (.slice (V j) (len j) (len j))
  nil : ∀ j, j < n → V j = none → len j = 0
  cells : ∀ j t, j < n → t < len j → ∃ g, V j = some ⟨g, 0, none⟩ ∧ g ≠ O ∧ g < w.heap.size ∧ w.cell? ⟨g, t, none⟩ = some (.int .u8 (f j t)) ∧ w.frozen? ⟨g, t, none⟩ = false
  apart : ∀ j j' g, j < n → j' < n → 0 < len j → 0 < len j' → V j = some ⟨g, 0, none⟩ → V j' = some ⟨g, 0, none⟩ → j = j'
/-- The blocks that hold the lists. -/
def LotS (n : Nat) (V : Nat → Option Addr) (len : Nat → Nat) (k : Nat) : Prop := ∃ j, j < n ∧ 0 < len j ∧ V j = some ⟨k, 0, none⟩
def put (f : Nat → Nat → Int) (j t : Nat) (z : Int) : Nat → Nat → Int := fun j' t' => if j' = j ∧ t' = t then z else f j' t'
theorem Lot.set {w : World} {O n : Nat} {V : Nat → Option Addr} {len : Nat → Nat} {f : Nat → Nat → Int} (h : Lot w O n V len f) {j t g : Nat} (hj : j < n) (ht : t < len j) (hg : V j = some ⟨g, 0, none⟩) (hO : g ≠ O) (z : Int) :
    Lot (w.setCell ⟨g, t, none⟩ (.int .u8 z)) O n V len (put f j t z) := by
  have hs : (w.setCell ⟨g, t, none⟩ (.int .u8 z)).heap.size = w.heap.size := by simp [World.setCell]
  refine ⟨by rw [hs]; exact h.olt, fun j' hj' => ?_, h.nil, fun j' t' hj' ht' => ?_, h.apart⟩
  · rw [World.cell?_setCell_other _ _ _ _ (by intro e; simp only [Addr.mk.injEq] at e; exact hO e.1)]
    exact h.heads j' hj'
  · obtain ⟨g', e', hO', hlt', hc', hf'⟩ := h.cells j' t' hj' ht'
    refine ⟨g', e', hO', by rw [hs]; exact hlt', ?_, by simpa using hf'⟩
    by_cases e : j' = j ∧ t' = t
    · obtain ⟨rfl, rfl⟩ := e
      rw [hg] at e'
      simp at e'
      subst e'
      rw [World.cell?_setCell_same _ _ _ hc']
      simp [put]
    · rw [World.cell?_setCell_other _ _ _ _ (by
        intro e1
        simp at e1
        obtain ⟨rfl, rfl⟩ := e1
        exact e ⟨(h.apart j j' g hj hj' (by omega) (by omega) hg e').symm, rfl⟩), hc']
      simp [put, e]
theorem Lot.congr {w : World} {O n : Nat} {V : Nat → Option Addr} {len : Nat → Nat} {f f' : Nat → Nat → Int} (h : Lot w O n V len f) (e : ∀ j t, j < n → t < len j → f j t = f' j t) : Lot w O n V len f' :=
  ⟨h.olt, h.heads, h.nil, fun j t hj ht => by rw [← e j t hj ht]; exact h.cells j t hj ht, h.apart⟩
theorem Lot.later {w w' : World} {O n : Nat} {V : Nat → Option Addr} {len : Nat → Nat} {f : Nat → Nat → Int} (h : Lot w O n V len f) {B : Nat} (hb : Below B w w') (hB : w.heap.size ≤ B) : Lot w' O n V len f :=
  ⟨Nat.lt_of_lt_of_le h.olt hb.size, fun j hj => (hb.cell (p := ⟨O, j, none⟩) (Nat.lt_of_lt_of_le h.olt hB)).trans (h.heads j hj), h.nil, fun j t hj ht => by
    obtain ⟨g, e, hO, hlt, hc, hf⟩ := h.cells j t hj ht
    exact ⟨g, e, hO, Nat.lt_of_lt_of_le hlt hb.size, (hb.cell (p := ⟨g, t, none⟩) (Nat.lt_of_lt_of_le hlt hB)).trans hc, (hb.frozen (p := ⟨g, t, none⟩) (Nat.lt_of_lt_of_le hlt hB)).trans hf⟩, h.apart⟩

/-- The first marks: those up to (i, k) are laid. -/
def mark1 (j t : Nat) : Int := ((j : Int) * 31 + (t : Int)) % 256
def laid1 (f : Nat → Nat → Int) (i k : Nat) : Nat → Nat → Int := fun j t => if j < i ∨ (j = i ∧ t < k) then mark1 j t else f j t
theorem laid1_put (f : Nat → Nat → Int) (i k : Nat) : ∀ j t, put (laid1 f i k) i k (mark1 i k) j t = laid1 f i (k + 1) j t := by
  intro j t
  unfold put laid1
  by_cases h : j = i ∧ t = k
  · obtain ⟨rfl, rfl⟩ := h; simp
  · rw [if_neg h]
    by_cases h1 : j < i ∨ (j = i ∧ t < k)
    · rw [if_pos h1, if_pos (by omega)]
    · rw [if_neg h1, if_neg (by omega)]
theorem laid1_next (f : Nat → Nat → Int) (len : Nat → Nat) (i : Nat) : ∀ j t, t < len j → laid1 f i (len i) j t = laid1 f (i + 1) 0 j t := by
  intro j t ht
  unfold laid1
  by_cases h : j < i ∨ (j = i ∧ t < len i)
  · rw [if_pos h, if_pos (by omega)]
  · have h2 : ¬ (j < i + 1 ∨ (j = i + 1 ∧ t < 0)) := by
      intro h3
      rcases h3 with h3 | h3
      · have : j = i := by omega
        subst this; exact h (.inr ⟨rfl, ht⟩)
      · omega
    rw [if_neg h, if_neg h2]
theorem laid1_all (f : Nat → Nat → Int) (n : Nat) : ∀ j t, j < n → laid1 f n 0 j t = mark1 j t := by
  intro j t hj; unfold laid1; rw [if_pos (.inl hj)]

def mark2 (j t : Nat) : Int := (101 + (j : Int) * 17 + (t : Int)) % 256
def data (len : Nat → Nat) (j : Nat) : List Int := (List.range (len j)).map (mark1 j)
def grow (len : Nat → Nat) (j : Nat) : List Int := data len j ++ (List.range 70).map (mark2 j)
theorem data_length (len : Nat → Nat) (j : Nat) : (data len j).length = len j := by simp [data]
theorem grow_length (len : Nat → Nat) (j : Nat) : (grow len j).length = len j + 70 := by simp [grow, data]
theorem data_getD (len : Nat → Nat) (j t : Nat) (ht : t < len j) : (data len j)[t]? = some (mark1 j t) := by simp [data, ht]
theorem grow_getD (len : Nat → Nat) (j t : Nat) (ht : t < 70) : (grow len j)[len j + t]? = some (mark2 j t) := by
  unfold grow
  rw [List.getElem?_append_right (by rw [data_length]; omega), data_length]
  simp [ht]
theorem grow_take (len : Nat → Nat) (j : Nat) : ((grow len j).map (Value.int .u8)).take (len j) = (data len j).map (Value.int .u8) := by
  unfold grow
  rw [List.map_append, List.take_append_of_le_length (by simp [data]), List.take_of_length_le (by simp [data])]
theorem grow_succ (len : Nat → Nat) (j t : Nat) (ht : t < 70) : ((grow len j).map (Value.int .u8)).take (len j + (t + 1)) = ((grow len j).map (Value.int .u8)).take (len j + t) ++ [.int .u8 (mark2 j t)] := by
  have h1 : len j + t < ((grow len j).map (Value.int .u8)).length := by rw [List.length_map, grow_length]; omega
  rw [← Nat.add_assoc, List.take_succ_eq_append_getElem h1]
  congr 1
  have h2 := grow_getD len j t ht
  have h3 : len j + t < (grow len j).length := by rw [grow_length]; omega
  rw [List.getElem?_eq_getElem h3] at h2
  simp only [Option.some.injEq] at h2
  rw [List.getElem_map, h2]

theorem lot_olds {w : World} {O n : Nat} {V : Nat → Option Addr} {len : Nat → Nat} (h : Lot w O n V len mark1) {k : Nat} (hk : k < n) :
    ∀ b, V k = some b → ∀ j u, ((data len k).map (Value.int .u8))[j]? = some u → w.cell? (b.add j) = some u := by
  intro b hb j u hj
  have hlt : j < len k := by
    rcases Nat.lt_or_ge j (len k) with h' | h'
    · exact h'
    · rw [List.getElem?_eq_none (by simpa [data] using h')] at hj; cases hj
  obtain ⟨g, e, _, _, hc, _⟩ := h.cells k j hk hlt
  rw [hb] at e
  simp at e
  subst e
  have e : (⟨g, 0, none⟩ : Addr).add j = ⟨g, j, none⟩ := by
    unfold Addr.add; split
    · subst j; rfl
    · simp
  rw [e, hc, ← hj]
  simp [data, hlt]
theorem one_int (z : Int) : ∀ u ∈ [Value.int .u8 z], u.oneCell' = true := by
  intro u hu; simp at hu; subst hu; rfl
/-- The lists that were grown, i of them. -/
structure Grew (base : Nat) (w : World) (gv : Value) (i : Nat) (len : Nat → Nat) (hd : List Value) : Prop where
  outer : w.ownsRow base 22 1 gv i hd
  inner : ∀ j, j < i → ∃ g cap, hd[j]? = some (.slice (some ⟨g, 0, none⟩) (len j + 70) cap) ∧ RowAt w g (grow len j)
theorem Grew.step {base : Nat} {w w1 w2 : World} {gv gv' : Value} {i : Nat} {len : Nat → Nat} {hd : List Value} {g cap : Nat} (h : Grew base w gv i len hd) (hb : Below w.heap.size w w1) (hr : RowAt w1 g (grow len i))
    (ho : w2.ownsRow base 22 1 gv' (i + 1) (hd ++ [.slice (some ⟨g, 0, none⟩) (len i + 70) cap])) (hg : (w1.alloc (.cells #[.slice (some ⟨g, 0, none⟩) (len i + 70) cap] 22)).grownBy w2 gv.ownBlock) :
    Grew base w2 gv' (i + 1) len (hd ++ [.slice (some ⟨g, 0, none⟩) (len i + 70) cap]) := by
  have hl : hd.length = i := by have := h.outer.1; omega
  have ho1 : w1.ownsRow base 22 1 gv i hd := ownsRow_below h.outer hb
  have keep : ∀ g zs, RowAt w1 g zs → RowAt w2 g zs := fun g zs h => row_grown (h.alloc _) hg (row_ne h ho1)
  refine ⟨ho, fun j hj => ?_⟩
  by_cases hji : j < i
  · obtain ⟨g', cap', e', hr'⟩ := h.inner j hji
    exact ⟨g', cap', by rw [List.getElem?_append_left (by omega)]; exact e', keep _ _ (hr'.later hb (Nat.le_refl _))⟩
  · have e : j = i := by omega
    subst e
    exact ⟨g, cap, by rw [List.getElem?_append_right (by omega)]; simp [hl], keep _ _ hr⟩

set_option maxRecDepth 20000 in
set_option maxHeartbeats 4000000 in
theorem apart_any (O n c : Nat) (V : Nat → Option Addr) (len : Nat → Nat) (f : Nat → Nat → Int) (w : World) (hx : Lot w O n V len f) (hn : n ≤ 1048576) (hl : ∀ j, j < n → len j + 70 ≤ 140737488355328) :
    Calls Tryd.prog 28 #[.slice (some ⟨O, 0, none⟩) n c] w fun e w' => e = .returned (.bool true) ∧ Kept (LotS n V len) w w' := by
  go_enter Tryd.func28, Tryd.ntmps28
  go_wp2
  go_loopw [3, 4] (fun i _ wr => ∃ k : Nat, k ≤ n ∧ i = .int .i64 k ∧ Lot wr O n V len (laid1 f k 0) ∧ Kept (LotS n V len) w wr) (fun i _ _ => n - (intOf i).toNat)
  case atStart => exact ⟨0, Nat.zero_le _, rfl, hx.congr (fun j t _ _ => by unfold laid1; rw [if_neg (by omega)]), Kept.refl _ _⟩
  case round =>
    obtain ⟨i, hi, rfl, hlot, hkept⟩ := hrel
    by_cases hlt : i < n
    · have c1 := hlot.heads i hlt
      have tL := hl i hlt
      have a1 : (0 : Int) ≤ (i : Int) := by omega
      have a2 : (i : Int) < (n : Int) := by omega
      have HK : Hid _ := hkept
      have HH : Hid _ := hlot
      clear hkept hlot hx
      go_wp2
      go_loopw [4] (fun t wr => ∃ k : Nat, k ≤ len i ∧ t = .int .i64 k ∧ Lot wr O n V len (laid1 f i k) ∧ Kept (LotS n V len) w wr) (fun t _ => len i - (intOf t).toNat)
      case atStart => exact ⟨0, Nat.zero_le _, rfl, HH.out, HK.out⟩
      case round =>
        clear HK HH c1
        obtain ⟨k, hk, rfl, hlot, hkept⟩ := hrel
        have c1 := hlot.heads i hlt
        by_cases hlk : k < len i
        · obtain ⟨g, eg, hgO, hglt, hgc, hgf⟩ := hlot.cells i k hlt hlk
          have R1 : Hid _ := (hlot.set hlt hlk eg hgO (mark1 i k)).congr (fun j t _ _ => laid1_put f i k j t)
          have R2 : Hid _ := hkept.setCell (p := ⟨g, k, none⟩) (by exact ⟨i, hlt, by omega, eg⟩) (.int .u8 (mark1 i k))
          have a3 : (0 : Int) ≤ (k : Int) := by omega
          have a4 : (k : Int) < (len i : Int) := by omega
          have M : Hid (mark1 i k = ((i : Int) * 31 + (k : Int)) % 256) := rfl
          rw [eg] at c1
          clear hlot hkept eg
          go_wp2
          go_roundw
          case rel => exact ⟨k + 1, by omega, by go_num, R1.out, R2.out⟩
          case measure => simp [intOf]; omega
        · have e : k = len i := by omega
          subst e
          have R1 : Hid _ := hlot.congr (fun j t _ ht => laid1_next f len i j t ht)
          have R2 : Hid _ := hkept
          clear hlot hkept
          go_wp2
          go_roundw
          case rel => exact ⟨i + 1, by omega, by go_num, R1.out, R2.out⟩
          case measure => simp [intOf]; omega
    · have e : i = n := by omega
      subst e
      have hl1 := hlot.congr (fun j t hj _ => laid1_all f i j t hj)
      obtain ⟨w1, hw1⟩ : ∃ x, x = wr := ⟨_, rfl⟩
      subst hw1
      have HK1 : Hid _ := hkept
      clear hlot hkept hx
      obtain ⟨iB, hiB, hB0, hB1, hB2⟩ := info_parts info_byte
      obtain ⟨iL, hiL, hL0, hL1, hL2⟩ := info_parts info_bytes
      go_wp2
      go_loopw [5, 6, 7, 8] (fun gv a _ _ wr => ∃ (k : Nat) (hd : List Value), k ≤ i ∧ a = .int .i64 k ∧ Grew w1.heap.size wr gv k len hd ∧ Below w1.heap.size w1 wr) (fun _ a _ _ _ => i - (intOf a).toNat)
      case atStart => exact ⟨0, [], Nat.zero_le _, rfl, ⟨World.ownsRow_nil _ _ _ _, fun j h => by omega⟩, Below.refl _ _⟩
      case round =>
        obtain ⟨k, hd, hk, rfl, hgr, hbel⟩ := hrel
        have hlr := hl1.later hbel (Nat.le_refl _)
        by_cases hlt : k < i
        · have c1 := hlr.heads k hlt
          have tL := hl k hlt
          have a1 : (0 : Int) ≤ (k : Int) := by omega
          have a2 : (k : Int) < (i : Int) := by omega
          have hsz := hbel.size
          obtain ⟨w2, hw2⟩ : ∃ x, x = wr := ⟨_, rfl⟩
          subst hw2
          have HGR : Hid _ := hgr
          have HBE : Hid _ := hbel
          have HLR : Hid _ := hlr
          clear hgr hbel hlr
          go_wp2
          go_loopw [7, 8] (fun v t wr => ∃ m : Nat, m ≤ 70 ∧ t = .int .i64 m ∧ Below w2.heap.size w2 wr ∧ ((m = 0 ∧ v = .slice (V k) (len k) (len k)) ∨ (0 < m ∧ wr.ownsRow w2.heap.size 5 1 v (len k + m) (((grow len k).map (Value.int .u8)).take (len k + m))))) (fun _ t _ => 70 - (intOf t).toNat)
          case atStart => exact ⟨0, Nat.zero_le _, rfl, Below.refl _ _, .inl ⟨rfl, rfl⟩⟩
          case round =>
            clear c1
            obtain ⟨m, hm, rfl, hbw, hown⟩ := hrel
            have hsw := hbw.size
            have a5 : (0 : Int) ≤ (m : Int) := by omega
            have M : Hid (mark2 k m = (101 + (k : Int) * 17 + (m : Int)) % 256) := rfl
            have HBW : Hid _ := hbw
            by_cases hmt : m < 70
            · have hgs := grow_succ len k m hmt
              have HGS : Hid _ := hgs
              clear hgs
              rcases hown with ⟨rfl, rfl⟩ | ⟨hm0, hown⟩
              · have hno : V k = none → len k = 0 ∧ len k = 0 := fun h => ⟨HLR.out.nil k hlt h, HLR.out.nil k hlt h⟩
                have hlo : ((data len k).map (Value.int .u8)).length = len k * 1 := by rw [List.length_map, data_length, Nat.mul_one]
                have M0 : Hid (mark2 k 0 = (101 + (k : Int) * 17) % 256) := by show _ = _; simp [mark2]
                have HNO : Hid _ := hno
                have HLO : Hid _ := hlo
                have HLT : Hid (k < i) := hlt
                clear hno hlo hbw
                go_wp2_with (at_builtin; refine wpList_append_grows _ rfl _ _ 22 rfl 5 iB (.int .u8 0) 1 1 Tryd.underlying22 hiB hB0 hB1 hB2 rfl (by decide) (V k) (len k) (len k) ((data len k).map (Value.int .u8)) rfl HNO.out HLO.out (lot_olds ((HLR.out.later HBW.out (Nat.le_refl _)).later ((Below.refl _ _).alloc (Nat.le_refl _) _) (Nat.le_refl _)) HLT.out) ⟨wr.heap.size, 0, none⟩ 1 1 [_] rfl rfl (one_new _ _ _) (one_int _) (by omega) ?b1 ?b2 ?_)
                case b1 => unfold maxLen; omega
                case b2 => omega
                · intro v' w3 hown' hgrow
                  have R1 : w3.ownsRow w2.heap.size 5 1 v' (len k + (0 + 1)) (((grow len k).map (Value.int .u8)).take (len k + (0 + 1))) := by
                    rw [HGS.out]
                    show w3.ownsRow w2.heap.size 5 1 v' (len k + 1) (((grow len k).map (Value.int .u8)).take (len k) ++ [.int .u8 (mark2 k 0)])
                    rw [grow_take, M0.out]
                    exact ownsRow_base hown' (by first | omega | (simp; omega))
                  have R2 : Below w2.heap.size w2 w3 := (HBW.out.alloc hsw _).grown hgrow (by simp; omega) (fun j hj => by cases hj)
                  clear hown' hgrow
                  go_wp2
                  go_roundw
                  case rel => exact ⟨0 + 1, by omega, by go_num, R2, .inr ⟨by omega, R1⟩⟩
                  case measure => simp [intOf]
              · clear hbw
                go_wp2_with (at_builtin; refine wpList_append_own _ rfl _ _ 22 rfl w2.heap.size 5 iB (.int .u8 0) 1 1 Tryd.underlying22 hiB hB0 hB1 hB2 rfl (by decide) _ _ _ rfl (hown.alloc _) ⟨wr.heap.size, 0, none⟩ 1 1 [_] rfl rfl (one_new _ _ _) (one_int _) ?d1 ?d2 ?d3 ?_)
                case d1 => unfold maxLen; omega
                case d2 => omega
                case d3 => first | omega | (simp; omega)
                · intro v' w3 hown' hgrow _
                  have R1 : w3.ownsRow w2.heap.size 5 1 v' (len k + (m + 1)) (((grow len k).map (Value.int .u8)).take (len k + (m + 1))) := by
                    rw [HGS.out, M.out]; exact hown'
                  have R2 : Below w2.heap.size w2 w3 := (HBW.out.alloc hsw _).grown hgrow (by simp; omega) (fun j hj => (hown.lt j hj).1)
                  clear hown' hgrow hown
                  go_wp2
                  go_roundw
                  case rel => exact ⟨m + 1, by omega, by go_num, R2, .inr ⟨by omega, R1⟩⟩
                  case measure => simp [intOf]; omega
            · have e : m = 70 := by omega
              subst e
              rcases hown with ⟨h0, _⟩ | ⟨_, hown⟩
              · omega
              · rw [List.take_of_length_le (by rw [List.length_map, grow_length]; exact Nat.le_refl _)] at hown
                rcases own_len (grow_length len k) hown with ⟨_, h0⟩ | ⟨g, cap, rfl, hrow, hge, _, _⟩
                · omega
                · have ho := ownsRow_below HGR.out.outer hbw
                  have HRW : Hid _ := hrow
                  clear hown hrow hbw
                  go_wp2_with (at_builtin; refine wpList_append_own _ rfl _ _ 23 rfl w1.heap.size 22 iL (.slice none 0 0) 1 24 Tryd.underlying23 hiL hL0 hL1 hL2 rfl (by decide) _ _ _ rfl (ho.alloc _) ⟨wr.heap.size, 0, none⟩ 1 1 [.slice (some ⟨g, 0, none⟩) (len k + 70) cap] rfl rfl (one_new _ _ _) (one_header _ _ _) ?f1 ?f2 ?f3 ?_)
                  case f1 => unfold maxLen; omega
                  case f2 => omega
                  case f3 => first | omega | (simp; omega)
                  · intro v' w3 hown' hgrow _
                    have R1 := HGR.out.step HBW.out HRW.out hown' hgrow
                    have R2 : Below w1.heap.size w1 w3 := ((HBE.out.trans (HBW.out.mono hsz)).alloc (by omega) _).grown hgrow (by simp; omega) (fun j hj => (ho.lt j hj).1)
                    clear hown' hgrow ho
                    go_wp2
                    go_roundw
                    case rel => exact ⟨k + 1, _, by omega, by go_num, R1, R2⟩
                    case measure => simp [intOf]; omega
        · have e : k = i := by omega
          subst e
          obtain ⟨w3, hw3⟩ : ∃ x, x = wr := ⟨_, rfl⟩
          subst hw3
          have HKK : Hid (Kept (LotS k V len) w w3) := HK1.out.trans ⟨hbel.os, hbel.tape, hbel.output, hbel.size, fun j hj _ => hbel.block j hj⟩
          have heads2 : ∀ j, j < k → ∃ GO cg g cap, u5 = .slice (some ⟨GO, 0, none⟩) k cg ∧ w3.cell? ⟨GO, j, none⟩ = some (.slice (some ⟨g, 0, none⟩) (len j + 70) cap) ∧ ∀ t, t < 70 → w3.cell? ⟨g, len j + t, none⟩ = some (.int .u8 (mark2 j t)) := by
            intro j hj
            obtain ⟨g, cap, e, hr⟩ := hgr.inner j hj
            rcases hgr.outer.2 with ⟨_, h0⟩ | ⟨GO, cg, cur, hv, r⟩
            · omega
            · have ho := hgr.outer
              rw [hv] at ho
              refine ⟨GO, cg, g, cap, hv, by rw [ho.cellAt j (by omega)]; exact e, fun t ht => ?_⟩
              rw [hr.cell (len j + t) (by rw [grow_length]; omega), List.getD_eq_getElem?_getD, grow_getD len j t ht]
              rfl
          have HH2 : Hid _ := heads2
          have HLR : Hid _ := hlr
          clear hgr hbel hlr hl1 heads2 HK1
          go_wp2
          go_loopw [9, 10, 11] (fun a _ _ wr => ∃ j : Nat, j ≤ k ∧ a = .int .i64 j ∧ ∃ q, wr = w3.drewN q) (fun a _ _ _ => k - (intOf a).toNat)
          case atStart => exact ⟨0, Nat.zero_le _, rfl, 0, rfl⟩
          case round =>
            obtain ⟨j, hj, rfl, q, rfl⟩ := hrel
            by_cases hlt : j < k
            · have c1 := HLR.out.heads j hlt
              have tL := hl j hlt
              have a1 : (0 : Int) ≤ (j : Int) := by omega
              have a2 : (j : Int) < (k : Int) := by omega
              go_wp2
              go_loopw [10] (fun a wr => ∃ t : Nat, t ≤ len j ∧ a = .int .i64 t ∧ ∃ q, wr = w3.drewN q) (fun a _ => len j - (intOf a).toNat)
              case atStart => exact ⟨0, Nat.zero_le _, rfl, _, rfl⟩
              case round =>
                obtain ⟨t, ht, rfl, q2, rfl⟩ := hrel
                by_cases hltt : t < len j
                · obtain ⟨g, eg, _, _, hgc, _⟩ := HLR.out.cells j t hlt hltt
                  have c2 : w3.cell? ⟨g, t, none⟩ = some (.int .u8 (((j : Int) * 31 + (t : Int)) % 256)) := hgc
                  have a3 : (0 : Int) ≤ (t : Int) := by omega
                  have a4 : (t : Int) < (len j : Int) := by omega
                  rw [eg] at c1
                  clear eg hgc
                  go_wp2
                  go_roundw
                  case rel => exact ⟨t + 1, by omega, by go_num, _, rfl⟩
                  case measure => simp [intOf]; omega
                · go_wp2
                  go_loopw [11] (fun a wr => ∃ t : Nat, t ≤ 70 ∧ a = .int .i64 t ∧ ∃ q, wr = w3.drewN q) (fun a _ => 70 - (intOf a).toNat)
                  case atStart => exact ⟨0, Nat.zero_le _, rfl, _, rfl⟩
                  case round =>
                    obtain ⟨m, hm, rfl, q3, rfl⟩ := hrel
                    by_cases hmt : m < 70
                    · obtain ⟨GO, cg, g, cap, rfl, hgc, hgm⟩ := HH2.out j hlt
                      have c2 : w3.cell? ⟨g, len j + m, none⟩ = some (.int .u8 ((101 + (j : Int) * 17 + (m : Int)) % 256)) := hgm m hmt
                      have a3 : (0 : Int) ≤ (m : Int) := by omega
                      have a4 : (0 : Int) ≤ (len j : Int) + (m : Int) := by omega
                      have a5 : (len j : Int) + (m : Int) < ((len j + 70 : Nat) : Int) := by omega
                      clear hgm
                      go_wp2
                      go_quiet (fail)
                      go_wp2
                      go_roundw
                      case rel => exact ⟨m + 1, by omega, by go_num, _, rfl⟩
                      case measure => simp [intOf]; omega
                    · have hmt' : (70 : Int) ≤ (m : Int) := by omega
                      clear hmt hltt ht HH2 HLR hm
                      go_wp2
                      go_roundw
                      case rel => exact ⟨j + 1, by omega, by go_num, _, rfl⟩
                      case measure => simp [intOf]; omega
            · have HF : Hid (Kept (LotS k V len) w (w3.drewN q)) := HKK.out.trans ⟨rfl, rfl, rfl, Nat.le_refl _, fun _ _ _ => rfl⟩
              go_wp2
              go_ret
              exact ⟨rfl, HF.out⟩
end Go.Proofs.YtiimjhahblmggaaDoor
