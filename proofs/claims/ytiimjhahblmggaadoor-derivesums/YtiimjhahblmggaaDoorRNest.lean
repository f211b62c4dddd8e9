/- The statements' helper Twins (trystref01): lists made anew. -/
import Derived.Test.YtiimjhahblmggaaDoorRLent
import Derived.Test.YtiimjhahblmggaaDoorDRows
namespace Go.Proofs.YtiimjhahblmggaaDoor
open Go.RowKit
set_option linter.unusedVariables false
set_option linter.unusedSimpArgs false

abbrev lenAt (zss : List (List Int)) (i : Nat) : Nat := (zss.getD i []).length
/-- A slice at ao of n lists of bytes, which are zss. -/
structure SeenL (w : World) (ao : Option Addr) (n : Nat) (zss : List (List Int)) : Prop where
  len : zss.length = n
  top : n ≤ 1048576
  cells : ∀ i, i < n → ∃ b o so c, ao = some ⟨b, o, none⟩ ∧ b < w.heap.size ∧ w.cell? ⟨b, o + i, none⟩ = some (.slice so (lenAt zss i) c) ∧ Seen w so (lenAt zss i) (zss.getD i [])
theorem SeenL.later {w w' : World} {ao : Option Addr} {n : Nat} {zss : List (List Int)} (h : SeenL w ao n zss) {B : Nat} (hb : Below B w w') (hB : w.heap.size ≤ B) : SeenL w' ao n zss :=
  ⟨h.len, h.top, fun i hi => by
    obtain ⟨b, o, so, c, e, hlt, hc, hs⟩ := h.cells i hi
    exact ⟨b, o, so, c, e, Nat.lt_of_lt_of_le hlt hb.size, (hb.cell (p := ⟨b, o + i, none⟩) (Nat.lt_of_lt_of_le hlt hB)).trans hc, hs.later hb hB⟩⟩
theorem SeenL.drewN {w : World} {ao : Option Addr} {n : Nat} {zss : List (List Int)} (h : SeenL w ao n zss) (k : Nat) : SeenL (w.drewN k) ao n zss :=
  h.later (B := w.heap.size) (below_dn (Below.refl _ _) k) (Nat.le_refl _)
theorem SeenL.since {w0 w : World} {ao : Option Addr} {n : Nat} {zss : List (List Int)} (h : SeenL w0 ao n zss) (hb : Below w0.heap.size w0 w) : SeenL w ao n zss := h.later hb (Nat.le_refl _)

/-- A list of lists of the call's own: its headers hd, and each list in a block of its own. -/
structure OwnL (base : Nat) (w : World) (v : Value) (k : Nat) (zss : List (List Int)) (hd : List Value) : Prop where
  outer : w.ownsRow base 22 1 v k hd
  inner : ∀ j, j < k → ∃ so c, hd[j]? = some (.slice so (lenAt zss j) c) ∧ (so = none → c = 0) ∧ (0 < lenAt zss j → ∃ g, so = some ⟨g, 0, none⟩ ∧ base ≤ g ∧ RowAt w g (zss.getD j []))
  apart : ∀ j j' g l l' c c', j < j' → j' < k → 0 < lenAt zss j → 0 < lenAt zss j' → hd[j]? = some (.slice (some ⟨g, 0, none⟩) l c) → hd[j']? = some (.slice (some ⟨g, 0, none⟩) l' c') → False
/-- A block of bytes is not the block of headers. -/
theorem row_grown {w w' : World} {g : Nat} {zs : List Int} {row : Option Nat} (h : RowAt w g zs) (hg : w.grownBy w' row) (hne : some g ≠ row) : RowAt w' g zs := h.block (hg.block g h.lt hne)

theorem twins_step {w wr w1 w2 : World} {v v' : Value} {zss : List (List Int)} {hd : List Value} {k : Nat} {so : Option Addr} {c : Nat}
    (hb : Below w.heap.size w wr) (ho : OwnL w.heap.size wr v k zss hd) (hb1 : Below wr.heap.size wr w1) (hq : so = none → c = 0) (hs : 0 < lenAt zss k → ∃ g, so = some ⟨g, 0, none⟩ ∧ wr.heap.size ≤ g ∧ RowAt w1 g (zss.getD k []))
    (hown' : w2.ownsRow w.heap.size 22 1 v' (k + 1) (hd ++ [.slice so (lenAt zss k) c])) (hg : (w1.alloc (.cells #[.slice so (lenAt zss k) c] 22)).grownBy w2 v.ownBlock) :
    OwnL w.heap.size w2 v' (k + 1) zss (hd ++ [.slice so (lenAt zss k) c]) ∧ Below w.heap.size w w2 := by
  have hl : hd.length = k := by have := ho.outer.1; omega
  have hB : Below w.heap.size w w1 := hb.trans (hb1.mono hb.size)
  have ho1 : w1.ownsRow w.heap.size 22 1 v k hd := ownsRow_below ho.outer hb1
  have keep : ∀ g zs, RowAt w1 g zs → RowAt w2 g zs := fun g zs h => row_grown (h.alloc _) hg (by have := row_ne h ho1; exact this)
  have old : ∀ j g l c, j < k → hd[j]? = some (.slice (some ⟨g, 0, none⟩) l c) → 0 < lenAt zss j → g < wr.heap.size := by
    intro j g l c hj he hn
    obtain ⟨so', c', e', _, hr⟩ := ho.inner j hj
    obtain ⟨g', rfl, _, hr'⟩ := hr hn
    rw [he] at e'
    simp at e'
    have := hr'.lt
    omega
  refine ⟨⟨hown', ?_, ?_⟩, ?_⟩
  · intro j hj
    by_cases h : j < k
    · obtain ⟨so', c', e', hq', hr⟩ := ho.inner j h
      refine ⟨so', c', by rw [List.getElem?_append_left (by omega)]; exact e', hq', fun hn => ?_⟩
      obtain ⟨g, rfl, hge, hr'⟩ := hr hn
      exact ⟨g, rfl, hge, keep g _ (hr'.later hb1 (Nat.le_refl _))⟩
    · have e : j = k := by omega
      subst e
      refine ⟨so, c, by rw [List.getElem?_append_right (by omega)]; simp [hl], hq, fun hn => ?_⟩
      obtain ⟨g, rfl, hge, hr⟩ := hs hn
      exact ⟨g, rfl, Nat.le_trans hb.size hge, keep g _ hr⟩
  · intro j j' g l l' c c' hjj hj' hn hn' he he'
    rw [List.getElem?_append_left (by omega)] at he
    by_cases h : j' < k
    · rw [List.getElem?_append_left (by omega)] at he'
      exact ho.apart j j' g l l' c c' hjj h hn hn' he he'
    · have e : j' = k := by omega
      subst e
      rw [List.getElem?_append_right (by omega)] at he'
      simp [hl] at he'
      obtain ⟨g', e1, hge, _⟩ := hs hn'
      have h1 := old j g l c (by omega) he hn
      rw [e1] at he'
      simp only [Value.slice.injEq, Option.some.injEq, Addr.mk.injEq] at he'
      omega
  · exact (hB.alloc hB.size _).grown hg (by have := hB.size; simp; omega) (fun j hj => (ho.outer.lt j hj).1)

set_option maxRecDepth 20000 in
set_option maxHeartbeats 1000000 in
theorem twins_any (ao : Option Addr) (n c : Nat) (zss : List (List Int)) (w : World) (hx : SeenL w ao n zss) :
    Calls Tryd.prog 17 #[.slice ao n c] w fun e w' => ∃ v hd, e = .returned v ∧ OwnL w.heap.size w' v n zss hd ∧ Below w.heap.size w w' := by
  have t1 := hx.top
  obtain ⟨i0, hi, hz0, hz1, hz2⟩ := info_parts info_bytes
  go_enter Tryd.func17, Tryd.ntmps17
  go_wp2
  go_loopw [3, 4] (fun v i wr => ∃ (k : Nat) (hd : List Value), k ≤ n ∧ i = .int .i64 k ∧ OwnL w.heap.size wr v k zss hd ∧ Below w.heap.size w wr) (fun _ i _ => n - (intOf i).toNat)
  case atStart => exact ⟨0, [], Nat.zero_le _, rfl, ⟨World.ownsRow_nil _ _ _ _, fun j h => by omega, fun j j' _ _ _ _ _ h1 h2 => by omega⟩, Below.refl _ _⟩
  case round =>
    obtain ⟨k, hd, hk, rfl, hown, hbel⟩ := hrel
    by_cases hlt : k < n
    · obtain ⟨b, o, so, cs, rfl, hb, hc, hs⟩ := hx.cells k hlt
      have c1 := (hbel.cell (p := ⟨b, o + k, none⟩) hb).trans hc
      have hsz := hbel.size
      have i1 : (0 : Int) ≤ (k : Int) := by omega
      have i2 : (k : Int) < (n : Int) := by omega
      have s1 := hs.later hbel (Nat.le_refl _)
      have HO : Hid _ := hown
      have HB : Hid _ := hbel
      have ho := hown.outer
      obtain ⟨L, hL⟩ : ∃ L, lenAt zss k = L := ⟨_, rfl⟩
      rw [hL] at c1 s1
      have HL : Hid (lenAt zss k = L) := hL
      clear hc hs hL hown hbel
      go_wp2_with fail
      refine (twin_any so L cs (zss.getD k []) wr s1).mono ?_
      rintro e w1 ⟨u, rfl, ou, bu⟩
      obtain ⟨so', c', rfl, hq', hs'⟩ : ∃ so' c', u = .slice so' L c' ∧ (so' = none → c' = 0) ∧ (0 < L → ∃ g, so' = some ⟨g, 0, none⟩ ∧ wr.heap.size ≤ g ∧ RowAt w1 g (zss.getD k [])) := by
        rcases own_len HL.out ou with ⟨rfl, h0⟩ | ⟨g, cap, rfl, hr, hg, _, _⟩
        · exact ⟨none, 0, by rw [h0], fun _ => rfl, fun h => by omega⟩
        · exact ⟨_, cap, rfl, (fun h => by cases h), fun _ => ⟨g, rfl, hg, hr⟩⟩
      have ho1 := ownsRow_below ho bu
      have zb := bu.size
      clear ou s1 c1
      go_wp2_with (at_builtin; refine wpList_append_own _ rfl _ _ 23 rfl w.heap.size 22 i0 (.slice none 0 0) 1 24 Tryd.underlying23 hi hz0 hz1 hz2 rfl (by decide) _ _ _ rfl (ho1.alloc _) ⟨w1.heap.size, 0, none⟩ 1 1 [.slice so' L c'] rfl rfl ?c1 ?c2 ?c3 ?c4 ?c5 ?_)
      case c1 => exact one_new _ _ _
      case c2 => intro u hu; simp at hu; subst hu; rfl
      case c3 => unfold maxLen; omega
      case c4 => omega
      case c5 => simp; omega
      · intro v' w2 hown' hgrow _
        have R := twins_step HB.out HO.out bu (so := so') (c := c') hq' (by rw [HL.out]; exact hs') (by rw [HL.out]; exact hown') (by rw [HL.out]; exact hgrow)
        clear hown' hgrow ho1 bu ho hs'
        go_wp2
        go_roundw
        case rel => exact ⟨k + 1, _, by omega, by go_num, R.1, R.2⟩
        case measure => simp [intOf]; omega
    · have e : k = n := by omega
      subst e
      have HO : Hid _ := hown
      have HB : Hid _ := hbel
      clear hown hbel hx
      go_wp2
      go_ret
      exact ⟨_, _, rfl, HO.out, HB.out⟩
end Go.Proofs.YtiimjhahblmggaaDoor
