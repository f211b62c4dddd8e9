/- The statements' helper CopyRows. -/
import Derived.Test.YtdnfkkndfdbefaaDCopy
namespace Go.Proofs.Ytdnfkkndfdbefaa
open Go.RowKit
set_option linter.unusedVariables false
set_option linter.unusedSimpArgs false

theorem info_bytes : (Try.prog.info? 31).map (fun i => (i.zero, i.size, i.bytes)) = some (some (.slice none 0 0), 1, 24) := by kernel_rfl
/-- Lists of the call's own: a row of headers, and each list in a row of its own. -/
structure OwnH (base : Nat) (w : World) (v : Value) (k : Nat) (pss : List (List Int)) (hd : List Value) : Prop where
  outer : w.ownsRow base 31 1 v k hd
  inner : ∀ j, j < k → ∃ so c, hd[j]? = some (.slice so (pss.getD j []).length c) ∧ (pss.getD j []).length ≤ c ∧ (0 < (pss.getD j []).length → ∃ g, so = some ⟨g, 0, none⟩ ∧ base ≤ g ∧ RowAt w g (pss.getD j []))
theorem row_ne {w : World} {g base : Nat} {zs : List Int} {v : Value} {k : Nat} {hd : List Value} (h : RowAt w g zs) (ho : w.ownsRow base 31 1 v k hd) : some g ≠ v.ownBlock := by
  obtain ⟨rest, h⟩ := h
  rcases ho.2 with ⟨rfl, _⟩ | ⟨g', cap, cur, rfl, _, hh, _⟩
  · intro e; cases e
  · intro e
    simp [Value.ownBlock] at e
    subst e
    rw [hh] at h
    simp at h
theorem rows_step {w wr w1 w2 : World} {v v' : Value} {pss : List (List Int)} {hd : List Value} {k : Nat} {so : Option Addr} {c : Nat}
    (hb : Below w.heap.size w wr) (ho : OwnH w.heap.size wr v k pss hd) (hb1 : Below wr.heap.size wr w1) (hc : (pss.getD k []).length ≤ c) (hs : 0 < (pss.getD k []).length → ∃ g, so = some ⟨g, 0, none⟩ ∧ wr.heap.size ≤ g ∧ RowAt w1 g (pss.getD k []))
    (hown' : w2.ownsRow w.heap.size 31 1 v' (k + 1) (hd ++ [.slice so (pss.getD k []).length c])) (hg : (w1.alloc (.cells #[.slice so (pss.getD k []).length c] 31)).grownBy w2 v.ownBlock) :
    OwnH w.heap.size w2 v' (k + 1) pss (hd ++ [.slice so (pss.getD k []).length c]) ∧ Below w.heap.size w w2 := by
  have hl : hd.length = k := by have := ho.outer.1; omega
  have hB : Below w.heap.size w w1 := hb.trans (hb1.mono hb.size)
  have ho1 : w1.ownsRow w.heap.size 31 1 v k hd := ownsRow_below ho.outer hb1
  have keep : ∀ g zs, RowAt w1 g zs → RowAt w2 g zs := fun g zs h => (h.alloc _).block (hg.block g (by have := h.lt; simp; omega) (row_ne h ho1))
  refine ⟨⟨hown', ?_⟩, ?_⟩
  · intro j hj
    by_cases h : j < k
    · obtain ⟨so', c', e', hc', hr⟩ := ho.inner j h
      refine ⟨so', c', by rw [List.getElem?_append_left (by omega)]; exact e', hc', fun hn => ?_⟩
      obtain ⟨g, rfl, hge, hr'⟩ := hr hn
      exact ⟨g, rfl, hge, keep g _ (hr'.later hb1 (Nat.le_refl _))⟩
    · obtain rfl : j = k := by omega
      refine ⟨so, c, by rw [List.getElem?_append_right (by omega)]; simp [hl], hc, fun hn => ?_⟩
      obtain ⟨g, rfl, hge, hr⟩ := hs hn
      exact ⟨g, rfl, Nat.le_trans hb.size hge, keep g _ hr⟩
  · exact (hB.alloc hB.size _).grown hg (by have := hB.size; simp; omega) (fun j hj => (ho.outer.lt j hj).1)
/-- Lists of the call's own, read as data. -/
theorem OwnH.data {base : Nat} {w : World} {v : Value} {n : Nat} {pss : List (List Int)} {hd : List Value} (h : OwnH base w v n pss hd) (hn : pss.length = n) (hb : ∀ j, j < n → Bytes (pss.getD j []) ∧ (pss.getD j []).length ≤ 140737488355328) :
    ∃ vo cap, v = .slice vo n cap ∧ SeenP w vo n pss ∧ n ≤ cap := by
  rcases h.outer.2 with ⟨rfl, h0⟩ | ⟨g, cap, cur, rfl, hg, hh, hc, hm, hs, ht⟩
  · subst h0
    exact ⟨none, 0, rfl, ⟨hn, fun i hi => by omega⟩, Nat.le_refl _⟩
  · refine ⟨_, cap, rfl, ⟨hn, fun i hi => ?_⟩, hc⟩
    obtain ⟨so, c, e, hlc, hr⟩ := h.inner i hi
    refine ⟨g, 0, so, c, rfl, lt_of_block hh, ?_, ?_, hlc⟩
    · rw [cell_of_row _ _ _ _ _ _ hh, Nat.zero_add, ← e, ← ht, Nat.mul_one, List.getElem?_take, if_pos hi]; simp
    · rcases Nat.eq_zero_or_pos (pss.getD i []).length with h0 | h0
      · rw [List.length_eq_zero_iff.1 h0]; exact Seen.empty _ _
      · obtain ⟨g', rfl, _, hr'⟩ := hr h0
        have := Seen.of_row (n := (pss.getD i []).length) hr' (Nat.le_refl _) (hb i hi).2 (hb i hi).1
        rwa [List.take_length] at this
set_option maxHeartbeats 1000000 in
set_option maxRecDepth 20000 in
theorem copyR_any (ao : Option Addr) (n c : Nat) (pss : List (List Int)) (w : World) (hx : SeenP w ao n pss) (hn : n ≤ 1048576) :
    Calls Try.prog 15 #[.slice ao n c] w fun e w' => ∃ vo cap, e = .returned (.slice vo n cap) ∧ SeenP w' vo n pss ∧ n ≤ cap ∧ Below w.heap.size w w' := by
  have HX : Hid (SeenP w ao n pss) := hx
  have HY : Hid (pss.length = n ∧ ∀ j, j < n → Bytes (pss.getD j []) ∧ (pss.getD j []).length ≤ 140737488355328) := ⟨hx.len, fun j hj => by
    obtain ⟨_, _, _, _, _, _, _, hs, _⟩ := hx.cells j hj
    exact ⟨hs.bytes, hs.top⟩⟩
  obtain ⟨i0, hi, hz0, hz1, hz2⟩ := info_parts info_bytes
  clear hx
  go_enter Try.func15, Try.ntmps15
  go_wp2
  go_loopw [3, 4] (fun v i wr => ∃ (k : Nat) (hd : List Value), k ≤ n ∧ i = .int .i64 k ∧ OwnH w.heap.size wr v k pss hd ∧ Below w.heap.size w wr) (fun _ i _ => n - (intOf i).toNat)
  case atStart => exact ⟨0, [], Nat.zero_le _, rfl, ⟨World.ownsRow_nil _ _ _ _, fun j h => by omega⟩, Below.refl _ _⟩
  case round =>
    obtain ⟨k, hd, hk, rfl, hown, hbel⟩ := hrel
    by_cases hlt : k < n
    · obtain ⟨b, o, so, cs, rfl, hb, hc, hs, hl⟩ := HX.out.cells k hlt
      have c1 := (hbel.cell (p := ⟨b, o + k, none⟩) hb).trans hc
      have hsz := hbel.size
      have i1 : (0 : Int) ≤ (k : Int) := by omega
      have i2 : (k : Int) < (n : Int) := by omega
      have s1 := hs.later hbel (Nat.le_refl _)
      have HO : Hid (OwnH w.heap.size wr u3 k pss hd) := hown
      have HB : Hid (Below w.heap.size w wr) := hbel
      have ho := hown.outer
      obtain ⟨L, hL⟩ : ∃ L, (pss.getD k []).length = L := ⟨_, rfl⟩
      rw [hL] at c1 s1
      have HL : Hid ((pss.getD k []).length = L) := hL
      clear hc hs hL hown hbel hl
      go_wp2_with fail
      refine (copyB_any so L cs (pss.getD k []) wr s1).mono ?_
      rintro e w1 ⟨u, rfl, ou, bu⟩
      obtain ⟨so', c', rfl, hc', hs'⟩ : ∃ so' c', u = .slice so' L c' ∧ L ≤ c' ∧ (0 < L → ∃ g, so' = some ⟨g, 0, none⟩ ∧ wr.heap.size ≤ g ∧ RowAt w1 g (pss.getD k [])) := by
        rcases own_len HL.out ou with ⟨rfl, h0⟩ | ⟨g, cap, rfl, hr, hg, hcap, _⟩
        · exact ⟨none, 0, by rw [h0], by omega, fun h => by omega⟩
        · exact ⟨_, cap, rfl, hcap, fun _ => ⟨g, rfl, hg, hr⟩⟩
      have ho1 := ownsRow_below ho bu
      have zb := bu.size
      have HC : Hid (L ≤ c') := hc'
      clear ou s1 c1 hc'
      go_wp2_with (at_builtin; refine wpList_append_own _ rfl _ _ 25 rfl w.heap.size 31 i0 (.slice none 0 0) 1 24 Try.underlying25 hi hz0 hz1 hz2 rfl (by decide) _ _ _ rfl (ho1.alloc _) ⟨w1.heap.size, 0, none⟩ 1 1 [.slice so' L c'] rfl rfl ?c1 ?c2 ?c3 ?c4 ?c5 ?_)
      case c1 => exact one_new _ _ _
      case c2 => intro u hu; simp at hu; subst hu; rfl
      case c3 => unfold maxLen; omega
      case c4 => omega
      case c5 => simp; omega
      · intro v' w2 hown' hgrow _
        have R := rows_step HB.out HO.out bu (so := so') (c := c') (by rw [HL.out]; exact HC.out) (by rw [HL.out]; exact hs') (by rw [HL.out]; exact hown') (by rw [HL.out]; exact hgrow)
        clear hown' hgrow ho1 bu ho hs'
        go_wp2
        go_roundw
        case rel => exact ⟨k + 1, _, by omega, by go_num, R.1, R.2⟩
        case measure => simp [intOf]; omega
    · obtain rfl : k = n := by omega
      obtain ⟨vo, cap, rfl, hs, hcap⟩ := hown.data HY.out.1 HY.out.2
      have HO : Hid (SeenP wr vo k pss ∧ k ≤ cap ∧ Below w.heap.size w wr) := ⟨hs, hcap, hbel⟩
      clear hown hbel hs hcap
      go_wp2
      go_ret
      exact ⟨_, _, rfl, HO.out⟩
end Go.Proofs.Ytdnfkkndfdbefaa
