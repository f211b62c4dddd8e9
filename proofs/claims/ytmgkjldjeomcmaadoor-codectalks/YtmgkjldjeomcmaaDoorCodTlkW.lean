/- CodecTalks: the walk. -/
import Derived.Test.YtmgkjldjeomcmaaDoorCcBoth
import Derived.Test.YtmgkjldjeomcmaaDoorCcTwice
import Derived.Test.YtmgkjldjeomcmaaDoorCcBackM
namespace Go.Proofs.YtmgkjldjeomcmaaDoor.codecTalks
open Go.RowKit
set_option linter.unusedVariables false
set_option linter.unusedSimpArgs false

/-- What stands: the talk that came in, new memory alone. -/
structure Tw (w W : World) (t : Tk) : Prop where
  x : Blk W w.heap.size 37 t.cs
  bel : Below w.heap.size w W
  lt : w.heap.size < W.heap.size
theorem Tw.later {w W W' : World} {t : Tk} (h : Tw w W t) (l : Below W.heap.size W W') : Tw w W' t := ⟨h.x.later l h.x.lt, below_chain h.bel l h.bel.size, Nat.lt_of_lt_of_le h.lt l.size⟩
theorem Tw.kept {w W W' : World} {t : Tk} {S : Nat → Prop} (h : Tw w W t) (k : Kept S W W') (hS : ∀ y, S y → w.heap.size < y) : Tw w W' t := ⟨h.x.kept k (fun e => by have := hS _ e; omega), below_kept h.bel k h.bel.size (fun j hj h => by have := hS j h; omega), Nat.lt_of_lt_of_le h.lt k.size⟩
theorem Tw.cfg {w W : World} {t : Tk} (h : Tw w W t) : W.rangeAt w.heap.size 0 t.cf.cs := Blk.range (xs := []) (ys := t.cf.cs) (zs := u8s t.d ++ [.bool t.b, .slice t.ao t.n t.c, .slice t.bo t.m t.e]) h.x
theorem Tw.drop {w W : World} {t : Tk} (h : Tw w W t) : W.rangeAt w.heap.size 6 (u8s t.d) := Blk.range (xs := t.cf.cs) (ys := u8s t.d) (zs := [.bool t.b, .slice t.ao t.n t.c, .slice t.bo t.m t.e]) h.x
theorem Tw.there {w W : World} {t : Tk} (h : Tw w W t) (hd : t.d.length = 16) : W.cell? ⟨w.heap.size, 22, none⟩ = some (.bool t.b) := by rw [h.x.cell]; exact tk_tail t hd 0
theorem Tw.text {w W : World} {t : Tk} (h : Tw w W t) (hd : t.d.length = 16) : W.cell? ⟨w.heap.size, 23, none⟩ = some (.slice t.ao t.n t.c) := by rw [h.x.cell]; exact tk_tail t hd 1
theorem Tw.more {w W : World} {t : Tk} (h : Tw w W t) (hd : t.d.length = 16) : W.cell? ⟨w.heap.size, 24, none⟩ = some (.slice t.bo t.m t.e) := by rw [h.x.cell]; exact tk_tail t hd 2
theorem seen_past {w wf wg : World} {ao : Option Addr} {n : Nat} {zs : List Int} (h : Seen w ao n zs) (l : Below w.heap.size w wf) (k : Kept (fun b => b = w.heap.size) wf wg) : Seen wg ao n zs :=
  (h.later l (Nat.le_refl _)).kept k (fun b o hn e he => by
    obtain ⟨b', o', e', hlt, _⟩ := h.cells hn
    have he' : b = w.heap.size := he
    rw [e'] at e
    cases e
    omega)
theorem spared_seen {w : World} {g n : Nat} {zs : List Int} (h : Blk w g 5 (u8s (spared zs))) (hl : zs.length = n) (hb : Bytes zs) (ht : n ≤ 140737488351232) : Seen w (some ⟨g, 0, none⟩) n zs := by
  subst hl
  exact spared_big h hb ht
theorem seen_lt8 {w : World} {ao : Option Addr} {n : Nat} {zs : List Int} (h : Seen w ao n zs) (h0 : 0 < n) : ∀ b o, ao = some ⟨b, o, none⟩ → b < w.heap.size := by
  intro b o e
  obtain ⟨b', o', e', hb, _⟩ := h.cells h0
  rw [e'] at e
  cases e
  exact hb
set_option maxRecDepth 20000 in
set_option maxHeartbeats 8000000 in
theorem walk (t : Tk) (w : World) (hin : TkIn w t) (hg : HdlAt w) : Calls Tryd.prog 4 #[.agg t.cs.toArray] w fun e w' => e = .returned (.bool true) ∧ Below w.heap.size w w' := by
  have HIN : Hid (Seen w t.ao t.n t.ms ∧ t.n ≤ t.c ∧ t.n ≤ 140737488351232 ∧ HdlAt w ∧ Seen w t.bo t.m t.zs ∧ t.m ≤ t.e ∧ t.m ≤ 140737488351232) := ⟨hin.sm, hin.lm, hin.tm, hg, hin.sz, hin.lz, hin.tz⟩
  have HSO : Hid ((0 < t.n → ∀ b o, t.ao = some ⟨b, o, none⟩ → b < w.heap.size) ∧ (0 < t.m → ∀ b o, t.bo = some ⟨b, o, none⟩ → b < w.heap.size)) := ⟨fun h => seen_lt8 hin.sm h, fun h => seen_lt8 hin.sz h⟩
  have both1 := treq_both t.cf t.d hin.dl hin.db t.n t.ms
  have le1 : (tL t.cf t.n t.cf.ms (t.d ++ t.ms) []).length ≤ 1000 := by
    unfold tL
    split
    · rename_i hok
      split
      · rename_i h
        have := ok_fields hok
        rw [List.length_append, hin.dl, hin.sm.len]
        omega
      · decide
    · decide
  obtain ⟨E1, hE1⟩ : ∃ E, tE t.cf t.n t.cf.ms = E := ⟨_, rfl⟩
  obtain ⟨L1, hL1⟩ : ∃ L, tL t.cf t.n t.cf.ms (t.d ++ t.ms) [] = L := ⟨_, rfl⟩
  rw [hE1, hL1] at both1
  rw [hL1] at le1
  have HA1 : Hid (∀ W ao cap, Seen W ao t.n t.ms → (ao = none → cap = 0) → HdlAt W → Calls Tryd.prog 20 #[.agg t.cf.cs.toArray, .agg (u8s t.d).toArray, .slice ao t.n cap] W (LaysO W E1 L1)) := both1.1
  have HD1 : Hid (∀ W ao cap, Seen W ao t.n t.ms → t.n ≤ cap → Calls Tryd.prog 21 #[.agg t.cf.cs.toArray, .agg (u8s t.d).toArray, .slice ao t.n cap] W (LaysO W E1 L1)) := both1.2
  have re1 : (E1 != E1) = false := by simp
  have HLE : Hid (L1.length ≤ 1000) := le1
  obtain ⟨E2, L2, le2, both2⟩ : ∃ (E2 : Int) (L2 : List Int), L2.length ≤ 1000 ∧ (∀ W ao cap, Seen W ao t.n t.ms → (ao = none → cap = 0) → HdlAt W → Calls Tryd.prog 23 #[t.cf.v, .bool t.b, .slice ao t.n cap] W (LaysO W E2 L2)) ∧ (∀ W ao cap, Seen W ao t.n t.ms → t.n ≤ cap → Calls Tryd.prog 24 #[t.cf.v, .bool t.b, .slice ao t.n cap] W (LaysO W E2 L2)) := by
    refine ⟨_, _, ?_, trep_both t.cf t.b t.n t.ms⟩
    unfold tL
    split
    · rename_i hok
      split
      · rename_i h
        have := ok_fields hok
        have hl := hin.sm.len
        cases t.b <;> simp <;> omega
      · decide
    · decide
  obtain ⟨D3, E3, L3, ld3, le3, both3⟩ : ∃ (D3 : List Int) (E3 : Int) (L3 : List Int), D3.length = 16 ∧ L3.length ≤ 1000 ∧ (∀ W ao cap, Seen W ao t.m t.zs → Calls Tryd.prog 25 #[t.cf.v, .slice ao t.m cap] W (ReadsO W (.agg (u8s D3).toArray) E3 L3)) ∧ (∀ W ao cap, Seen W ao t.m t.zs → t.m ≤ cap → Calls Tryd.prog 26 #[t.cf.v, .slice ao t.m cap] W (ReadsO W (.agg (u8s D3).toArray) E3 L3)) := by
    refine ⟨_, _, _, ?_, ?_, ptalk_both t.cf t.m t.zs⟩
    · unfold tL
      split
      · rename_i hok
        split
        · rename_i h
          have := ok_fields hok
          have hl := hin.sz.len
          simp; omega
        · rfl
      · rfl
    · unfold tL
      split
      · rename_i hok
        split
        · rename_i h
          have := ok_fields hok
          have hl := hin.sz.len
          simp; omega
        · decide
      · decide
  obtain ⟨B4, E4, L4, le4, both4⟩ := prep_both t.cf t.m t.zs
  have HA2 : Hid (∀ W ao cap, Seen W ao t.n t.ms → (ao = none → cap = 0) → HdlAt W → Calls Tryd.prog 23 #[.agg t.cf.cs.toArray, .bool t.b, .slice ao t.n cap] W (LaysO W E2 L2)) := both2.1
  have HD2 : Hid (∀ W ao cap, Seen W ao t.n t.ms → t.n ≤ cap → Calls Tryd.prog 24 #[.agg t.cf.cs.toArray, .bool t.b, .slice ao t.n cap] W (LaysO W E2 L2)) := both2.2
  have HA3 : Hid (∀ W ao cap, Seen W ao t.m t.zs → Calls Tryd.prog 25 #[.agg t.cf.cs.toArray, .slice ao t.m cap] W (ReadsO W (.agg (u8s D3).toArray) E3 L3)) := both3.1
  have HD3 : Hid (∀ W ao cap, Seen W ao t.m t.zs → t.m ≤ cap → Calls Tryd.prog 26 #[.agg t.cf.cs.toArray, .slice ao t.m cap] W (ReadsO W (.agg (u8s D3).toArray) E3 L3)) := both3.2
  have HA4 : Hid (∀ W ao cap, Seen W ao t.m t.zs → Calls Tryd.prog 27 #[.agg t.cf.cs.toArray, .slice ao t.m cap] W (ReadsO W (.bool B4) E4 L4)) := both4.1
  have HD4 : Hid (∀ W ao cap, Seen W ao t.m t.zs → t.m ≤ cap → Calls Tryd.prog 28 #[.agg t.cf.cs.toArray, .slice ao t.m cap] W (ReadsO W (.bool B4) E4 L4)) := both4.2
  have re2 : (E2 != E2) = false := by simp
  have re3 : (E3 != E3) = false := by simp
  have hdq : ∀ W, (binOp .neq 35 (.agg (u8s D3).toArray) (.agg (u8s D3).toArray)).run Tryd.prog W = .ok (.bool false) W := fun W => neq_drop D3 ld3 W
  have HL2 : Hid (L2.length ≤ 1000 ∧ L3.length ≤ 1000 ∧ L4.length ≤ 1000 ∧ D3.length = 16) := ⟨le2, le3, by omega, ld3⟩
  clear both1 le1 hE1 hL1 hg both2 both3 both4 le2 le3 le4 ld3
  go_enter Tryd.func4, Tryd.ntmps4
  go_upto_region 1 with (first | ((with_reducible show wpList _ _ _ (({ dst := some 1, op := _, type := _, pos := _, after := _, guard := _ } : Oper) :: _) _ _); refine wpList_box_new rfl 37 _ rfl t.cs rfl ?_; intro w1 b1 s1 l1; have z1 : Hid (w1.heap.size = w.heap.size + 1) := s1; clear s1))
  have S1 : Hid (Tw w w1 t ∧ True) := ⟨⟨b1, l1, by have := z1.out; omega⟩, trivial⟩
  have ct := S1.out.1.text hin.dl
  clear b1 l1
  go_wp2_with fail
  refine (spare_big _ _ _ _ _ (HIN.out.1.later S1.out.1.bel (Nat.le_refl _)) HIN.out.2.2.1).mono ?_
  rintro e w2 ⟨rfl, b2, s2, l2⟩
  obtain ⟨g, hgq⟩ : ∃ g, w1.heap.size = g := ⟨_, rfl⟩
  have S2 : Hid (Tw w w2 t ∧ Blk w2 g 5 (u8s (spared t.ms)) ∧ w.heap.size < g ∧ g < w2.heap.size) := ⟨S1.out.1.later l2, hgq ▸ b2, by have := z1.out; omega, by omega⟩
  rw [hgq]
  clear b2 s2 l2 S1 ct hgq
  go_wp2_with (first | ((with_reducible show wpList _ _ _ (({ dst := some 19, op := _, type := _, pos := _, after := _, guard := _ } : Oper) :: _) _ _); refine wpList_load_mid rfl 23 _ rfl w.heap.size 0 rfl t.cf.cs _ S2.out.1.cfg Tryd.underlying23 rfl (cg_size t.cf) ?_) | ((with_reducible show wpList _ _ _ (({ dst := some 21, op := _, type := _, pos := _, after := _, guard := _ } : Oper) :: _) _ _); refine wpList_load_mid rfl 35 _ rfl w.heap.size 6 rfl (u8s t.d) _ S2.out.1.drop Tryd.underlying35 rfl (by rw [u8s_length, hin.dl]; exact size_Drop) ?_))
  refine (HA1.out w2 _ _ (spared_seen S2.out.2.1 HIN.out.1.len HIN.out.1.bytes HIN.out.2.2.1) (fun h => by cases h) (HIN.out.2.2.2.1.later S2.out.1.bel (Nat.le_refl _))).mono ?_
  rintro e w3 ⟨v3, c3, rfl, o3, l3⟩
  have S3 : Hid (Tw w w3 t ∧ Blk w3 g 5 (u8s (spared t.ms)) ∧ Out w3 w2.heap.size w3.heap.size v3 L1.length c3 L1 ∧ w2.heap.size ≤ w3.heap.size) := ⟨S2.out.1.later l3, S2.out.2.1.later l3 S2.out.2.1.lt, o3, l3.size⟩
  clear o3 l3
  go_wp2_with (first | ((with_reducible show wpList _ _ _ (({ dst := some 28, op := _, type := _, pos := _, after := _, guard := _ } : Oper) :: _) _ _); refine wpList_load_mid rfl 23 _ rfl w.heap.size 0 rfl t.cf.cs _ S3.out.1.cfg Tryd.underlying23 rfl (cg_size t.cf) ?_) | ((with_reducible show wpList _ _ _ (({ dst := some 30, op := _, type := _, pos := _, after := _, guard := _ } : Oper) :: _) _ _); refine wpList_load_mid rfl 35 _ rfl w.heap.size 6 rfl (u8s t.d) _ S3.out.1.drop Tryd.underlying35 rfl (by rw [u8s_length, hin.dl]; exact size_Drop) ?_))
  refine (HA1.out w3 _ _ (spared_seen S3.out.2.1 HIN.out.1.len HIN.out.1.bytes HIN.out.2.2.1) (fun h => by cases h) (HIN.out.2.2.2.1.later S3.out.1.bel (Nat.le_refl _))).mono ?_
  rintro e w4 ⟨v4, c4, rfl, o4, l4⟩
  have S4 : Hid (Tw w w4 t ∧ Blk w4 g 5 (u8s (spared t.ms)) ∧ Out w4 w2.heap.size w3.heap.size v3 L1.length c3 L1 ∧ Out w4 w3.heap.size w4.heap.size v4 L1.length c4 L1 ∧ w2.heap.size ≤ w3.heap.size ∧ w3.heap.size ≤ w4.heap.size) := ⟨S3.out.1.later l4, S3.out.2.1.later l4 S3.out.2.1.lt, S3.out.2.2.1.later l4, o4, S3.out.2.2.2, l4.size⟩
  have ct := S4.out.1.text hin.dl
  clear o4 l4 S3
  go_wp2_with (first | ((with_reducible show wpList _ _ _ (({ dst := some 37, op := _, type := _, pos := _, after := _, guard := _ } : Oper) :: _) _ _); refine wpList_load_mid rfl 23 _ rfl w.heap.size 0 rfl t.cf.cs _ S4.out.1.cfg Tryd.underlying23 rfl (cg_size t.cf) ?_) | ((with_reducible show wpList _ _ _ (({ dst := some 39, op := _, type := _, pos := _, after := _, guard := _ } : Oper) :: _) _ _); refine wpList_load_mid rfl 35 _ rfl w.heap.size 6 rfl (u8s t.d) _ S4.out.1.drop Tryd.underlying35 rfl (by rw [u8s_length, hin.dl]; exact size_Drop) ?_))
  refine (HD1.out w4 _ _ (HIN.out.1.later S4.out.1.bel (Nat.le_refl _)) HIN.out.2.1).mono ?_
  rintro e w5 ⟨v5, c5, rfl, o5, l5⟩
  have S5 : Hid (Tw w w5 t ∧ Blk w5 g 5 (u8s (spared t.ms)) ∧ Out w5 w2.heap.size w3.heap.size v3 L1.length c3 L1 ∧ Out w5 w3.heap.size w4.heap.size v4 L1.length c4 L1 ∧ w2.heap.size ≤ w3.heap.size ∧ w3.heap.size ≤ w4.heap.size ∧ w4.heap.size ≤ w5.heap.size ∧ Seen w5 v5 L1.length L1) := ⟨S4.out.1.later l5, S4.out.2.1.later l5 S4.out.2.1.lt, S4.out.2.2.1.later l5, S4.out.2.2.2.1.later l5, S4.out.2.2.2.2.1, S4.out.2.2.2.2.2, l5.size, o5.seen⟩
  clear o5 l5 S4 ct
  have ct := S5.out.1.text hin.dl
  go_wp2_with fail
  refine (twice_any v3 v4 v5 t.ao L1.length c3 c4 c3 c4 c5 t.n t.c g w2.heap.size w3.heap.size w4.heap.size L1 t.ms w5 S5.out.2.2.1 S5.out.2.2.2.1 (.inl rfl) (.inl rfl) S5.out.2.2.2.2.1 S5.out.2.2.2.2.2.1 S5.out.2.2.2.2.2.2.1 S5.out.2.2.2.2.2.2.2 S5.out.2.1 S2.out.2.2.2 (HIN.out.1.later S5.out.1.bel (Nat.le_refl _)) (fun h0 b o e => Nat.lt_trans (HSO.out.1 h0 b o e) S2.out.1.lt) HLE.out HIN.out.2.2.1).mono ?_
  rintro e w6 ⟨rfl, k6⟩
  have S6 : Hid (Tw w w6 t ∧ Blk w6 g 5 (u8s (spared t.ms)) ∧ w.heap.size < g ∧ g < w6.heap.size) := ⟨S5.out.1.kept k6 (fun y hy => by have := S2.out.1.lt; have h : w2.heap.size ≤ y ∧ y < w4.heap.size := hy; omega), S5.out.2.1.kept k6 (fun h => by have h' : w2.heap.size ≤ g ∧ g < w4.heap.size := h; have := S2.out.2.2.2; omega), S2.out.2.2.1, Nat.lt_of_lt_of_le S5.out.2.1.lt k6.size⟩
  clear k6 S5 S2 ct HA1 HD1
  have cb := S6.out.1.there hin.dl
  go_wp2_with (first | ((with_reducible show wpList _ _ _ (({ dst := some 60, op := _, type := _, pos := _, after := _, guard := _ } : Oper) :: _) _ _); refine wpList_load_mid rfl 23 _ rfl w.heap.size 0 rfl t.cf.cs _ S6.out.1.cfg Tryd.underlying23 rfl (cg_size t.cf) ?_))
  refine (HA2.out w6 _ _ (spared_seen S6.out.2.1 HIN.out.1.len HIN.out.1.bytes HIN.out.2.2.1) (fun h => by cases h) (HIN.out.2.2.2.1.later S6.out.1.bel (Nat.le_refl _))).mono ?_
  rintro e w7 ⟨v7, c7, rfl, o7, l7⟩
  have S7 : Hid (Tw w w7 t ∧ Blk w7 g 5 (u8s (spared t.ms)) ∧ Out w7 w6.heap.size w7.heap.size v7 L2.length c7 L2 ∧ w6.heap.size ≤ w7.heap.size) := ⟨S6.out.1.later l7, S6.out.2.1.later l7 S6.out.2.1.lt, o7, l7.size⟩
  clear o7 l7 cb
  have cb := S7.out.1.there hin.dl
  go_wp2_with (first | ((with_reducible show wpList _ _ _ (({ dst := some 69, op := _, type := _, pos := _, after := _, guard := _ } : Oper) :: _) _ _); refine wpList_load_mid rfl 23 _ rfl w.heap.size 0 rfl t.cf.cs _ S7.out.1.cfg Tryd.underlying23 rfl (cg_size t.cf) ?_))
  refine (HA2.out w7 _ _ (spared_seen S7.out.2.1 HIN.out.1.len HIN.out.1.bytes HIN.out.2.2.1) (fun h => by cases h) (HIN.out.2.2.2.1.later S7.out.1.bel (Nat.le_refl _))).mono ?_
  rintro e w8 ⟨v8, c8, rfl, o8, l8⟩
  have S8 : Hid (Tw w w8 t ∧ Blk w8 g 5 (u8s (spared t.ms)) ∧ Out w8 w6.heap.size w7.heap.size v7 L2.length c7 L2 ∧ Out w8 w7.heap.size w8.heap.size v8 L2.length c8 L2 ∧ w6.heap.size ≤ w7.heap.size ∧ w7.heap.size ≤ w8.heap.size) := ⟨S7.out.1.later l8, S7.out.2.1.later l8 S7.out.2.1.lt, S7.out.2.2.1.later l8, o8, S7.out.2.2.2, l8.size⟩
  clear o8 l8 S7 cb
  have ct := S8.out.1.text hin.dl
  have cb := S8.out.1.there hin.dl
  go_wp2_with (first | ((with_reducible show wpList _ _ _ (({ dst := some 78, op := _, type := _, pos := _, after := _, guard := _ } : Oper) :: _) _ _); refine wpList_load_mid rfl 23 _ rfl w.heap.size 0 rfl t.cf.cs _ S8.out.1.cfg Tryd.underlying23 rfl (cg_size t.cf) ?_))
  refine (HD2.out w8 _ _ (HIN.out.1.later S8.out.1.bel (Nat.le_refl _)) HIN.out.2.1).mono ?_
  rintro e w9 ⟨v9, c9, rfl, o9, l9⟩
  have S9 : Hid (Tw w w9 t ∧ Blk w9 g 5 (u8s (spared t.ms)) ∧ Out w9 w6.heap.size w7.heap.size v7 L2.length c7 L2 ∧ Out w9 w7.heap.size w8.heap.size v8 L2.length c8 L2 ∧ w6.heap.size ≤ w7.heap.size ∧ w7.heap.size ≤ w8.heap.size ∧ w8.heap.size ≤ w9.heap.size ∧ Seen w9 v9 L2.length L2) := ⟨S8.out.1.later l9, S8.out.2.1.later l9 S8.out.2.1.lt, S8.out.2.2.1.later l9, S8.out.2.2.2.1.later l9, S8.out.2.2.2.2.1, S8.out.2.2.2.2.2, l9.size, o9.seen⟩
  clear o9 l9 S8 ct cb
  have ct := S9.out.1.text hin.dl
  go_wp2_with fail
  refine (twice_any v7 v8 v9 t.ao L2.length c7 c8 c7 c8 c9 t.n t.c g w6.heap.size w7.heap.size w8.heap.size L2 t.ms w9 S9.out.2.2.1 S9.out.2.2.2.1 (.inl rfl) (.inl rfl) S9.out.2.2.2.2.1 S9.out.2.2.2.2.2.1 S9.out.2.2.2.2.2.2.1 S9.out.2.2.2.2.2.2.2 S9.out.2.1 S6.out.2.2.2 (HIN.out.1.later S9.out.1.bel (Nat.le_refl _)) (fun h0 b o e => Nat.lt_trans (HSO.out.1 h0 b o e) S6.out.1.lt) HL2.out.1 HIN.out.2.2.1).mono ?_
  rintro e wa ⟨rfl, ka⟩
  have SA : Hid (Tw w wa t ∧ True) := ⟨S9.out.1.kept ka (fun y hy => by have := S6.out.1.lt; have h : w6.heap.size ≤ y ∧ y < w8.heap.size := hy; omega), trivial⟩
  clear ka S9 S6 ct HA2 HD2
  have ct := SA.out.1.more hin.dl
  go_wp2_with fail
  refine (spare_big _ _ _ _ _ (HIN.out.2.2.2.2.1.later SA.out.1.bel (Nat.le_refl _)) HIN.out.2.2.2.2.2.2).mono ?_
  rintro e wb ⟨rfl, bb, sb, lb⟩
  obtain ⟨h, hgq⟩ : ∃ h, wa.heap.size = h := ⟨_, rfl⟩
  have SB : Hid (Tw w wb t ∧ Blk wb h 5 (u8s (spared t.zs)) ∧ w.heap.size < h ∧ h < wb.heap.size) := ⟨SA.out.1.later lb, hgq ▸ bb, by have := SA.out.1.lt; omega, by omega⟩
  rw [hgq]
  clear bb sb lb SA ct hgq
  go_wp2_with (first | ((with_reducible show wpList _ _ _ (({ dst := some 104, op := _, type := _, pos := _, after := _, guard := _ } : Oper) :: _) _ _); refine wpList_load_mid rfl 23 _ rfl w.heap.size 0 rfl t.cf.cs _ SB.out.1.cfg Tryd.underlying23 rfl (cg_size t.cf) ?_))
  refine (HA3.out wb _ _ (spared_seen SB.out.2.1 HIN.out.2.2.2.2.1.len HIN.out.2.2.2.2.1.bytes HIN.out.2.2.2.2.2.2)).mono ?_
  rintro e wc ⟨vc, cc, dc, rfl, ec, oc, lc⟩
  have EC : Hid (dc = cc ∨ dc = L3.length) := ec
  have SC : Hid (Tw w wc t ∧ Blk wc h 5 (u8s (spared t.zs)) ∧ Out wc wb.heap.size wc.heap.size vc L3.length cc L3 ∧ wb.heap.size ≤ wc.heap.size) := ⟨SB.out.1.later lc, SB.out.2.1.later lc SB.out.2.1.lt, oc, lc.size⟩
  clear ec oc lc
  go_wp2_with (first | ((with_reducible show wpList _ _ _ (({ dst := some 10, op := _, type := _, pos := _, after := _, guard := _ } : Oper) :: _) _ _); refine wpList_alloc_new rfl 35 rfl 16 _ zero_Drop ?_; intro wd bd sd ld; have zd : Hid (wd.heap.size = wc.heap.size + 1) := sd; clear sd) | (refine wpList_store_blk rfl 35 35 (.tmp 10) (.tmp 107) rfl _ rfl _ (u8s D3) rfl bd (by rw [u8s_length, HL2.out.2.2.2]; rfl) (by rw [u8s_length, HL2.out.2.2.2]; exact size_Drop) (u8s_one _) ?_; intro we be se ke; have ze : Hid (we.heap.size = wd.heap.size) := se; clear se; have SE : Hid (Tw w we t ∧ Blk we h 5 (u8s (spared t.zs)) ∧ Out we wb.heap.size wc.heap.size vc L3.length cc L3 ∧ wb.heap.size ≤ wc.heap.size ∧ wc.heap.size < we.heap.size ∧ Blk we wc.heap.size 35 (u8s D3)) := (by have q1 := zd.out; have q2 := ze.out; have q3 := SC.out.2.2.2; have q4 := SC.out.1.lt; have q5 := SC.out.2.1.lt; exact ⟨(SC.out.1.later ld).kept ke (fun y hy => (by have h' : y = wc.heap.size := hy; omega)), (SC.out.2.1.later ld q5).kept ke (by omega), (SC.out.2.2.1.later ld).kept ke (fun y h1 h2 h3 => (by have h' : y = wc.heap.size := h3; omega)), q3, by omega, be⟩); clear ld ke bd be SC) | ((with_reducible show wpList _ _ _ (({ dst := some 112, op := _, type := _, pos := _, after := _, guard := _ } : Oper) :: _) _ _); refine wpList_load_mid rfl 23 _ rfl w.heap.size 0 rfl t.cf.cs _ SE.out.1.cfg Tryd.underlying23 rfl (cg_size t.cf) ?_))
  refine (HA3.out we _ _ (spared_seen SE.out.2.1 HIN.out.2.2.2.2.1.len HIN.out.2.2.2.2.1.bytes HIN.out.2.2.2.2.2.2)).mono ?_
  rintro e wf ⟨vf, cf, df, rfl, ef, of, lf⟩
  have EF : Hid (df = cf ∨ df = L3.length) := ef
  have SF : Hid (Tw w wf t ∧ Blk wf h 5 (u8s (spared t.zs)) ∧ Out wf wb.heap.size we.heap.size vc L3.length cc L3 ∧ Out wf we.heap.size wf.heap.size vf L3.length cf L3 ∧ wb.heap.size ≤ we.heap.size ∧ we.heap.size ≤ wf.heap.size ∧ Blk wf wc.heap.size 35 (u8s D3)) := (by
    have q := SE.out.2.2.1.later lf
    exact ⟨SE.out.1.later lf, SE.out.2.1.later lf SE.out.2.1.lt, ⟨q.own, q.seen, fun b o e => ⟨(q.place b o e).1, Nat.lt_trans (q.place b o e).2 SE.out.2.2.2.2.1⟩, q.nil⟩, of, Nat.le_trans SE.out.2.2.2.1 (Nat.le_of_lt SE.out.2.2.2.2.1), lf.size, SE.out.2.2.2.2.2.later lf SE.out.2.2.2.2.2.lt⟩)
  clear ef of lf
  have ct := SF.out.1.more hin.dl
  go_wp2_with (first | ((with_reducible show wpList _ _ _ (({ dst := some 120, op := _, type := _, pos := _, after := _, guard := _ } : Oper) :: _) _ _); refine wpList_load_mid rfl 23 _ rfl w.heap.size 0 rfl t.cf.cs _ SF.out.1.cfg Tryd.underlying23 rfl (cg_size t.cf) ?_))
  refine (HD3.out wf _ _ (HIN.out.2.2.2.2.1.later SF.out.1.bel (Nat.le_refl _)) HIN.out.2.2.2.2.2.1).mono ?_
  rintro e wg ⟨vg, cg, dg, rfl, eg, og, lg⟩
  have SG : Hid (Tw w wg t ∧ Blk wg h 5 (u8s (spared t.zs)) ∧ Out wg wb.heap.size we.heap.size vc L3.length cc L3 ∧ Out wg we.heap.size wf.heap.size vf L3.length cf L3 ∧ wb.heap.size ≤ we.heap.size ∧ we.heap.size ≤ wf.heap.size ∧ Blk wg wc.heap.size 35 (u8s D3) ∧ wf.heap.size ≤ wg.heap.size ∧ Seen wg vg L3.length L3) := ⟨SF.out.1.later lg, SF.out.2.1.later lg SF.out.2.1.lt, SF.out.2.2.1.later lg, SF.out.2.2.2.1.later lg, SF.out.2.2.2.2.1, SF.out.2.2.2.2.2.1, SF.out.2.2.2.2.2.2.later lg SF.out.2.2.2.2.2.2.lt, lg.size, og.seen⟩
  clear eg og lg ct SF
  have ct0 : True := trivial
  go_wp2_with (first | ((with_reducible show wpList _ _ _ (({ dst := some 11, op := _, type := _, pos := _, after := _, guard := _ } : Oper) :: _) _ _); refine wpList_alloc_new rfl 35 rfl 16 _ zero_Drop ?_; intro wh bh sh lh; have zh : Hid (wh.heap.size = wg.heap.size + 1) := sh; clear sh) | (refine wpList_store_blk rfl 35 35 (.tmp 11) (.tmp 124) rfl _ rfl _ (u8s D3) rfl bh (by rw [u8s_length, HL2.out.2.2.2]; rfl) (by rw [u8s_length, HL2.out.2.2.2]; exact size_Drop) (u8s_one _) ?_; intro wi bi si ki; have zi : Hid (wi.heap.size = wh.heap.size) := si; clear si; have SI : Hid (Tw w wi t ∧ Blk wi h 5 (u8s (spared t.zs)) ∧ Out wi wb.heap.size we.heap.size vc L3.length cc L3 ∧ Out wi we.heap.size wf.heap.size vf L3.length cf L3 ∧ wb.heap.size ≤ we.heap.size ∧ we.heap.size ≤ wf.heap.size ∧ Blk wi wc.heap.size 35 (u8s D3) ∧ wf.heap.size ≤ wi.heap.size ∧ Seen wi vg L3.length L3 ∧ Blk wi wg.heap.size 35 (u8s D3)) := (by have q1 := zh.out; have q2 := zi.out; have q3 := SG.out.2.2.2.2.2.2.2.1; have q4 := SG.out.1.lt; have q5 := SG.out.2.1.lt; have q6 := SG.out.2.2.2.2.2.1; have q7 := SG.out.2.2.2.2.2.2.1.lt; exact ⟨(SG.out.1.later lh).kept ki (fun y hy => (by have h' : y = wg.heap.size := hy; omega)), (SG.out.2.1.later lh q5).kept ki (by omega), (SG.out.2.2.1.later lh).kept ki (fun y h1 h2 h3 => (by have h' : y = wg.heap.size := h3; omega)), (SG.out.2.2.2.1.later lh).kept ki (fun y h1 h2 h3 => (by have h' : y = wg.heap.size := h3; omega)), SG.out.2.2.2.2.1, q6, (SG.out.2.2.2.2.2.2.1.later lh q7).kept ki (by omega), by omega, seen_past SG.out.2.2.2.2.2.2.2.2 lh ki, bi⟩); clear lh ki bh bi SG; have ct := SI.out.1.more hin.dl) | ((with_reducible show wpList _ _ _ (({ dst := some 127, op := _, type := _, pos := _, after := _, guard := _ } : Oper) :: _) _ _); refine wpList_load_blk rfl 35 (.tmp 10) rfl _ rfl (u8s D3) _ SI.out.2.2.2.2.2.2.1 Tryd.underlying35 rfl (by rw [u8s_length, HL2.out.2.2.2]; exact size_Drop) ?_) | ((with_reducible show wpList _ _ _ (({ dst := some 128, op := _, type := _, pos := _, after := _, guard := _ } : Oper) :: _) _ _); refine wpList_load_blk rfl 35 (.tmp 11) rfl _ rfl (u8s D3) _ SI.out.2.2.2.2.2.2.2.2.2 Tryd.underlying35 rfl (by rw [u8s_length, HL2.out.2.2.2]; exact size_Drop) ?_))
  refine (twice_any vc vf vg t.bo L3.length cc cf dc df dg t.m t.e h wb.heap.size we.heap.size wf.heap.size L3 t.zs wi SI.out.2.2.1 SI.out.2.2.2.1 EC.out EF.out SI.out.2.2.2.2.1 SI.out.2.2.2.2.2.1 SI.out.2.2.2.2.2.2.2.1 SI.out.2.2.2.2.2.2.2.2.1 SI.out.2.1 SB.out.2.2.2 (HIN.out.2.2.2.2.1.later SI.out.1.bel (Nat.le_refl _)) (fun h0 b o e => Nat.lt_trans (HSO.out.2 h0 b o e) SB.out.1.lt) HL2.out.2.1 HIN.out.2.2.2.2.2.2).mono ?_
  rintro e wj ⟨rfl, kj⟩
  have SJ : Hid (Tw w wj t ∧ Blk wj h 5 (u8s (spared t.zs)) ∧ w.heap.size < h ∧ h < wj.heap.size) := ⟨SI.out.1.kept kj (fun y hy => by have := SB.out.1.lt; have h' : wb.heap.size ≤ y ∧ y < wf.heap.size := hy; omega), SI.out.2.1.kept kj (fun hy => by have h' : wb.heap.size ≤ h ∧ h < wf.heap.size := hy; have := SB.out.2.2.2; omega), SB.out.2.2.1, Nat.lt_of_lt_of_le SI.out.2.1.lt kj.size⟩
  clear kj SI SB SE ct EC EF HA3 HD3
  go_wp2_with (first | ((with_reducible show wpList _ _ _ (({ dst := some 147, op := _, type := _, pos := _, after := _, guard := _ } : Oper) :: _) _ _); refine wpList_load_mid rfl 23 _ rfl w.heap.size 0 rfl t.cf.cs _ SJ.out.1.cfg Tryd.underlying23 rfl (cg_size t.cf) ?_))
  refine (HA4.out wj _ _ (spared_seen SJ.out.2.1 HIN.out.2.2.2.2.1.len HIN.out.2.2.2.2.1.bytes HIN.out.2.2.2.2.2.2)).mono ?_
  rintro e wk ⟨vk, ck, dk, rfl, ek, ok, lk⟩
  have EK : Hid (dk = ck ∨ dk = L4.length) := ek
  have SK : Hid (Tw w wk t ∧ Blk wk h 5 (u8s (spared t.zs)) ∧ Out wk wj.heap.size wk.heap.size vk L4.length ck L4 ∧ wj.heap.size ≤ wk.heap.size) := ⟨SJ.out.1.later lk, SJ.out.2.1.later lk SJ.out.2.1.lt, ok, lk.size⟩
  clear ek ok lk
  go_wp2_with (first | ((with_reducible show wpList _ _ _ (({ dst := some 155, op := _, type := _, pos := _, after := _, guard := _ } : Oper) :: _) _ _); refine wpList_load_mid rfl 23 _ rfl w.heap.size 0 rfl t.cf.cs _ SK.out.1.cfg Tryd.underlying23 rfl (cg_size t.cf) ?_))
  refine (HA4.out wk _ _ (spared_seen SK.out.2.1 HIN.out.2.2.2.2.1.len HIN.out.2.2.2.2.1.bytes HIN.out.2.2.2.2.2.2)).mono ?_
  rintro e wl ⟨vl, cl, dl, rfl, el, ol, ll⟩
  have EL : Hid (dl = cl ∨ dl = L4.length) := el
  have SL : Hid (Tw w wl t ∧ Blk wl h 5 (u8s (spared t.zs)) ∧ Out wl wj.heap.size wk.heap.size vk L4.length ck L4 ∧ Out wl wk.heap.size wl.heap.size vl L4.length cl L4 ∧ wj.heap.size ≤ wk.heap.size ∧ wk.heap.size ≤ wl.heap.size) := ⟨SK.out.1.later ll, SK.out.2.1.later ll SK.out.2.1.lt, SK.out.2.2.1.later ll, ol, SK.out.2.2.2, ll.size⟩
  clear el ol ll SK
  have ct := SL.out.1.more hin.dl
  go_wp2_with (first | ((with_reducible show wpList _ _ _ (({ dst := some 163, op := _, type := _, pos := _, after := _, guard := _ } : Oper) :: _) _ _); refine wpList_load_mid rfl 23 _ rfl w.heap.size 0 rfl t.cf.cs _ SL.out.1.cfg Tryd.underlying23 rfl (cg_size t.cf) ?_))
  refine (HD4.out wl _ _ (HIN.out.2.2.2.2.1.later SL.out.1.bel (Nat.le_refl _)) HIN.out.2.2.2.2.2.1).mono ?_
  rintro e wm ⟨vm, cm, dm, rfl, em, om, lm⟩
  have SM : Hid (Tw w wm t ∧ Blk wm h 5 (u8s (spared t.zs)) ∧ Out wm wj.heap.size wk.heap.size vk L4.length ck L4 ∧ Out wm wk.heap.size wl.heap.size vl L4.length cl L4 ∧ wj.heap.size ≤ wk.heap.size ∧ wk.heap.size ≤ wl.heap.size ∧ wl.heap.size ≤ wm.heap.size ∧ Seen wm vm L4.length L4) := ⟨SL.out.1.later lm, SL.out.2.1.later lm SL.out.2.1.lt, SL.out.2.2.1.later lm, SL.out.2.2.2.1.later lm, SL.out.2.2.2.2.1, SL.out.2.2.2.2.2, lm.size, om.seen⟩
  clear em om lm SL ct
  have ct := SM.out.1.more hin.dl
  have rb4 : (B4 == B4) = true := by simp
  have re4 : (E4 == E4) = true := by simp
  go_wp2_with fail
  refine (twice_any vk vl vm t.bo L4.length ck cl dk dl dm t.m t.e h wj.heap.size wk.heap.size wl.heap.size L4 t.zs wm SM.out.2.2.1 SM.out.2.2.2.1 EK.out EL.out SM.out.2.2.2.2.1 SM.out.2.2.2.2.2.1 SM.out.2.2.2.2.2.2.1 SM.out.2.2.2.2.2.2.2 SM.out.2.1 SJ.out.2.2.2 (HIN.out.2.2.2.2.1.later SM.out.1.bel (Nat.le_refl _)) (fun h0 b o e => Nat.lt_trans (HSO.out.2 h0 b o e) SJ.out.1.lt) HL2.out.2.2.1 HIN.out.2.2.2.2.2.2).mono ?_
  rintro e wn ⟨rfl, kn⟩
  have SN : Hid (Below w.heap.size w wn) := (SM.out.1.kept kn (fun y hy => by have := SJ.out.1.lt; have h' : wj.heap.size ≤ y ∧ y < wl.heap.size := hy; omega)).bel
  clear kn SM SJ ct EK EL
  go_wp2_with fail
  go_ret
  exact ⟨rfl, SN.out⟩
end Go.Proofs.YtmgkjldjeomcmaaDoor.codecTalks
