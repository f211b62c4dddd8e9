/- The walk of OctetReads. -/
import Derived.Test.YtgcpckkhkppnhaaORdB
namespace Go.Proofs.Ytgcpckkhkppnhaa
open Go.RowKit
set_option linter.unusedVariables false
set_option linter.unusedSimpArgs false

structure Rs where
  a1 : Option Addr
  n1 : Nat
  k1 : Nat
  z1 : List Int
  a2 : Option Addr
  n2 : Nat
  k2 : Nat
  z2 : List Int
  s1 : Option Addr
  m1 : Nat
  j1 : Nat
  i1 : List Item
  s2 : Option Addr
  m2 : Nat
  j2 : Nat
  i2 : List Item
def rdsC (x : Rs) : List Value := [.slice x.a1 x.n1 x.k1, .slice x.a2 x.n2 x.k2, .slice x.s1 x.m1 x.j1, .slice x.s2 x.m2 x.j2]
structure RsIn (w : World) (x : Rs) : Prop where
  b1 : Seen w x.a1 x.n1 x.z1
  b2 : Seen w x.a2 x.n2 x.z2
  h1 : x.a1 = none → x.k1 = 0
  h2 : x.a2 = none → x.k2 = 0
  t1 : x.n1 ≤ 140737488351232
  t2 : x.n2 ≤ 140737488351232
  s1 : SeenS w x.s1 x.m1 x.i1
  s2 : SeenS w x.s2 x.m2 x.i2
theorem RsIn.later {w w' : World} {x : Rs} (h : RsIn w x) (l : Below w.heap.size w w') : RsIn w' x := ⟨h.b1.later l (Nat.le_refl _), h.b2.later l (Nat.le_refl _), h.h1, h.h2, h.t1, h.t2, h.s1.later l, h.s2.later l⟩
theorem seen_front {w : World} {g n : Nat} {zs ys : List Int} (h : RowAt w g (zs ++ ys)) (hl : zs.length = n) (hn : n ≤ 140737488355328) (hb : Bytes zs) : Seen w (some ⟨g, 0, none⟩) n zs := by
  have h1 := h.take n
  rw [List.take_left' hl] at h1
  have h2 := Seen.of_row (n := n) h1 (by omega) hn hb
  rwa [List.take_of_length_le (by omega)] at h2
/-- What stands in the last loop: both pairs of readers. -/
structure Fo (w W : World) (r : Nat) (ar : Option Addr) (cr : Nat) (t : Nat) (at' : Option Addr) (ct : Nat) (q : Nat) (aq : Option Addr) (cq : Nat) (u : Nat) (au : Option Addr) (cu : Nat) (z1 z2 : List Int) (pa : Nat) (ea : Int) (pb : Nat) (eb : Int) : Prop where
  one : Two W r ar cr q aq cq z1 pa ea
  two : Two W t at' ct u au cu z2 pb eb
  bel : Below w.heap.size w W
set_option maxRecDepth 20000 in
set_option maxHeartbeats 4000000 in
theorem octetReads.walk (x : Rs) (w : World) (h : RsIn w x) : Calls Try.prog 3 #[.agg (rdsC x).toArray] w fun e w' => e = .returned (.bool true) ∧ Below w.heap.size w w' := by
  have HI : Hid (RsIn w x) := h
  have T1 := h.t1
  have T2 := h.t2
  have M1 := h.s1.top
  have M2 := h.s2.top
  clear h
  go_enter Try.func3, Try.ntmps3
  go_wp2_with (first | (refine wpList_box_new rfl 25 _ rfl (rdsC x) rfl ?_; intro w1 b1 s1 l1))
  have H1 : Hid (Blk w1 w.heap.size 25 (rdsC x) ∧ Below w.heap.size w w1) := ⟨b1, l1⟩
  clear b1 s1 l1
  refine region_inv [.val (.pointer (some ⟨w.heap.size, 0, none⟩)), .val (.slice x.a1 x.n1 x.k1), .val (.pointer (some ⟨w.heap.size, 1, none⟩)), .val (.slice x.a2 x.n2 x.k2), .val (.pointer (some ⟨w.heap.size, 2, none⟩)), .val (.slice x.s1 x.m1 x.j1), .val (.pointer (some ⟨w.heap.size, 3, none⟩)), .val (.slice x.s2 x.m2 x.j2), .val (.slice x.a1 x.n1 x.k1), .val (.slice x.a2 x.n2 x.k2), .val (.slice x.s1 x.m1 x.j1)] (by kernel_rfl) (by kernel_rfl) (by kernel_rfl) ?_ ?_
  · refine Steps'.cons ?_ (Steps'.cons ?_ (Steps'.cons ?_ (Steps'.cons ?_ (Steps'.cons ?_ (Steps'.cons ?_ (Steps'.cons ?_ (Steps'.cons ?_ (Steps'.cons ?_ (Steps'.cons ?_ (Steps'.cons ?_ (Steps'.one _ _ _ _ _ _ _)))))))))))
    · intro ax wx hb hs hd
      have h1 : ax.tmps.getD 1 undef = (.pointer (some ⟨w.heap.size, 0, none⟩)) := hs 1 (by kernel_rfl)
      refine Does.value (.pointer (some ⟨w.heap.size, 0, none⟩)) ?_ rfl
      clear hs hd
      go_simp
    · intro ax wx hb hs hd
      have h16 : ax.tmps.getD 16 undef = (.pointer (some ⟨w.heap.size, 0, none⟩)) := hd 0 16 rfl (by kernel_rfl) (by decide)
      have cx : wx.cell? ⟨w.heap.size, 0, none⟩ = some (.slice x.a1 x.n1 x.k1) := (H1.out.1.later hb H1.out.1.lt).cell 0
      refine Does.value (.slice x.a1 x.n1 x.k1) ?_ rfl
      clear hs hd
      go_simp
    · intro ax wx hb hs hd
      have h1 : ax.tmps.getD 1 undef = (.pointer (some ⟨w.heap.size, 0, none⟩)) := hs 1 (by kernel_rfl)
      refine Does.value (.pointer (some ⟨w.heap.size, 1, none⟩)) ?_ rfl
      clear hs hd
      go_simp
    · intro ax wx hb hs hd
      have h18 : ax.tmps.getD 18 undef = (.pointer (some ⟨w.heap.size, 1, none⟩)) := hd 2 18 rfl (by kernel_rfl) (by decide)
      have cx : wx.cell? ⟨w.heap.size, 1, none⟩ = some (.slice x.a2 x.n2 x.k2) := (H1.out.1.later hb H1.out.1.lt).cell 1
      refine Does.value (.slice x.a2 x.n2 x.k2) ?_ rfl
      clear hs hd
      go_simp
    · intro ax wx hb hs hd
      have h1 : ax.tmps.getD 1 undef = (.pointer (some ⟨w.heap.size, 0, none⟩)) := hs 1 (by kernel_rfl)
      refine Does.value (.pointer (some ⟨w.heap.size, 2, none⟩)) ?_ rfl
      clear hs hd
      go_simp
    · intro ax wx hb hs hd
      have h20 : ax.tmps.getD 20 undef = (.pointer (some ⟨w.heap.size, 2, none⟩)) := hd 4 20 rfl (by kernel_rfl) (by decide)
      have cx : wx.cell? ⟨w.heap.size, 2, none⟩ = some (.slice x.s1 x.m1 x.j1) := (H1.out.1.later hb H1.out.1.lt).cell 2
      refine Does.value (.slice x.s1 x.m1 x.j1) ?_ rfl
      clear hs hd
      go_simp
    · intro ax wx hb hs hd
      have h1 : ax.tmps.getD 1 undef = (.pointer (some ⟨w.heap.size, 0, none⟩)) := hs 1 (by kernel_rfl)
      refine Does.value (.pointer (some ⟨w.heap.size, 3, none⟩)) ?_ rfl
      clear hs hd
      go_simp
    · intro ax wx hb hs hd
      have h22 : ax.tmps.getD 22 undef = (.pointer (some ⟨w.heap.size, 3, none⟩)) := hd 6 22 rfl (by kernel_rfl) (by decide)
      have cx : wx.cell? ⟨w.heap.size, 3, none⟩ = some (.slice x.s2 x.m2 x.j2) := (H1.out.1.later hb H1.out.1.lt).cell 3
      refine Does.value (.slice x.s2 x.m2 x.j2) ?_ rfl
      clear hs hd
      go_simp
    · intro ax wx hb hs hd
      have h17 : ax.tmps.getD 17 undef = (.slice x.a1 x.n1 x.k1) := hd 1 17 rfl (by kernel_rfl) (by decide)
      refine Does.value (.slice x.a1 x.n1 x.k1) ?_ rfl
      clear hs hd
      go_simp
    · intro ax wx hb hs hd
      have h19 : ax.tmps.getD 19 undef = (.slice x.a2 x.n2 x.k2) := hd 3 19 rfl (by kernel_rfl) (by decide)
      refine Does.value (.slice x.a2 x.n2 x.k2) ?_ rfl
      clear hs hd
      go_simp
    · intro ax wx hb hs hd
      have h21 : ax.tmps.getD 21 undef = (.slice x.s1 x.m1 x.j1) := hd 5 21 rfl (by kernel_rfl) (by decide)
      refine Does.value (.slice x.s1 x.m1 x.j1) ?_ rfl
      clear hs hd
      go_simp
  · intro wx hb
    refine @Ends.val _ _ _ _ _ _ _ _ _ (.pointer (some ⟨w.heap.size, 0, none⟩)) rfl ?_
    refine @Ends.val _ _ _ _ _ _ _ _ _ (.slice x.a1 x.n1 x.k1) rfl ?_
    refine @Ends.val _ _ _ _ _ _ _ _ _ (.pointer (some ⟨w.heap.size, 1, none⟩)) rfl ?_
    refine @Ends.val _ _ _ _ _ _ _ _ _ (.slice x.a2 x.n2 x.k2) rfl ?_
    refine @Ends.val _ _ _ _ _ _ _ _ _ (.pointer (some ⟨w.heap.size, 2, none⟩)) rfl ?_
    refine @Ends.val _ _ _ _ _ _ _ _ _ (.slice x.s1 x.m1 x.j1) rfl ?_
    refine @Ends.val _ _ _ _ _ _ _ _ _ (.pointer (some ⟨w.heap.size, 3, none⟩)) rfl ?_
    refine @Ends.val _ _ _ _ _ _ _ _ _ (.slice x.s2 x.m2 x.j2) rfl ?_
    refine @Ends.val _ _ _ _ _ _ _ _ _ (.slice x.a1 x.n1 x.k1) rfl ?_
    refine @Ends.val _ _ _ _ _ _ _ _ _ (.slice x.a2 x.n2 x.k2) rfl ?_
    refine @Ends.val _ _ _ _ _ _ _ _ _ (.slice x.s1 x.m1 x.j1) rfl ?_
    refine @Ends.one _ _ _ _ _ _ _ ?_
    simp only [Act.put, List.setIfInBounds_toArray, List.set_cons_zero, List.set_cons_succ]
    have H2 : Hid (RsIn wx x ∧ Below w.heap.size w wx) := ⟨HI.out.later (below_chain H1.out.2 hb H1.out.2.size), below_chain H1.out.2 hb H1.out.2.size⟩
    clear hb
    refine last_assign (.tmp 23) rfl (some 6) rfl (.slice x.s2 x.m2 x.j2) rfl ?_
    simp only [Act.put, List.setIfInBounds_toArray, List.set_cons_zero, List.set_cons_succ]
    go_wp2_with fail
    refine (lent_any x.a1 x.n1 x.k1 x.z1 wx H2.out.1.b1 HI.out.h1 (by omega)).mono ?_
    rintro e w2 ⟨g1, p1, rfl, ro1, ge1, cp1, mx1, l2⟩
    have z2 := l2.size
    have HC1 : Hid (x.n1 + 90 ≤ p1 ∧ p1 ≤ maxLen ∧ wx.heap.size ≤ g1) := ⟨cp1, mx1, ge1⟩
    have le1 : x.n1 ≤ p1 := by omega
    have A2 : Hid (RowAt w2 g1 (x.z1 ++ marks) ∧ Below w.heap.size w w2) := ⟨ro1, below_chain H2.out.2 l2 H2.out.2.size⟩
    clear ro1 ge1 cp1 mx1 l2
    go_wp2_with fail
    refine (lent_any x.a2 x.n2 x.k2 x.z2 w2 (HI.out.later A2.out.2).b2 HI.out.h2 (by omega)).mono ?_
    rintro e w3 ⟨g2, p2, rfl, ro2, ge2, cp2, mx2, l3⟩
    have z3 := l3.size
    have lg1 := A2.out.1.lt
    have HC2 : Hid (x.n2 + 90 ≤ p2 ∧ p2 ≤ maxLen ∧ w2.heap.size ≤ g2) := ⟨cp2, mx2, ge2⟩
    have le2 : x.n2 ≤ p2 := by omega
    have A3 : Hid (RowAt w3 g1 (x.z1 ++ marks) ∧ RowAt w3 g2 (x.z2 ++ marks) ∧ Below w.heap.size w w3) := ⟨A2.out.1.block (l3.block g1 lg1), ro2, below_chain A2.out.2 l3 A2.out.2.size⟩
    have lg2 := ro2.lt
    clear ro2 ge2 cp2 mx2 l3
    go_wp2_with fail
    refine (newReader_any (some ⟨g1, 0, none⟩) x.n1 p1 x.z1 w3 (seen_front A3.out.1 HI.out.b1.len (by omega) HI.out.b1.bytes)).mono ?_
    rintro e w4 ⟨r, ar, cr, rfl, d4, gr, gr', l4⟩
    have z4 := l4.size
    have A4 : Hid (RowAt w4 g1 (x.z1 ++ marks) ∧ RowAt w4 g2 (x.z2 ++ marks) ∧ Below w.heap.size w w4 ∧ Rd w4 r ar cr x.z1 0 0) := ⟨A3.out.1.block (l4.block g1 (by omega)), A3.out.2.1.block (l4.block g2 lg2), below_chain A3.out.2.2 l4 A3.out.2.2.size, d4⟩
    have Gr : Hid (w3.heap.size ≤ r ∧ r < w4.heap.size ∧ ∀ g, ar = some ⟨g, 0, none⟩ → w3.heap.size ≤ g ∧ g < w4.heap.size) := ⟨gr, d4.lt, fun g hg => ⟨gr' g hg, d4.row_lt g hg⟩⟩
    clear d4 gr gr' l4
    go_wp2_with fail
    refine (newReader_any (some ⟨g2, 0, none⟩) x.n2 p2 x.z2 w4 (seen_front A4.out.2.1 HI.out.b2.len (by omega) HI.out.b2.bytes)).mono ?_
    rintro e w5 ⟨t, at', ct, rfl, d5, gt, gt', l5⟩
    have z5 := l5.size
    have A5 : Hid (RowAt w5 g1 (x.z1 ++ marks) ∧ RowAt w5 g2 (x.z2 ++ marks) ∧ Below w.heap.size w w5 ∧ Rd w5 r ar cr x.z1 0 0 ∧ Rd w5 t at' ct x.z2 0 0) := ⟨A4.out.1.block (l5.block g1 (by omega)), A4.out.2.1.block (l5.block g2 (by omega)), below_chain A4.out.2.2.1 l5 A4.out.2.2.1.size, A4.out.2.2.2.later l5 (Nat.le_refl _), d5⟩
    have Gt : Hid (w4.heap.size ≤ t ∧ t < w5.heap.size ∧ ∀ g, at' = some ⟨g, 0, none⟩ → w4.heap.size ≤ g ∧ g < w5.heap.size) := ⟨gt, d5.lt, fun g hg => ⟨gt' g hg, d5.row_lt g hg⟩⟩
    clear d5 gt gt' l5
    go_wp2_with fail
    refine (rnew_any x.a1 x.n1 x.k1 x.z1 w5 (HI.out.later A5.out.2.2.1).b1 HI.out.h1).mono ?_
    rintro e w6 ⟨q, aq, cq, rfl, d6, gq, gq', l6⟩
    have z6 := l6.size
    have A6 : Hid (RowAt w6 g1 (x.z1 ++ marks) ∧ RowAt w6 g2 (x.z2 ++ marks) ∧ Below w.heap.size w w6 ∧ Rd w6 r ar cr x.z1 0 0 ∧ Rd w6 t at' ct x.z2 0 0 ∧ Rd w6 q aq cq x.z1 0 0) := ⟨A5.out.1.block (l6.block g1 (by omega)), A5.out.2.1.block (l6.block g2 (by omega)), below_chain A5.out.2.2.1 l6 A5.out.2.2.1.size, A5.out.2.2.2.1.later l6 (Nat.le_refl _), A5.out.2.2.2.2.later l6 (Nat.le_refl _), d6⟩
    have Gq : Hid (w5.heap.size ≤ q ∧ q < w6.heap.size ∧ ∀ g, aq = some ⟨g, 0, none⟩ → w5.heap.size ≤ g ∧ g < w6.heap.size) := ⟨gq, d6.lt, fun g hg => ⟨gq' g hg, d6.row_lt g hg⟩⟩
    clear d6 gq gq' l6
    go_wp2_with fail
    refine (rnew_any x.a2 x.n2 x.k2 x.z2 w6 (HI.out.later A6.out.2.2.1).b2 HI.out.h2).mono ?_
    rintro e w7 ⟨u, au, cu, rfl, d7, gu, gu', l7⟩
    have z7 := l7.size
    have Gu : Hid (w6.heap.size ≤ u ∧ u < w7.heap.size ∧ ∀ g, au = some ⟨g, 0, none⟩ → w6.heap.size ≤ g ∧ g < w7.heap.size) := ⟨gu, d7.lt, fun g hg => ⟨gu' g hg, d7.row_lt g hg⟩⟩
    have NE : Hid (r ≠ q ∧ t ≠ u ∧ (∀ y, (y = r ∨ y = q) → y ≠ t ∧ y ≠ u ∧ (∀ g, at' = some ⟨g, 0, none⟩ → g ≠ y) ∧ (∀ g, au = some ⟨g, 0, none⟩ → g ≠ y)) ∧ (∀ y, (y = t ∨ y = u) → y ≠ r ∧ y ≠ q ∧ (∀ g, ar = some ⟨g, 0, none⟩ → g ≠ y) ∧ (∀ g, aq = some ⟨g, 0, none⟩ → g ≠ y)) ∧ (∀ y, y < w3.heap.size → y ≠ r ∧ y ≠ q ∧ y ≠ t ∧ y ≠ u ∧ (∀ g, ar = some ⟨g, 0, none⟩ → g ≠ y) ∧ (∀ g, aq = some ⟨g, 0, none⟩ → g ≠ y) ∧ (∀ g, at' = some ⟨g, 0, none⟩ → g ≠ y) ∧ (∀ g, au = some ⟨g, 0, none⟩ → g ≠ y))) := by
      have a := Gr.out
      have b := Gt.out
      have cc := Gq.out
      have d := Gu.out
      refine ⟨by omega, by omega, fun y hy => ⟨by omega, by omega, fun g hg => by have := b.2.2 g hg; omega, fun g hg => by have := d.2.2 g hg; omega⟩, fun y hy => ⟨by omega, by omega, fun g hg => by have := a.2.2 g hg; omega, fun g hg => by have := cc.2.2 g hg; omega⟩, fun y hy => ⟨by omega, by omega, by omega, by omega, fun g hg => by have := a.2.2 g hg; omega, fun g hg => by have := cc.2.2 g hg; omega, fun g hg => by have := b.2.2 g hg; omega, fun g hg => by have := d.2.2 g hg; omega⟩⟩
    have A7 : Hid (RowAt w7 g1 (x.z1 ++ marks) ∧ RowAt w7 g2 (x.z2 ++ marks) ∧ Fo w w7 r ar cr t at' ct q aq cq u au cu x.z1 x.z2 0 0 0 0) := ⟨A6.out.1.block (l7.block g1 (by omega)), A6.out.2.1.block (l7.block g2 (by omega)), ⟨⟨A6.out.2.2.2.1.later l7 (Nat.le_refl _), A6.out.2.2.2.2.2.later l7 (Nat.le_refl _), NE.out.1, fun g hg => by have := Gr.out.2.2 g hg; have := Gq.out.1; omega, fun g hg => by have := Gq.out.2.2 g hg; have := Gr.out.2.1; omega⟩, ⟨A6.out.2.2.2.2.1.later l7 (Nat.le_refl _), d7, NE.out.2.1, fun g hg => by have := Gt.out.2.2 g hg; have := Gu.out.1; omega, fun g hg => by have := Gu.out.2.2 g hg; have := Gt.out.2.1; omega⟩, below_chain A6.out.2.2.1 l7 A6.out.2.2.1.size⟩⟩
    have G0 : Hid (w.heap.size ≤ g1 ∧ w.heap.size ≤ g2 ∧ g1 < w3.heap.size ∧ g2 < w3.heap.size ∧ g1 ≠ g2 ∧ w.heap.size ≤ w3.heap.size) := by have := H2.out.2.size; have := HC1.out.2.2; have := HC2.out.2.2; exact ⟨by omega, by omega, by omega, by omega, by omega, by omega⟩
    clear d7 gu gu' l7 A2 A3 A4 A5 A6
    go_wp2_with fail
    refine (still_yes g1 x.n1 p1 x.a1 x.k1 x.z1 w7 A7.out.1 HC1.out.1 HC1.out.2.1 (HI.out.later A7.out.2.2.bel).b1).mono ?_
    rintro e w8 ⟨rfl, k8, hw8⟩
    have A8 : Hid (RowAt w8 g1 (x.z1 ++ marks) ∧ RowAt w8 g2 (x.z2 ++ marks) ∧ Fo w w8 r ar cr t at' ct q aq cq u au cu x.z1 x.z2 0 0 0 0) := by rw [hw8]; exact ⟨A7.out.1.drewN k8, A7.out.2.1.drewN k8, ⟨A7.out.2.2.one.dn k8, A7.out.2.2.two.dn k8, below_dn A7.out.2.2.bel k8⟩⟩
    clear hw8 A7
    go_wp2_with fail
    refine (still_yes g2 x.n2 p2 x.a2 x.k2 x.z2 w8 A8.out.2.1 HC2.out.1 HC2.out.2.1 (HI.out.later A8.out.2.2.bel).b2).mono ?_
    rintro e w9 ⟨rfl, k9, hw9⟩
    have A9 : Hid (RowAt w9 g1 (x.z1 ++ marks) ∧ RowAt w9 g2 (x.z2 ++ marks) ∧ Fo w w9 r ar cr t at' ct q aq cq u au cu x.z1 x.z2 0 0 0 0) := by rw [hw9]; exact ⟨A8.out.1.drewN k9, A8.out.2.1.drewN k9, ⟨A8.out.2.2.one.dn k9, A8.out.2.2.two.dn k9, below_dn A8.out.2.2.bel k9⟩⟩
    clear hw9 A8
    have FK : Hid (∀ (W W' : World) (y : Nat) (pa : Nat) (ea : Int) (pb : Nat) (eb : Int), y < w3.heap.size → w.heap.size ≤ y → Fo w W r ar cr t at' ct q aq cq u au cu x.z1 x.z2 pa ea pb eb → Kept (fun k => k = y) W W' → Fo w W' r ar cr t at' ct q aq cq u au cu x.z1 x.z2 pa ea pb eb) := fun W W' y pa ea pb eb h1 h2 f k => by
      have n := NE.out.2.2.2.2 y h1
      exact ⟨f.one.kept k (fun e => n.1 e.symm) (fun e => n.2.1 e.symm) n.2.2.2.2.1 n.2.2.2.2.2.1, f.two.kept k (fun e => n.2.2.1 e.symm) (fun e => n.2.2.2.1 e.symm) n.2.2.2.2.2.2.1 n.2.2.2.2.2.2.2, below_kept f.bel k f.bel.size (fun j hj e => by omega)⟩
    have LM : Hid ((x.z1 ++ marks).length = x.n1 + 90 ∧ (x.z2 ++ marks).length = x.n2 + 90) := ⟨by rw [List.length_append, HI.out.b1.len, marks_length], by rw [List.length_append, HI.out.b2.len, marks_length]⟩
    go_wp2_with fail
    go_loopw [13] (fun i wr => ∃ (k : Nat) (us : List Int), k ≤ x.n1 ∧ i = .int .i64 k ∧ us.length = x.n1 + 90 ∧ RowAt wr g1 us ∧ RowAt wr g2 (x.z2 ++ marks) ∧ Fo w wr r ar cr t at' ct q aq cq u au cu x.z1 x.z2 0 0 0 0) (fun i _ => x.n1 - (intOf i).toNat)
    case atStart => exact ⟨0, _, Nat.zero_le _, rfl, LM.out.1, A9.out.1, A9.out.2.1, A9.out.2.2⟩
    case round =>
      obtain ⟨k, us, hk, rfl, hul, hr1, hr2, hfo⟩ := hrel
      by_cases hlt : k < x.n1
      · have c1 := hr1.cell k (by omega)
        have f1 := hr1.frozen k
        obtain ⟨Z, hZ⟩ : ∃ Z, us.getD k 0 = Z := ⟨_, rfl⟩
        rw [hZ] at c1
        obtain ⟨Y, hY⟩ : ∃ X, bits .xor .u8 Z 85 = X := ⟨_, rfl⟩
        have T1 : Hid (RowAt (wr.setCell ⟨g1, k, none⟩ (.int .u8 Y)) g1 (us.set k Y) ∧ (us.set k Y).length = x.n1 + 90 ∧ RowAt (wr.setCell ⟨g1, k, none⟩ (.int .u8 Y)) g2 (x.z2 ++ marks) ∧ Fo w (wr.setCell ⟨g1, k, none⟩ (.int .u8 Y)) r ar cr t at' ct q aq cq u au cu x.z1 x.z2 0 0 0 0) := ⟨hr1.set k (by omega) Y, by rw [List.length_set]; exact hul, hr2.other (p := ⟨g1, k, none⟩) (fun e => G0.out.2.2.2.2.1 e.symm) _, FK.out _ _ g1 0 0 0 0 G0.out.2.2.1 G0.out.1 hfo ((Kept.refl (fun y => y = g1) wr).setCell (p := ⟨g1, k, none⟩) rfl _)⟩
        have j1 : (0 : Int) ≤ (k : Int) := by omega
        have j2 : (k : Int) < (x.n1 : Int) := by omega
        clear hZ hr1 hr2 hfo hul
        go_wp2_with fail
        go_roundw
        case rel => exact ⟨k + 1, _, by omega, by go_num, T1.out.2.1, T1.out.1, T1.out.2.2.1, T1.out.2.2.2⟩
        case measure => simp [intOf]; omega
      · have j2 : ¬ (k : Int) < (x.n1 : Int) := by omega
        obtain ⟨w10, hw10⟩ : ∃ W, wr = W := ⟨_, rfl⟩
        have B0 : Hid (RowAt w10 g2 (x.z2 ++ marks) ∧ Fo w w10 r ar cr t at' ct q aq cq u au cu x.z1 x.z2 0 0 0 0) := by rw [← hw10]; exact ⟨hr2, hfo⟩
        rw [hw10]
        clear hr1 hr2 hfo hul hw10 hk hlt
        go_wp2_with fail
        go_loopw [14] (fun i wr => ∃ (k : Nat) (us : List Int), k ≤ x.n2 ∧ i = .int .i64 k ∧ us.length = x.n2 + 90 ∧ RowAt wr g2 us ∧ Fo w wr r ar cr t at' ct q aq cq u au cu x.z1 x.z2 0 0 0 0) (fun i _ => x.n2 - (intOf i).toNat)
        case atStart => exact ⟨0, _, Nat.zero_le _, rfl, LM.out.2, B0.out.1, B0.out.2⟩
        case round =>
          obtain ⟨k', us, hk, rfl, hul, hr2, hfo⟩ := hrel
          by_cases hlt : k' < x.n2
          · have c1 := hr2.cell k' (by omega)
            have f1 := hr2.frozen k'
            obtain ⟨Y, hY⟩ : ∃ X, (k' : Int) % 256 = X := ⟨_, rfl⟩
            have T1 : Hid (RowAt (wr.setCell ⟨g2, k', none⟩ (.int .u8 Y)) g2 (us.set k' Y) ∧ (us.set k' Y).length = x.n2 + 90 ∧ Fo w (wr.setCell ⟨g2, k', none⟩ (.int .u8 Y)) r ar cr t at' ct q aq cq u au cu x.z1 x.z2 0 0 0 0) := ⟨hr2.set k' (by omega) Y, by rw [List.length_set]; exact hul, FK.out _ _ g2 0 0 0 0 G0.out.2.2.2.1 G0.out.2.1 hfo ((Kept.refl (fun y => y = g2) wr).setCell (p := ⟨g2, k', none⟩) rfl _)⟩
            have j1 : (0 : Int) ≤ (k' : Int) := by omega
            have j2 : (k' : Int) < (x.n2 : Int) := by omega
            clear hr2 hfo hul
            go_wp2_with fail
            go_roundw
            case rel => exact ⟨k' + 1, _, by omega, by go_num, T1.out.2.1, T1.out.1, T1.out.2.2⟩
            case measure => simp [intOf]; omega
          · have j2 : ¬ (k' : Int) < (x.n2 : Int) := by omega
            obtain ⟨w11, hw11⟩ : ∃ W, wr = W := ⟨_, rfl⟩
            have B1 : Hid (Fo w w11 r ar cr t at' ct q aq cq u au cu x.z1 x.z2 0 0 0 0) := by rw [← hw11]; exact hfo
            rw [hw11]
            clear hr2 hfo hul hw11 hk hlt B0
            go_wp2_with fail
            go_loopw [15] (fun i wr => ∃ (k : Nat) (pa : Nat) (ea : Int) (pb : Nat) (eb : Int), (k ≤ x.m1 ∨ k ≤ x.m2) ∧ i = .int .i64 k ∧ Fo w wr r ar cr t at' ct q aq cq u au cu x.z1 x.z2 pa ea pb eb) (fun i _ => (x.m1 + x.m2) - (intOf i).toNat)
            case atStart => exact ⟨0, 0, 0, 0, 0, .inl (Nat.zero_le _), rfl, B1.out⟩
            case round =>
              obtain ⟨k2, pa, ea, pb, eb, hk, rfl, hfo⟩ := hrel
              have HF : Hid (Fo w wr r ar cr t at' ct q aq cq u au cu x.z1 x.z2 pa ea pb eb) := hfo
              clear hfo B1
              have j0 : (0 : Int) ≤ (k2 : Int) := by omega
              by_cases h1 : k2 < x.m1
              · have u1 : (k2 : Int) < (x.m1 : Int) := by omega
                obtain ⟨b1, o1, so1, cs1, e1, hb1, x0, x1, x2, x3, _, _⟩ := (HI.out.s1.later HF.out.bel).cells k2 h1
                have wf1 := (HI.out.s1.wf k2 h1).2.2.1
                have E1 : Hid (x.s1 = some ⟨b1, o1, none⟩) := e1
                rw [e1]
                clear hb1
                go_wp2_with fail
                refine (read_any r q ar cr aq cq x.z1 pa ea (itAt x.i1 k2) so1 cs1 wr HF.out.one wf1).mono ?_
                rintro e w12 ⟨rfl, pa', ea', tw, kk⟩
                have H12 : Hid (Fo w w12 r ar cr t at' ct q aq cq u au cu x.z1 x.z2 pa' ea' pb eb) := ⟨tw, HF.out.two.kept kk (fun e => (NE.out.2.2.1 t e).1 rfl) (fun e => (NE.out.2.2.1 u e).2.1 rfl) (fun g hg e => (NE.out.2.2.1 g e).2.2.1 g hg rfl) (fun g hg e => (NE.out.2.2.1 g e).2.2.2 g hg rfl), below_kept HF.out.bel kk HF.out.bel.size (fun j hj e => by have := Gr.out.1; have := Gq.out.1; have := G0.out.2.2.2.2.2; omega)⟩
                clear tw kk x0 x1 x2 x3
                by_cases h2 : k2 < x.m2
                · have u2 : (k2 : Int) < (x.m2 : Int) := by omega
                  obtain ⟨b2, o2, so2, cs2, e2, hb2, y0, y1, y2, y3, _, _⟩ := (HI.out.s2.later H12.out.bel).cells k2 h2
                  have wf2 := (HI.out.s2.wf k2 h2).2.2.1
                  have E2 : Hid (x.s2 = some ⟨b2, o2, none⟩) := e2
                  rw [e2]
                  clear hb2
                  go_wp2_with fail
                  refine (read_any t u at' ct au cu x.z2 pb eb (itAt x.i2 k2) so2 cs2 w12 H12.out.two wf2).mono ?_
                  rintro e w13 ⟨rfl, pb', eb', tw, kk⟩
                  have H13 : Hid (Fo w w13 r ar cr t at' ct q aq cq u au cu x.z1 x.z2 pa' ea' pb' eb') := ⟨H12.out.one.kept kk (fun e => (NE.out.2.2.2.1 r e).1 rfl) (fun e => (NE.out.2.2.2.1 q e).2.1 rfl) (fun g hg e => (NE.out.2.2.2.1 g e).2.2.1 g hg rfl) (fun g hg e => (NE.out.2.2.2.1 g e).2.2.2 g hg rfl), tw, below_kept H12.out.bel kk H12.out.bel.size (fun j hj e => by have := Gt.out.1; have := Gu.out.1; have := G0.out.2.2.2.2.2; omega)⟩
                  clear tw kk y0 y1 y2 y3
                  go_wp2_with fail
                  try rw [← E1.out]
                  try rw [← E2.out]
                  go_roundw
                  case rel => exact ⟨k2 + 1, _, _, _, _, by omega, by go_num, H13.out⟩
                  case measure => simp [intOf]; omega
                · have u2 : ¬ (k2 : Int) < (x.m2 : Int) := by omega
                  go_wp2_with fail
                  try rw [← E1.out]
                  go_roundw
                  case rel => exact ⟨k2 + 1, _, _, _, _, by omega, by go_num, H12.out⟩
                  case measure => simp [intOf]; omega
              · have u1 : ¬ (k2 : Int) < (x.m1 : Int) := by omega
                by_cases h2 : k2 < x.m2
                · have u2 : (k2 : Int) < (x.m2 : Int) := by omega
                  obtain ⟨b2, o2, so2, cs2, e2, hb2, y0, y1, y2, y3, _, _⟩ := (HI.out.s2.later HF.out.bel).cells k2 h2
                  have wf2 := (HI.out.s2.wf k2 h2).2.2.1
                  have E2 : Hid (x.s2 = some ⟨b2, o2, none⟩) := e2
                  rw [e2]
                  clear hb2
                  go_wp2_with fail
                  refine (read_any t u at' ct au cu x.z2 pb eb (itAt x.i2 k2) so2 cs2 wr HF.out.two wf2).mono ?_
                  rintro e w13 ⟨rfl, pb', eb', tw, kk⟩
                  have H13 : Hid (Fo w w13 r ar cr t at' ct q aq cq u au cu x.z1 x.z2 pa ea pb' eb') := ⟨HF.out.one.kept kk (fun e => (NE.out.2.2.2.1 r e).1 rfl) (fun e => (NE.out.2.2.2.1 q e).2.1 rfl) (fun g hg e => (NE.out.2.2.2.1 g e).2.2.1 g hg rfl) (fun g hg e => (NE.out.2.2.2.1 g e).2.2.2 g hg rfl), tw, below_kept HF.out.bel kk HF.out.bel.size (fun j hj e => by have := Gt.out.1; have := Gu.out.1; have := G0.out.2.2.2.2.2; omega)⟩
                  clear tw kk y0 y1 y2 y3
                  go_wp2_with fail
                  try rw [← E2.out]
                  go_roundw
                  case rel => exact ⟨k2 + 1, _, _, _, _, by omega, by go_num, H13.out⟩
                  case measure => simp [intOf]; omega
                · have u2 : ¬ (k2 : Int) < (x.m2 : Int) := by omega
                  obtain ⟨w14, hw14⟩ : ∃ W, wr = W := ⟨_, rfl⟩
                  rw [hw14] at HF ⊢
                  clear hw14
                  go_wp2_with fail
                  refine (end_any r ar cr x.z1 pa ea w14 HF.out.one.one).mono ?_
                  rintro e w15 ⟨rfl, a1, hw⟩
                  have F15 : Hid (Fo w w15 r ar cr t at' ct q aq cq u au cu x.z1 x.z2 pa ea pb eb) := by rw [hw]; exact ⟨HF.out.one.dn a1, HF.out.two.dn a1, below_dn HF.out.bel a1⟩
                  clear hw
                  go_wp2_with fail
                  refine (rend_any q aq cq x.z1 pa ea w15 F15.out.one.two).mono ?_
                  rintro e w16 ⟨rfl, a1, hw⟩
                  have F16 : Hid (Fo w w16 r ar cr t at' ct q aq cq u au cu x.z1 x.z2 pa ea pb eb) := by rw [hw]; exact ⟨F15.out.one.dn a1, F15.out.two.dn a1, below_dn F15.out.bel a1⟩
                  clear hw F15
                  go_wp2_with fail
                  refine (left_any r ar cr x.z1 pa ea w16 F16.out.one.one).mono ?_
                  rintro e w17 ⟨rfl, a1, hw⟩
                  have F17 : Hid (Fo w w17 r ar cr t at' ct q aq cq u au cu x.z1 x.z2 pa ea pb eb) := by rw [hw]; exact ⟨F16.out.one.dn a1, F16.out.two.dn a1, below_dn F16.out.bel a1⟩
                  clear hw F16
                  go_wp2_with fail
                  refine (rleft_any q aq cq x.z1 pa ea w17 F17.out.one.two).mono ?_
                  rintro e w18 ⟨rfl, a1, hw⟩
                  have F18 : Hid (Fo w w18 r ar cr t at' ct q aq cq u au cu x.z1 x.z2 pa ea pb eb) := by rw [hw]; exact ⟨F17.out.one.dn a1, F17.out.two.dn a1, below_dn F17.out.bel a1⟩
                  clear hw F17
                  go_wp2_with fail
                  refine (end_any t at' ct x.z2 pb eb w18 F18.out.two.one).mono ?_
                  rintro e w19 ⟨rfl, a1, hw⟩
                  have F19 : Hid (Fo w w19 r ar cr t at' ct q aq cq u au cu x.z1 x.z2 pa ea pb eb) := by rw [hw]; exact ⟨F18.out.one.dn a1, F18.out.two.dn a1, below_dn F18.out.bel a1⟩
                  clear hw F18
                  go_wp2_with fail
                  refine (rend_any u au cu x.z2 pb eb w19 F19.out.two.two).mono ?_
                  rintro e w20 ⟨rfl, a1, hw⟩
                  have F20 : Hid (Fo w w20 r ar cr t at' ct q aq cq u au cu x.z1 x.z2 pa ea pb eb) := by rw [hw]; exact ⟨F19.out.one.dn a1, F19.out.two.dn a1, below_dn F19.out.bel a1⟩
                  clear hw F19
                  go_wp2_with fail
                  refine (left_any t at' ct x.z2 pb eb w20 F20.out.two.one).mono ?_
                  rintro e w21 ⟨rfl, a1, hw⟩
                  have F21 : Hid (Fo w w21 r ar cr t at' ct q aq cq u au cu x.z1 x.z2 pa ea pb eb) := by rw [hw]; exact ⟨F20.out.one.dn a1, F20.out.two.dn a1, below_dn F20.out.bel a1⟩
                  clear hw F20
                  go_wp2_with fail
                  refine (rleft_any u au cu x.z2 pb eb w21 F21.out.two.two).mono ?_
                  rintro e w22 ⟨rfl, a1, hw⟩
                  have F22 : Hid (Fo w w22 r ar cr t at' ct q aq cq u au cu x.z1 x.z2 pa ea pb eb) := by rw [hw]; exact ⟨F21.out.one.dn a1, F21.out.two.dn a1, below_dn F21.out.bel a1⟩
                  clear hw F21
                  go_wp2_with fail
                  go_ret
                  exact ⟨by simp, F22.out.bel⟩
end Go.Proofs.Ytgcpckkhkppnhaa
