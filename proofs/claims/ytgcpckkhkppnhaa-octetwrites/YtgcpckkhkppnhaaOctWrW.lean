/- The walk of OctetWrites. -/
import Derived.Test.YtgcpckkhkppnhaaOWr
namespace Go.Proofs.Ytgcpckkhkppnhaa
open Go.RowKit
set_option linter.unusedVariables false
set_option linter.unusedSimpArgs false

/-- One pair of writers: what it owns is new. -/
structure Po (w W : World) (r : Nat) (v : Value) (q : Nat) (y : Value) (sz : Nat) (zs : List Int) (e : Int) : Prop where
  tw : TwW W r v q y sz zs e
  low : ∀ k, Ft r v q y k → w.heap.size ≤ k
theorem Po.later {w W W' : World} {r : Nat} {v : Value} {q : Nat} {y : Value} {sz : Nat} {zs : List Int} {e : Int} (h : Po w W r v q y sz zs e) (l : Below W.heap.size W W') : Po w W' r v q y sz zs e := ⟨h.tw.later l, h.low⟩
theorem Po.dn {w W : World} {r : Nat} {v : Value} {q : Nat} {y : Value} {sz : Nat} {zs : List Int} {e : Int} (h : Po w W r v q y sz zs e) (k : Nat) : Po w (W.drewN k) r v q y sz zs e := ⟨h.tw.dn k, h.low⟩
theorem Po.bel {w W W' : World} {r : Nat} {v : Value} {q : Nat} {y : Value} {sz : Nat} {zs : List Int} {e : Int} (h : Po w W r v q y sz zs e) (b : Below w.heap.size w W) (k : Kept (Ft r v q y) W W') : Below w.heap.size w W' := below_kept b k b.size (fun j hj e => by have := h.low j e; omega)
theorem Po.next {w W W' : World} {r : Nat} {v v' : Value} {q : Nat} {y y' : Value} {sz : Nat} {zs zs' : List Int} {e e' : Int} (h : Po w W r v q y sz zs e) (b : Below w.heap.size w W) (tw : TwW W' r v' q y' sz zs' e') (f : ∀ k, Ft r v' q y' k → Ft r v q y k ∨ W.heap.size ≤ k) : Po w W' r v' q y' sz zs' e' :=
  ⟨tw, fun k hk => by rcases f k hk with g | g; exact h.low k g; have := b.size; omega⟩
theorem po_new {w W W1 W2 : World} {r q sz : Nat} (b : Below w.heap.size w W) (l1 : Below W.heap.size W W1) (o1 : Wr W1 r (.slice none 0 0) sz [] 0) (g1 : W.heap.size ≤ r) (l2 : Below W1.heap.size W1 W2) (o2 : Wr W2 q (.slice none 0 0) sz [] 0) (g2 : W1.heap.size ≤ q) : Po w W2 r (.slice none 0 0) q (.slice none 0 0) sz [] 0 ∧ ∀ k, Ft r (.slice none 0 0) q (.slice none 0 0) k → W.heap.size ≤ k := by
  have s1 := b.size
  have s2 := l1.size
  have lr := o1.lt
  have low : ∀ k, Ft r (.slice none 0 0) q (.slice none 0 0) k → W.heap.size ≤ k := fun k hk => by
    rcases hk with (h | h) | (h | h)
    · omega
    · cases h
    · omega
    · cases h
  refine ⟨⟨⟨o1.later l2 (Nat.le_refl _), o2, fun k hk hq => ?_⟩, fun k hk => by have := low k hk; omega⟩, low⟩
  rcases hk with h | h
  · rcases hq with g | g
    · omega
    · cases g
  · cases h
/-- A step's data, which came in, is no writer's. -/
theorem step_far {w : World} {so : Option Addr} {it : Item} {r : Nat} {v : Value} {q : Nat} {y : Value} (hs : Seen w so it.data.length it.data) (low : ∀ k, Ft r v q y k → w.heap.size ≤ k) : ∀ b o, 0 < it.data.length → so = some ⟨b, o, none⟩ → ¬ Ft r v q y b := fun b o h0 e hS => by
  obtain ⟨b', o', e', hlt, _⟩ := hs.cells h0
  rw [e] at e'
  cases e'
  have := low b hS
  omega
theorem stZero : (Try.prog.info? 35).map (fun i => (i.zero, i.size)) = some (some (.agg (stepC ⟨0, 0, 0, []⟩ none 0).toArray), 4) := by kernel_rfl
theorem stSize (it : Item) (so : Option Addr) (cs : Nat) : (Try.prog.info? 35).map (·.size) = some (stepC it so cs).length := by show _ = some 4; kernel_rfl
theorem stOne (it : Item) (so : Option Addr) (cs : Nat) : ∀ v ∈ stepC it so cs, v.oneCell' = true := by intro v hv; simp [stepC] at hv; rcases hv with rfl | rfl | rfl | rfl <;> rfl
theorem bEnd (w : World) : (Instr.build 35 #[(0, .int .i64 8)]).run Try.prog w = .ok (.agg (stepC ⟨8, 0, 0, []⟩ none 0).toArray) w := by kernel_rfl
theorem itEnd (w : World) : ItIn w ⟨8, 0, 0, []⟩ none 0 := ⟨Seen.empty _ _, fun _ => rfl, ⟨by decide, by decide⟩, by decide⟩
set_option maxRecDepth 20000 in
set_option maxHeartbeats 4000000 in
theorem ww_gg (sz1 : Nat) (h1 : sz1 ≤ 1048576) (sz2 : Nat) (h2 : sz2 ≤ 1048576) (s1 : Option Addr) (m1 j1 : Nat) (i1 : List Item) (s2 : Option Addr) (m2 j2 : Nat) (i2 : List Item) (w : World) (x1 : SeenS w s1 m1 i1) (x2 : SeenS w s2 m2 i2) :
    Calls Try.prog 4 #[.agg #[(.int .i64 (sz1 : Int)), (.int .i64 (sz2 : Int)), (.slice s1 m1 j1), (.slice s2 m2 j2)]] w fun e w' => e = .returned (.bool true) ∧ Below w.heap.size w w' := by
  have HI : Hid (SeenS w s1 m1 i1 ∧ SeenS w s2 m2 i2) := ⟨x1, x2⟩
  have M1 := x1.top
  have M2 := x2.top
  clear x1 x2
  go_enter Try.func4, Try.ntmps4
  go_wp2_with (first | (refine wpList_box_new rfl 41 _ rfl [(.int .i64 (sz1 : Int)), (.int .i64 (sz2 : Int)), (.slice s1 m1 j1), (.slice s2 m2 j2)] rfl ?_; intro w1 b1 s1' l1))
  have H1 : Hid (Blk w1 w.heap.size 41 [(.int .i64 (sz1 : Int)), (.int .i64 (sz2 : Int)), (.slice s1 m1 j1), (.slice s2 m2 j2)] ∧ Below w.heap.size w w1) := ⟨b1, l1⟩
  clear b1 s1' l1
  refine region_inv [.val (.pointer (some ⟨w.heap.size, 0, none⟩)), .val (.int .i64 (sz1 : Int)), .val (.pointer (some ⟨w.heap.size, 1, none⟩)), .val (.int .i64 (sz2 : Int)), .val (.pointer (some ⟨w.heap.size, 2, none⟩)), .val (.slice s1 m1 j1), .val (.pointer (some ⟨w.heap.size, 3, none⟩)), .val (.slice s2 m2 j2), .val (.int .i64 (sz1 : Int)), .val (.int .i64 (sz2 : Int)), .val (.slice s1 m1 j1)] (by kernel_rfl) (by kernel_rfl) (by kernel_rfl) ?_ ?_
  · refine Steps'.cons ?_ (Steps'.cons ?_ (Steps'.cons ?_ (Steps'.cons ?_ (Steps'.cons ?_ (Steps'.cons ?_ (Steps'.cons ?_ (Steps'.cons ?_ (Steps'.cons ?_ (Steps'.cons ?_ (Steps'.cons ?_ (Steps'.one _ _ _ _ _ _ _)))))))))))
    · intro ax wx hb hs hd
      have h1 : ax.tmps.getD 1 undef = (.pointer (some ⟨w.heap.size, 0, none⟩)) := hs 1 (by kernel_rfl)
      refine Does.value (.pointer (some ⟨w.heap.size, 0, none⟩)) ?_ rfl
      clear hs hd
      go_simp
    · intro ax wx hb hs hd
      have h17 : ax.tmps.getD 17 undef = (.pointer (some ⟨w.heap.size, 0, none⟩)) := hd 0 17 rfl (by kernel_rfl) (by decide)
      have cx : wx.cell? ⟨w.heap.size, 0, none⟩ = some (.int .i64 (sz1 : Int)) := (H1.out.1.later hb H1.out.1.lt).cell 0
      refine Does.value (.int .i64 (sz1 : Int)) ?_ rfl
      clear hs hd
      go_simp
    · intro ax wx hb hs hd
      have h1 : ax.tmps.getD 1 undef = (.pointer (some ⟨w.heap.size, 0, none⟩)) := hs 1 (by kernel_rfl)
      refine Does.value (.pointer (some ⟨w.heap.size, 1, none⟩)) ?_ rfl
      clear hs hd
      go_simp
    · intro ax wx hb hs hd
      have h19 : ax.tmps.getD 19 undef = (.pointer (some ⟨w.heap.size, 1, none⟩)) := hd 2 19 rfl (by kernel_rfl) (by decide)
      have cx : wx.cell? ⟨w.heap.size, 1, none⟩ = some (.int .i64 (sz2 : Int)) := (H1.out.1.later hb H1.out.1.lt).cell 1
      refine Does.value (.int .i64 (sz2 : Int)) ?_ rfl
      clear hs hd
      go_simp
    · intro ax wx hb hs hd
      have h1 : ax.tmps.getD 1 undef = (.pointer (some ⟨w.heap.size, 0, none⟩)) := hs 1 (by kernel_rfl)
      refine Does.value (.pointer (some ⟨w.heap.size, 2, none⟩)) ?_ rfl
      clear hs hd
      go_simp
    · intro ax wx hb hs hd
      have h21 : ax.tmps.getD 21 undef = (.pointer (some ⟨w.heap.size, 2, none⟩)) := hd 4 21 rfl (by kernel_rfl) (by decide)
      have cx : wx.cell? ⟨w.heap.size, 2, none⟩ = some (.slice s1 m1 j1) := (H1.out.1.later hb H1.out.1.lt).cell 2
      refine Does.value (.slice s1 m1 j1) ?_ rfl
      clear hs hd
      go_simp
    · intro ax wx hb hs hd
      have h1 : ax.tmps.getD 1 undef = (.pointer (some ⟨w.heap.size, 0, none⟩)) := hs 1 (by kernel_rfl)
      refine Does.value (.pointer (some ⟨w.heap.size, 3, none⟩)) ?_ rfl
      clear hs hd
      go_simp
    · intro ax wx hb hs hd
      have h23 : ax.tmps.getD 23 undef = (.pointer (some ⟨w.heap.size, 3, none⟩)) := hd 6 23 rfl (by kernel_rfl) (by decide)
      have cx : wx.cell? ⟨w.heap.size, 3, none⟩ = some (.slice s2 m2 j2) := (H1.out.1.later hb H1.out.1.lt).cell 3
      refine Does.value (.slice s2 m2 j2) ?_ rfl
      clear hs hd
      go_simp
    · intro ax wx hb hs hd
      have h18 : ax.tmps.getD 18 undef = (.int .i64 (sz1 : Int)) := hd 1 18 rfl (by kernel_rfl) (by decide)
      refine Does.value (.int .i64 (sz1 : Int)) ?_ rfl
      clear hs hd
      go_simp
    · intro ax wx hb hs hd
      have h20 : ax.tmps.getD 20 undef = (.int .i64 (sz2 : Int)) := hd 3 20 rfl (by kernel_rfl) (by decide)
      refine Does.value (.int .i64 (sz2 : Int)) ?_ rfl
      clear hs hd
      go_simp
    · intro ax wx hb hs hd
      have h22 : ax.tmps.getD 22 undef = (.slice s1 m1 j1) := hd 5 22 rfl (by kernel_rfl) (by decide)
      refine Does.value (.slice s1 m1 j1) ?_ rfl
      clear hs hd
      go_simp
  · intro wx hb
    refine @Ends.val _ _ _ _ _ _ _ _ _ (.pointer (some ⟨w.heap.size, 0, none⟩)) rfl ?_
    refine @Ends.val _ _ _ _ _ _ _ _ _ (.int .i64 (sz1 : Int)) rfl ?_
    refine @Ends.val _ _ _ _ _ _ _ _ _ (.pointer (some ⟨w.heap.size, 1, none⟩)) rfl ?_
    refine @Ends.val _ _ _ _ _ _ _ _ _ (.int .i64 (sz2 : Int)) rfl ?_
    refine @Ends.val _ _ _ _ _ _ _ _ _ (.pointer (some ⟨w.heap.size, 2, none⟩)) rfl ?_
    refine @Ends.val _ _ _ _ _ _ _ _ _ (.slice s1 m1 j1) rfl ?_
    refine @Ends.val _ _ _ _ _ _ _ _ _ (.pointer (some ⟨w.heap.size, 3, none⟩)) rfl ?_
    refine @Ends.val _ _ _ _ _ _ _ _ _ (.slice s2 m2 j2) rfl ?_
    refine @Ends.val _ _ _ _ _ _ _ _ _ (.int .i64 (sz1 : Int)) rfl ?_
    refine @Ends.val _ _ _ _ _ _ _ _ _ (.int .i64 (sz2 : Int)) rfl ?_
    refine @Ends.val _ _ _ _ _ _ _ _ _ (.slice s1 m1 j1) rfl ?_
    refine @Ends.one _ _ _ _ _ _ _ ?_
    simp only [Act.put, List.setIfInBounds_toArray, List.set_cons_zero, List.set_cons_succ]
    have B2 : Hid (Below w.heap.size w wx) := below_chain H1.out.2 hb H1.out.2.size
    clear hb
    refine last_assign (.tmp 24) rfl (some 6) rfl (.slice s2 m2 j2) rfl ?_
    simp only [Act.put, List.setIfInBounds_toArray, List.set_cons_zero, List.set_cons_succ]
    go_wp2_with fail
    refine (newWriter_any sz1 h1 wx).mono ?_
    rintro e w2 ⟨r, rfl, o2, ge2, l2⟩
    go_wp2_with fail
    refine (rwnew_any sz1 h1 w2).mono ?_
    rintro e w3 ⟨q, rfl, o3, ge3, l3⟩
    have N3 := po_new B2.out l2 o2 ge2 l3 o3 ge3
    have P3 : Hid (Po w w3 r (.slice none 0 0) q (.slice none 0 0) sz1 [] 0 ∧ Below w.heap.size w w3) := ⟨N3.1, below_chain (below_chain B2.out l2 B2.out.size) l3 (by have := B2.out.size; have := l2.size; omega)⟩
    clear o2 ge2 l2 o3 ge3 l3 N3
    go_wp2_with fail
    refine (newWriter_any sz2 h2 w3).mono ?_
    rintro e w4 ⟨t, rfl, o4, ge4, l4⟩
    go_wp2_with fail
    refine (rwnew_any sz2 h2 w4).mono ?_
    rintro e w5 ⟨u, rfl, o5, ge5, l5⟩
    have N5 := po_new P3.out.2 l4 o4 ge4 l5 o5 ge5
    have P5 : Hid (Po w w5 t (.slice none 0 0) u (.slice none 0 0) sz2 [] 0 ∧ Below w.heap.size w w5 ∧ Po w w5 r (.slice none 0 0) q (.slice none 0 0) sz1 [] 0 ∧ ∀ k, Ft r (.slice none 0 0) q (.slice none 0 0) k → ¬ Ft t (.slice none 0 0) u (.slice none 0 0) k) := ⟨N5.1, below_chain (below_chain P3.out.2 l4 P3.out.2.size) l5 (by have := P3.out.2.size; have := l4.size; omega), (P3.out.1.later l4).later l5, fun k hk hq => by have := P3.out.1.tw.lt k hk; have := N5.2 k hq; omega⟩
    clear o4 ge4 l4 o5 ge5 l5 N5
    go_wp2_with fail
    go_loopw [15] (fun i wr => ∃ (k : Nat) (v1 y1 : Value) (z1 : List Int) (e1 : Int) (v2 y2 : Value) (z2 : List Int) (e2 : Int), (k ≤ m1 ∨ k ≤ m2) ∧ i = .int .i64 k ∧ Below w.heap.size w wr ∧ Po w wr r v1 q y1 sz1 z1 e1 ∧ Po w wr t v2 u y2 sz2 z2 e2 ∧ (∀ k, Ft r v1 q y1 k → ¬ Ft t v2 u y2 k)) (fun i _ => (m1 + m2) - (intOf i).toNat)
    case atStart => exact ⟨0, _, _, _, _, _, _, _, _, .inl (Nat.zero_le _), rfl, P5.out.2.1, P5.out.2.2.1, P5.out.1, P5.out.2.2.2⟩
    case round =>
      obtain ⟨k, v1, y1, z1, e1, v2, y2, z2, e2, hk, rfl, hrr⟩ := hrel
      have HF : Hid (Below w.heap.size w wr ∧ Po w wr r v1 q y1 sz1 z1 e1 ∧ Po w wr t v2 u y2 sz2 z2 e2 ∧ (∀ k, Ft r v1 q y1 k → ¬ Ft t v2 u y2 k)) := hrr
      clear hrr P5
      have j0 : (0 : Int) ≤ (k : Int) := by omega
      by_cases h1k : k < m1
      · by_cases h2k : k < m2
        · have u1 : (k : Int) < (m1 : Int) := by omega
          have u2 : (k : Int) < (m2 : Int) := by omega
          obtain ⟨b1, o1, so1, cs1, ee1, hb1, x0, x1, x2, x3, hs1, hc1⟩ := HI.out.1.cells k h1k
          have wf1 := HI.out.1.wf k h1k
          have x0 := (HF.out.1.cell (p := ⟨b1, o1 + k * 4, none⟩) hb1).trans x0
          have x1 := (HF.out.1.cell (p := ⟨b1, o1 + k * 4 + 1, none⟩) hb1).trans x1
          have x2 := (HF.out.1.cell (p := ⟨b1, o1 + k * 4 + 2, none⟩) hb1).trans x2
          have x3 := (HF.out.1.cell (p := ⟨b1, o1 + k * 4 + 3, none⟩) hb1).trans x3
          have EE1 : Hid (s1 = some ⟨b1, o1, none⟩) := ee1
          have HS1 : Hid (Seen w so1 (itAt i1 k).data.length (itAt i1 k).data ∧ (so1 = none → cs1 = 0) ∧ Word (itAt i1 k).v ∧ (itAt i1 k).data.length ≤ 140737488351232) := ⟨hs1, hc1, wf1.1, wf1.2.2.2⟩
          rw [ee1]
          clear hb1 hs1 hc1 wf1
          go_wp2_with fail
          refine (wrote_any r v1 q y1 sz1 z1 e1 (itAt i1 k) so1 cs1 wr HF.out.2.1.tw ⟨HS1.out.1.later HF.out.1 (Nat.le_refl _), HS1.out.2.1, HS1.out.2.2.1, HS1.out.2.2.2⟩ (step_far HS1.out.1 HF.out.2.1.low)).mono ?_
          rintro ew w12 ⟨rfl, v1n, y1n, z1n, e1n, tw, kk, ff⟩
          have H12 : Hid (Below w.heap.size w w12 ∧ Po w w12 r v1n q y1n sz1 z1n e1n ∧ Po w w12 t v2 u y2 sz2 z2 e2 ∧ (∀ k, Ft r v1n q y1n k → ¬ Ft t v2 u y2 k)) := ⟨HF.out.2.1.bel HF.out.1 kk, HF.out.2.1.next HF.out.1 tw ff, ⟨HF.out.2.2.1.tw.kept kk (fun k hk hS => HF.out.2.2.2 k hS hk), HF.out.2.2.1.low⟩, fun k hk hq => by rcases ff k hk with g | g; exact HF.out.2.2.2 k g hq; have := HF.out.2.2.1.tw.lt k hq; omega⟩
          clear tw kk ff x0 x1 x2 x3
          obtain ⟨b2, o2, so2, cs2, ee2, hb2, x0, x1, x2, x3, hs2, hc2⟩ := HI.out.2.cells k h2k
          have wf2 := HI.out.2.wf k h2k
          have x0 := (H12.out.1.cell (p := ⟨b2, o2 + k * 4, none⟩) hb2).trans x0
          have x1 := (H12.out.1.cell (p := ⟨b2, o2 + k * 4 + 1, none⟩) hb2).trans x1
          have x2 := (H12.out.1.cell (p := ⟨b2, o2 + k * 4 + 2, none⟩) hb2).trans x2
          have x3 := (H12.out.1.cell (p := ⟨b2, o2 + k * 4 + 3, none⟩) hb2).trans x3
          have EE2 : Hid (s2 = some ⟨b2, o2, none⟩) := ee2
          have HS2 : Hid (Seen w so2 (itAt i2 k).data.length (itAt i2 k).data ∧ (so2 = none → cs2 = 0) ∧ Word (itAt i2 k).v ∧ (itAt i2 k).data.length ≤ 140737488351232) := ⟨hs2, hc2, wf2.1, wf2.2.2.2⟩
          rw [ee2]
          clear hb2 hs2 hc2 wf2
          go_wp2_with fail
          refine (wrote_any t v2 u y2 sz2 z2 e2 (itAt i2 k) so2 cs2 w12 H12.out.2.2.1.tw ⟨HS2.out.1.later H12.out.1 (Nat.le_refl _), HS2.out.2.1, HS2.out.2.2.1, HS2.out.2.2.2⟩ (step_far HS2.out.1 H12.out.2.2.1.low)).mono ?_
          rintro ew w13 ⟨rfl, v2n, y2n, z2n, e2n, tw, kk, ff⟩
          have H13 : Hid (Below w.heap.size w w13 ∧ Po w w13 r v1n q y1n sz1 z1n e1n ∧ Po w w13 t v2n u y2n sz2 z2n e2n ∧ (∀ k, Ft r v1n q y1n k → ¬ Ft t v2n u y2n k)) := ⟨H12.out.2.2.1.bel H12.out.1 kk, ⟨H12.out.2.1.tw.kept kk (fun k hk hS => H12.out.2.2.2 k hk hS), H12.out.2.1.low⟩, H12.out.2.2.1.next H12.out.1 tw ff, fun k hq hk => by rcases ff k hk with g | g; exact H12.out.2.2.2 k hq g; have := H12.out.2.1.tw.lt k hq; omega⟩
          clear tw kk ff x0 x1 x2 x3
          go_wp2_with fail
          try rw [← EE1.out]
          try rw [← EE2.out]
          go_roundw
          case rel => exact ⟨k + 1, _, _, _, _, _, _, _, _, by omega, by go_num, H13.out⟩
          case measure => simp [intOf]; omega
          
        · have u1 : (k : Int) < (m1 : Int) := by omega
          have u2 : ¬ (k : Int) < (m2 : Int) := by omega
          obtain ⟨b1, o1, so1, cs1, ee1, hb1, x0, x1, x2, x3, hs1, hc1⟩ := HI.out.1.cells k h1k
          have wf1 := HI.out.1.wf k h1k
          have x0 := (HF.out.1.cell (p := ⟨b1, o1 + k * 4, none⟩) hb1).trans x0
          have x1 := (HF.out.1.cell (p := ⟨b1, o1 + k * 4 + 1, none⟩) hb1).trans x1
          have x2 := (HF.out.1.cell (p := ⟨b1, o1 + k * 4 + 2, none⟩) hb1).trans x2
          have x3 := (HF.out.1.cell (p := ⟨b1, o1 + k * 4 + 3, none⟩) hb1).trans x3
          have EE1 : Hid (s1 = some ⟨b1, o1, none⟩) := ee1
          have HS1 : Hid (Seen w so1 (itAt i1 k).data.length (itAt i1 k).data ∧ (so1 = none → cs1 = 0) ∧ Word (itAt i1 k).v ∧ (itAt i1 k).data.length ≤ 140737488351232) := ⟨hs1, hc1, wf1.1, wf1.2.2.2⟩
          rw [ee1]
          clear hb1 hs1 hc1 wf1
          go_wp2_with fail
          refine (wrote_any r v1 q y1 sz1 z1 e1 (itAt i1 k) so1 cs1 wr HF.out.2.1.tw ⟨HS1.out.1.later HF.out.1 (Nat.le_refl _), HS1.out.2.1, HS1.out.2.2.1, HS1.out.2.2.2⟩ (step_far HS1.out.1 HF.out.2.1.low)).mono ?_
          rintro ew w12 ⟨rfl, v1n, y1n, z1n, e1n, tw, kk, ff⟩
          have H12 : Hid (Below w.heap.size w w12 ∧ Po w w12 r v1n q y1n sz1 z1n e1n ∧ Po w w12 t v2 u y2 sz2 z2 e2 ∧ (∀ k, Ft r v1n q y1n k → ¬ Ft t v2 u y2 k)) := ⟨HF.out.2.1.bel HF.out.1 kk, HF.out.2.1.next HF.out.1 tw ff, ⟨HF.out.2.2.1.tw.kept kk (fun k hk hS => HF.out.2.2.2 k hS hk), HF.out.2.2.1.low⟩, fun k hk hq => by rcases ff k hk with g | g; exact HF.out.2.2.2 k g hq; have := HF.out.2.2.1.tw.lt k hq; omega⟩
          clear tw kk ff x0 x1 x2 x3
          go_wp2_with fail
          try rw [← EE1.out]
          go_roundw
          case rel => exact ⟨k + 1, _, _, _, _, _, _, _, _, by omega, by go_num, H12.out⟩
          case measure => simp [intOf]; omega
          
      · by_cases h2k : k < m2
        · have u1 : ¬ (k : Int) < (m1 : Int) := by omega
          have u2 : (k : Int) < (m2 : Int) := by omega
          obtain ⟨b2, o2, so2, cs2, ee2, hb2, x0, x1, x2, x3, hs2, hc2⟩ := HI.out.2.cells k h2k
          have wf2 := HI.out.2.wf k h2k
          have x0 := (HF.out.1.cell (p := ⟨b2, o2 + k * 4, none⟩) hb2).trans x0
          have x1 := (HF.out.1.cell (p := ⟨b2, o2 + k * 4 + 1, none⟩) hb2).trans x1
          have x2 := (HF.out.1.cell (p := ⟨b2, o2 + k * 4 + 2, none⟩) hb2).trans x2
          have x3 := (HF.out.1.cell (p := ⟨b2, o2 + k * 4 + 3, none⟩) hb2).trans x3
          have EE2 : Hid (s2 = some ⟨b2, o2, none⟩) := ee2
          have HS2 : Hid (Seen w so2 (itAt i2 k).data.length (itAt i2 k).data ∧ (so2 = none → cs2 = 0) ∧ Word (itAt i2 k).v ∧ (itAt i2 k).data.length ≤ 140737488351232) := ⟨hs2, hc2, wf2.1, wf2.2.2.2⟩
          rw [ee2]
          clear hb2 hs2 hc2 wf2
          go_wp2_with fail
          refine (wrote_any t v2 u y2 sz2 z2 e2 (itAt i2 k) so2 cs2 wr HF.out.2.2.1.tw ⟨HS2.out.1.later HF.out.1 (Nat.le_refl _), HS2.out.2.1, HS2.out.2.2.1, HS2.out.2.2.2⟩ (step_far HS2.out.1 HF.out.2.2.1.low)).mono ?_
          rintro ew w13 ⟨rfl, v2n, y2n, z2n, e2n, tw, kk, ff⟩
          have H13 : Hid (Below w.heap.size w w13 ∧ Po w w13 r v1 q y1 sz1 z1 e1 ∧ Po w w13 t v2n u y2n sz2 z2n e2n ∧ (∀ k, Ft r v1 q y1 k → ¬ Ft t v2n u y2n k)) := ⟨HF.out.2.2.1.bel HF.out.1 kk, ⟨HF.out.2.1.tw.kept kk (fun k hk hS => HF.out.2.2.2 k hk hS), HF.out.2.1.low⟩, HF.out.2.2.1.next HF.out.1 tw ff, fun k hq hk => by rcases ff k hk with g | g; exact HF.out.2.2.2 k hq g; have := HF.out.2.1.tw.lt k hq; omega⟩
          clear tw kk ff x0 x1 x2 x3
          go_wp2_with fail
          try rw [← EE2.out]
          go_roundw
          case rel => exact ⟨k + 1, _, _, _, _, _, _, _, _, by omega, by go_num, H13.out⟩
          case measure => simp [intOf]; omega
          
        · have u1 : ¬ (k : Int) < (m1 : Int) := by omega
          have u2 : ¬ (k : Int) < (m2 : Int) := by omega
          obtain ⟨w14, hw14⟩ : ∃ W, wr = W := ⟨_, rfl⟩
          rw [hw14] at HF ⊢
          clear hw14
          go_wp2_with (first | (refine wpList_build rfl 35 _ rfl #[(0, .int .i64 8)] (by simp only [List.map_toArray, List.map_cons, List.map_nil]; rfl) _ (bEnd _) ?_) | (refine wpList_alloc_new rfl 35 rfl 4 _ stZero ?_; intro w15 b15 s15 l15) | (refine wpList_store_blk rfl 35 35 _ _ rfl _ rfl _ (stepC ⟨8, 0, 0, []⟩ none 0) rfl b15 rfl (stSize _ _ _) (stOne _ _ _) ?_; intro w16 b16 s16 k16; have L16 : Below w14.heap.size w14 w16 := below_kept l15 k16 (by omega) (fun j hj => by omega); have c0 := b16.cell 0; rw [show (stepC ⟨8, 0, 0, []⟩ none 0)[0]? = some (.int .i64 8) from rfl] at c0; have c1 := b16.cell 1; rw [show (stepC ⟨8, 0, 0, []⟩ none 0)[1]? = some (.int .i64 0) from rfl] at c1; have c2 := b16.cell 2; rw [show (stepC ⟨8, 0, 0, []⟩ none 0)[2]? = some (.int .u64 0) from rfl] at c2; have c3 := b16.cell 3; rw [show (stepC ⟨8, 0, 0, []⟩ none 0)[3]? = some (.slice none 0 0) from rfl] at c3))
          have F16 : Hid ((Below w.heap.size w w16 ∧ Po w w16 r v1 q y1 sz1 z1 e1 ∧ Po w w16 t v2 u y2 sz2 z2 e2 ∧ (∀ k, Ft r v1 q y1 k → ¬ Ft t v2 u y2 k)) ∧ Blk w16 w14.heap.size 35 (stepC ⟨8, 0, 0, []⟩ none 0) ∧ w14.heap.size < w16.heap.size) := ⟨⟨below_chain HF.out.1 L16 HF.out.1.size, HF.out.2.1.later L16, HF.out.2.2.1.later L16, HF.out.2.2.2⟩, b16, b16.lt⟩
          have D16 : Hid (∀ k, Ft r v1 q y1 k ∨ Ft t v2 u y2 k → k < w14.heap.size) := fun k hk => hk.elim (HF.out.2.1.tw.lt k) (HF.out.2.2.1.tw.lt k)
          clear b15 s15 l15 b16 s16 k16 L16
          refine (wrote_any r v1 q y1 sz1 z1 e1 ⟨8, 0, 0, []⟩ none 0 w16 F16.out.1.2.1.tw (itEnd _) (fun b o h0 => by cases h0)).mono ?_
          rintro ew w17 ⟨rfl, v1n, y1n, z1n, e1n, tw, kk, ff⟩
          have Gw17 : Hid (TwW w17 r v1n q y1n sz1 z1n e1n ∧ Below w.heap.size w w17 ∧ Po w w17 t v2 u y2 sz2 z2 e2 ∧ Blk w17 w14.heap.size 35 (stepC ⟨8, 0, 0, []⟩ none 0)) := ⟨tw, F16.out.1.2.1.bel F16.out.1.1 kk, ⟨F16.out.1.2.2.1.tw.kept kk (fun k hk hS => F16.out.1.2.2.2 k hS hk), F16.out.1.2.2.1.low⟩, F16.out.2.1.kept kk (fun h => by have := D16.out _ (.inl h); omega)⟩
          clear tw kk ff c0 c1 c2 c3
          go_wp2_with fail
          refine (wleft_any r v1n sz1 z1n e1n w17 Gw17.out.1.one).mono ?_
          rintro ew w17a ⟨rfl, aw17, rfl⟩
          go_wp2_with fail
          refine (rwleft_any q y1n sz1 z1n e1n (w17.drewN aw17) (Gw17.out.1.dn aw17).two).mono ?_
          rintro ew w17b ⟨rfl, bw17, hw17⟩
          obtain ⟨w18, hw18⟩ : ∃ W, w17b = W := ⟨_, rfl⟩
          have F18 : Hid (Below w.heap.size w w18 ∧ Po w w18 t v2 u y2 sz2 z2 e2 ∧ Blk w18 w14.heap.size 35 (stepC ⟨8, 0, 0, []⟩ none 0)) := by rw [← hw18, hw17]; exact ⟨below_dn (below_dn Gw17.out.2.1 _) _, (Gw17.out.2.2.1.dn _).dn _, Gw17.out.2.2.2⟩
          rw [hw18]
          clear hw18 hw17
          have c0 := F18.out.2.2.cell 0
          rw [show (stepC ⟨8, 0, 0, []⟩ none 0)[0]? = some (.int .i64 8) from rfl] at c0
          have c1 := F18.out.2.2.cell 1
          rw [show (stepC ⟨8, 0, 0, []⟩ none 0)[1]? = some (.int .i64 0) from rfl] at c1
          have c2 := F18.out.2.2.cell 2
          rw [show (stepC ⟨8, 0, 0, []⟩ none 0)[2]? = some (.int .u64 0) from rfl] at c2
          have c3 := F18.out.2.2.cell 3
          rw [show (stepC ⟨8, 0, 0, []⟩ none 0)[3]? = some (.slice none 0 0) from rfl] at c3
          have qq : ((sz1 : Int) - (z1n.length : Int) == (sz1 : Int) - (z1n.length : Int)) = true := by simp
          go_wp2_with fail
          refine (wrote_any t v2 u y2 sz2 z2 e2 ⟨8, 0, 0, []⟩ none 0 w18 F18.out.2.1.tw (itEnd _) (fun b o h0 => by cases h0)).mono ?_
          rintro ew w19 ⟨rfl, v2n, y2n, z2n, e2n, tw, kk, ff⟩
          have Gw19 : Hid (TwW w19 t v2n u y2n sz2 z2n e2n ∧ Below w.heap.size w w19) := ⟨tw, F18.out.2.1.bel F18.out.1 kk⟩
          clear tw kk ff c0 c1 c2 c3
          go_wp2_with fail
          refine (wleft_any t v2n sz2 z2n e2n w19 Gw19.out.1.one).mono ?_
          rintro ew w19a ⟨rfl, aw19, rfl⟩
          go_wp2_with fail
          refine (rwleft_any u y2n sz2 z2n e2n (w19.drewN aw19) (Gw19.out.1.dn aw19).two).mono ?_
          rintro ew w19b ⟨rfl, bw19, hw19⟩
          have qq2 : ((sz2 : Int) - (z2n.length : Int) == (sz2 : Int) - (z2n.length : Int)) = true := by simp
          have BL : Hid (Below w.heap.size w w19b) := by rw [hw19]; exact below_dn (below_dn Gw19.out.2 _) _
          clear hw19
          go_wp2_with fail
          go_ret
          exact ⟨by simp, BL.out⟩
set_option maxRecDepth 20000 in
set_option maxHeartbeats 4000000 in
theorem ww_gb (sz1 : Nat) (h1 : sz1 ≤ 1048576) (A2 : Int) (h2 : nwE A2 ≠ 0) (s1 : Option Addr) (m1 j1 : Nat) (i1 : List Item) (s2 : Option Addr) (m2 j2 : Nat) (i2 : List Item) (w : World) (x1 : SeenS w s1 m1 i1) (x2 : SeenS w s2 m2 i2) :
    Calls Try.prog 4 #[.agg #[(.int .i64 (sz1 : Int)), (.int .i64 A2), (.slice s1 m1 j1), (.slice s2 m2 j2)]] w fun e w' => e = .returned (.bool true) ∧ Below w.heap.size w w' := by
  have HI : Hid (SeenS w s1 m1 i1 ∧ SeenS w s2 m2 i2) := ⟨x1, x2⟩
  have M1 := x1.top
  have M2 := x2.top
  obtain ⟨E2, hE2⟩ : ∃ E, nwE A2 = E := ⟨_, rfl⟩
  have HE2 : Hid (nwE A2 = E2) := hE2
  have q2 : (E2 != E2) = false := by simp
  clear hE2
  clear x1 x2
  go_enter Try.func4, Try.ntmps4
  go_wp2_with (first | (refine wpList_box_new rfl 41 _ rfl [(.int .i64 (sz1 : Int)), (.int .i64 A2), (.slice s1 m1 j1), (.slice s2 m2 j2)] rfl ?_; intro w1 b1 s1' l1))
  have H1 : Hid (Blk w1 w.heap.size 41 [(.int .i64 (sz1 : Int)), (.int .i64 A2), (.slice s1 m1 j1), (.slice s2 m2 j2)] ∧ Below w.heap.size w w1) := ⟨b1, l1⟩
  clear b1 s1' l1
  refine region_inv [.val (.pointer (some ⟨w.heap.size, 0, none⟩)), .val (.int .i64 (sz1 : Int)), .val (.pointer (some ⟨w.heap.size, 1, none⟩)), .val (.int .i64 A2), .val (.pointer (some ⟨w.heap.size, 2, none⟩)), .val (.slice s1 m1 j1), .val (.pointer (some ⟨w.heap.size, 3, none⟩)), .val (.slice s2 m2 j2), .val (.int .i64 (sz1 : Int)), .val (.int .i64 A2), .val (.slice s1 m1 j1)] (by kernel_rfl) (by kernel_rfl) (by kernel_rfl) ?_ ?_
  · refine Steps'.cons ?_ (Steps'.cons ?_ (Steps'.cons ?_ (Steps'.cons ?_ (Steps'.cons ?_ (Steps'.cons ?_ (Steps'.cons ?_ (Steps'.cons ?_ (Steps'.cons ?_ (Steps'.cons ?_ (Steps'.cons ?_ (Steps'.one _ _ _ _ _ _ _)))))))))))
    · intro ax wx hb hs hd
      have h1 : ax.tmps.getD 1 undef = (.pointer (some ⟨w.heap.size, 0, none⟩)) := hs 1 (by kernel_rfl)
      refine Does.value (.pointer (some ⟨w.heap.size, 0, none⟩)) ?_ rfl
      clear hs hd
      go_simp
    · intro ax wx hb hs hd
      have h17 : ax.tmps.getD 17 undef = (.pointer (some ⟨w.heap.size, 0, none⟩)) := hd 0 17 rfl (by kernel_rfl) (by decide)
      have cx : wx.cell? ⟨w.heap.size, 0, none⟩ = some (.int .i64 (sz1 : Int)) := (H1.out.1.later hb H1.out.1.lt).cell 0
      refine Does.value (.int .i64 (sz1 : Int)) ?_ rfl
      clear hs hd
      go_simp
    · intro ax wx hb hs hd
      have h1 : ax.tmps.getD 1 undef = (.pointer (some ⟨w.heap.size, 0, none⟩)) := hs 1 (by kernel_rfl)
      refine Does.value (.pointer (some ⟨w.heap.size, 1, none⟩)) ?_ rfl
      clear hs hd
      go_simp
    · intro ax wx hb hs hd
      have h19 : ax.tmps.getD 19 undef = (.pointer (some ⟨w.heap.size, 1, none⟩)) := hd 2 19 rfl (by kernel_rfl) (by decide)
      have cx : wx.cell? ⟨w.heap.size, 1, none⟩ = some (.int .i64 A2) := (H1.out.1.later hb H1.out.1.lt).cell 1
      refine Does.value (.int .i64 A2) ?_ rfl
      clear hs hd
      go_simp
    · intro ax wx hb hs hd
      have h1 : ax.tmps.getD 1 undef = (.pointer (some ⟨w.heap.size, 0, none⟩)) := hs 1 (by kernel_rfl)
      refine Does.value (.pointer (some ⟨w.heap.size, 2, none⟩)) ?_ rfl
      clear hs hd
      go_simp
    · intro ax wx hb hs hd
      have h21 : ax.tmps.getD 21 undef = (.pointer (some ⟨w.heap.size, 2, none⟩)) := hd 4 21 rfl (by kernel_rfl) (by decide)
      have cx : wx.cell? ⟨w.heap.size, 2, none⟩ = some (.slice s1 m1 j1) := (H1.out.1.later hb H1.out.1.lt).cell 2
      refine Does.value (.slice s1 m1 j1) ?_ rfl
      clear hs hd
      go_simp
    · intro ax wx hb hs hd
      have h1 : ax.tmps.getD 1 undef = (.pointer (some ⟨w.heap.size, 0, none⟩)) := hs 1 (by kernel_rfl)
      refine Does.value (.pointer (some ⟨w.heap.size, 3, none⟩)) ?_ rfl
      clear hs hd
      go_simp
    · intro ax wx hb hs hd
      have h23 : ax.tmps.getD 23 undef = (.pointer (some ⟨w.heap.size, 3, none⟩)) := hd 6 23 rfl (by kernel_rfl) (by decide)
      have cx : wx.cell? ⟨w.heap.size, 3, none⟩ = some (.slice s2 m2 j2) := (H1.out.1.later hb H1.out.1.lt).cell 3
      refine Does.value (.slice s2 m2 j2) ?_ rfl
      clear hs hd
      go_simp
    · intro ax wx hb hs hd
      have h18 : ax.tmps.getD 18 undef = (.int .i64 (sz1 : Int)) := hd 1 18 rfl (by kernel_rfl) (by decide)
      refine Does.value (.int .i64 (sz1 : Int)) ?_ rfl
      clear hs hd
      go_simp
    · intro ax wx hb hs hd
      have h20 : ax.tmps.getD 20 undef = (.int .i64 A2) := hd 3 20 rfl (by kernel_rfl) (by decide)
      refine Does.value (.int .i64 A2) ?_ rfl
      clear hs hd
      go_simp
    · intro ax wx hb hs hd
      have h22 : ax.tmps.getD 22 undef = (.slice s1 m1 j1) := hd 5 22 rfl (by kernel_rfl) (by decide)
      refine Does.value (.slice s1 m1 j1) ?_ rfl
      clear hs hd
      go_simp
  · intro wx hb
    refine @Ends.val _ _ _ _ _ _ _ _ _ (.pointer (some ⟨w.heap.size, 0, none⟩)) rfl ?_
    refine @Ends.val _ _ _ _ _ _ _ _ _ (.int .i64 (sz1 : Int)) rfl ?_
    refine @Ends.val _ _ _ _ _ _ _ _ _ (.pointer (some ⟨w.heap.size, 1, none⟩)) rfl ?_
    refine @Ends.val _ _ _ _ _ _ _ _ _ (.int .i64 A2) rfl ?_
    refine @Ends.val _ _ _ _ _ _ _ _ _ (.pointer (some ⟨w.heap.size, 2, none⟩)) rfl ?_
    refine @Ends.val _ _ _ _ _ _ _ _ _ (.slice s1 m1 j1) rfl ?_
    refine @Ends.val _ _ _ _ _ _ _ _ _ (.pointer (some ⟨w.heap.size, 3, none⟩)) rfl ?_
    refine @Ends.val _ _ _ _ _ _ _ _ _ (.slice s2 m2 j2) rfl ?_
    refine @Ends.val _ _ _ _ _ _ _ _ _ (.int .i64 (sz1 : Int)) rfl ?_
    refine @Ends.val _ _ _ _ _ _ _ _ _ (.int .i64 A2) rfl ?_
    refine @Ends.val _ _ _ _ _ _ _ _ _ (.slice s1 m1 j1) rfl ?_
    refine @Ends.one _ _ _ _ _ _ _ ?_
    simp only [Act.put, List.setIfInBounds_toArray, List.set_cons_zero, List.set_cons_succ]
    have B2 : Hid (Below w.heap.size w wx) := below_chain H1.out.2 hb H1.out.2.size
    clear hb
    refine last_assign (.tmp 24) rfl (some 6) rfl (.slice s2 m2 j2) rfl ?_
    simp only [Act.put, List.setIfInBounds_toArray, List.set_cons_zero, List.set_cons_succ]
    go_wp2_with fail
    refine (newWriter_any sz1 h1 wx).mono ?_
    rintro e w2 ⟨r, rfl, o2, ge2, l2⟩
    go_wp2_with fail
    refine (rwnew_any sz1 h1 w2).mono ?_
    rintro e w3 ⟨q, rfl, o3, ge3, l3⟩
    have N3 := po_new B2.out l2 o2 ge2 l3 o3 ge3
    have P3 : Hid (Po w w3 r (.slice none 0 0) q (.slice none 0 0) sz1 [] 0 ∧ Below w.heap.size w w3) := ⟨N3.1, below_chain (below_chain B2.out l2 B2.out.size) l3 (by have := B2.out.size; have := l2.size; omega)⟩
    clear o2 ge2 l2 o3 ge3 l3 N3
    go_wp2_with fail
    refine (newWriter_bad A2 h2 w3).mono ?_
    rintro e w4 ⟨rfl, rfl⟩
    rw [HE2.out]
    go_wp2_with fail
    refine (rwnew_bad A2 h2 w3).mono ?_
    rintro e w5 ⟨rfl, rfl⟩
    rw [HE2.out]
    obtain ⟨w5, hw5⟩ : ∃ W, w3 = W := ⟨_, rfl⟩
    rw [hw5] at P3 ⊢
    have P5 : Hid (Po w w5 r (.slice none 0 0) q (.slice none 0 0) sz1 [] 0 ∧ Below w.heap.size w w5) := P3.out
    clear hw5
    go_wp2_with fail
    go_loopw [15] (fun i wr => ∃ (k : Nat) (v1 y1 : Value) (z1 : List Int) (e1 : Int), (k ≤ m1 ∨ k ≤ m2) ∧ i = .int .i64 k ∧ Below w.heap.size w wr ∧ Po w wr r v1 q y1 sz1 z1 e1) (fun i _ => (m1 + m2) - (intOf i).toNat)
    case atStart => exact ⟨0, _, _, _, _, .inl (Nat.zero_le _), rfl, P5.out.2, P5.out.1⟩
    case round =>
      obtain ⟨k, v1, y1, z1, e1, hk, rfl, hrr⟩ := hrel
      have HF : Hid (Below w.heap.size w wr ∧ Po w wr r v1 q y1 sz1 z1 e1) := hrr
      clear hrr P5
      have j0 : (0 : Int) ≤ (k : Int) := by omega
      by_cases h1k : k < m1
      · by_cases h2k : k < m2
        · have u1 : (k : Int) < (m1 : Int) := by omega
          have u2 : (k : Int) < (m2 : Int) := by omega
          obtain ⟨b1, o1, so1, cs1, ee1, hb1, x0, x1, x2, x3, hs1, hc1⟩ := HI.out.1.cells k h1k
          have wf1 := HI.out.1.wf k h1k
          have x0 := (HF.out.1.cell (p := ⟨b1, o1 + k * 4, none⟩) hb1).trans x0
          have x1 := (HF.out.1.cell (p := ⟨b1, o1 + k * 4 + 1, none⟩) hb1).trans x1
          have x2 := (HF.out.1.cell (p := ⟨b1, o1 + k * 4 + 2, none⟩) hb1).trans x2
          have x3 := (HF.out.1.cell (p := ⟨b1, o1 + k * 4 + 3, none⟩) hb1).trans x3
          have EE1 : Hid (s1 = some ⟨b1, o1, none⟩) := ee1
          have HS1 : Hid (Seen w so1 (itAt i1 k).data.length (itAt i1 k).data ∧ (so1 = none → cs1 = 0) ∧ Word (itAt i1 k).v ∧ (itAt i1 k).data.length ≤ 140737488351232) := ⟨hs1, hc1, wf1.1, wf1.2.2.2⟩
          rw [ee1]
          clear hb1 hs1 hc1 wf1
          go_wp2_with fail
          refine (wrote_any r v1 q y1 sz1 z1 e1 (itAt i1 k) so1 cs1 wr HF.out.2.tw ⟨HS1.out.1.later HF.out.1 (Nat.le_refl _), HS1.out.2.1, HS1.out.2.2.1, HS1.out.2.2.2⟩ (step_far HS1.out.1 HF.out.2.low)).mono ?_
          rintro ew w12 ⟨rfl, v1n, y1n, z1n, e1n, tw, kk, ff⟩
          have H12 : Hid (Below w.heap.size w w12 ∧ Po w w12 r v1n q y1n sz1 z1n e1n) := ⟨HF.out.2.bel HF.out.1 kk, HF.out.2.next HF.out.1 tw ff⟩
          clear tw kk ff x0 x1 x2 x3
          go_wp2_with fail
          try rw [← EE1.out]
          go_roundw
          case rel => exact ⟨k + 1, _, _, _, _, by omega, by go_num, H12.out⟩
          case measure => simp [intOf]; omega
          
        · have u1 : (k : Int) < (m1 : Int) := by omega
          have u2 : ¬ (k : Int) < (m2 : Int) := by omega
          obtain ⟨b1, o1, so1, cs1, ee1, hb1, x0, x1, x2, x3, hs1, hc1⟩ := HI.out.1.cells k h1k
          have wf1 := HI.out.1.wf k h1k
          have x0 := (HF.out.1.cell (p := ⟨b1, o1 + k * 4, none⟩) hb1).trans x0
          have x1 := (HF.out.1.cell (p := ⟨b1, o1 + k * 4 + 1, none⟩) hb1).trans x1
          have x2 := (HF.out.1.cell (p := ⟨b1, o1 + k * 4 + 2, none⟩) hb1).trans x2
          have x3 := (HF.out.1.cell (p := ⟨b1, o1 + k * 4 + 3, none⟩) hb1).trans x3
          have EE1 : Hid (s1 = some ⟨b1, o1, none⟩) := ee1
          have HS1 : Hid (Seen w so1 (itAt i1 k).data.length (itAt i1 k).data ∧ (so1 = none → cs1 = 0) ∧ Word (itAt i1 k).v ∧ (itAt i1 k).data.length ≤ 140737488351232) := ⟨hs1, hc1, wf1.1, wf1.2.2.2⟩
          rw [ee1]
          clear hb1 hs1 hc1 wf1
          go_wp2_with fail
          refine (wrote_any r v1 q y1 sz1 z1 e1 (itAt i1 k) so1 cs1 wr HF.out.2.tw ⟨HS1.out.1.later HF.out.1 (Nat.le_refl _), HS1.out.2.1, HS1.out.2.2.1, HS1.out.2.2.2⟩ (step_far HS1.out.1 HF.out.2.low)).mono ?_
          rintro ew w12 ⟨rfl, v1n, y1n, z1n, e1n, tw, kk, ff⟩
          have H12 : Hid (Below w.heap.size w w12 ∧ Po w w12 r v1n q y1n sz1 z1n e1n) := ⟨HF.out.2.bel HF.out.1 kk, HF.out.2.next HF.out.1 tw ff⟩
          clear tw kk ff x0 x1 x2 x3
          go_wp2_with fail
          try rw [← EE1.out]
          go_roundw
          case rel => exact ⟨k + 1, _, _, _, _, by omega, by go_num, H12.out⟩
          case measure => simp [intOf]; omega
          
      · by_cases h2k : k < m2
        · have u1 : ¬ (k : Int) < (m1 : Int) := by omega
          have u2 : (k : Int) < (m2 : Int) := by omega
          go_wp2_with fail
          go_roundw
          case rel => exact ⟨k + 1, _, _, _, _, by omega, by go_num, HF.out⟩
          case measure => simp [intOf]; omega
          
        · have u1 : ¬ (k : Int) < (m1 : Int) := by omega
          have u2 : ¬ (k : Int) < (m2 : Int) := by omega
          obtain ⟨w14, hw14⟩ : ∃ W, wr = W := ⟨_, rfl⟩
          rw [hw14] at HF ⊢
          clear hw14
          go_wp2_with (first | (refine wpList_build rfl 35 _ rfl #[(0, .int .i64 8)] (by simp only [List.map_toArray, List.map_cons, List.map_nil]; rfl) _ (bEnd _) ?_) | (refine wpList_alloc_new rfl 35 rfl 4 _ stZero ?_; intro w15 b15 s15 l15) | (refine wpList_store_blk rfl 35 35 _ _ rfl _ rfl _ (stepC ⟨8, 0, 0, []⟩ none 0) rfl b15 rfl (stSize _ _ _) (stOne _ _ _) ?_; intro w16 b16 s16 k16; have L16 : Below w14.heap.size w14 w16 := below_kept l15 k16 (by omega) (fun j hj => by omega); have c0 := b16.cell 0; rw [show (stepC ⟨8, 0, 0, []⟩ none 0)[0]? = some (.int .i64 8) from rfl] at c0; have c1 := b16.cell 1; rw [show (stepC ⟨8, 0, 0, []⟩ none 0)[1]? = some (.int .i64 0) from rfl] at c1; have c2 := b16.cell 2; rw [show (stepC ⟨8, 0, 0, []⟩ none 0)[2]? = some (.int .u64 0) from rfl] at c2; have c3 := b16.cell 3; rw [show (stepC ⟨8, 0, 0, []⟩ none 0)[3]? = some (.slice none 0 0) from rfl] at c3))
          have F16 : Hid ((Below w.heap.size w w16 ∧ Po w w16 r v1 q y1 sz1 z1 e1) ∧ Blk w16 w14.heap.size 35 (stepC ⟨8, 0, 0, []⟩ none 0) ∧ w14.heap.size < w16.heap.size) := ⟨⟨below_chain HF.out.1 L16 HF.out.1.size, HF.out.2.later L16⟩, b16, b16.lt⟩
          have D16 : Hid (∀ k, Ft r v1 q y1 k → k < w14.heap.size) := fun k hk => HF.out.2.tw.lt k hk
          clear b15 s15 l15 b16 s16 k16 L16
          refine (wrote_any r v1 q y1 sz1 z1 e1 ⟨8, 0, 0, []⟩ none 0 w16 F16.out.1.2.tw (itEnd _) (fun b o h0 => by cases h0)).mono ?_
          rintro ew w17 ⟨rfl, v1n, y1n, z1n, e1n, tw, kk, ff⟩
          have Gw17 : Hid (TwW w17 r v1n q y1n sz1 z1n e1n ∧ Below w.heap.size w w17) := ⟨tw, F16.out.1.2.bel F16.out.1.1 kk⟩
          clear tw kk ff c0 c1 c2 c3
          go_wp2_with fail
          refine (wleft_any r v1n sz1 z1n e1n w17 Gw17.out.1.one).mono ?_
          rintro ew w17a ⟨rfl, aw17, rfl⟩
          go_wp2_with fail
          refine (rwleft_any q y1n sz1 z1n e1n (w17.drewN aw17) (Gw17.out.1.dn aw17).two).mono ?_
          rintro ew w17b ⟨rfl, bw17, hw17⟩
          have qq : ((sz1 : Int) - (z1n.length : Int) == (sz1 : Int) - (z1n.length : Int)) = true := by simp
          have BL : Hid (Below w.heap.size w w17b) := by rw [hw17]; exact below_dn (below_dn Gw17.out.2 _) _
          clear hw17
          go_wp2_with fail
          go_ret
          exact ⟨by simp, BL.out⟩
set_option maxRecDepth 20000 in
set_option maxHeartbeats 4000000 in
theorem ww_bg (A1 : Int) (h1 : nwE A1 ≠ 0) (sz2 : Nat) (h2 : sz2 ≤ 1048576) (s1 : Option Addr) (m1 j1 : Nat) (i1 : List Item) (s2 : Option Addr) (m2 j2 : Nat) (i2 : List Item) (w : World) (x1 : SeenS w s1 m1 i1) (x2 : SeenS w s2 m2 i2) :
    Calls Try.prog 4 #[.agg #[(.int .i64 A1), (.int .i64 (sz2 : Int)), (.slice s1 m1 j1), (.slice s2 m2 j2)]] w fun e w' => e = .returned (.bool true) ∧ Below w.heap.size w w' := by
  have HI : Hid (SeenS w s1 m1 i1 ∧ SeenS w s2 m2 i2) := ⟨x1, x2⟩
  have M1 := x1.top
  have M2 := x2.top
  obtain ⟨E1, hE1⟩ : ∃ E, nwE A1 = E := ⟨_, rfl⟩
  have HE1 : Hid (nwE A1 = E1) := hE1
  have q1 : (E1 != E1) = false := by simp
  clear hE1
  clear x1 x2
  go_enter Try.func4, Try.ntmps4
  go_wp2_with (first | (refine wpList_box_new rfl 41 _ rfl [(.int .i64 A1), (.int .i64 (sz2 : Int)), (.slice s1 m1 j1), (.slice s2 m2 j2)] rfl ?_; intro w1 b1 s1' l1))
  have H1 : Hid (Blk w1 w.heap.size 41 [(.int .i64 A1), (.int .i64 (sz2 : Int)), (.slice s1 m1 j1), (.slice s2 m2 j2)] ∧ Below w.heap.size w w1) := ⟨b1, l1⟩
  clear b1 s1' l1
  refine region_inv [.val (.pointer (some ⟨w.heap.size, 0, none⟩)), .val (.int .i64 A1), .val (.pointer (some ⟨w.heap.size, 1, none⟩)), .val (.int .i64 (sz2 : Int)), .val (.pointer (some ⟨w.heap.size, 2, none⟩)), .val (.slice s1 m1 j1), .val (.pointer (some ⟨w.heap.size, 3, none⟩)), .val (.slice s2 m2 j2), .val (.int .i64 A1), .val (.int .i64 (sz2 : Int)), .val (.slice s1 m1 j1)] (by kernel_rfl) (by kernel_rfl) (by kernel_rfl) ?_ ?_
  · refine Steps'.cons ?_ (Steps'.cons ?_ (Steps'.cons ?_ (Steps'.cons ?_ (Steps'.cons ?_ (Steps'.cons ?_ (Steps'.cons ?_ (Steps'.cons ?_ (Steps'.cons ?_ (Steps'.cons ?_ (Steps'.cons ?_ (Steps'.one _ _ _ _ _ _ _)))))))))))
    · intro ax wx hb hs hd
      have h1 : ax.tmps.getD 1 undef = (.pointer (some ⟨w.heap.size, 0, none⟩)) := hs 1 (by kernel_rfl)
      refine Does.value (.pointer (some ⟨w.heap.size, 0, none⟩)) ?_ rfl
      clear hs hd
      go_simp
    · intro ax wx hb hs hd
      have h17 : ax.tmps.getD 17 undef = (.pointer (some ⟨w.heap.size, 0, none⟩)) := hd 0 17 rfl (by kernel_rfl) (by decide)
      have cx : wx.cell? ⟨w.heap.size, 0, none⟩ = some (.int .i64 A1) := (H1.out.1.later hb H1.out.1.lt).cell 0
      refine Does.value (.int .i64 A1) ?_ rfl
      clear hs hd
      go_simp
    · intro ax wx hb hs hd
      have h1 : ax.tmps.getD 1 undef = (.pointer (some ⟨w.heap.size, 0, none⟩)) := hs 1 (by kernel_rfl)
      refine Does.value (.pointer (some ⟨w.heap.size, 1, none⟩)) ?_ rfl
      clear hs hd
      go_simp
    · intro ax wx hb hs hd
      have h19 : ax.tmps.getD 19 undef = (.pointer (some ⟨w.heap.size, 1, none⟩)) := hd 2 19 rfl (by kernel_rfl) (by decide)
      have cx : wx.cell? ⟨w.heap.size, 1, none⟩ = some (.int .i64 (sz2 : Int)) := (H1.out.1.later hb H1.out.1.lt).cell 1
      refine Does.value (.int .i64 (sz2 : Int)) ?_ rfl
      clear hs hd
      go_simp
    · intro ax wx hb hs hd
      have h1 : ax.tmps.getD 1 undef = (.pointer (some ⟨w.heap.size, 0, none⟩)) := hs 1 (by kernel_rfl)
      refine Does.value (.pointer (some ⟨w.heap.size, 2, none⟩)) ?_ rfl
      clear hs hd
      go_simp
    · intro ax wx hb hs hd
      have h21 : ax.tmps.getD 21 undef = (.pointer (some ⟨w.heap.size, 2, none⟩)) := hd 4 21 rfl (by kernel_rfl) (by decide)
      have cx : wx.cell? ⟨w.heap.size, 2, none⟩ = some (.slice s1 m1 j1) := (H1.out.1.later hb H1.out.1.lt).cell 2
      refine Does.value (.slice s1 m1 j1) ?_ rfl
      clear hs hd
      go_simp
    · intro ax wx hb hs hd
      have h1 : ax.tmps.getD 1 undef = (.pointer (some ⟨w.heap.size, 0, none⟩)) := hs 1 (by kernel_rfl)
      refine Does.value (.pointer (some ⟨w.heap.size, 3, none⟩)) ?_ rfl
      clear hs hd
      go_simp
    · intro ax wx hb hs hd
      have h23 : ax.tmps.getD 23 undef = (.pointer (some ⟨w.heap.size, 3, none⟩)) := hd 6 23 rfl (by kernel_rfl) (by decide)
      have cx : wx.cell? ⟨w.heap.size, 3, none⟩ = some (.slice s2 m2 j2) := (H1.out.1.later hb H1.out.1.lt).cell 3
      refine Does.value (.slice s2 m2 j2) ?_ rfl
      clear hs hd
      go_simp
    · intro ax wx hb hs hd
      have h18 : ax.tmps.getD 18 undef = (.int .i64 A1) := hd 1 18 rfl (by kernel_rfl) (by decide)
      refine Does.value (.int .i64 A1) ?_ rfl
      clear hs hd
      go_simp
    · intro ax wx hb hs hd
      have h20 : ax.tmps.getD 20 undef = (.int .i64 (sz2 : Int)) := hd 3 20 rfl (by kernel_rfl) (by decide)
      refine Does.value (.int .i64 (sz2 : Int)) ?_ rfl
      clear hs hd
      go_simp
    · intro ax wx hb hs hd
      have h22 : ax.tmps.getD 22 undef = (.slice s1 m1 j1) := hd 5 22 rfl (by kernel_rfl) (by decide)
      refine Does.value (.slice s1 m1 j1) ?_ rfl
      clear hs hd
      go_simp
  · intro wx hb
    refine @Ends.val _ _ _ _ _ _ _ _ _ (.pointer (some ⟨w.heap.size, 0, none⟩)) rfl ?_
    refine @Ends.val _ _ _ _ _ _ _ _ _ (.int .i64 A1) rfl ?_
    refine @Ends.val _ _ _ _ _ _ _ _ _ (.pointer (some ⟨w.heap.size, 1, none⟩)) rfl ?_
    refine @Ends.val _ _ _ _ _ _ _ _ _ (.int .i64 (sz2 : Int)) rfl ?_
    refine @Ends.val _ _ _ _ _ _ _ _ _ (.pointer (some ⟨w.heap.size, 2, none⟩)) rfl ?_
    refine @Ends.val _ _ _ _ _ _ _ _ _ (.slice s1 m1 j1) rfl ?_
    refine @Ends.val _ _ _ _ _ _ _ _ _ (.pointer (some ⟨w.heap.size, 3, none⟩)) rfl ?_
    refine @Ends.val _ _ _ _ _ _ _ _ _ (.slice s2 m2 j2) rfl ?_
    refine @Ends.val _ _ _ _ _ _ _ _ _ (.int .i64 A1) rfl ?_
    refine @Ends.val _ _ _ _ _ _ _ _ _ (.int .i64 (sz2 : Int)) rfl ?_
    refine @Ends.val _ _ _ _ _ _ _ _ _ (.slice s1 m1 j1) rfl ?_
    refine @Ends.one _ _ _ _ _ _ _ ?_
    simp only [Act.put, List.setIfInBounds_toArray, List.set_cons_zero, List.set_cons_succ]
    have B2 : Hid (Below w.heap.size w wx) := below_chain H1.out.2 hb H1.out.2.size
    clear hb
    refine last_assign (.tmp 24) rfl (some 6) rfl (.slice s2 m2 j2) rfl ?_
    simp only [Act.put, List.setIfInBounds_toArray, List.set_cons_zero, List.set_cons_succ]
    go_wp2_with fail
    refine (newWriter_bad A1 h1 wx).mono ?_
    rintro e w2 ⟨rfl, rfl⟩
    rw [HE1.out]
    go_wp2_with fail
    refine (rwnew_bad A1 h1 wx).mono ?_
    rintro e w3 ⟨rfl, rfl⟩
    rw [HE1.out]
    obtain ⟨w3, hw3⟩ : ∃ W, wx = W := ⟨_, rfl⟩
    rw [hw3] at B2 ⊢
    have P3 : Hid (True ∧ Below w.heap.size w w3) := ⟨trivial, B2.out⟩
    clear hw3
    go_wp2_with fail
    refine (newWriter_any sz2 h2 w3).mono ?_
    rintro e w4 ⟨t, rfl, o4, ge4, l4⟩
    go_wp2_with fail
    refine (rwnew_any sz2 h2 w4).mono ?_
    rintro e w5 ⟨u, rfl, o5, ge5, l5⟩
    have N5 := po_new P3.out.2 l4 o4 ge4 l5 o5 ge5
    have P5 : Hid (Po w w5 t (.slice none 0 0) u (.slice none 0 0) sz2 [] 0 ∧ Below w.heap.size w w5) := ⟨N5.1, below_chain (below_chain P3.out.2 l4 P3.out.2.size) l5 (by have := P3.out.2.size; have := l4.size; omega)⟩
    clear o4 ge4 l4 o5 ge5 l5 N5
    go_wp2_with fail
    go_loopw [15] (fun i wr => ∃ (k : Nat) (v2 y2 : Value) (z2 : List Int) (e2 : Int), (k ≤ m1 ∨ k ≤ m2) ∧ i = .int .i64 k ∧ Below w.heap.size w wr ∧ Po w wr t v2 u y2 sz2 z2 e2) (fun i _ => (m1 + m2) - (intOf i).toNat)
    case atStart => exact ⟨0, _, _, _, _, .inl (Nat.zero_le _), rfl, P5.out.2, P5.out.1⟩
    case round =>
      obtain ⟨k, v2, y2, z2, e2, hk, rfl, hrr⟩ := hrel
      have HF : Hid (Below w.heap.size w wr ∧ Po w wr t v2 u y2 sz2 z2 e2) := hrr
      clear hrr P5
      have j0 : (0 : Int) ≤ (k : Int) := by omega
      by_cases h1k : k < m1
      · by_cases h2k : k < m2
        · have u1 : (k : Int) < (m1 : Int) := by omega
          have u2 : (k : Int) < (m2 : Int) := by omega
          obtain ⟨b2, o2, so2, cs2, ee2, hb2, x0, x1, x2, x3, hs2, hc2⟩ := HI.out.2.cells k h2k
          have wf2 := HI.out.2.wf k h2k
          have x0 := (HF.out.1.cell (p := ⟨b2, o2 + k * 4, none⟩) hb2).trans x0
          have x1 := (HF.out.1.cell (p := ⟨b2, o2 + k * 4 + 1, none⟩) hb2).trans x1
          have x2 := (HF.out.1.cell (p := ⟨b2, o2 + k * 4 + 2, none⟩) hb2).trans x2
          have x3 := (HF.out.1.cell (p := ⟨b2, o2 + k * 4 + 3, none⟩) hb2).trans x3
          have EE2 : Hid (s2 = some ⟨b2, o2, none⟩) := ee2
          have HS2 : Hid (Seen w so2 (itAt i2 k).data.length (itAt i2 k).data ∧ (so2 = none → cs2 = 0) ∧ Word (itAt i2 k).v ∧ (itAt i2 k).data.length ≤ 140737488351232) := ⟨hs2, hc2, wf2.1, wf2.2.2.2⟩
          rw [ee2]
          clear hb2 hs2 hc2 wf2
          go_wp2_with fail
          refine (wrote_any t v2 u y2 sz2 z2 e2 (itAt i2 k) so2 cs2 wr HF.out.2.tw ⟨HS2.out.1.later HF.out.1 (Nat.le_refl _), HS2.out.2.1, HS2.out.2.2.1, HS2.out.2.2.2⟩ (step_far HS2.out.1 HF.out.2.low)).mono ?_
          rintro ew w13 ⟨rfl, v2n, y2n, z2n, e2n, tw, kk, ff⟩
          have H13 : Hid (Below w.heap.size w w13 ∧ Po w w13 t v2n u y2n sz2 z2n e2n) := ⟨HF.out.2.bel HF.out.1 kk, HF.out.2.next HF.out.1 tw ff⟩
          clear tw kk ff x0 x1 x2 x3
          go_wp2_with fail
          try rw [← EE2.out]
          go_roundw
          case rel => exact ⟨k + 1, _, _, _, _, by omega, by go_num, H13.out⟩
          case measure => simp [intOf]; omega
          
        · have u1 : (k : Int) < (m1 : Int) := by omega
          have u2 : ¬ (k : Int) < (m2 : Int) := by omega
          go_wp2_with fail
          go_roundw
          case rel => exact ⟨k + 1, _, _, _, _, by omega, by go_num, HF.out⟩
          case measure => simp [intOf]; omega
          
      · by_cases h2k : k < m2
        · have u1 : ¬ (k : Int) < (m1 : Int) := by omega
          have u2 : (k : Int) < (m2 : Int) := by omega
          obtain ⟨b2, o2, so2, cs2, ee2, hb2, x0, x1, x2, x3, hs2, hc2⟩ := HI.out.2.cells k h2k
          have wf2 := HI.out.2.wf k h2k
          have x0 := (HF.out.1.cell (p := ⟨b2, o2 + k * 4, none⟩) hb2).trans x0
          have x1 := (HF.out.1.cell (p := ⟨b2, o2 + k * 4 + 1, none⟩) hb2).trans x1
          have x2 := (HF.out.1.cell (p := ⟨b2, o2 + k * 4 + 2, none⟩) hb2).trans x2
          have x3 := (HF.out.1.cell (p := ⟨b2, o2 + k * 4 + 3, none⟩) hb2).trans x3
          have EE2 : Hid (s2 = some ⟨b2, o2, none⟩) := ee2
          have HS2 : Hid (Seen w so2 (itAt i2 k).data.length (itAt i2 k).data ∧ (so2 = none → cs2 = 0) ∧ Word (itAt i2 k).v ∧ (itAt i2 k).data.length ≤ 140737488351232) := ⟨hs2, hc2, wf2.1, wf2.2.2.2⟩
          rw [ee2]
          clear hb2 hs2 hc2 wf2
          go_wp2_with fail
          refine (wrote_any t v2 u y2 sz2 z2 e2 (itAt i2 k) so2 cs2 wr HF.out.2.tw ⟨HS2.out.1.later HF.out.1 (Nat.le_refl _), HS2.out.2.1, HS2.out.2.2.1, HS2.out.2.2.2⟩ (step_far HS2.out.1 HF.out.2.low)).mono ?_
          rintro ew w13 ⟨rfl, v2n, y2n, z2n, e2n, tw, kk, ff⟩
          have H13 : Hid (Below w.heap.size w w13 ∧ Po w w13 t v2n u y2n sz2 z2n e2n) := ⟨HF.out.2.bel HF.out.1 kk, HF.out.2.next HF.out.1 tw ff⟩
          clear tw kk ff x0 x1 x2 x3
          go_wp2_with fail
          try rw [← EE2.out]
          go_roundw
          case rel => exact ⟨k + 1, _, _, _, _, by omega, by go_num, H13.out⟩
          case measure => simp [intOf]; omega
          
        · have u1 : ¬ (k : Int) < (m1 : Int) := by omega
          have u2 : ¬ (k : Int) < (m2 : Int) := by omega
          obtain ⟨w14, hw14⟩ : ∃ W, wr = W := ⟨_, rfl⟩
          rw [hw14] at HF ⊢
          clear hw14
          go_wp2_with (first | (refine wpList_build rfl 35 _ rfl #[(0, .int .i64 8)] (by simp only [List.map_toArray, List.map_cons, List.map_nil]; rfl) _ (bEnd _) ?_) | (refine wpList_alloc_new rfl 35 rfl 4 _ stZero ?_; intro w15 b15 s15 l15) | (refine wpList_store_blk rfl 35 35 _ _ rfl _ rfl _ (stepC ⟨8, 0, 0, []⟩ none 0) rfl b15 rfl (stSize _ _ _) (stOne _ _ _) ?_; intro w16 b16 s16 k16; have L16 : Below w14.heap.size w14 w16 := below_kept l15 k16 (by omega) (fun j hj => by omega); have c0 := b16.cell 0; rw [show (stepC ⟨8, 0, 0, []⟩ none 0)[0]? = some (.int .i64 8) from rfl] at c0; have c1 := b16.cell 1; rw [show (stepC ⟨8, 0, 0, []⟩ none 0)[1]? = some (.int .i64 0) from rfl] at c1; have c2 := b16.cell 2; rw [show (stepC ⟨8, 0, 0, []⟩ none 0)[2]? = some (.int .u64 0) from rfl] at c2; have c3 := b16.cell 3; rw [show (stepC ⟨8, 0, 0, []⟩ none 0)[3]? = some (.slice none 0 0) from rfl] at c3))
          have F16 : Hid ((Below w.heap.size w w16 ∧ Po w w16 t v2 u y2 sz2 z2 e2) ∧ Blk w16 w14.heap.size 35 (stepC ⟨8, 0, 0, []⟩ none 0) ∧ w14.heap.size < w16.heap.size) := ⟨⟨below_chain HF.out.1 L16 HF.out.1.size, HF.out.2.later L16⟩, b16, b16.lt⟩
          have D16 : Hid (∀ k, Ft t v2 u y2 k → k < w14.heap.size) := fun k hk => HF.out.2.tw.lt k hk
          clear b15 s15 l15 b16 s16 k16 L16
          refine (wrote_any t v2 u y2 sz2 z2 e2 ⟨8, 0, 0, []⟩ none 0 w16 F16.out.1.2.tw (itEnd _) (fun b o h0 => by cases h0)).mono ?_
          rintro ew w17 ⟨rfl, v2n, y2n, z2n, e2n, tw, kk, ff⟩
          have Gw17 : Hid (TwW w17 t v2n u y2n sz2 z2n e2n ∧ Below w.heap.size w w17) := ⟨tw, F16.out.1.2.bel F16.out.1.1 kk⟩
          clear tw kk ff c0 c1 c2 c3
          go_wp2_with fail
          refine (wleft_any t v2n sz2 z2n e2n w17 Gw17.out.1.one).mono ?_
          rintro ew w17a ⟨rfl, aw17, rfl⟩
          go_wp2_with fail
          refine (rwleft_any u y2n sz2 z2n e2n (w17.drewN aw17) (Gw17.out.1.dn aw17).two).mono ?_
          rintro ew w17b ⟨rfl, bw17, hw17⟩
          have qq : ((sz2 : Int) - (z2n.length : Int) == (sz2 : Int) - (z2n.length : Int)) = true := by simp
          have BL : Hid (Below w.heap.size w w17b) := by rw [hw17]; exact below_dn (below_dn Gw17.out.2 _) _
          clear hw17
          go_wp2_with fail
          go_ret
          exact ⟨by simp, BL.out⟩
set_option maxRecDepth 20000 in
set_option maxHeartbeats 4000000 in
theorem ww_bb (A1 : Int) (h1 : nwE A1 ≠ 0) (A2 : Int) (h2 : nwE A2 ≠ 0) (s1 : Option Addr) (m1 j1 : Nat) (i1 : List Item) (s2 : Option Addr) (m2 j2 : Nat) (i2 : List Item) (w : World) (x1 : SeenS w s1 m1 i1) (x2 : SeenS w s2 m2 i2) :
    Calls Try.prog 4 #[.agg #[(.int .i64 A1), (.int .i64 A2), (.slice s1 m1 j1), (.slice s2 m2 j2)]] w fun e w' => e = .returned (.bool true) ∧ Below w.heap.size w w' := by
  have HI : Hid (SeenS w s1 m1 i1 ∧ SeenS w s2 m2 i2) := ⟨x1, x2⟩
  have M1 := x1.top
  have M2 := x2.top
  obtain ⟨E1, hE1⟩ : ∃ E, nwE A1 = E := ⟨_, rfl⟩
  have HE1 : Hid (nwE A1 = E1) := hE1
  have q1 : (E1 != E1) = false := by simp
  clear hE1
  obtain ⟨E2, hE2⟩ : ∃ E, nwE A2 = E := ⟨_, rfl⟩
  have HE2 : Hid (nwE A2 = E2) := hE2
  have q2 : (E2 != E2) = false := by simp
  clear hE2
  clear x1 x2
  go_enter Try.func4, Try.ntmps4
  go_wp2_with (first | (refine wpList_box_new rfl 41 _ rfl [(.int .i64 A1), (.int .i64 A2), (.slice s1 m1 j1), (.slice s2 m2 j2)] rfl ?_; intro w1 b1 s1' l1))
  have H1 : Hid (Blk w1 w.heap.size 41 [(.int .i64 A1), (.int .i64 A2), (.slice s1 m1 j1), (.slice s2 m2 j2)] ∧ Below w.heap.size w w1) := ⟨b1, l1⟩
  clear b1 s1' l1
  refine region_inv [.val (.pointer (some ⟨w.heap.size, 0, none⟩)), .val (.int .i64 A1), .val (.pointer (some ⟨w.heap.size, 1, none⟩)), .val (.int .i64 A2), .val (.pointer (some ⟨w.heap.size, 2, none⟩)), .val (.slice s1 m1 j1), .val (.pointer (some ⟨w.heap.size, 3, none⟩)), .val (.slice s2 m2 j2), .val (.int .i64 A1), .val (.int .i64 A2), .val (.slice s1 m1 j1)] (by kernel_rfl) (by kernel_rfl) (by kernel_rfl) ?_ ?_
  · refine Steps'.cons ?_ (Steps'.cons ?_ (Steps'.cons ?_ (Steps'.cons ?_ (Steps'.cons ?_ (Steps'.cons ?_ (Steps'.cons ?_ (Steps'.cons ?_ (Steps'.cons ?_ (Steps'.cons ?_ (Steps'.cons ?_ (Steps'.one _ _ _ _ _ _ _)))))))))))
    · intro ax wx hb hs hd
      have h1 : ax.tmps.getD 1 undef = (.pointer (some ⟨w.heap.size, 0, none⟩)) := hs 1 (by kernel_rfl)
      refine Does.value (.pointer (some ⟨w.heap.size, 0, none⟩)) ?_ rfl
      clear hs hd
      go_simp
    · intro ax wx hb hs hd
      have h17 : ax.tmps.getD 17 undef = (.pointer (some ⟨w.heap.size, 0, none⟩)) := hd 0 17 rfl (by kernel_rfl) (by decide)
      have cx : wx.cell? ⟨w.heap.size, 0, none⟩ = some (.int .i64 A1) := (H1.out.1.later hb H1.out.1.lt).cell 0
      refine Does.value (.int .i64 A1) ?_ rfl
      clear hs hd
      go_simp
    · intro ax wx hb hs hd
      have h1 : ax.tmps.getD 1 undef = (.pointer (some ⟨w.heap.size, 0, none⟩)) := hs 1 (by kernel_rfl)
      refine Does.value (.pointer (some ⟨w.heap.size, 1, none⟩)) ?_ rfl
      clear hs hd
      go_simp
    · intro ax wx hb hs hd
      have h19 : ax.tmps.getD 19 undef = (.pointer (some ⟨w.heap.size, 1, none⟩)) := hd 2 19 rfl (by kernel_rfl) (by decide)
      have cx : wx.cell? ⟨w.heap.size, 1, none⟩ = some (.int .i64 A2) := (H1.out.1.later hb H1.out.1.lt).cell 1
      refine Does.value (.int .i64 A2) ?_ rfl
      clear hs hd
      go_simp
    · intro ax wx hb hs hd
      have h1 : ax.tmps.getD 1 undef = (.pointer (some ⟨w.heap.size, 0, none⟩)) := hs 1 (by kernel_rfl)
      refine Does.value (.pointer (some ⟨w.heap.size, 2, none⟩)) ?_ rfl
      clear hs hd
      go_simp
    · intro ax wx hb hs hd
      have h21 : ax.tmps.getD 21 undef = (.pointer (some ⟨w.heap.size, 2, none⟩)) := hd 4 21 rfl (by kernel_rfl) (by decide)
      have cx : wx.cell? ⟨w.heap.size, 2, none⟩ = some (.slice s1 m1 j1) := (H1.out.1.later hb H1.out.1.lt).cell 2
      refine Does.value (.slice s1 m1 j1) ?_ rfl
      clear hs hd
      go_simp
    · intro ax wx hb hs hd
      have h1 : ax.tmps.getD 1 undef = (.pointer (some ⟨w.heap.size, 0, none⟩)) := hs 1 (by kernel_rfl)
      refine Does.value (.pointer (some ⟨w.heap.size, 3, none⟩)) ?_ rfl
      clear hs hd
      go_simp
    · intro ax wx hb hs hd
      have h23 : ax.tmps.getD 23 undef = (.pointer (some ⟨w.heap.size, 3, none⟩)) := hd 6 23 rfl (by kernel_rfl) (by decide)
      have cx : wx.cell? ⟨w.heap.size, 3, none⟩ = some (.slice s2 m2 j2) := (H1.out.1.later hb H1.out.1.lt).cell 3
      refine Does.value (.slice s2 m2 j2) ?_ rfl
      clear hs hd
      go_simp
    · intro ax wx hb hs hd
      have h18 : ax.tmps.getD 18 undef = (.int .i64 A1) := hd 1 18 rfl (by kernel_rfl) (by decide)
      refine Does.value (.int .i64 A1) ?_ rfl
      clear hs hd
      go_simp
    · intro ax wx hb hs hd
      have h20 : ax.tmps.getD 20 undef = (.int .i64 A2) := hd 3 20 rfl (by kernel_rfl) (by decide)
      refine Does.value (.int .i64 A2) ?_ rfl
      clear hs hd
      go_simp
    · intro ax wx hb hs hd
      have h22 : ax.tmps.getD 22 undef = (.slice s1 m1 j1) := hd 5 22 rfl (by kernel_rfl) (by decide)
      refine Does.value (.slice s1 m1 j1) ?_ rfl
      clear hs hd
      go_simp
  · intro wx hb
    refine @Ends.val _ _ _ _ _ _ _ _ _ (.pointer (some ⟨w.heap.size, 0, none⟩)) rfl ?_
    refine @Ends.val _ _ _ _ _ _ _ _ _ (.int .i64 A1) rfl ?_
    refine @Ends.val _ _ _ _ _ _ _ _ _ (.pointer (some ⟨w.heap.size, 1, none⟩)) rfl ?_
    refine @Ends.val _ _ _ _ _ _ _ _ _ (.int .i64 A2) rfl ?_
    refine @Ends.val _ _ _ _ _ _ _ _ _ (.pointer (some ⟨w.heap.size, 2, none⟩)) rfl ?_
    refine @Ends.val _ _ _ _ _ _ _ _ _ (.slice s1 m1 j1) rfl ?_
    refine @Ends.val _ _ _ _ _ _ _ _ _ (.pointer (some ⟨w.heap.size, 3, none⟩)) rfl ?_
    refine @Ends.val _ _ _ _ _ _ _ _ _ (.slice s2 m2 j2) rfl ?_
    refine @Ends.val _ _ _ _ _ _ _ _ _ (.int .i64 A1) rfl ?_
    refine @Ends.val _ _ _ _ _ _ _ _ _ (.int .i64 A2) rfl ?_
    refine @Ends.val _ _ _ _ _ _ _ _ _ (.slice s1 m1 j1) rfl ?_
    refine @Ends.one _ _ _ _ _ _ _ ?_
    simp only [Act.put, List.setIfInBounds_toArray, List.set_cons_zero, List.set_cons_succ]
    have B2 : Hid (Below w.heap.size w wx) := below_chain H1.out.2 hb H1.out.2.size
    clear hb
    refine last_assign (.tmp 24) rfl (some 6) rfl (.slice s2 m2 j2) rfl ?_
    simp only [Act.put, List.setIfInBounds_toArray, List.set_cons_zero, List.set_cons_succ]
    go_wp2_with fail
    refine (newWriter_bad A1 h1 wx).mono ?_
    rintro e w2 ⟨rfl, rfl⟩
    rw [HE1.out]
    go_wp2_with fail
    refine (rwnew_bad A1 h1 wx).mono ?_
    rintro e w3 ⟨rfl, rfl⟩
    rw [HE1.out]
    obtain ⟨w3, hw3⟩ : ∃ W, wx = W := ⟨_, rfl⟩
    rw [hw3] at B2 ⊢
    have P3 : Hid (True ∧ Below w.heap.size w w3) := ⟨trivial, B2.out⟩
    clear hw3
    go_wp2_with fail
    refine (newWriter_bad A2 h2 w3).mono ?_
    rintro e w4 ⟨rfl, rfl⟩
    rw [HE2.out]
    go_wp2_with fail
    refine (rwnew_bad A2 h2 w3).mono ?_
    rintro e w5 ⟨rfl, rfl⟩
    rw [HE2.out]
    obtain ⟨w5, hw5⟩ : ∃ W, w3 = W := ⟨_, rfl⟩
    rw [hw5] at P3 ⊢
    have P5 : Hid (True ∧ Below w.heap.size w w5) := P3.out
    clear hw5
    go_wp2_with fail
    go_loopw [15] (fun i wr => ∃ (k : Nat), (k ≤ m1 ∨ k ≤ m2) ∧ i = .int .i64 k ∧ Below w.heap.size w wr) (fun i _ => (m1 + m2) - (intOf i).toNat)
    case atStart => exact ⟨0, .inl (Nat.zero_le _), rfl, P5.out.2⟩
    case round =>
      obtain ⟨k, hk, rfl, hrr⟩ := hrel
      have HF : Hid (Below w.heap.size w wr) := hrr
      clear hrr P5
      have j0 : (0 : Int) ≤ (k : Int) := by omega
      by_cases h1k : k < m1
      · by_cases h2k : k < m2
        · have u1 : (k : Int) < (m1 : Int) := by omega
          have u2 : (k : Int) < (m2 : Int) := by omega
          go_wp2_with fail
          go_roundw
          case rel => exact ⟨k + 1, by omega, by go_num, HF.out⟩
          case measure => simp [intOf]; omega
          
        · have u1 : (k : Int) < (m1 : Int) := by omega
          have u2 : ¬ (k : Int) < (m2 : Int) := by omega
          go_wp2_with fail
          go_roundw
          case rel => exact ⟨k + 1, by omega, by go_num, HF.out⟩
          case measure => simp [intOf]; omega
          
      · by_cases h2k : k < m2
        · have u1 : ¬ (k : Int) < (m1 : Int) := by omega
          have u2 : (k : Int) < (m2 : Int) := by omega
          go_wp2_with fail
          go_roundw
          case rel => exact ⟨k + 1, by omega, by go_num, HF.out⟩
          case measure => simp [intOf]; omega
          
        · have u1 : ¬ (k : Int) < (m1 : Int) := by omega
          have u2 : ¬ (k : Int) < (m2 : Int) := by omega
          obtain ⟨w14, hw14⟩ : ∃ W, wr = W := ⟨_, rfl⟩
          rw [hw14] at HF ⊢
          clear hw14
          go_wp2_with (first | (refine wpList_build rfl 35 _ rfl #[(0, .int .i64 8)] (by simp only [List.map_toArray, List.map_cons, List.map_nil]; rfl) _ (bEnd _) ?_) | (refine wpList_alloc_new rfl 35 rfl 4 _ stZero ?_; intro w15 b15 s15 l15) | (refine wpList_store_blk rfl 35 35 _ _ rfl _ rfl _ (stepC ⟨8, 0, 0, []⟩ none 0) rfl b15 rfl (stSize _ _ _) (stOne _ _ _) ?_; intro w16 b16 s16 k16; have L16 : Below w14.heap.size w14 w16 := below_kept l15 k16 (by omega) (fun j hj => by omega); have c0 := b16.cell 0; rw [show (stepC ⟨8, 0, 0, []⟩ none 0)[0]? = some (.int .i64 8) from rfl] at c0; have c1 := b16.cell 1; rw [show (stepC ⟨8, 0, 0, []⟩ none 0)[1]? = some (.int .i64 0) from rfl] at c1; have c2 := b16.cell 2; rw [show (stepC ⟨8, 0, 0, []⟩ none 0)[2]? = some (.int .u64 0) from rfl] at c2; have c3 := b16.cell 3; rw [show (stepC ⟨8, 0, 0, []⟩ none 0)[3]? = some (.slice none 0 0) from rfl] at c3))
          go_ret
          exact ⟨rfl, below_chain HF.out L16 HF.out.size⟩
theorem octetWrites.walk (A1 A2 : Int) (s1 : Option Addr) (m1 j1 : Nat) (i1 : List Item) (s2 : Option Addr) (m2 j2 : Nat) (i2 : List Item) (w : World) (x1 : SeenS w s1 m1 i1) (x2 : SeenS w s2 m2 i2) :
    Calls Try.prog 4 #[.agg #[.int .i64 A1, .int .i64 A2, .slice s1 m1 j1, .slice s2 m2 j2]] w fun e w' => e = .returned (.bool true) ∧ Below w.heap.size w w' := by
  have good : ∀ A : Int, nwE A = 0 → ∃ n : Nat, A = n ∧ n ≤ 1048576 := fun A h => by
    unfold nwE at h
    split at h
    · cases h
    · split at h
      · cases h
      · exact ⟨A.toNat, by omega, by omega⟩
  by_cases h1 : nwE A1 = 0
  · obtain ⟨sz1, rfl, g1⟩ := good A1 h1
    by_cases h2 : nwE A2 = 0
    · obtain ⟨sz2, rfl, g2⟩ := good A2 h2
      exact ww_gg sz1 g1 sz2 g2 s1 m1 j1 i1 s2 m2 j2 i2 w x1 x2
    · exact ww_gb sz1 g1 A2 h2 s1 m1 j1 i1 s2 m2 j2 i2 w x1 x2
  · by_cases h2 : nwE A2 = 0
    · obtain ⟨sz2, rfl, g2⟩ := good A2 h2
      exact ww_bg A1 h1 sz2 g2 s1 m1 j1 i1 s2 m2 j2 i2 w x1 x2
    · exact ww_bb A1 h1 A2 h2 s1 m1 j1 i1 s2 m2 j2 i2 w x1 x2
end Go.Proofs.Ytgcpckkhkppnhaa
