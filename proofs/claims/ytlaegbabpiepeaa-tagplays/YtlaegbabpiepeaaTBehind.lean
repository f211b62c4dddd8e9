/- Layer tag: a poly in a block; behind. -/
import Derived.Test.YtlaegbabpiepeaaTPair
namespace Go.Proofs.Ytlaegbabpiepeaa
open Go.RowKit
set_option linter.unusedVariables false
set_option linter.unusedSimpArgs false

def pCells (r0 r1 s a : Int) (op : List Int) (f : Nat) : List Value := u64s [r0, r1] ++ (u64s (pr s) ++ (u64s (nm a) ++ (u8s op ++ [Value.int .i64 (f : Int)])))
theorem pCells_length (r0 r1 s a : Int) (op : List Int) (f : Nat) (h : op.length = 16) : (pCells r0 r1 s a op f).length = 24 := by simp [pCells, u64s, u8s, pr, nm, h]
theorem pCells_one (r0 r1 s a : Int) (op : List Int) (f : Nat) : ∀ v ∈ pCells r0 r1 s a op f, v.oneCell' = true := by
  intro v hv
  simp only [pCells, List.mem_append, List.mem_singleton] at hv
  rcases hv with h | h | h | h | rfl
  · exact u64s_one _ v h
  · exact u64s_one _ v h
  · exact u64s_one _ v h
  · exact u8s_one _ v h
  · rfl
/-- A poly in block g: r in two words, s, a, the open chunk, how many bytes wait in it. -/
structure PolyAt (w : World) (g : Nat) (r0 r1 s a : Int) (op : List Int) (f : Nat) : Prop where
  blk : Blk w g 60 (pCells r0 r1 s a op f)
  hr0 : 0 ≤ r0 ∧ r0 < 1152921504606846976
  hr1 : 0 ≤ r1 ∧ r1 < 1152921504606846976
  hs : 0 ≤ s ∧ s < 340282366920938463463374607431768211456
  ha : 0 ≤ a ∧ a < 1701411834604692317316873037158841057280
  ol : op.length = 16
  ob : Bytes op
  hf : f ≤ 16
theorem PolyAt.lt {w : World} {g : Nat} {r0 r1 s a : Int} {op : List Int} {f : Nat} (h : PolyAt w g r0 r1 s a op f) : g < w.heap.size := h.blk.lt
theorem PolyAt.later {w w' : World} {g : Nat} {r0 r1 s a : Int} {op : List Int} {f : Nat} (h : PolyAt w g r0 r1 s a op f) {B : Nat} (hb : Below B w w') (hB : g < B) : PolyAt w' g r0 r1 s a op f := ⟨h.blk.later hb hB, h.hr0, h.hr1, h.hs, h.ha, h.ol, h.ob, h.hf⟩
theorem PolyAt.kept {S : Nat → Prop} {w w' : World} {g : Nat} {r0 r1 s a : Int} {op : List Int} {f : Nat} (h : PolyAt w g r0 r1 s a op f) (hk : Kept S w w') (hS : ¬ S g) : PolyAt w' g r0 r1 s a op f := ⟨h.blk.kept hk hS, h.hr0, h.hr1, h.hs, h.ha, h.ol, h.ob, h.hf⟩
theorem PolyAt.drewN {w : World} {g : Nat} {r0 r1 s a : Int} {op : List Int} {f : Nat} (h : PolyAt w g r0 r1 s a op f) (n : Nat) : PolyAt (w.drewN n) g r0 r1 s a op f := ⟨h.blk.drewN n, h.hr0, h.hr1, h.hs, h.ha, h.ol, h.ob, h.hf⟩
theorem blk_r {w : World} {g : Nat} {r0 r1 s a : Int} {op : List Int} {f : Nat} (h : Blk w g 60 (pCells r0 r1 s a op f)) : w.rangeAt g 0 (u64s [r0, r1]) := Blk.range (xs := []) (ys := u64s [r0, r1]) h
theorem blk_s {w : World} {g : Nat} {r0 r1 s a : Int} {op : List Int} {f : Nat} (h : Blk w g 60 (pCells r0 r1 s a op f)) : w.rangeAt g 2 (u64s (pr s)) := Blk.range (xs := u64s [r0, r1]) (ys := u64s (pr s)) h
theorem blk_a {w : World} {g : Nat} {r0 r1 s a : Int} {op : List Int} {f : Nat} (h : Blk w g 60 (pCells r0 r1 s a op f)) : w.rangeAt g 4 (u64s (nm a)) := Blk.range (xs := u64s [r0, r1] ++ u64s (pr s)) (ys := u64s (nm a)) (zs := u8s op ++ [Value.int .i64 (f : Int)]) (by rw [List.append_assoc]; exact h)
theorem blk_open {w : World} {g : Nat} {r0 r1 s a : Int} {op : List Int} {f : Nat} (h : Blk w g 60 (pCells r0 r1 s a op f)) : w.rangeAt g 7 (u8s op) := Blk.range (xs := u64s [r0, r1] ++ (u64s (pr s) ++ u64s (nm a))) (ys := u8s op) (zs := [Value.int .i64 (f : Int)]) (by rw [List.append_assoc, List.append_assoc]; exact h)
theorem blk_filled {w : World} {g : Nat} {r0 r1 s a : Int} {op : List Int} {f : Nat} (h : Blk w g 60 (pCells r0 r1 s a op f)) (hl : op.length = 16) : w.cell? ⟨g, 23, none⟩ = some (.int .i64 f) := by
  have := Blk.range (xs := u64s [r0, r1] ++ (u64s (pr s) ++ (u64s (nm a) ++ u8s op))) (ys := [Value.int .i64 (f : Int)]) (zs := []) (by rw [List.append_assoc, List.append_assoc, List.append_assoc, List.append_nil]; exact h)
  have e : (u64s [r0, r1] ++ (u64s (pr s) ++ (u64s (nm a) ++ u8s op))).length = 23 := by simp [u64s, u8s, pr, nm, hl]
  rw [e] at this
  exact this 0 _ rfl
theorem nm_top (c t : Int) (hc : 0 ≤ c ∧ c < 340282366920938463463374607431768211456) : nm (c + t * 340282366920938463463374607431768211456) = [c % 18446744073709551616, c / 18446744073709551616, t] := by
  unfold nm
  refine List.cons_eq_cons.2 ⟨by omega, List.cons_eq_cons.2 ⟨by omega, List.cons_eq_cons.2 ⟨by omega, rfl⟩⟩⟩
set_option maxRecDepth 20000 in
set_option maxHeartbeats 2000000 in
theorem behind_any (g : Nat) (r0 r1 s a : Int) (op : List Int) (f : Nat) (cs : List Int) (top : Int) (hl : cs.length = 16) (hb : Bytes cs) (ht : 0 ≤ top ∧ top ≤ 1) (w : World) (hp : PolyAt w g r0 r1 s a op f) :
    Calls Try.prog 17 #[.pointer (some ⟨g, 0, none⟩), .agg (u8s cs).toArray, .int .u64 top] w fun e w' => e = .returned (.agg (u64s (nm (step5 (r0 + 18446744073709551616 * r1) a (le cs + top * 340282366920938463463374607431768211456)))).toArray) ∧ Below w.heap.size w w' := by
  have hc := le16_bd cs hb (by omega)
  obtain ⟨C, hC⟩ : ∃ z, le cs = z := ⟨_, rfl⟩
  have PO : Hid (∀ w, Calls Try.prog 27 #[.agg (u8s cs).toArray] w fun e w' => e = .returned (.agg (u64s [C % 18446744073709551616, C / 18446744073709551616]).toArray) ∧ Below w.heap.size w w') := by
    have := pairOf_any cs hl hb
    rw [hC] at this
    exact this
  rw [hC] at hc ⊢
  have hR : 0 ≤ r0 + 18446744073709551616 * r1 ∧ r0 + 18446744073709551616 * r1 < 21267647932558653966460912964485513216 := by have := hp.hr0; have := hp.hr1; omega
  obtain ⟨R, hRR⟩ : ∃ z, r0 + 18446744073709551616 * r1 = z := ⟨_, rfl⟩
  have hA := hp.ha
  have hpd := prod_bd (a + (C + top * 340282366920938463463374607431768211456)) R ⟨by omega, by omega⟩ (by rw [← hRR]; exact hR)
  have CC : Hid ((∀ w, Calls Try.prog 30 #[.agg (u64s (nm a)).toArray, .agg (u64s [C % 18446744073709551616, C / 18446744073709551616, top]).toArray] w fun e w' => e = .returned (.agg (u64s (nm (a + (C + top * 340282366920938463463374607431768211456)))).toArray) ∧ Below w.heap.size w w') ∧ (∀ w, Calls Try.prog 31 #[.agg (u64s (nm (a + (C + top * 340282366920938463463374607431768211456)))).toArray, .agg (u64s [r0, r1]).toArray] w fun e w' => e = .returned (.agg (u64s (q4 ((a + (C + top * 340282366920938463463374607431768211456)) * R))).toArray) ∧ Below w.heap.size w w') ∧ (∀ w, Calls Try.prog 29 #[.agg (u64s (q4 ((a + (C + top * 340282366920938463463374607431768211456)) * R))).toArray] w fun e w' => e = .returned (.agg (u64s (nm (step5 R a (C + top * 340282366920938463463374607431768211456)))).toArray) ∧ Below w.heap.size w w')) := by
    refine ⟨?_, ?_, ?_⟩
    · rw [← nm_top C top hc]
      exact nplus_any _ _ hA.1 (by omega) (by omega)
    · rw [← hRR]
      exact times_any _ _ _ ⟨by omega, by omega⟩ hp.hr0 hp.hr1
    · exact folded_any _ hpd
  rw [hRR]
  have HP : Hid (Blk w g 60 (pCells r0 r1 s a op f) ∧ cs.length = 16) := ⟨hp.blk, hl⟩
  obtain ⟨S1, e1⟩ : ∃ z, nm a = z := ⟨_, rfl⟩
  obtain ⟨S2, e2⟩ : ∃ z, nm (a + (C + top * 340282366920938463463374607431768211456)) = z := ⟨_, rfl⟩
  obtain ⟨S3, e3⟩ : ∃ z, q4 ((a + (C + top * 340282366920938463463374607431768211456)) * R) = z := ⟨_, rfl⟩
  obtain ⟨S4, e4⟩ : ∃ z, nm (step5 R a (C + top * 340282366920938463463374607431768211456)) = z := ⟨_, rfl⟩
  have HL : Hid (nm a = S1 ∧ S1.length = 3 ∧ S4.length = 3) := ⟨e1, by rw [← e1]; rfl, by rw [← e4]; rfl⟩
  rw [e1, e2, e3, e4] at CC
  rw [e4]
  clear hl hb ht hp hc hR hA hpd hC hRR e1 e2 e3 e4
  go_enter Try.func17, Try.ntmps17
  go_wp2_with (first | (refine wpList_box_new rfl 45 _ rfl (u8s cs) rfl ?_; intro w1 b1 s1 l1) | (refine wpList_alloc_new rfl 55 rfl 3 _ zeroNumber ?_; intro w2 b2 s2 l2) | (refine wpList_load_blk rfl 45 _ rfl _ rfl (u8s cs) _ (b1.later l2 (by omega)) Try.underlying45 rfl (by rw [u8s_length, HP.out.2]; exact size16) ?_) | (go_at_call 27; refine (PO.out _).mono ?_; rintro e w3 ⟨rfl, l3⟩) | (refine wpList_alloc_new rfl 58 rfl 2 _ zeroPair ?_; intro w4 b4 s4 l4) | (refine wpList_store_blk rfl 58 58 _ _ rfl _ rfl _ (u64s [C % 18446744073709551616, C / 18446744073709551616]) rfl b4 rfl sizePair (u64s_one _) ?_; intro w5 b5 s5 k5))
  try simp only [Act.put, List.setIfInBounds_toArray, List.set_cons_zero, List.set_cons_succ]
  obtain ⟨G, hG⟩ : ∃ G, w3.heap.size = G := ⟨_, rfl⟩
  rw [hG] at b5 k5 ⊢
  have HB : Hid (Blk w5 g 60 (pCells r0 r1 s a op f) ∧ Blk w5 G 58 (u64s [C % 18446744073709551616, C / 18446744073709551616]) ∧ Blk w5 (w.heap.size + 1) 55 (u64s [0, 0, 0]) ∧ Below w.heap.size w w5) := by
    have q := l3.size
    have gl := HP.out.1.lt
    rw [s1] at b2
    exact ⟨((((HP.out.1.later l1 (by omega)).later l2 (by omega)).later l3 (by omega)).later l4 (by omega)).kept k5 (by omega), b5, ((b2.later l3 (by omega)).later l4 (by omega)).kept k5 (by omega), below_kept (below_chain (below_chain (below_chain l1 l2 (by omega)) l3 (by omega)) l4 (by omega)) k5 (by omega) (fun j hj => by omega)⟩
  clear b1 s1 l1 b2 s2 l2 l3 b4 s4 l4 b5 s5 k5 hG
  refine region_inv [.val (.pointer (some ⟨g, 0, none⟩)), .val (.pointer (some ⟨g, 0, none⟩)), .val (.pointer (some ⟨g, 4, none⟩)), .val (.agg (u64s S1).toArray), .val (.pointer (some ⟨G, 0, none⟩)), .val (.int .u64 (C % 18446744073709551616)), .val (.pointer (some ⟨G, 1, none⟩)), .val (.int .u64 (C / 18446744073709551616)), .val (.int .u64 top), .val (.agg (u64s [C % 18446744073709551616, C / 18446744073709551616, top]).toArray), .val (.agg (u64s S2).toArray), .val (.pointer (some ⟨g, 0, none⟩)), .val (.pointer (some ⟨g, 0, none⟩)), .val (.pointer (some ⟨g, 0, none⟩)), .val (.agg (u64s [r0, r1]).toArray), .val (.agg (u64s S3).toArray), .val (.agg (u64s S4).toArray)] (by kernel_rfl) (by kernel_rfl) (by kernel_rfl) ?_ ?_
  · refine Steps'.cons ?_ (Steps'.cons ?_ (Steps'.cons ?_ (Steps'.cons ?_ (Steps'.cons ?_ (Steps'.cons ?_ (Steps'.cons ?_ (Steps'.cons ?_ (Steps'.cons ?_ (Steps'.cons ?_ (Steps'.cons ?_ (Steps'.cons ?_ (Steps'.cons ?_ (Steps'.cons ?_ (Steps'.cons ?_ (Steps'.cons ?_ (Steps'.cons ?_ (Steps'.one _ _ _ _ _ _ _)))))))))))))))))
    · intro ax wx hb hs hd
      have h0 : ax.tmps.getD 0 undef = (.pointer (some ⟨g, 0, none⟩)) := hs 0 (by kernel_rfl)
      refine Does.value (.pointer (some ⟨g, 0, none⟩)) ?_ rfl
      go_simp
    · intro ax wx hb hs hd
      have h10 : ax.tmps.getD 10 undef = (.pointer (some ⟨g, 0, none⟩)) := hd 0 10 rfl (by kernel_rfl) (by decide)
      refine Does.value (.pointer (some ⟨g, 0, none⟩)) ?_ rfl
      go_simp
    · intro ax wx hb hs hd
      have h11 : ax.tmps.getD 11 undef = (.pointer (some ⟨g, 0, none⟩)) := hd 1 11 rfl (by kernel_rfl) (by decide)
      refine Does.value _ ?_ rfl
      go_simp
    · intro ax wx hb hs hd
      have h12 : ax.tmps.getD 12 undef = (.pointer (some ⟨g, 4, none⟩)) := hd 2 12 rfl (by kernel_rfl) (by decide)
      exact Does.load 55 (.tmp 12) rfl g 4 h12 (u64s S1) _ (by have q := blk_a (Blk.later HB.out.1 hb (Blk.lt HB.out.1)); rwa [HL.out.1] at q) Try.underlying55 rfl (by rw [u64s_length, HL.out.2.1]; exact sizeNumber)
    · intro ax wx hb hs hd
      have h7 : ax.tmps.getD 7 undef = (.pointer (some ⟨G, 0, none⟩)) := hs 7 (by kernel_rfl)
      refine Does.value (.pointer (some ⟨G, 0, none⟩)) ?_ rfl
      go_simp
    · intro ax wx hb hs hd
      have h14 : ax.tmps.getD 14 undef = (.pointer (some ⟨G, 0, none⟩)) := hd 4 14 rfl (by kernel_rfl) (by decide)
      have cx : wx.cell? ⟨G, 0, none⟩ = some (.int .u64 (C % 18446744073709551616)) := (Blk.later HB.out.2.1 hb (Blk.lt HB.out.2.1)).cell 0
      refine Does.value (.int .u64 (C % 18446744073709551616)) ?_ rfl
      go_simp
    · intro ax wx hb hs hd
      have h7 : ax.tmps.getD 7 undef = (.pointer (some ⟨G, 0, none⟩)) := hs 7 (by kernel_rfl)
      refine Does.value (.pointer (some ⟨G, 1, none⟩)) ?_ rfl
      go_simp
    · intro ax wx hb hs hd
      have h16 : ax.tmps.getD 16 undef = (.pointer (some ⟨G, 1, none⟩)) := hd 6 16 rfl (by kernel_rfl) (by decide)
      have cx : wx.cell? ⟨G, 1, none⟩ = some (.int .u64 (C / 18446744073709551616)) := (Blk.later HB.out.2.1 hb (Blk.lt HB.out.2.1)).cell 1
      refine Does.value (.int .u64 (C / 18446744073709551616)) ?_ rfl
      go_simp
    · intro ax wx hb hs hd
      have h2 : ax.tmps.getD 2 undef = (.int .u64 top) := hs 2 (by kernel_rfl)
      refine Does.value (.int .u64 top) ?_ rfl
      go_simp
    · intro ax wx hb hs hd
      have h15 : ax.tmps.getD 15 undef = (.int .u64 (C % 18446744073709551616)) := hd 5 15 rfl (by kernel_rfl) (by decide)
      have h17 : ax.tmps.getD 17 undef = (.int .u64 (C / 18446744073709551616)) := hd 7 17 rfl (by kernel_rfl) (by decide)
      have h18 : ax.tmps.getD 18 undef = (.int .u64 top) := hd 8 18 rfl (by kernel_rfl) (by decide)
      exact Does.build 55 _ rfl #[(0, .int .u64 (C % 18446744073709551616)), (1, .int .u64 (C / 18446744073709551616)), (2, .int .u64 top)] (by simp only [List.map_toArray, List.map_cons, List.map_nil, Act.eval, h15, h17, h18]) _ (build_three _ _ _ _)
    · intro ax wx hb hs hd
      have h13 : ax.tmps.getD 13 undef = (.agg (u64s S1).toArray) := hd 3 13 rfl (by kernel_rfl) (by decide)
      have h19 : ax.tmps.getD 19 undef = (.agg (u64s [C % 18446744073709551616, C / 18446744073709551616, top]).toArray) := hd 9 19 rfl (by kernel_rfl) (by decide)
      refine Does.call 30 #[(.agg (u64s S1).toArray), (.agg (u64s [C % 18446744073709551616, C / 18446744073709551616, top]).toArray)] (by go_simp) ?_
      refine (CC.out.1 _).mono ?_
      rintro z w' ⟨rfl, l⟩
      exact ⟨_, rfl, rfl, l⟩
    · intro ax wx hb hs hd
      have h0 : ax.tmps.getD 0 undef = (.pointer (some ⟨g, 0, none⟩)) := hs 0 (by kernel_rfl)
      refine Does.value (.pointer (some ⟨g, 0, none⟩)) ?_ rfl
      go_simp
    · intro ax wx hb hs hd
      have h21 : ax.tmps.getD 21 undef = (.pointer (some ⟨g, 0, none⟩)) := hd 11 21 rfl (by kernel_rfl) (by decide)
      refine Does.value (.pointer (some ⟨g, 0, none⟩)) ?_ rfl
      go_simp
    · intro ax wx hb hs hd
      have h22 : ax.tmps.getD 22 undef = (.pointer (some ⟨g, 0, none⟩)) := hd 12 22 rfl (by kernel_rfl) (by decide)
      refine Does.value _ ?_ rfl
      go_simp
    · intro ax wx hb hs hd
      have h23 : ax.tmps.getD 23 undef = (.pointer (some ⟨g, 0, none⟩)) := hd 13 23 rfl (by kernel_rfl) (by decide)
      exact Does.load 58 (.tmp 23) rfl g 0 h23 (u64s [r0, r1]) _ (blk_r (Blk.later HB.out.1 hb (Blk.lt HB.out.1))) Try.underlying58 rfl sizePair
    · intro ax wx hb hs hd
      have h20 : ax.tmps.getD 20 undef = (.agg (u64s S2).toArray) := hd 10 20 rfl (by kernel_rfl) (by decide)
      have h24 : ax.tmps.getD 24 undef = (.agg (u64s [r0, r1]).toArray) := hd 14 24 rfl (by kernel_rfl) (by decide)
      refine Does.call 31 #[(.agg (u64s S2).toArray), (.agg (u64s [r0, r1]).toArray)] (by go_simp) ?_
      refine (CC.out.2.1 _).mono ?_
      rintro z w' ⟨rfl, l⟩
      exact ⟨_, rfl, rfl, l⟩
    · intro ax wx hb hs hd
      have h25 : ax.tmps.getD 25 undef = (.agg (u64s S3).toArray) := hd 15 25 rfl (by kernel_rfl) (by decide)
      refine Does.call 29 #[(.agg (u64s S3).toArray)] (by go_simp) ?_
      refine (CC.out.2.2 _).mono ?_
      rintro z w' ⟨rfl, l⟩
      exact ⟨_, rfl, rfl, l⟩
  · intro wx hb
    refine @Ends.val _ _ _ _ _ _ _ _ _ (.pointer (some ⟨g, 0, none⟩)) rfl ?_
    refine @Ends.val _ _ _ _ _ _ _ _ _ (.pointer (some ⟨g, 0, none⟩)) rfl ?_
    refine @Ends.val _ _ _ _ _ _ _ _ _ (.pointer (some ⟨g, 4, none⟩)) rfl ?_
    refine @Ends.val _ _ _ _ _ _ _ _ _ (.agg (u64s S1).toArray) rfl ?_
    refine @Ends.val _ _ _ _ _ _ _ _ _ (.pointer (some ⟨G, 0, none⟩)) rfl ?_
    refine @Ends.val _ _ _ _ _ _ _ _ _ (.int .u64 (C % 18446744073709551616)) rfl ?_
    refine @Ends.val _ _ _ _ _ _ _ _ _ (.pointer (some ⟨G, 1, none⟩)) rfl ?_
    refine @Ends.val _ _ _ _ _ _ _ _ _ (.int .u64 (C / 18446744073709551616)) rfl ?_
    refine @Ends.val _ _ _ _ _ _ _ _ _ (.int .u64 top) rfl ?_
    refine @Ends.val _ _ _ _ _ _ _ _ _ (.agg (u64s [C % 18446744073709551616, C / 18446744073709551616, top]).toArray) rfl ?_
    refine @Ends.val _ _ _ _ _ _ _ _ _ (.agg (u64s S2).toArray) rfl ?_
    refine @Ends.val _ _ _ _ _ _ _ _ _ (.pointer (some ⟨g, 0, none⟩)) rfl ?_
    refine @Ends.val _ _ _ _ _ _ _ _ _ (.pointer (some ⟨g, 0, none⟩)) rfl ?_
    refine @Ends.val _ _ _ _ _ _ _ _ _ (.pointer (some ⟨g, 0, none⟩)) rfl ?_
    refine @Ends.val _ _ _ _ _ _ _ _ _ (.agg (u64s [r0, r1]).toArray) rfl ?_
    refine @Ends.val _ _ _ _ _ _ _ _ _ (.agg (u64s S3).toArray) rfl ?_
    refine @Ends.val _ _ _ _ _ _ _ _ _ (.agg (u64s S4).toArray) rfl ?_
    refine @Ends.one _ _ _ _ _ _ _ ?_
    simp only [Act.put, List.setIfInBounds_toArray, List.set_cons_zero, List.set_cons_succ]
    have q := HB.out.2.2.1
    refine last_store 55 (.tmp 6) (.tmp 26) rfl rfl _ rfl 55 _ (u64s S4) rfl (q.later hb q.lt) (by rw [u64s_length, HL.out.2.2]; rfl) (by rw [u64s_length, HL.out.2.2]; exact sizeNumber) (u64s_one _) ?_
    intro x9 y9 s9 k9
    have HC : Hid (Below w.heap.size w x9) := below_kept (below_chain HB.out.2.2.2 hb (by have := HB.out.2.2.2.size; omega)) k9 (by have := HB.out.2.2.2.size; have := hb.size; omega) (fun j hj => by omega)
    clear hb k9 s9 q
    go_wp2_with fail
    exact ret_blk rfl (w.heap.size + 1) _ _ rfl y9 Try.underlying55 rfl (by rw [u64s_length, HL.out.2.2]; exact sizeNumber) rfl ⟨rfl, HC.out⟩
end Go.Proofs.Ytlaegbabpiepeaa
