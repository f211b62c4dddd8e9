/- Layer tag: a number of three words times one of two. -/
import Derived.Test.YtlaegbabpiepeaaTNum
namespace Go.Proofs.Ytlaegbabpiepeaa
open Go.RowKit
set_option linter.unusedVariables false
set_option linter.unusedSimpArgs false

theorem zeroFour : (Try.prog.info? 73).map (fun i => (i.zero, i.size)) = some (some (.agg (u64s [0, 0, 0, 0]).toArray), 4) := by kernel_rfl
theorem sizeFour : (Try.prog.info? 73).map (·.size) = some 4 := by kernel_rfl
theorem pr_small (v : Int) (h0 : 0 ≤ v) (h1 : v < 18446744073709551616) : pr v = [v, 0] := by
  unfold pr
  rw [Int.emod_eq_of_lt h0 h1, Int.ediv_eq_zero_of_lt h0 h1]
theorem q4_code (a b c d e f X : Int) (hX : X = a + 18446744073709551616 * (b + c) + 340282366920938463463374607431768211456 * (d + e) + 6277101735386680763835789423207666416102355444464034512896 * f) :
    q4 X = [a % 18446744073709551616, (b + c + a / 18446744073709551616) % 18446744073709551616, (d + e + (b + c + a / 18446744073709551616) / 18446744073709551616) % 18446744073709551616, f + (d + e + (b + c + a / 18446744073709551616) / 18446744073709551616) / 18446744073709551616] := by
  subst hX
  unfold q4
  refine List.cons_eq_cons.2 ⟨by omega, List.cons_eq_cons.2 ⟨by omega, List.cons_eq_cons.2 ⟨by omega, List.cons_eq_cons.2 ⟨by omega, rfl⟩⟩⟩⟩
theorem build_one (z : Int) (w : World) : (Instr.build 58 #[(0, .int .u64 z)]).run Try.prog w = .ok (.agg (u64s [z, 0]).toArray) w := by kernel_rfl
theorem build_four (a b c d : Int) (w : World) : (Instr.build 73 #[(0, .int .u64 a), (1, .int .u64 b), (2, .int .u64 c), (3, .int .u64 d)]).run Try.prog w = .ok (.agg (u64s [a, b, c, d]).toArray) w := by kernel_rfl
set_option maxRecDepth 20000 in
set_option maxHeartbeats 2000000 in
theorem times_any (x r0 r1 : Int) (hx : 0 ≤ x ∧ x < 2722258935367507707706996859454145691648) (g0 : 0 ≤ r0 ∧ r0 < 1152921504606846976) (g1 : 0 ≤ r1 ∧ r1 < 1152921504606846976) (w : World) :
    Calls Try.prog 31 #[.agg (u64s (nm x)).toArray, .agg (u64s [r0, r1]).toArray] w fun e w' => e = .returned (.agg (u64s (q4 (x * (r0 + 18446744073709551616 * r1)))).toArray) ∧ Below w.heap.size w w' := by
  obtain ⟨x0, hx0⟩ : ∃ z, x % 18446744073709551616 = z := ⟨_, rfl⟩
  obtain ⟨x1, hx1⟩ : ∃ z, x / 18446744073709551616 % 18446744073709551616 = z := ⟨_, rfl⟩
  obtain ⟨x2, hx2⟩ : ∃ z, x / 340282366920938463463374607431768211456 = z := ⟨_, rfl⟩
  have k0 : Word x0 := ⟨by omega, by omega⟩
  have k1 : Word x1 := ⟨by omega, by omega⟩
  have k2 : 0 ≤ x2 ∧ x2 < 8 := ⟨by omega, by omega⟩
  have hxx : x = x0 + 18446744073709551616 * x1 + 340282366920938463463374607431768211456 * x2 := by omega
  obtain ⟨a, b, c, d, e, f, ha, hb, hc, hd, he, hf, hX, a0, a1, b0, b1, c0, c1, d0, d1, e0, e1, f0, f1⟩ := times_code x0 x1 x2 r0 r1 k0 k1 k2 g0 g1
  rw [← hxx] at hX
  have hq := q4_code a b c d e f _ hX
  have en : nm x = [x0, x1, x2] := by unfold nm; rw [hx0, hx1, hx2]
  rw [hq, en]
  obtain ⟨s, hs⟩ : ∃ z, b + c + a / 18446744073709551616 = z := ⟨_, rfl⟩
  obtain ⟨t, ht⟩ : ∃ z, d + e + s / 18446744073709551616 = z := ⟨_, rfl⟩
  rw [hs, ht]
  have w0 : Word r0 := ⟨g0.1, by omega⟩
  have w1 : Word r1 := ⟨g1.1, by omega⟩
  have w2 : Word x2 := ⟨k2.1, by omega⟩
  have CC : Hid ((∀ w, Calls Try.prog 44 #[.int .u64 x0, .int .u64 r0] w fun e w' => e = .returned (.agg (u64s (pr a)).toArray) ∧ Below w.heap.size w w') ∧ (∀ w, Calls Try.prog 44 #[.int .u64 x0, .int .u64 r1] w fun e w' => e = .returned (.agg (u64s (pr b)).toArray) ∧ Below w.heap.size w w') ∧ (∀ w, Calls Try.prog 44 #[.int .u64 x1, .int .u64 r0] w fun e w' => e = .returned (.agg (u64s (pr c)).toArray) ∧ Below w.heap.size w w') ∧ (∀ w, Calls Try.prog 44 #[.int .u64 x1, .int .u64 r1] w fun e w' => e = .returned (.agg (u64s (pr d)).toArray) ∧ Below w.heap.size w w') ∧ (∀ w, Calls Try.prog 44 #[.int .u64 x2, .int .u64 r0] w fun z w' => z = .returned (.agg (u64s (pr e)).toArray) ∧ Below w.heap.size w w')) := by
    rw [← ha, ← hb, ← hc, ← hd, ← he]
    exact ⟨product_any _ _ k0 w0, product_any _ _ k0 w1, product_any _ _ k1 w0, product_any _ _ k1 w1, product_any _ _ w2 w0⟩
  have DD : Hid ((∀ w, Calls Try.prog 21 #[.agg (u64s (pr b)).toArray, .agg (u64s (pr c)).toArray] w fun e w' => e = .returned (.agg (u64s (pr (b + c))).toArray) ∧ Below w.heap.size w w') ∧ (∀ w, Calls Try.prog 21 #[.agg (u64s (pr (b + c))).toArray, .agg (u64s [a / 18446744073709551616, 0]).toArray] w fun e w' => e = .returned (.agg (u64s (pr s)).toArray) ∧ Below w.heap.size w w') ∧ (∀ w, Calls Try.prog 21 #[.agg (u64s (pr d)).toArray, .agg (u64s (pr e)).toArray] w fun z w' => z = .returned (.agg (u64s (pr (d + e))).toArray) ∧ Below w.heap.size w w') ∧ (∀ w, Calls Try.prog 21 #[.agg (u64s (pr (d + e))).toArray, .agg (u64s [s / 18446744073709551616, 0]).toArray] w fun z w' => z = .returned (.agg (u64s (pr t)).toArray) ∧ Below w.heap.size w w')) := by
    have h1 := pplus_any b c ⟨b0, by omega⟩ ⟨c0, by omega⟩
    have h2 := pplus_any (b + c) (a / 18446744073709551616) ⟨by omega, by omega⟩ ⟨by omega, by omega⟩
    have h3 := pplus_any d e ⟨d0, by omega⟩ ⟨e0, by omega⟩
    have h4 := pplus_any (d + e) (s / 18446744073709551616) ⟨by omega, by omega⟩ ⟨by omega, by omega⟩
    rw [Int.emod_eq_of_lt (by omega) (by omega)] at h1 h2 h3 h4
    rw [pr_small (a / 18446744073709551616) (by omega) (by omega), hs] at h2
    rw [pr_small (s / 18446744073709551616) (by omega) (by omega), ht] at h4
    exact ⟨h1, h2, h3, h4⟩
  have AR : Hid (0 ≤ a ∧ 0 ≤ s ∧ 0 ≤ t ∧ f + t / 18446744073709551616 < 18446744073709551616) := ⟨a0, by omega, by omega, by omega⟩
  have v1 : IntKind.u64.wrap (x2 * r1) = f := by rw [hf, IntKind.wrap_u64]; omega
  have v2 : IntKind.u64.wrap (f + t / 18446744073709551616) = f + t / 18446744073709551616 := by rw [IntKind.wrap_u64]; omega
  clear hx hx0 hx1 hx2 hxx hX hq en ha hb hc hd he hf a0 a1 b0 b1 c0 c1 d0 d1 e0 e1 f0 f1 hs ht k0 k1 k2 w0 w1 w2 g0 g1
  go_enter Try.func31, Try.ntmps31
  go_wp2_with (first | (refine wpList_box_new rfl 55 _ rfl (u64s [x0, x1, x2]) rfl ?_; intro w1 b1 s1 l1) | (refine wpList_box_new rfl 58 _ rfl (u64s [r0, r1]) rfl ?_; intro w2 b2 s2 l2) | (refine wpList_alloc_new rfl 73 rfl 4 _ zeroFour ?_; intro w3 b3 s3 l3; have cA : w3.cell? ⟨w.heap.size, 0, none⟩ = some (.int .u64 x0) := ((b1.later l2 (by omega)).later l3 (by omega)).cell 0; have cB : w3.cell? ⟨w.heap.size + 1, 0, none⟩ = some (.int .u64 r0) := by { rw [← s1]; exact (b2.later l3 (by omega)).cell 0 }) | (go_at_call 44; refine (CC.out.1 _).mono ?_; rintro e w4 ⟨rfl, l4⟩) | (refine wpList_alloc_new rfl 58 rfl 2 _ zeroPair ?_; intro w5 b5 s5 l5) | (refine wpList_store_blk rfl 58 58 _ _ rfl _ rfl _ (u64s (pr a)) rfl b5 rfl sizePair (u64s_one _) ?_; intro w6 b6 s6 k6))
  simp only [Act.put, List.setIfInBounds_toArray, List.set_cons_zero, List.set_cons_succ]
  obtain ⟨G, hG⟩ : ∃ G, w4.heap.size = G := ⟨_, rfl⟩
  rw [hG] at b6 k6 ⊢
  have HB : Hid (Blk w6 w.heap.size 55 (u64s [x0, x1, x2]) ∧ Blk w6 (w.heap.size + 1) 58 (u64s [r0, r1]) ∧ Blk w6 G 58 (u64s (pr a)) ∧ Blk w6 (w.heap.size + 1 + 1) 73 (u64s [0, 0, 0, 0]) ∧ Below w.heap.size w w6 ∧ w.heap.size + 3 ≤ G) := by
    have q4 := l4.size
    rw [s1] at b2
    rw [s2, s1] at b3
    exact ⟨((((b1.later l2 (by omega)).later l3 (by omega)).later l4 (by omega)).later l5 (by omega)).kept k6 (by omega), (((b2.later l3 (by omega)).later l4 (by omega)).later l5 (by omega)).kept k6 (by omega), b6, ((b3.later l4 (by omega)).later l5 (by omega)).kept k6 (by omega), below_kept (below_chain (below_chain (below_chain (below_chain l1 l2 (by omega)) l3 (by omega)) l4 (by omega)) l5 (by omega)) k6 (by omega) (fun j hj => by omega), by omega⟩
  clear b1 s1 l1 b2 s2 l2 b3 s3 l3 l4 b5 s5 l5 b6 s6 k6 hG cA cB
  refine region_inv [.val (.pointer (some ⟨w.heap.size, 0, none⟩)), .val (.int .u64 x0), .val (.pointer (some ⟨(w.heap.size + 1), 1, none⟩)), .val (.int .u64 r1), .val (.agg (u64s (pr b)).toArray), .val (.pointer (some ⟨w.heap.size, 1, none⟩)), .val (.int .u64 x1), .val (.pointer (some ⟨(w.heap.size + 1), 0, none⟩)), .val (.int .u64 r0), .val (.agg (u64s (pr c)).toArray), .val (.agg (u64s (pr (b + c))).toArray), .val (.pointer (some ⟨G, 1, none⟩)), .val (.int .u64 (a / 18446744073709551616)), .val (.agg (u64s [a / 18446744073709551616, 0]).toArray), .val (.agg (u64s (pr s)).toArray), .blk 58 (u64s [0, 0])] (by kernel_rfl) (by kernel_rfl) (by kernel_rfl) ?_ ?_
  · refine Steps'.cons ?_ (Steps'.cons ?_ (Steps'.cons ?_ (Steps'.cons ?_ (Steps'.cons ?_ (Steps'.cons ?_ (Steps'.cons ?_ (Steps'.cons ?_ (Steps'.cons ?_ (Steps'.cons ?_ (Steps'.cons ?_ (Steps'.cons ?_ (Steps'.cons ?_ (Steps'.cons ?_ (Steps'.cons ?_ (Steps'.cons ?_ (Steps'.one _ _ _ _ _ _ _))))))))))))))))
    · intro ax wx hb hs hd
      have h2 : ax.tmps.getD 2 undef = (.pointer (some ⟨w.heap.size, 0, none⟩)) := hs 2 (by kernel_rfl)
      refine Does.value (.pointer (some ⟨w.heap.size, 0, none⟩)) ?_ rfl
      go_simp
    · intro ax wx hb hs hd
      have h13 : ax.tmps.getD 13 undef = (.pointer (some ⟨w.heap.size, 0, none⟩)) := hd 0 13 rfl (by kernel_rfl) (by decide)
      have cx : wx.cell? ⟨w.heap.size, 0, none⟩ = some (.int .u64 x0) := (Blk.later HB.out.1 hb (Blk.lt HB.out.1)).cell 0
      refine Does.value (.int .u64 x0) ?_ rfl
      go_simp
    · intro ax wx hb hs hd
      have h3 : ax.tmps.getD 3 undef = (.pointer (some ⟨(w.heap.size + 1), 0, none⟩)) := hs 3 (by kernel_rfl)
      refine Does.value (.pointer (some ⟨(w.heap.size + 1), 1, none⟩)) ?_ rfl
      go_simp
    · intro ax wx hb hs hd
      have h15 : ax.tmps.getD 15 undef = (.pointer (some ⟨(w.heap.size + 1), 1, none⟩)) := hd 2 15 rfl (by kernel_rfl) (by decide)
      have cx : wx.cell? ⟨(w.heap.size + 1), 1, none⟩ = some (.int .u64 r1) := (Blk.later HB.out.2.1 hb (Blk.lt HB.out.2.1)).cell 1
      refine Does.value (.int .u64 r1) ?_ rfl
      go_simp
    · intro ax wx hb hs hd
      have h14 : ax.tmps.getD 14 undef = (.int .u64 x0) := hd 1 14 rfl (by kernel_rfl) (by decide)
      have h16 : ax.tmps.getD 16 undef = (.int .u64 r1) := hd 3 16 rfl (by kernel_rfl) (by decide)
      refine Does.call 44 #[(.int .u64 x0), (.int .u64 r1)] (by go_simp) ?_
      refine (CC.out.2.1 _).mono ?_
      rintro z w' ⟨rfl, l⟩
      exact ⟨_, rfl, rfl, l⟩
    · intro ax wx hb hs hd
      have h2 : ax.tmps.getD 2 undef = (.pointer (some ⟨w.heap.size, 0, none⟩)) := hs 2 (by kernel_rfl)
      refine Does.value (.pointer (some ⟨w.heap.size, 1, none⟩)) ?_ rfl
      go_simp
    · intro ax wx hb hs hd
      have h18 : ax.tmps.getD 18 undef = (.pointer (some ⟨w.heap.size, 1, none⟩)) := hd 5 18 rfl (by kernel_rfl) (by decide)
      have cx : wx.cell? ⟨w.heap.size, 1, none⟩ = some (.int .u64 x1) := (Blk.later HB.out.1 hb (Blk.lt HB.out.1)).cell 1
      refine Does.value (.int .u64 x1) ?_ rfl
      go_simp
    · intro ax wx hb hs hd
      have h3 : ax.tmps.getD 3 undef = (.pointer (some ⟨(w.heap.size + 1), 0, none⟩)) := hs 3 (by kernel_rfl)
      refine Does.value (.pointer (some ⟨(w.heap.size + 1), 0, none⟩)) ?_ rfl
      go_simp
    · intro ax wx hb hs hd
      have h20 : ax.tmps.getD 20 undef = (.pointer (some ⟨(w.heap.size + 1), 0, none⟩)) := hd 7 20 rfl (by kernel_rfl) (by decide)
      have cx : wx.cell? ⟨(w.heap.size + 1), 0, none⟩ = some (.int .u64 r0) := (Blk.later HB.out.2.1 hb (Blk.lt HB.out.2.1)).cell 0
      refine Does.value (.int .u64 r0) ?_ rfl
      go_simp
    · intro ax wx hb hs hd
      have h19 : ax.tmps.getD 19 undef = (.int .u64 x1) := hd 6 19 rfl (by kernel_rfl) (by decide)
      have h21 : ax.tmps.getD 21 undef = (.int .u64 r0) := hd 8 21 rfl (by kernel_rfl) (by decide)
      refine Does.call 44 #[(.int .u64 x1), (.int .u64 r0)] (by go_simp) ?_
      refine (CC.out.2.2.1 _).mono ?_
      rintro z w' ⟨rfl, l⟩
      exact ⟨_, rfl, rfl, l⟩
    · intro ax wx hb hs hd
      have h17 : ax.tmps.getD 17 undef = (.agg (u64s (pr b)).toArray) := hd 4 17 rfl (by kernel_rfl) (by decide)
      have h22 : ax.tmps.getD 22 undef = (.agg (u64s (pr c)).toArray) := hd 9 22 rfl (by kernel_rfl) (by decide)
      refine Does.call 21 #[(.agg (u64s (pr b)).toArray), (.agg (u64s (pr c)).toArray)] (by go_simp) ?_
      refine (DD.out.1 _).mono ?_
      rintro z w' ⟨rfl, l⟩
      exact ⟨_, rfl, rfl, l⟩
    · intro ax wx hb hs hd
      have h5 : ax.tmps.getD 5 undef = (.pointer (some ⟨G, 0, none⟩)) := hs 5 (by kernel_rfl)
      refine Does.value (.pointer (some ⟨G, 1, none⟩)) ?_ rfl
      go_simp
    · intro ax wx hb hs hd
      have h24 : ax.tmps.getD 24 undef = (.pointer (some ⟨G, 1, none⟩)) := hd 11 24 rfl (by kernel_rfl) (by decide)
      have cx : wx.cell? ⟨G, 1, none⟩ = some (.int .u64 (a / 18446744073709551616)) := (Blk.later HB.out.2.2.1 hb (Blk.lt HB.out.2.2.1)).cell 1
      refine Does.value (.int .u64 (a / 18446744073709551616)) ?_ rfl
      go_simp
    · intro ax wx hb hs hd
      have h25 : ax.tmps.getD 25 undef = (.int .u64 (a / 18446744073709551616)) := hd 12 25 rfl (by kernel_rfl) (by decide)
      exact Does.build 58 _ rfl #[(0, .int .u64 (a / 18446744073709551616))] (by simp only [List.map_toArray, List.map_cons, List.map_nil, Act.eval, h25]) _ (build_one _ _)
    · intro ax wx hb hs hd
      have h23 : ax.tmps.getD 23 undef = (.agg (u64s (pr (b + c))).toArray) := hd 10 23 rfl (by kernel_rfl) (by decide)
      have h26 : ax.tmps.getD 26 undef = (.agg (u64s [a / 18446744073709551616, 0]).toArray) := hd 13 26 rfl (by kernel_rfl) (by decide)
      refine Does.call 21 #[(.agg (u64s (pr (b + c))).toArray), (.agg (u64s [a / 18446744073709551616, 0]).toArray)] (by go_simp) ?_
      refine (DD.out.2.1 _).mono ?_
      rintro z w' ⟨rfl, l⟩
      exact ⟨_, rfl, rfl, l⟩
    · intro ax wx hb hs hd
      exact Does.alloc 58 rfl 2 _ zeroPair hb.size
  · intro wx hb
    refine @Ends.val _ _ _ _ _ _ _ _ _ (.pointer (some ⟨w.heap.size, 0, none⟩)) rfl ?_
    refine @Ends.val _ _ _ _ _ _ _ _ _ (.int .u64 x0) rfl ?_
    refine @Ends.val _ _ _ _ _ _ _ _ _ (.pointer (some ⟨(w.heap.size + 1), 1, none⟩)) rfl ?_
    refine @Ends.val _ _ _ _ _ _ _ _ _ (.int .u64 r1) rfl ?_
    refine @Ends.val _ _ _ _ _ _ _ _ _ (.agg (u64s (pr b)).toArray) rfl ?_
    refine @Ends.val _ _ _ _ _ _ _ _ _ (.pointer (some ⟨w.heap.size, 1, none⟩)) rfl ?_
    refine @Ends.val _ _ _ _ _ _ _ _ _ (.int .u64 x1) rfl ?_
    refine @Ends.val _ _ _ _ _ _ _ _ _ (.pointer (some ⟨(w.heap.size + 1), 0, none⟩)) rfl ?_
    refine @Ends.val _ _ _ _ _ _ _ _ _ (.int .u64 r0) rfl ?_
    refine @Ends.val _ _ _ _ _ _ _ _ _ (.agg (u64s (pr c)).toArray) rfl ?_
    refine @Ends.val _ _ _ _ _ _ _ _ _ (.agg (u64s (pr (b + c))).toArray) rfl ?_
    refine @Ends.val _ _ _ _ _ _ _ _ _ (.pointer (some ⟨G, 1, none⟩)) rfl ?_
    refine @Ends.val _ _ _ _ _ _ _ _ _ (.int .u64 (a / 18446744073709551616)) rfl ?_
    refine @Ends.val _ _ _ _ _ _ _ _ _ (.agg (u64s [a / 18446744073709551616, 0]).toArray) rfl ?_
    refine @Ends.val _ _ _ _ _ _ _ _ _ (.agg (u64s (pr s)).toArray) rfl ?_
    refine @Ends.blk _ _ _ _ _ _ _ _ _ 58 (u64s [0, 0]) rfl ?_
    intro g15 hg15 bg15
    refine @Ends.one _ _ _ _ _ _ _ ?_
    simp only [Act.put, List.setIfInBounds_toArray, List.set_cons_zero, List.set_cons_succ]
    refine last_store 58 (.tmp 6) (.tmp 27) rfl rfl g15 rfl 58 _ (u64s (pr s)) rfl bg15 rfl sizePair (u64s_one _) ?_
    intro w7 b7 s7 k7
    have HC : Hid (Blk w7 w.heap.size 55 (u64s [x0, x1, x2]) ∧ Blk w7 (w.heap.size + 1) 58 (u64s [r0, r1]) ∧ Blk w7 G 58 (u64s (pr a)) ∧ Blk w7 (w.heap.size + 1 + 1) 73 (u64s [0, 0, 0, 0]) ∧ Below w.heap.size w w7 ∧ Blk w7 g15 58 (u64s (pr s)) ∧ w.heap.size + 3 ≤ G ∧ G < g15) := by
      have q1 := HB.out.1.lt
      have q2 := HB.out.2.1.lt
      have q3 := HB.out.2.2.1.lt
      have q4 := HB.out.2.2.2.1.lt
      have q5 := hb.size
      exact ⟨(HB.out.1.later hb q1).kept k7 (by omega), (HB.out.2.1.later hb q2).kept k7 (by omega), (HB.out.2.2.1.later hb q3).kept k7 (by omega), (HB.out.2.2.2.1.later hb q4).kept k7 (by omega), below_kept (below_chain HB.out.2.2.2.2.1 hb (by omega)) k7 (by omega) (fun j hj => by omega), b7, HB.out.2.2.2.2.2, by omega⟩
    clear b7 s7 k7 hb bg15 HB hg15
    go_wp2_with fail
    try simp only [Act.put, List.setIfInBounds_toArray, List.set_cons_zero, List.set_cons_succ]
    refine region_inv [.val (.pointer (some ⟨w.heap.size, 1, none⟩)), .val (.int .u64 x1), .val (.pointer (some ⟨(w.heap.size + 1), 1, none⟩)), .val (.int .u64 r1), .val (.agg (u64s (pr d)).toArray), .val (.pointer (some ⟨w.heap.size, 2, none⟩)), .val (.int .u64 x2), .val (.pointer (some ⟨(w.heap.size + 1), 0, none⟩)), .val (.int .u64 r0), .val (.agg (u64s (pr e)).toArray), .val (.agg (u64s (pr (d + e))).toArray), .val (.pointer (some ⟨g15, 1, none⟩)), .val (.int .u64 (s / 18446744073709551616)), .val (.agg (u64s [s / 18446744073709551616, 0]).toArray), .val (.agg (u64s (pr t)).toArray), .blk 58 (u64s [0, 0])] (by kernel_rfl) (by kernel_rfl) (by kernel_rfl) ?_ ?_
    · refine Steps'.cons ?_ (Steps'.cons ?_ (Steps'.cons ?_ (Steps'.cons ?_ (Steps'.cons ?_ (Steps'.cons ?_ (Steps'.cons ?_ (Steps'.cons ?_ (Steps'.cons ?_ (Steps'.cons ?_ (Steps'.cons ?_ (Steps'.cons ?_ (Steps'.cons ?_ (Steps'.cons ?_ (Steps'.cons ?_ (Steps'.cons ?_ (Steps'.one _ _ _ _ _ _ _))))))))))))))))
      · intro ax wx hb hs hd
        have h2 : ax.tmps.getD 2 undef = (.pointer (some ⟨w.heap.size, 0, none⟩)) := hs 2 (by kernel_rfl)
        refine Does.value (.pointer (some ⟨w.heap.size, 1, none⟩)) ?_ rfl
        go_simp
      · intro ax wx hb hs hd
        have h28 : ax.tmps.getD 28 undef = (.pointer (some ⟨w.heap.size, 1, none⟩)) := hd 0 28 rfl (by kernel_rfl) (by decide)
        have cx : wx.cell? ⟨w.heap.size, 1, none⟩ = some (.int .u64 x1) := (Blk.later HC.out.1 hb (Blk.lt HC.out.1)).cell 1
        refine Does.value (.int .u64 x1) ?_ rfl
        go_simp
      · intro ax wx hb hs hd
        have h3 : ax.tmps.getD 3 undef = (.pointer (some ⟨(w.heap.size + 1), 0, none⟩)) := hs 3 (by kernel_rfl)
        refine Does.value (.pointer (some ⟨(w.heap.size + 1), 1, none⟩)) ?_ rfl
        go_simp
      · intro ax wx hb hs hd
        have h30 : ax.tmps.getD 30 undef = (.pointer (some ⟨(w.heap.size + 1), 1, none⟩)) := hd 2 30 rfl (by kernel_rfl) (by decide)
        have cx : wx.cell? ⟨(w.heap.size + 1), 1, none⟩ = some (.int .u64 r1) := (Blk.later HC.out.2.1 hb (Blk.lt HC.out.2.1)).cell 1
        refine Does.value (.int .u64 r1) ?_ rfl
        go_simp
      · intro ax wx hb hs hd
        have h29 : ax.tmps.getD 29 undef = (.int .u64 x1) := hd 1 29 rfl (by kernel_rfl) (by decide)
        have h31 : ax.tmps.getD 31 undef = (.int .u64 r1) := hd 3 31 rfl (by kernel_rfl) (by decide)
        refine Does.call 44 #[(.int .u64 x1), (.int .u64 r1)] (by go_simp) ?_
        refine (CC.out.2.2.2.1 _).mono ?_
        rintro z w' ⟨rfl, l⟩
        exact ⟨_, rfl, rfl, l⟩
      · intro ax wx hb hs hd
        have h2 : ax.tmps.getD 2 undef = (.pointer (some ⟨w.heap.size, 0, none⟩)) := hs 2 (by kernel_rfl)
        refine Does.value (.pointer (some ⟨w.heap.size, 2, none⟩)) ?_ rfl
        go_simp
      · intro ax wx hb hs hd
        have h33 : ax.tmps.getD 33 undef = (.pointer (some ⟨w.heap.size, 2, none⟩)) := hd 5 33 rfl (by kernel_rfl) (by decide)
        have cx : wx.cell? ⟨w.heap.size, 2, none⟩ = some (.int .u64 x2) := (Blk.later HC.out.1 hb (Blk.lt HC.out.1)).cell 2
        refine Does.value (.int .u64 x2) ?_ rfl
        go_simp
      · intro ax wx hb hs hd
        have h3 : ax.tmps.getD 3 undef = (.pointer (some ⟨(w.heap.size + 1), 0, none⟩)) := hs 3 (by kernel_rfl)
        refine Does.value (.pointer (some ⟨(w.heap.size + 1), 0, none⟩)) ?_ rfl
        go_simp
      · intro ax wx hb hs hd
        have h35 : ax.tmps.getD 35 undef = (.pointer (some ⟨(w.heap.size + 1), 0, none⟩)) := hd 7 35 rfl (by kernel_rfl) (by decide)
        have cx : wx.cell? ⟨(w.heap.size + 1), 0, none⟩ = some (.int .u64 r0) := (Blk.later HC.out.2.1 hb (Blk.lt HC.out.2.1)).cell 0
        refine Does.value (.int .u64 r0) ?_ rfl
        go_simp
      · intro ax wx hb hs hd
        have h34 : ax.tmps.getD 34 undef = (.int .u64 x2) := hd 6 34 rfl (by kernel_rfl) (by decide)
        have h36 : ax.tmps.getD 36 undef = (.int .u64 r0) := hd 8 36 rfl (by kernel_rfl) (by decide)
        refine Does.call 44 #[(.int .u64 x2), (.int .u64 r0)] (by go_simp) ?_
        refine (CC.out.2.2.2.2 _).mono ?_
        rintro z w' ⟨rfl, l⟩
        exact ⟨_, rfl, rfl, l⟩
      · intro ax wx hb hs hd
        have h32 : ax.tmps.getD 32 undef = (.agg (u64s (pr d)).toArray) := hd 4 32 rfl (by kernel_rfl) (by decide)
        have h37 : ax.tmps.getD 37 undef = (.agg (u64s (pr e)).toArray) := hd 9 37 rfl (by kernel_rfl) (by decide)
        refine Does.call 21 #[(.agg (u64s (pr d)).toArray), (.agg (u64s (pr e)).toArray)] (by go_simp) ?_
        refine (DD.out.2.2.1 _).mono ?_
        rintro z w' ⟨rfl, l⟩
        exact ⟨_, rfl, rfl, l⟩
      · intro ax wx hb hs hd
        have h6 : ax.tmps.getD 6 undef = (.pointer (some ⟨g15, 0, none⟩)) := hs 6 (by kernel_rfl)
        refine Does.value (.pointer (some ⟨g15, 1, none⟩)) ?_ rfl
        go_simp
      · intro ax wx hb hs hd
        have h39 : ax.tmps.getD 39 undef = (.pointer (some ⟨g15, 1, none⟩)) := hd 11 39 rfl (by kernel_rfl) (by decide)
        have cx : wx.cell? ⟨g15, 1, none⟩ = some (.int .u64 (s / 18446744073709551616)) := (Blk.later HC.out.2.2.2.2.2.1 hb (Blk.lt HC.out.2.2.2.2.2.1)).cell 1
        refine Does.value (.int .u64 (s / 18446744073709551616)) ?_ rfl
        go_simp
      · intro ax wx hb hs hd
        have h40 : ax.tmps.getD 40 undef = (.int .u64 (s / 18446744073709551616)) := hd 12 40 rfl (by kernel_rfl) (by decide)
        exact Does.build 58 _ rfl #[(0, .int .u64 (s / 18446744073709551616))] (by simp only [List.map_toArray, List.map_cons, List.map_nil, Act.eval, h40]) _ (build_one _ _)
      · intro ax wx hb hs hd
        have h38 : ax.tmps.getD 38 undef = (.agg (u64s (pr (d + e))).toArray) := hd 10 38 rfl (by kernel_rfl) (by decide)
        have h41 : ax.tmps.getD 41 undef = (.agg (u64s [s / 18446744073709551616, 0]).toArray) := hd 13 41 rfl (by kernel_rfl) (by decide)
        refine Does.call 21 #[(.agg (u64s (pr (d + e))).toArray), (.agg (u64s [s / 18446744073709551616, 0]).toArray)] (by go_simp) ?_
        refine (DD.out.2.2.2 _).mono ?_
        rintro z w' ⟨rfl, l⟩
        exact ⟨_, rfl, rfl, l⟩
      · intro ax wx hb hs hd
        exact Does.alloc 58 rfl 2 _ zeroPair hb.size
    · intro wx hb
      refine @Ends.val _ _ _ _ _ _ _ _ _ (.pointer (some ⟨w.heap.size, 1, none⟩)) rfl ?_
      refine @Ends.val _ _ _ _ _ _ _ _ _ (.int .u64 x1) rfl ?_
      refine @Ends.val _ _ _ _ _ _ _ _ _ (.pointer (some ⟨(w.heap.size + 1), 1, none⟩)) rfl ?_
      refine @Ends.val _ _ _ _ _ _ _ _ _ (.int .u64 r1) rfl ?_
      refine @Ends.val _ _ _ _ _ _ _ _ _ (.agg (u64s (pr d)).toArray) rfl ?_
      refine @Ends.val _ _ _ _ _ _ _ _ _ (.pointer (some ⟨w.heap.size, 2, none⟩)) rfl ?_
      refine @Ends.val _ _ _ _ _ _ _ _ _ (.int .u64 x2) rfl ?_
      refine @Ends.val _ _ _ _ _ _ _ _ _ (.pointer (some ⟨(w.heap.size + 1), 0, none⟩)) rfl ?_
      refine @Ends.val _ _ _ _ _ _ _ _ _ (.int .u64 r0) rfl ?_
      refine @Ends.val _ _ _ _ _ _ _ _ _ (.agg (u64s (pr e)).toArray) rfl ?_
      refine @Ends.val _ _ _ _ _ _ _ _ _ (.agg (u64s (pr (d + e))).toArray) rfl ?_
      refine @Ends.val _ _ _ _ _ _ _ _ _ (.pointer (some ⟨g15, 1, none⟩)) rfl ?_
      refine @Ends.val _ _ _ _ _ _ _ _ _ (.int .u64 (s / 18446744073709551616)) rfl ?_
      refine @Ends.val _ _ _ _ _ _ _ _ _ (.agg (u64s [s / 18446744073709551616, 0]).toArray) rfl ?_
      refine @Ends.val _ _ _ _ _ _ _ _ _ (.agg (u64s (pr t)).toArray) rfl ?_
      refine @Ends.blk _ _ _ _ _ _ _ _ _ 58 (u64s [0, 0]) rfl ?_
      intro g16 hg15 bg15
      refine @Ends.one _ _ _ _ _ _ _ ?_
      simp only [Act.put, List.setIfInBounds_toArray, List.set_cons_zero, List.set_cons_succ]
      refine last_store 58 (.tmp 7) (.tmp 42) rfl rfl _ rfl 58 _ (u64s (pr t)) rfl bg15 rfl sizePair (u64s_one _) ?_
      intro w8 b8 s8 k8
      have q1 := HC.out.1.lt
      have q2 := HC.out.2.1.lt
      have q3 := HC.out.2.2.1.lt
      have q4 := HC.out.2.2.2.1.lt
      have q6 := HC.out.2.2.2.2.2.1.lt
      have q5 := hb.size
      have q7 := HC.out.2.2.2.2.2.2
      have m1 := (HC.out.1.later hb q1).kept k8 (by omega)
      have m2 := (HC.out.2.1.later hb q2).kept k8 (by omega)
      have m3 := (HC.out.2.2.1.later hb q3).kept k8 (by omega)
      have m4 := (HC.out.2.2.2.1.later hb q4).kept k8 (by omega)
      have m6 := (HC.out.2.2.2.2.2.1.later hb q6).kept k8 (by omega)
      have HD : Hid (Below w.heap.size w w8 ∧ Blk w8 (w.heap.size + 1 + 1) 73 (u64s [0, 0, 0, 0])) := ⟨below_kept (below_chain HC.out.2.2.2.2.1 hb (by omega)) k8 (by omega) (fun j hj => by omega), m4⟩
      have z1 : w8.cell? ⟨G, 0, none⟩ = some (.int .u64 (a % 18446744073709551616)) := m3.cell 0
      have z2 : w8.cell? ⟨g15, 0, none⟩ = some (.int .u64 (s % 18446744073709551616)) := m6.cell 0
      have z3 : w8.cell? ⟨g16, 0, none⟩ = some (.int .u64 (t % 18446744073709551616)) := b8.cell 0
      have z4 : w8.cell? ⟨g16, 1, none⟩ = some (.int .u64 (t / 18446744073709551616)) := b8.cell 1
      have z5 : w8.cell? ⟨w.heap.size, 2, none⟩ = some (.int .u64 x2) := m1.cell 2
      have z6 : w8.cell? ⟨w.heap.size + 1, 1, none⟩ = some (.int .u64 r1) := m2.cell 1
      clear b8 s8 k8 hb bg15 HC hg15 m1 m2 m3 m4 m6 q1 q2 q3 q4 q5 q6 q7
      go_wp2_with (first | (refine wpList_build rfl 73 _ rfl #[(0, .int .u64 (a % 18446744073709551616)), (1, .int .u64 (s % 18446744073709551616)), (2, .int .u64 (t % 18446744073709551616)), (3, .int .u64 (f + t / 18446744073709551616))] (by simp [Act.eval]) _ (build_four _ _ _ _ _) ?_) | (refine wpList_store_blk rfl 73 73 _ _ rfl _ rfl _ (u64s [a % 18446744073709551616, s % 18446744073709551616, t % 18446744073709551616, f + t / 18446744073709551616]) rfl HD.out.2 rfl sizeFour (u64s_one _) ?_; intro w9 b9 s9 k9))
      exact ret_blk rfl (w.heap.size + 1 + 1) _ _ rfl b9 Try.underlying73 rfl sizeFour rfl ⟨rfl, below_kept HD.out.1 k9 HD.out.1.size (fun j hj => by omega)⟩
end Go.Proofs.Ytlaegbabpiepeaa
