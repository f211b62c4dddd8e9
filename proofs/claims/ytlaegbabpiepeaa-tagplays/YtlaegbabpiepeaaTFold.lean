/- Layer tag: folded, reduced. -/
import Derived.Test.YtlaegbabpiepeaaTTimes
namespace Go.Proofs.Ytlaegbabpiepeaa
open Go.RowKit
set_option linter.unusedVariables false
set_option linter.unusedSimpArgs false

theorem build_three (a b c : Int) (w : World) : (Instr.build 55 #[(0, .int .u64 a), (1, .int .u64 b), (2, .int .u64 c)]).run Try.prog w = .ok (.agg (u64s [a, b, c]).toArray) w := by kernel_rfl
theorem build_two3 (a b : Int) (w : World) : (Instr.build 55 #[(0, .int .u64 a), (1, .int .u64 b)]).run Try.prog w = .ok (.agg (u64s [a, b, 0]).toArray) w := by kernel_rfl
theorem fold_words (v w0 w1 w2 w3 : Int) (h : 0 ≤ v ∧ v < 57896044618658097711785492504343953926634992332820282019728792003956564819968) (h0 : v % 18446744073709551616 = w0) (h1 : v / 18446744073709551616 % 18446744073709551616 = w1) (h2 : v / 340282366920938463463374607431768211456 % 18446744073709551616 = w2) (h3 : v / 6277101735386680763835789423207666416102355444464034512896 = w3) :
    nm (v % 1361129467683753853853498429727072845824) = [w0, w1, w2 % 4] ∧ nm (4 * (v / 1361129467683753853853498429727072845824)) = [w2 - w2 % 4, w3, 0] ∧ nm (v / 1361129467683753853853498429727072845824) = [w2 / 4 + w3 % 4 * 4611686018427387904, w3 / 4, 0] := by
  unfold nm
  refine ⟨List.cons_eq_cons.2 ⟨by omega, List.cons_eq_cons.2 ⟨by omega, List.cons_eq_cons.2 ⟨by omega, rfl⟩⟩⟩, List.cons_eq_cons.2 ⟨by omega, List.cons_eq_cons.2 ⟨by omega, List.cons_eq_cons.2 ⟨by omega, rfl⟩⟩⟩, List.cons_eq_cons.2 ⟨by omega, List.cons_eq_cons.2 ⟨by omega, List.cons_eq_cons.2 ⟨by omega, rfl⟩⟩⟩⟩
set_option maxRecDepth 20000 in
set_option maxHeartbeats 2000000 in
theorem folded_any (v : Int) (hv : 0 ≤ v ∧ v < 57896044618658097711785492504343953926634992332820282019728792003956564819968) (w : World) :
    Calls Try.prog 29 #[.agg (u64s (q4 v)).toArray] w fun e w' => e = .returned (.agg (u64s (nm (fold5 v))).toArray) ∧ Below w.heap.size w w' := by
  obtain ⟨w0, h0⟩ : ∃ z, v % 18446744073709551616 = z := ⟨_, rfl⟩
  obtain ⟨w1, h1⟩ : ∃ z, v / 18446744073709551616 % 18446744073709551616 = z := ⟨_, rfl⟩
  obtain ⟨w2, h2⟩ : ∃ z, v / 340282366920938463463374607431768211456 % 18446744073709551616 = z := ⟨_, rfl⟩
  obtain ⟨w3, h3⟩ : ∃ z, v / 6277101735386680763835789423207666416102355444464034512896 = z := ⟨_, rfl⟩
  obtain ⟨n1, n2, n3⟩ := fold_words v w0 w1 w2 w3 hv h0 h1 h2 h3
  have CC : Hid ((∀ w, Calls Try.prog 30 #[.agg (u64s [w0, w1, w2 % 4]).toArray, .agg (u64s [w2 - w2 % 4, w3, 0]).toArray] w fun e w' => e = .returned (.agg (u64s (nm (v % 1361129467683753853853498429727072845824 + 4 * (v / 1361129467683753853853498429727072845824)))).toArray) ∧ Below w.heap.size w w') ∧ (∀ w, Calls Try.prog 30 #[.agg (u64s (nm (v % 1361129467683753853853498429727072845824 + 4 * (v / 1361129467683753853853498429727072845824)))).toArray, .agg (u64s [w2 / 4 + w3 % 4 * 4611686018427387904, w3 / 4, 0]).toArray] w fun e w' => e = .returned (.agg (u64s (nm (fold5 v))).toArray) ∧ Below w.heap.size w w')) := by
    rw [← n1, ← n2, ← n3]
    refine ⟨nplus_any _ _ (by omega) (by omega) (by omega), ?_⟩
    have e : fold5 v = v % 1361129467683753853853498429727072845824 + 4 * (v / 1361129467683753853853498429727072845824) + v / 1361129467683753853853498429727072845824 := by unfold fold5; omega
    rw [e]
    exact nplus_any _ _ (by omega) (by omega) (by omega)
  have eq : q4 v = [w0, w1, w2, w3] := by unfold q4; rw [h0, h1, h2, h3]
  have b1 := and3 w2 (by omega) (by omega)
  have b2 := andNot3 w2 (by omega) (by omega)
  have b3 : IntKind.u64.wrap (w3 * 4611686018427387904) = w3 % 4 * 4611686018427387904 := by rw [IntKind.wrap_u64]; omega
  have b4 := or_high (w2 / 4) (w3 % 4) (by omega) (by omega)
  obtain ⟨F, hF⟩ : ∃ z, nm (fold5 v) = z := ⟨_, rfl⟩
  have HF : Hid (F.length = 3) := by rw [← hF]; rfl
  rw [eq]
  rw [hF] at CC ⊢
  obtain ⟨M, hM⟩ : ∃ z, nm (v % 1361129467683753853853498429727072845824 + 4 * (v / 1361129467683753853853498429727072845824)) = z := ⟨_, rfl⟩
  rw [hM] at CC
  clear hv h0 h1 h2 h3 n1 n2 n3 eq hF hM
  go_enter Try.func29, Try.ntmps29
  go_wp2_with (first | (refine wpList_box_new rfl 73 _ rfl (u64s [w0, w1, w2, w3]) rfl ?_; intro x1 b1 s1 l1) | ((with_reducible show wpList _ _ _ _ _ x1); refine wpList_alloc_new rfl 55 rfl 3 _ zeroNumber ?_; intro x2 y2 s2 l2; have m1 := b1.later l2 (by omega); have cA : x2.cell? ⟨w.heap.size, 0, none⟩ = some (.int .u64 w0) := m1.cell 0; have cB : x2.cell? ⟨w.heap.size, 1, none⟩ = some (.int .u64 w1) := m1.cell 1; have cC : x2.cell? ⟨w.heap.size, 2, none⟩ = some (.int .u64 w2) := m1.cell 2; have cD : x2.cell? ⟨w.heap.size, 3, none⟩ = some (.int .u64 w3) := m1.cell 3) | ((with_reducible show wpList _ _ _ _ _ x2); refine wpList_build rfl 55 _ rfl #[(0, .int .u64 w0), (1, .int .u64 w1), (2, .int .u64 (w2 % 4))] (by simp [Act.eval]) _ (build_three _ _ _ _) ?_) | ((with_reducible show wpList _ _ _ _ _ x2); refine wpList_alloc_new rfl 55 rfl 3 _ zeroNumber ?_; intro x3 y3 s3 l3) | ((with_reducible show wpList _ _ _ _ _ x3); refine wpList_store_blk rfl 55 55 _ _ rfl _ rfl _ (u64s [w0, w1, w2 % 4]) rfl y3 rfl sizeNumber (u64s_one _) ?_; intro x4 y4 s4 k4; have m4 := (m1.later l3 (by omega)).kept k4 (by omega); have cE : x4.cell? ⟨w.heap.size, 2, none⟩ = some (.int .u64 w2) := m4.cell 2; have cF : x4.cell? ⟨w.heap.size, 3, none⟩ = some (.int .u64 w3) := m4.cell 3) | ((with_reducible show wpList _ _ _ _ _ x4); refine wpList_build rfl 55 _ rfl #[(0, .int .u64 (w2 - w2 % 4)), (1, .int .u64 w3)] (by simp [Act.eval]) _ (build_two3 _ _ _) ?_) | ((with_reducible show wpList _ _ _ _ _ x4); refine wpList_alloc_new rfl 55 rfl 3 _ zeroNumber ?_; intro x5 y5 s5 l5) | ((with_reducible show wpList _ _ _ _ _ x5); refine wpList_store_blk rfl 55 55 _ _ rfl _ rfl _ (u64s [w2 - w2 % 4, w3, 0]) rfl y5 rfl sizeNumber (u64s_one _) ?_; intro x6 y6 s6 k6; have m6 := (m4.later l5 (by omega)).kept k6 (by omega); have cG : x6.cell? ⟨w.heap.size, 2, none⟩ = some (.int .u64 w2) := m6.cell 2; have cH : x6.cell? ⟨w.heap.size, 3, none⟩ = some (.int .u64 w3) := m6.cell 3) | ((with_reducible show wpList _ _ _ _ _ x6); refine wpList_build rfl 55 _ rfl #[(0, .int .u64 (w2 / 4 + w3 % 4 * 4611686018427387904)), (1, .int .u64 (w3 / 4))] (by simp [Act.eval]) _ (build_two3 _ _ _) ?_) | ((with_reducible show wpList _ _ _ _ _ x6); refine wpList_alloc_new rfl 55 rfl 3 _ zeroNumber ?_; intro x7 y7 s7 l7) | ((with_reducible show wpList _ _ _ _ _ x7); refine wpList_store_blk rfl 55 55 _ _ rfl _ rfl _ (u64s [w2 / 4 + w3 % 4 * 4611686018427387904, w3 / 4, 0]) rfl y7 rfl sizeNumber (u64s_one _) ?_; intro x8 y8 s8 k8))
  try simp only [Act.put, List.setIfInBounds_toArray, List.set_cons_zero, List.set_cons_succ]
  obtain ⟨G, hG⟩ : ∃ G, x6.heap.size = G := ⟨_, rfl⟩
  rw [hG] at y8 k8 ⊢
  have HB : Hid (Blk x8 (w.heap.size + 1 + 1) 55 (u64s [w0, w1, w2 % 4]) ∧ Blk x8 (w.heap.size + 1 + 1 + 1) 55 (u64s [w2 - w2 % 4, w3, 0]) ∧ Blk x8 G 55 (u64s [w2 / 4 + w3 % 4 * 4611686018427387904, w3 / 4, 0]) ∧ Blk x8 (w.heap.size + 1) 55 (u64s [0, 0, 0]) ∧ Below w.heap.size w x8) := by
    rw [s1] at y2
    rw [s2, s1] at y4
    rw [s4, s3, s2, s1] at y6
    exact ⟨(((y4.later l5 (by omega)).kept k6 (by omega)).later l7 (by omega)).kept k8 (by omega), (y6.later l7 (by omega)).kept k8 (by omega), y8, (((((y2.later l3 (by omega)).kept k4 (by omega)).later l5 (by omega)).kept k6 (by omega)).later l7 (by omega)).kept k8 (by omega), below_kept (below_chain (below_kept (below_chain (below_kept (below_chain (below_chain l1 l2 (by omega)) l3 (by omega)) k4 (by omega) (fun j hj => by omega)) l5 (by omega)) k6 (by omega) (fun j hj => by omega)) l7 (by omega)) k8 (by omega) (fun j hj => by omega)⟩
  clear b1 s1 l1 y2 s2 l2 m1 cA cB cC cD y3 s3 l3 y4 s4 k4 m4 cE cF y5 s5 l5 y6 s6 k6 m6 cG cH y7 s7 l7 y8 s8 k8 hG
  refine region_inv [.val (.agg (u64s [w0, w1, w2 % 4]).toArray), .val (.agg (u64s [w2 - w2 % 4, w3, 0]).toArray), .val (.agg (u64s M).toArray), .val (.agg (u64s [w2 / 4 + w3 % 4 * 4611686018427387904, w3 / 4, 0]).toArray), .val (.agg (u64s F).toArray)] (by kernel_rfl) (by kernel_rfl) (by kernel_rfl) ?_ ?_
  · refine Steps'.cons ?_ (Steps'.cons ?_ (Steps'.cons ?_ (Steps'.cons ?_ (Steps'.cons ?_ (Steps'.one _ _ _ _ _ _ _)))))
    · intro ax wx hb hs hd
      have h3 : ax.tmps.getD 3 undef = (.pointer (some ⟨w.heap.size + 1 + 1, 0, none⟩)) := hs 3 (by kernel_rfl)
      exact Does.load 55 (.tmp 3) rfl (w.heap.size + 1 + 1) 0 h3 (u64s [w0, w1, w2 % 4]) _ ((Blk.later HB.out.1 hb (Blk.lt HB.out.1)).whole) Try.underlying55 rfl sizeNumber
    · intro ax wx hb hs hd
      have h4 : ax.tmps.getD 4 undef = (.pointer (some ⟨w.heap.size + 1 + 1 + 1, 0, none⟩)) := hs 4 (by kernel_rfl)
      exact Does.load 55 (.tmp 4) rfl (w.heap.size + 1 + 1 + 1) 0 h4 (u64s [w2 - w2 % 4, w3, 0]) _ ((Blk.later HB.out.2.1 hb (Blk.lt HB.out.2.1)).whole) Try.underlying55 rfl sizeNumber
    · intro ax wx hb hs hd
      have h31 : ax.tmps.getD 31 undef = (.agg (u64s [w0, w1, w2 % 4]).toArray) := hd 0 31 rfl (by kernel_rfl) (by decide)
      have h32 : ax.tmps.getD 32 undef = (.agg (u64s [w2 - w2 % 4, w3, 0]).toArray) := hd 1 32 rfl (by kernel_rfl) (by decide)
      refine Does.call 30 #[(.agg (u64s [w0, w1, w2 % 4]).toArray), (.agg (u64s [w2 - w2 % 4, w3, 0]).toArray)] (by go_simp) ?_
      refine (CC.out.1 _).mono ?_
      rintro z w' ⟨rfl, l⟩
      exact ⟨_, rfl, rfl, l⟩
    · intro ax wx hb hs hd
      have h5 : ax.tmps.getD 5 undef = (.pointer (some ⟨G, 0, none⟩)) := hs 5 (by kernel_rfl)
      exact Does.load 55 (.tmp 5) rfl G 0 h5 (u64s [w2 / 4 + w3 % 4 * 4611686018427387904, w3 / 4, 0]) _ ((Blk.later HB.out.2.2.1 hb (Blk.lt HB.out.2.2.1)).whole) Try.underlying55 rfl sizeNumber
    · intro ax wx hb hs hd
      have h33 : ax.tmps.getD 33 undef = (.agg (u64s M).toArray) := hd 2 33 rfl (by kernel_rfl) (by decide)
      have h34 : ax.tmps.getD 34 undef = (.agg (u64s [w2 / 4 + w3 % 4 * 4611686018427387904, w3 / 4, 0]).toArray) := hd 3 34 rfl (by kernel_rfl) (by decide)
      refine Does.call 30 #[(.agg (u64s M).toArray), (.agg (u64s [w2 / 4 + w3 % 4 * 4611686018427387904, w3 / 4, 0]).toArray)] (by go_simp) ?_
      refine (CC.out.2 _).mono ?_
      rintro z w' ⟨rfl, l⟩
      exact ⟨_, rfl, rfl, l⟩
  · intro wx hb
    refine @Ends.val _ _ _ _ _ _ _ _ _ (.agg (u64s [w0, w1, w2 % 4]).toArray) rfl ?_
    refine @Ends.val _ _ _ _ _ _ _ _ _ (.agg (u64s [w2 - w2 % 4, w3, 0]).toArray) rfl ?_
    refine @Ends.val _ _ _ _ _ _ _ _ _ (.agg (u64s M).toArray) rfl ?_
    refine @Ends.val _ _ _ _ _ _ _ _ _ (.agg (u64s [w2 / 4 + w3 % 4 * 4611686018427387904, w3 / 4, 0]).toArray) rfl ?_
    refine @Ends.val _ _ _ _ _ _ _ _ _ (.agg (u64s F).toArray) rfl ?_
    refine @Ends.one _ _ _ _ _ _ _ ?_
    simp only [Act.put, List.setIfInBounds_toArray, List.set_cons_zero, List.set_cons_succ]
    have q := HB.out.2.2.2.1
    refine last_store 55 (.tmp 2) (.tmp 35) rfl rfl _ rfl 55 _ (u64s F) rfl (q.later hb q.lt) (by rw [u64s_length, HF.out]; rfl) (by rw [u64s_length, HF.out]; exact sizeNumber) (u64s_one _) ?_
    intro x9 y9 s9 k9
    have HC : Hid (Below w.heap.size w x9) := below_kept (below_chain HB.out.2.2.2.2 hb (by have := HB.out.2.2.2.2.size; omega)) k9 (by have := HB.out.2.2.2.2.size; have := hb.size; omega) (fun j hj => by omega)
    clear hb k9 s9 q
    go_wp2_with fail
    exact ret_blk rfl (w.heap.size + 1) _ _ rfl y9 Try.underlying55 rfl (by rw [u64s_length, HF.out]; exact sizeNumber) rfl ⟨rfl, HC.out⟩
theorem red_words (x x0 x1 x2 : Int) (h : 0 ≤ x ∧ x < 2722258935367507707706996859454145691638) (h0 : x % 18446744073709551616 = x0) (h1 : x / 18446744073709551616 % 18446744073709551616 = x1) (h2 : x / 340282366920938463463374607431768211456 = x2) :
    nm (x % prime) = (if x < prime then [x0, x1, x2] else [(x0 - 18446744073709551611) % 18446744073709551616, (x1 - 18446744073709551615 - bor x0 18446744073709551611) % 18446744073709551616, (x2 - 3 - bor x1 (18446744073709551615 + bor x0 18446744073709551611)) % 18446744073709551616]) ∧ bor x2 (3 + bor x1 (18446744073709551615 + bor x0 18446744073709551611)) = if x < prime then 1 else 0 := by
  by_cases hp : x < 1361129467683753853853498429727072845819
  · have e : x % prime = x := Int.emod_eq_of_lt h.1 hp
    rw [if_pos hp, if_pos hp, e]
    refine ⟨by unfold nm; rw [h0, h1, h2], ?_⟩
    unfold bor
    split <;> split <;> split <;> first | rfl | omega
  · have e : x % prime = x - 1361129467683753853853498429727072845819 := by
      show x % 1361129467683753853853498429727072845819 = _
      omega
    rw [if_neg hp, if_neg hp, e]
    unfold nm bor
    refine ⟨List.cons_eq_cons.2 ⟨by omega, List.cons_eq_cons.2 ⟨?_, List.cons_eq_cons.2 ⟨?_, rfl⟩⟩⟩, ?_⟩
    · split <;> omega
    · split <;> split <;> omega
    · split <;> split <;> split <;> first | rfl | omega
set_option maxRecDepth 20000 in
set_option maxHeartbeats 2000000 in
theorem reduced_any (x : Int) (hx : 0 ≤ x ∧ x < 2722258935367507707706996859454145691638) (w : World) :
    Calls Try.prog 20 #[.agg (u64s (nm x)).toArray] w fun e w' => e = .returned (.agg (u64s (nm (x % prime))).toArray) ∧ Below w.heap.size w w' := by
  obtain ⟨x0, h0⟩ : ∃ z, x % 18446744073709551616 = z := ⟨_, rfl⟩
  obtain ⟨x1, h1⟩ : ∃ z, x / 18446744073709551616 % 18446744073709551616 = z := ⟨_, rfl⟩
  obtain ⟨x2, h2⟩ : ∃ z, x / 340282366920938463463374607431768211456 = z := ⟨_, rfl⟩
  obtain ⟨n1, n2⟩ := red_words x x0 x1 x2 hx h0 h1 h2
  have en : nm x = [x0, x1, x2] := by unfold nm; rw [h0, h1, h2]
  have k0 : Word x0 := ⟨by omega, by omega⟩
  have k1 : Word x1 := ⟨by omega, by omega⟩
  have k2 : Word x2 := ⟨by omega, by omega⟩
  obtain ⟨c1, hc1⟩ : ∃ z, bor x0 18446744073709551611 = z := ⟨_, rfl⟩
  obtain ⟨c2, hc2⟩ : ∃ z, bor x1 (18446744073709551615 + c1) = z := ⟨_, rfl⟩
  obtain ⟨c3, hc3⟩ : ∃ z, bor x2 (3 + c2) = z := ⟨_, rfl⟩
  obtain ⟨y0, hy0⟩ : ∃ z, (x0 - 18446744073709551611) % 18446744073709551616 = z := ⟨_, rfl⟩
  obtain ⟨y1, hy1⟩ : ∃ z, (x1 - 18446744073709551615 - c1) % 18446744073709551616 = z := ⟨_, rfl⟩
  obtain ⟨y2, hy2⟩ : ∃ z, (x2 - 3 - c2) % 18446744073709551616 = z := ⟨_, rfl⟩
  rw [hc1, hc2] at n1 n2
  rw [hc3] at n2
  rw [hy0, hy1, hy2] at n1
  have d1 := bor_bd x0 18446744073709551611
  have d2 := bor_bd x1 (18446744073709551615 + c1)
  have d3 := bor_bd x2 (3 + c2)
  rw [hc1] at d1
  rw [hc2] at d2
  rw [hc3] at d3
  have S0 : ∀ w, (callFunc 32 #[.int .u64 x0, .int .u64 18446744073709551611, .int .u64 0]).run Try.prog w = .ok (.value (.tuple #[.int .u64 y0, .int .u64 c1])) w := by
    intro w; rw [sub64_0 x0 _ k0 (by decide), hc1, hy0]
  have S1 : ∀ w, (callFunc 32 #[.int .u64 x1, .int .u64 18446744073709551615, .int .u64 c1]).run Try.prog w = .ok (.value (.tuple #[.int .u64 y1, .int .u64 c2])) w := by
    intro w; rw [sub64 x1 _ c1 k1 (by decide) d1.1 d1.2, hc2, hy1]
  have S2 : ∀ w, (callFunc 32 #[.int .u64 x2, .int .u64 3, .int .u64 c2]).run Try.prog w = .ok (.value (.tuple #[.int .u64 y2, .int .u64 c3])) w := by
    intro w; rw [sub64 x2 _ c2 k2 (by decide) d2.1 d2.2, hc3, hy2]
  have j0 : Word y0 := ⟨by omega, by omega⟩
  have j1 : Word y1 := ⟨by omega, by omega⟩
  have j2 : Word y2 := ⟨by omega, by omega⟩
  obtain ⟨m, hm⟩ : ∃ z, mk (c3 % 2 == 1) = z := ⟨_, rfl⟩
  have em : [pk m x0 y0, pk m x1 y1, pk m x2 y2] = nm (x % prime) := by
    rw [n1, ← hm, n2]
    by_cases hp : x < prime
    · rw [if_pos hp, if_pos hp]
      show [pk 18446744073709551615 x0 y0, pk 18446744073709551615 x1 y1, pk 18446744073709551615 x2 y2] = _
      rw [pk_ones _ _ k0 j0, pk_ones _ _ k1 j1, pk_ones _ _ k2 j2]
    · rw [if_neg hp, if_neg hp]
      show [pk 0 x0 y0, pk 0 x1 y1, pk 0 x2 y2] = _
      rw [pk_zero _ _ j0.1, pk_zero _ _ j1.1, pk_zero _ _ j2.1]
  have km : Word m := by rw [← hm]; exact mk_bd _
  obtain ⟨p0, hp0⟩ : ∃ z, pk m x0 y0 = z := ⟨_, rfl⟩
  obtain ⟨p1, hp1⟩ : ∃ z, pk m x1 y1 = z := ⟨_, rfl⟩
  obtain ⟨p2, hp2⟩ : ∃ z, pk m x2 y2 = z := ⟨_, rfl⟩
  have CC : Hid ((∀ w, Calls Try.prog 34 #[.int .u64 m, .int .u64 x0, .int .u64 y0] w fun e w' => e = .returned (.int .u64 p0) ∧ w = w') ∧ (∀ w, Calls Try.prog 34 #[.int .u64 m, .int .u64 x1, .int .u64 y1] w fun e w' => e = .returned (.int .u64 p1) ∧ w = w') ∧ (∀ w, Calls Try.prog 34 #[.int .u64 m, .int .u64 x2, .int .u64 y2] w fun e w' => e = .returned (.int .u64 p2) ∧ w = w') ∧ (∀ w, Calls Try.prog 33 #[.int .u64 c3] w fun e w' => e = .returned (.int .u64 m) ∧ w = w')) := by
    rw [← hp0, ← hp1, ← hp2]
    refine ⟨pick_any _ _ _ km k0 j0, pick_any _ _ _ km k1 j1, pick_any _ _ _ km k2 j2, ?_⟩
    have := bit_any c3 ⟨d3.1, by omega⟩
    rwa [hm] at this
  rw [en, ← em, hp0, hp1, hp2]
  clear hx h0 h1 h2 n1 n2 en k0 k1 k2 hc1 hc2 hc3 hy0 hy1 hy2 d1 d2 d3 j0 j1 j2 hm em km hp0 hp1 hp2
  go_enter Try.func20, Try.ntmps20
  go_wp2_with (first | (refine wpList_box_new rfl 55 _ rfl (u64s [x0, x1, x2]) rfl ?_; intro z1 b1 s1 l1) | (refine wpList_alloc_new rfl 55 rfl 3 _ zeroNumber ?_; intro z2 b2 s2 l2; have m1 := b1.later l2 (by omega); have cA : z2.cell? ⟨w.heap.size, 0, none⟩ = some (.int .u64 x0) := m1.cell 0; have cB : z2.cell? ⟨w.heap.size, 1, none⟩ = some (.int .u64 x1) := m1.cell 1; have cC : z2.cell? ⟨w.heap.size, 2, none⟩ = some (.int .u64 x2) := m1.cell 2) | (go_at_call 33; refine (CC.out.2.2.2 _).mono ?_; rintro e w' ⟨rfl, rfl⟩))
  try simp only [Act.put, List.setIfInBounds_toArray, List.set_cons_zero, List.set_cons_succ]
  have HB : Hid (Blk z2 w.heap.size 55 (u64s [x0, x1, x2]) ∧ Blk z2 (w.heap.size + 1) 55 (u64s [0, 0, 0]) ∧ Below w.heap.size w z2) := by
    rw [s1] at b2
    exact ⟨m1, b2, below_chain l1 l2 (by omega)⟩
  clear b1 s1 l1 b2 s2 l2 m1 cA cB cC
  refine region_inv [.val (.int .u64 m), .val (.pointer (some ⟨w.heap.size, 0, none⟩)), .val (.int .u64 x0), .val (.int .u64 y0), .val (.int .u64 p0), .val (.int .u64 m), .val (.pointer (some ⟨w.heap.size, 1, none⟩)), .val (.int .u64 x1), .val (.int .u64 y1), .val (.int .u64 p1), .val (.int .u64 m), .val (.pointer (some ⟨w.heap.size, 2, none⟩)), .val (.int .u64 x2), .val (.int .u64 y2), .val (.int .u64 p2), .val (.agg (u64s [p0, p1, p2]).toArray)] (by kernel_rfl) (by kernel_rfl) (by kernel_rfl) ?_ ?_
  · refine Steps'.cons ?_ (Steps'.cons ?_ (Steps'.cons ?_ (Steps'.cons ?_ (Steps'.cons ?_ (Steps'.cons ?_ (Steps'.cons ?_ (Steps'.cons ?_ (Steps'.cons ?_ (Steps'.cons ?_ (Steps'.cons ?_ (Steps'.cons ?_ (Steps'.cons ?_ (Steps'.cons ?_ (Steps'.cons ?_ (Steps'.cons ?_ (Steps'.one _ _ _ _ _ _ _))))))))))))))))
    · intro ax wx hb hs hd
      have h7 : ax.tmps.getD 7 undef = (.int .u64 m) := hs 7 (by kernel_rfl)
      refine Does.value (.int .u64 m) ?_ rfl
      go_simp
    · intro ax wx hb hs hd
      have h1 : ax.tmps.getD 1 undef = (.pointer (some ⟨w.heap.size, 0, none⟩)) := hs 1 (by kernel_rfl)
      refine Does.value (.pointer (some ⟨w.heap.size, 0, none⟩)) ?_ rfl
      go_simp
    · intro ax wx hb hs hd
      have h31 : ax.tmps.getD 31 undef = (.pointer (some ⟨w.heap.size, 0, none⟩)) := hd 1 31 rfl (by kernel_rfl) (by decide)
      have cx : wx.cell? ⟨w.heap.size, 0, none⟩ = some (.int .u64 x0) := (Blk.later HB.out.1 hb (Blk.lt HB.out.1)).cell 0
      refine Does.value (.int .u64 x0) ?_ rfl
      go_simp
    · intro ax wx hb hs hd
      have h3 : ax.tmps.getD 3 undef = (.int .u64 y0) := hs 3 (by kernel_rfl)
      refine Does.value (.int .u64 y0) ?_ rfl
      go_simp
    · intro ax wx hb hs hd
      have h30 : ax.tmps.getD 30 undef = (.int .u64 m) := hd 0 30 rfl (by kernel_rfl) (by decide)
      have h32 : ax.tmps.getD 32 undef = (.int .u64 x0) := hd 2 32 rfl (by kernel_rfl) (by decide)
      have h33 : ax.tmps.getD 33 undef = (.int .u64 y0) := hd 3 33 rfl (by kernel_rfl) (by decide)
      refine Does.call 34 #[(.int .u64 m), (.int .u64 x0), (.int .u64 y0)] (by go_simp) ?_
      refine (CC.out.1 _).mono ?_
      rintro z w' ⟨rfl, rfl⟩
      exact ⟨_, rfl, rfl, Below.refl _ _⟩
    · intro ax wx hb hs hd
      have h7 : ax.tmps.getD 7 undef = (.int .u64 m) := hs 7 (by kernel_rfl)
      refine Does.value (.int .u64 m) ?_ rfl
      go_simp
    · intro ax wx hb hs hd
      have h1 : ax.tmps.getD 1 undef = (.pointer (some ⟨w.heap.size, 0, none⟩)) := hs 1 (by kernel_rfl)
      refine Does.value (.pointer (some ⟨w.heap.size, 1, none⟩)) ?_ rfl
      go_simp
    · intro ax wx hb hs hd
      have h36 : ax.tmps.getD 36 undef = (.pointer (some ⟨w.heap.size, 1, none⟩)) := hd 6 36 rfl (by kernel_rfl) (by decide)
      have cx : wx.cell? ⟨w.heap.size, 1, none⟩ = some (.int .u64 x1) := (Blk.later HB.out.1 hb (Blk.lt HB.out.1)).cell 1
      refine Does.value (.int .u64 x1) ?_ rfl
      go_simp
    · intro ax wx hb hs hd
      have h5 : ax.tmps.getD 5 undef = (.int .u64 y1) := hs 5 (by kernel_rfl)
      refine Does.value (.int .u64 y1) ?_ rfl
      go_simp
    · intro ax wx hb hs hd
      have h35 : ax.tmps.getD 35 undef = (.int .u64 m) := hd 5 35 rfl (by kernel_rfl) (by decide)
      have h37 : ax.tmps.getD 37 undef = (.int .u64 x1) := hd 7 37 rfl (by kernel_rfl) (by decide)
      have h38 : ax.tmps.getD 38 undef = (.int .u64 y1) := hd 8 38 rfl (by kernel_rfl) (by decide)
      refine Does.call 34 #[(.int .u64 m), (.int .u64 x1), (.int .u64 y1)] (by go_simp) ?_
      refine (CC.out.2.1 _).mono ?_
      rintro z w' ⟨rfl, rfl⟩
      exact ⟨_, rfl, rfl, Below.refl _ _⟩
    · intro ax wx hb hs hd
      have h7 : ax.tmps.getD 7 undef = (.int .u64 m) := hs 7 (by kernel_rfl)
      refine Does.value (.int .u64 m) ?_ rfl
      go_simp
    · intro ax wx hb hs hd
      have h1 : ax.tmps.getD 1 undef = (.pointer (some ⟨w.heap.size, 0, none⟩)) := hs 1 (by kernel_rfl)
      refine Does.value (.pointer (some ⟨w.heap.size, 2, none⟩)) ?_ rfl
      go_simp
    · intro ax wx hb hs hd
      have h41 : ax.tmps.getD 41 undef = (.pointer (some ⟨w.heap.size, 2, none⟩)) := hd 11 41 rfl (by kernel_rfl) (by decide)
      have cx : wx.cell? ⟨w.heap.size, 2, none⟩ = some (.int .u64 x2) := (Blk.later HB.out.1 hb (Blk.lt HB.out.1)).cell 2
      refine Does.value (.int .u64 x2) ?_ rfl
      go_simp
    · intro ax wx hb hs hd
      have h6 : ax.tmps.getD 6 undef = (.int .u64 y2) := hs 6 (by kernel_rfl)
      refine Does.value (.int .u64 y2) ?_ rfl
      go_simp
    · intro ax wx hb hs hd
      have h40 : ax.tmps.getD 40 undef = (.int .u64 m) := hd 10 40 rfl (by kernel_rfl) (by decide)
      have h42 : ax.tmps.getD 42 undef = (.int .u64 x2) := hd 12 42 rfl (by kernel_rfl) (by decide)
      have h43 : ax.tmps.getD 43 undef = (.int .u64 y2) := hd 13 43 rfl (by kernel_rfl) (by decide)
      refine Does.call 34 #[(.int .u64 m), (.int .u64 x2), (.int .u64 y2)] (by go_simp) ?_
      refine (CC.out.2.2.1 _).mono ?_
      rintro z w' ⟨rfl, rfl⟩
      exact ⟨_, rfl, rfl, Below.refl _ _⟩
    · intro ax wx hb hs hd
      have h34 : ax.tmps.getD 34 undef = (.int .u64 p0) := hd 4 34 rfl (by kernel_rfl) (by decide)
      have h39 : ax.tmps.getD 39 undef = (.int .u64 p1) := hd 9 39 rfl (by kernel_rfl) (by decide)
      have h44 : ax.tmps.getD 44 undef = (.int .u64 p2) := hd 14 44 rfl (by kernel_rfl) (by decide)
      exact Does.build 55 _ rfl #[(0, .int .u64 p0), (1, .int .u64 p1), (2, .int .u64 p2)] (by simp only [List.map_toArray, List.map_cons, List.map_nil, Act.eval, h34, h39, h44]) _ (build_three _ _ _ _)
  · intro wx hb
    refine @Ends.val _ _ _ _ _ _ _ _ _ (.int .u64 m) rfl ?_
    refine @Ends.val _ _ _ _ _ _ _ _ _ (.pointer (some ⟨w.heap.size, 0, none⟩)) rfl ?_
    refine @Ends.val _ _ _ _ _ _ _ _ _ (.int .u64 x0) rfl ?_
    refine @Ends.val _ _ _ _ _ _ _ _ _ (.int .u64 y0) rfl ?_
    refine @Ends.val _ _ _ _ _ _ _ _ _ (.int .u64 p0) rfl ?_
    refine @Ends.val _ _ _ _ _ _ _ _ _ (.int .u64 m) rfl ?_
    refine @Ends.val _ _ _ _ _ _ _ _ _ (.pointer (some ⟨w.heap.size, 1, none⟩)) rfl ?_
    refine @Ends.val _ _ _ _ _ _ _ _ _ (.int .u64 x1) rfl ?_
    refine @Ends.val _ _ _ _ _ _ _ _ _ (.int .u64 y1) rfl ?_
    refine @Ends.val _ _ _ _ _ _ _ _ _ (.int .u64 p1) rfl ?_
    refine @Ends.val _ _ _ _ _ _ _ _ _ (.int .u64 m) rfl ?_
    refine @Ends.val _ _ _ _ _ _ _ _ _ (.pointer (some ⟨w.heap.size, 2, none⟩)) rfl ?_
    refine @Ends.val _ _ _ _ _ _ _ _ _ (.int .u64 x2) rfl ?_
    refine @Ends.val _ _ _ _ _ _ _ _ _ (.int .u64 y2) rfl ?_
    refine @Ends.val _ _ _ _ _ _ _ _ _ (.int .u64 p2) rfl ?_
    refine @Ends.val _ _ _ _ _ _ _ _ _ (.agg (u64s [p0, p1, p2]).toArray) rfl ?_
    refine @Ends.one _ _ _ _ _ _ _ ?_
    simp only [Act.put, List.setIfInBounds_toArray, List.set_cons_zero, List.set_cons_succ]
    have q := HB.out.2.1
    refine last_store 55 (.tmp 2) (.tmp 45) rfl rfl _ rfl 55 _ (u64s [p0, p1, p2]) rfl (q.later hb q.lt) rfl sizeNumber (u64s_one _) ?_
    intro x9 y9 s9 k9
    have HC : Hid (Below w.heap.size w x9) := below_kept (below_chain HB.out.2.2 hb (by have := HB.out.2.2.size; omega)) k9 (by have := HB.out.2.2.size; have := hb.size; omega) (fun j hj => by omega)
    clear hb k9 s9 q
    go_wp2_with fail
    exact ret_blk rfl (w.heap.size + 1) _ _ rfl y9 Try.underlying55 rfl sizeNumber rfl ⟨rfl, HC.out⟩
end Go.Proofs.Ytlaegbabpiepeaa
