/- Joined by program: what the theorem reaches. -/
import Derived.Test.YtpanagghppdiiaaGreatJA
import Derived.Test.YtpanagghppdiiaaGreatJC
import Derived.Test.YtpanagghppdiiaaGreatJD
namespace Go.Proofs.YtpanagghppdiiaaGreat
open Go.RowKit
set_option linter.unusedVariables false
set_option linter.unusedSimpArgs false
set_option maxRecDepth 20000
set_option maxHeartbeats 4000000
theorem build_three (a b c : Int) (w : World) : (Instr.build 247 #[(0, .int .u64 a), (1, .int .u64 b), (2, .int .u64 c)]).run Tryz.prog w = .ok (.agg (u64s [a, b, c]).toArray) w := by kernel_rfl
theorem build_two3 (a b : Int) (w : World) : (Instr.build 247 #[(0, .int .u64 a), (1, .int .u64 b)]).run Tryz.prog w = .ok (.agg (u64s [a, b, 0]).toArray) w := by kernel_rfl
theorem fold_words (v w0 w1 w2 w3 : Int) (h : 0 ≤ v ∧ v < 57896044618658097711785492504343953926634992332820282019728792003956564819968) (h0 : v % 18446744073709551616 = w0) (h1 : v / 18446744073709551616 % 18446744073709551616 = w1) (h2 : v / 340282366920938463463374607431768211456 % 18446744073709551616 = w2) (h3 : v / 6277101735386680763835789423207666416102355444464034512896 = w3) :
  nm (v % 1361129467683753853853498429727072845824) = [w0, w1, w2 % 4] ∧ nm (4 * (v / 1361129467683753853853498429727072845824)) = [w2 - w2 % 4, w3, 0] ∧ nm (v / 1361129467683753853853498429727072845824) = [w2 / 4 + w3 % 4 * 4611686018427387904, w3 / 4, 0] := by
 unfold nm
 refine ⟨List.cons_eq_cons.2 ⟨by omega, List.cons_eq_cons.2 ⟨by omega, List.cons_eq_cons.2 ⟨by omega, rfl⟩⟩⟩, List.cons_eq_cons.2 ⟨by omega, List.cons_eq_cons.2 ⟨by omega, List.cons_eq_cons.2 ⟨by omega, rfl⟩⟩⟩, List.cons_eq_cons.2 ⟨by omega, List.cons_eq_cons.2 ⟨by omega, List.cons_eq_cons.2 ⟨by omega, rfl⟩⟩⟩⟩
theorem folded_any (v : Int) (hv : 0 ≤ v ∧ v < 57896044618658097711785492504343953926634992332820282019728792003956564819968) (w : World) :
  Calls Tryz.prog 168 #[.agg (u64s (q4 v)).toArray] w fun e w' => e = .returned (.agg (u64s (nm (fold5 v))).toArray) ∧ Below w.heap.size w w' := by
 obtain ⟨w0, h0⟩ : ∃ z, v % 18446744073709551616 = z := ⟨_, rfl⟩
 obtain ⟨w1, h1⟩ : ∃ z, v / 18446744073709551616 % 18446744073709551616 = z := ⟨_, rfl⟩
 obtain ⟨w2, h2⟩ : ∃ z, v / 340282366920938463463374607431768211456 % 18446744073709551616 = z := ⟨_, rfl⟩
 obtain ⟨w3, h3⟩ : ∃ z, v / 6277101735386680763835789423207666416102355444464034512896 = z := ⟨_, rfl⟩
 obtain ⟨n1, n2, n3⟩ := fold_words v w0 w1 w2 w3 hv h0 h1 h2 h3
 have CC : Hid ((∀ w, Calls Tryz.prog 169 #[.agg (u64s [w0, w1, w2 % 4]).toArray, .agg (u64s [w2 - w2 % 4, w3, 0]).toArray] w fun e w' => e = .returned (.agg (u64s (nm (v % 1361129467683753853853498429727072845824 + 4 * (v / 1361129467683753853853498429727072845824)))).toArray) ∧ Below w.heap.size w w') ∧ (∀ w, Calls Tryz.prog 169 #[.agg (u64s (nm (v % 1361129467683753853853498429727072845824 + 4 * (v / 1361129467683753853853498429727072845824)))).toArray, .agg (u64s [w2 / 4 + w3 % 4 * 4611686018427387904, w3 / 4, 0]).toArray] w fun e w' => e = .returned (.agg (u64s (nm (fold5 v))).toArray) ∧ Below w.heap.size w w')) := by
  rw [← n1, ← n2, ← n3]
  refine ⟨nplus_any _ _ (by omega) (by omega) (by omega), ?_⟩
  have e : fold5 v = v % 1361129467683753853853498429727072845824 + 4 * (v / 1361129467683753853853498429727072845824) + v / 1361129467683753853853498429727072845824 := by unfold fold5; omega
  rw [e]
  exact nplus_any _ _ (by omega) (by omega) (by omega)
 have eq : q4 v = [w0, w1, w2, w3] := by unfold q4; rw [h0, h1, h2, h3]
 have b1 := and3 w2 (by omega) (by omega)
 have b2 := andNot3 w2 (by omega) (by omega)
 have b3 : IntKind.u64.wrap (w3 * 4611686018427387904) = w3 % 4 * 4611686018427387904 := by rw [IntKind.wrap_u64]; omega
 have b4 := or_high (w2 / 4) (w3 % 4) (by omega) (by omega)
 obtain ⟨F, hF⟩ : ∃ z, nm (fold5 v) = z := ⟨_, rfl⟩
 have HF : Hid (F.length = 3) := by rw [← hF]; rfl
 rw [eq]
 rw [hF] at CC ⊢
 obtain ⟨M, hM⟩ : ∃ z, nm (v % 1361129467683753853853498429727072845824 + 4 * (v / 1361129467683753853853498429727072845824)) = z := ⟨_, rfl⟩
 rw [hM] at CC
 clear hv h0 h1 h2 h3 n1 n2 n3 eq hF hM
 go_enter Tryz.func168, Tryz.ntmps168
 go_wp2_with (first | (refine wpList_box_new rfl 255 _ rfl (u64s [w0, w1, w2, w3]) rfl ?_; intro x1 b1 s1 l1) | ((with_reducible show wpList _ _ _ _ _ x1); refine wpList_alloc_new rfl 247 rfl 3 _ zeroNumber ?_; intro x2 y2 s2 l2; have m1 := b1.later l2 (by omega); have cA : x2.cell? ⟨w.heap.size, 0, none⟩ = some (.int .u64 w0) := m1.cell 0; have cB : x2.cell? ⟨w.heap.size, 1, none⟩ = some (.int .u64 w1) := m1.cell 1; have cC : x2.cell? ⟨w.heap.size, 2, none⟩ = some (.int .u64 w2) := m1.cell 2; have cD : x2.cell? ⟨w.heap.size, 3, none⟩ = some (.int .u64 w3) := m1.cell 3) | ((with_reducible show wpList _ _ _ _ _ x2); refine wpList_build rfl 247 _ rfl #[(0, .int .u64 w0), (1, .int .u64 w1), (2, .int .u64 (w2 % 4))] (by simp [Act.eval]) _ (build_three _ _ _ _) ?_) | ((with_reducible show wpList _ _ _ _ _ x2); refine wpList_alloc_new rfl 247 rfl 3 _ zeroNumber ?_; intro x3 y3 s3 l3) | ((with_reducible show wpList _ _ _ _ _ x3); refine wpList_store_blk rfl 247 247 _ _ rfl _ rfl _ (u64s [w0, w1, w2 % 4]) rfl y3 rfl sizeNumber (u64s_one _) ?_; intro x4 y4 s4 k4; have m4 := (m1.later l3 (by omega)).kept k4 (by omega); have cE : x4.cell? ⟨w.heap.size, 2, none⟩ = some (.int .u64 w2) := m4.cell 2; have cF : x4.cell? ⟨w.heap.size, 3, none⟩ = some (.int .u64 w3) := m4.cell 3) | ((with_reducible show wpList _ _ _ _ _ x4); refine wpList_build rfl 247 _ rfl #[(0, .int .u64 (w2 - w2 % 4)), (1, .int .u64 w3)] (by simp [Act.eval]) _ (build_two3 _ _ _) ?_) | ((with_reducible show wpList _ _ _ _ _ x4); refine wpList_alloc_new rfl 247 rfl 3 _ zeroNumber ?_; intro x5 y5 s5 l5) | ((with_reducible show wpList _ _ _ _ _ x5); refine wpList_store_blk rfl 247 247 _ _ rfl _ rfl _ (u64s [w2 - w2 % 4, w3, 0]) rfl y5 rfl sizeNumber (u64s_one _) ?_; intro x6 y6 s6 k6; have m6 := (m4.later l5 (by omega)).kept k6 (by omega); have cG : x6.cell? ⟨w.heap.size, 2, none⟩ = some (.int .u64 w2) := m6.cell 2; have cH : x6.cell? ⟨w.heap.size, 3, none⟩ = some (.int .u64 w3) := m6.cell 3) | ((with_reducible show wpList _ _ _ _ _ x6); refine wpList_build rfl 247 _ rfl #[(0, .int .u64 (w2 / 4 + w3 % 4 * 4611686018427387904)), (1, .int .u64 (w3 / 4))] (by simp [Act.eval]) _ (build_two3 _ _ _) ?_) | ((with_reducible show wpList _ _ _ _ _ x6); refine wpList_alloc_new rfl 247 rfl 3 _ zeroNumber ?_; intro x7 y7 s7 l7) | ((with_reducible show wpList _ _ _ _ _ x7); refine wpList_store_blk rfl 247 247 _ _ rfl _ rfl _ (u64s [w2 / 4 + w3 % 4 * 4611686018427387904, w3 / 4, 0]) rfl y7 rfl sizeNumber (u64s_one _) ?_; intro x8 y8 s8 k8))
 try simp only [Act.put, sqA, sqB, sqC]
 obtain ⟨G, hG⟩ : ∃ G, x6.heap.size = G := ⟨_, rfl⟩
 rw [hG] at y8 k8 ⊢
 have HB : Hid (Blk x8 (w.heap.size + 1 + 1) 247 (u64s [w0, w1, w2 % 4]) ∧ Blk x8 (w.heap.size + 1 + 1 + 1) 247 (u64s [w2 - w2 % 4, w3, 0]) ∧ Blk x8 G 247 (u64s [w2 / 4 + w3 % 4 * 4611686018427387904, w3 / 4, 0]) ∧ Blk x8 (w.heap.size + 1) 247 (u64s [0, 0, 0]) ∧ Below w.heap.size w x8) := by
  rw [s1] at y2
  rw [s2, s1] at y4
  rw [s4, s3, s2, s1] at y6
  exact ⟨(((y4.later l5 (by omega)).kept k6 (by omega)).later l7 (by omega)).kept k8 (by omega), (y6.later l7 (by omega)).kept k8 (by omega), y8, (((((y2.later l3 (by omega)).kept k4 (by omega)).later l5 (by omega)).kept k6 (by omega)).later l7 (by omega)).kept k8 (by omega), below_kept (below_chain (below_kept (below_chain (below_kept (below_chain (below_chain l1 l2 (by omega)) l3 (by omega)) k4 (by omega) (fun j hj => by omega)) l5 (by omega)) k6 (by omega) (fun j hj => by omega)) l7 (by omega)) k8 (by omega) (fun j hj => by omega)⟩
 clear b1 s1 l1 y2 s2 l2 m1 cA cB cC cD y3 s3 l3 y4 s4 k4 m4 cE cF y5 s5 l5 y6 s6 k6 m6 cG cH y7 s7 l7 y8 s8 k8 hG
 refine region_inv [.val (.agg (u64s [w0, w1, w2 % 4]).toArray), .val (.agg (u64s [w2 - w2 % 4, w3, 0]).toArray), .val (.agg (u64s M).toArray), .val (.agg (u64s [w2 / 4 + w3 % 4 * 4611686018427387904, w3 / 4, 0]).toArray), .val (.agg (u64s F).toArray)] (by kernel_rfl) (by kernel_rfl) (by kernel_rfl) ?_ ?_
 ·refine Steps'.cons ?_ (Steps'.cons ?_ (Steps'.cons ?_ (Steps'.cons ?_ (Steps'.cons ?_ (Steps'.one _ _ _ _ _ _ _)))))
  ·intro ax wx hb hs hd
   have h3 : ax.tmps.getD 3 undef = (.pointer (some ⟨w.heap.size + 1 + 1, 0, none⟩)) := hs 3 (by kernel_rfl)
   exact Does.load 247 (.tmp 3) rfl (w.heap.size + 1 + 1) 0 h3 (u64s [w0, w1, w2 % 4]) _ ((Blk.later HB.out.1 hb (Blk.lt HB.out.1)).whole) Tryz.underlying247 rfl sizeNumber
  ·intro ax wx hb hs hd
   have h4 : ax.tmps.getD 4 undef = (.pointer (some ⟨w.heap.size + 1 + 1 + 1, 0, none⟩)) := hs 4 (by kernel_rfl)
   exact Does.load 247 (.tmp 4) rfl (w.heap.size + 1 + 1 + 1) 0 h4 (u64s [w2 - w2 % 4, w3, 0]) _ ((Blk.later HB.out.2.1 hb (Blk.lt HB.out.2.1)).whole) Tryz.underlying247 rfl sizeNumber
  ·intro ax wx hb hs hd
   have h31 := sqV (hd 0 31 rfl (by kernel_rfl) (by decide))
   have h32 := sqV (hd 1 32 rfl (by kernel_rfl) (by decide))
   refine Does.call 169 #[(.agg (u64s [w0, w1, w2 % 4]).toArray), (.agg (u64s [w2 - w2 % 4, w3, 0]).toArray)] (by go_simp) ?_
   refine (CC.out.1 _).mono ?_
   rintro z w' ⟨rfl, l⟩
   exact ⟨_, rfl, rfl, l⟩
  ·intro ax wx hb hs hd
   have h5 : ax.tmps.getD 5 undef = (.pointer (some ⟨G, 0, none⟩)) := hs 5 (by kernel_rfl)
   exact Does.load 247 (.tmp 5) rfl G 0 h5 (u64s [w2 / 4 + w3 % 4 * 4611686018427387904, w3 / 4, 0]) _ ((Blk.later HB.out.2.2.1 hb (Blk.lt HB.out.2.2.1)).whole) Tryz.underlying247 rfl sizeNumber
  ·intro ax wx hb hs hd
   have h33 := sqV (hd 2 33 rfl (by kernel_rfl) (by decide))
   have h34 := sqV (hd 3 34 rfl (by kernel_rfl) (by decide))
   refine Does.call 169 #[(.agg (u64s M).toArray), (.agg (u64s [w2 / 4 + w3 % 4 * 4611686018427387904, w3 / 4, 0]).toArray)] (by go_simp) ?_
   refine (CC.out.2 _).mono ?_
   rintro z w' ⟨rfl, l⟩
   exact ⟨_, rfl, rfl, l⟩
 ·intro wx hb
  iterate 5 refine @Ends.val _ _ _ _ _ _ _ _ _ _ rfl ?_
  refine @Ends.one _ _ _ _ _ _ _ ?_
  simp only [Act.put, sqA, sqB, sqC]
  have q := HB.out.2.2.2.1
  refine last_store 247 (.tmp 2) (.tmp 35) rfl rfl _ rfl 247 _ (u64s F) rfl (q.later hb q.lt) (by rw [u64s_length, HF.out]; rfl) (by rw [u64s_length, HF.out]; exact sizeNumber) (u64s_one _) ?_
  intro x9 y9 s9 k9
  have HC : Hid (Below w.heap.size w x9) := below_kept (below_chain HB.out.2.2.2.2 hb (by have := HB.out.2.2.2.2.size; omega)) k9 (by have := HB.out.2.2.2.2.size; have := hb.size; omega) (fun j hj => by omega)
  clear hb k9 s9 q
  go_wp2_with fail
  exact ret_blk rfl (w.heap.size + 1) _ _ rfl y9 Tryz.underlying247 rfl (by rw [u64s_length, HF.out]; exact sizeNumber) rfl ⟨rfl, HC.out⟩
theorem red_words (x x0 x1 x2 : Int) (h : 0 ≤ x ∧ x < 2722258935367507707706996859454145691638) (h0 : x % 18446744073709551616 = x0) (h1 : x / 18446744073709551616 % 18446744073709551616 = x1) (h2 : x / 340282366920938463463374607431768211456 = x2) :
  nm (x % prime) = (if x < prime then [x0, x1, x2] else [(x0 - 18446744073709551611) % 18446744073709551616, (x1 - 18446744073709551615 - bor x0 18446744073709551611) % 18446744073709551616, (x2 - 3 - bor x1 (18446744073709551615 + bor x0 18446744073709551611)) % 18446744073709551616]) ∧ bor x2 (3 + bor x1 (18446744073709551615 + bor x0 18446744073709551611)) = if x < prime then 1 else 0 := by
 by_cases hp : x < 1361129467683753853853498429727072845819
 ·have e : x % prime = x := Int.emod_eq_of_lt h.1 hp
  rw [if_pos hp, if_pos hp, e]
  refine ⟨by unfold nm; rw [h0, h1, h2], ?_⟩
  unfold bor
  split <;> split <;> split <;> first | rfl | omega
 ·have e : x % prime = x - 1361129467683753853853498429727072845819 := by
   show x % 1361129467683753853853498429727072845819 = _
   omega
  rw [if_neg hp, if_neg hp, e]
  unfold nm bor
  refine ⟨List.cons_eq_cons.2 ⟨by omega, List.cons_eq_cons.2 ⟨?_, List.cons_eq_cons.2 ⟨?_, rfl⟩⟩⟩, ?_⟩
  ·split <;> omega
  ·split <;> split <;> omega
  ·split <;> split <;> split <;> first | rfl | omega
theorem reduced_any (x : Int) (hx : 0 ≤ x ∧ x < 2722258935367507707706996859454145691638) (w : World) :
  Calls Tryz.prog 165 #[.agg (u64s (nm x)).toArray] w fun e w' => e = .returned (.agg (u64s (nm (x % prime))).toArray) ∧ Below w.heap.size w w' := by
 obtain ⟨x0, h0⟩ : ∃ z, x % 18446744073709551616 = z := ⟨_, rfl⟩
 obtain ⟨x1, h1⟩ : ∃ z, x / 18446744073709551616 % 18446744073709551616 = z := ⟨_, rfl⟩
 obtain ⟨x2, h2⟩ : ∃ z, x / 340282366920938463463374607431768211456 = z := ⟨_, rfl⟩
 obtain ⟨n1, n2⟩ := red_words x x0 x1 x2 hx h0 h1 h2
 have en : nm x = [x0, x1, x2] := by unfold nm; rw [h0, h1, h2]
 have k0 : Word x0 := ⟨by omega, by omega⟩
 have k1 : Word x1 := ⟨by omega, by omega⟩
 have k2 : Word x2 := ⟨by omega, by omega⟩
 obtain ⟨c1, hc1⟩ : ∃ z, bor x0 18446744073709551611 = z := ⟨_, rfl⟩
 obtain ⟨c2, hc2⟩ : ∃ z, bor x1 (18446744073709551615 + c1) = z := ⟨_, rfl⟩
 obtain ⟨c3, hc3⟩ : ∃ z, bor x2 (3 + c2) = z := ⟨_, rfl⟩
 obtain ⟨y0, hy0⟩ : ∃ z, (x0 - 18446744073709551611) % 18446744073709551616 = z := ⟨_, rfl⟩
 obtain ⟨y1, hy1⟩ : ∃ z, (x1 - 18446744073709551615 - c1) % 18446744073709551616 = z := ⟨_, rfl⟩
 obtain ⟨y2, hy2⟩ : ∃ z, (x2 - 3 - c2) % 18446744073709551616 = z := ⟨_, rfl⟩
 rw [hc1, hc2] at n1 n2
 rw [hc3] at n2
 rw [hy0, hy1, hy2] at n1
 have d1 := bor_bd x0 18446744073709551611
 have d2 := bor_bd x1 (18446744073709551615 + c1)
 have d3 := bor_bd x2 (3 + c2)
 rw [hc1] at d1
 rw [hc2] at d2
 rw [hc3] at d3
 have S0 : ∀ w, (callFunc 79 #[.int .u64 x0, .int .u64 18446744073709551611, .int .u64 0]).run Tryz.prog w = .ok (.value (.tuple #[.int .u64 y0, .int .u64 c1])) w := by
  intro w; rw [sub64_0 x0 _ k0 (by decide), hc1, hy0]
 have S1 : ∀ w, (callFunc 79 #[.int .u64 x1, .int .u64 18446744073709551615, .int .u64 c1]).run Tryz.prog w = .ok (.value (.tuple #[.int .u64 y1, .int .u64 c2])) w := by
  intro w; rw [sub64 x1 _ c1 k1 (by decide) d1.1 d1.2, hc2, hy1]
 have S2 : ∀ w, (callFunc 79 #[.int .u64 x2, .int .u64 3, .int .u64 c2]).run Tryz.prog w = .ok (.value (.tuple #[.int .u64 y2, .int .u64 c3])) w := by
  intro w; rw [sub64 x2 _ c2 k2 (by decide) d2.1 d2.2, hc3, hy2]
 have j0 : Word y0 := ⟨by omega, by omega⟩
 have j1 : Word y1 := ⟨by omega, by omega⟩
 have j2 : Word y2 := ⟨by omega, by omega⟩
 obtain ⟨m, hm⟩ : ∃ z, mk (c3 % 2 == 1) = z := ⟨_, rfl⟩
 have em : [pk m x0 y0, pk m x1 y1, pk m x2 y2] = nm (x % prime) := by
  rw [n1, ← hm, n2]
  by_cases hp : x < prime
  ·rw [if_pos hp, if_pos hp]
   show [pk 18446744073709551615 x0 y0, pk 18446744073709551615 x1 y1, pk 18446744073709551615 x2 y2] = _
   rw [pk_ones _ _ k0 j0, pk_ones _ _ k1 j1, pk_ones _ _ k2 j2]
  ·rw [if_neg hp, if_neg hp]
   show [pk 0 x0 y0, pk 0 x1 y1, pk 0 x2 y2] = _
   rw [pk_zero _ _ j0.1, pk_zero _ _ j1.1, pk_zero _ _ j2.1]
 have km : Word m := by rw [← hm]; exact mk_bd _
 obtain ⟨p0, hp0⟩ : ∃ z, pk m x0 y0 = z := ⟨_, rfl⟩
 obtain ⟨p1, hp1⟩ : ∃ z, pk m x1 y1 = z := ⟨_, rfl⟩
 obtain ⟨p2, hp2⟩ : ∃ z, pk m x2 y2 = z := ⟨_, rfl⟩
 have CC : Hid ((∀ w, Calls Tryz.prog 59 #[.int .u64 m, .int .u64 x0, .int .u64 y0] w fun e w' => e = .returned (.int .u64 p0) ∧ w = w') ∧ (∀ w, Calls Tryz.prog 59 #[.int .u64 m, .int .u64 x1, .int .u64 y1] w fun e w' => e = .returned (.int .u64 p1) ∧ w = w') ∧ (∀ w, Calls Tryz.prog 59 #[.int .u64 m, .int .u64 x2, .int .u64 y2] w fun e w' => e = .returned (.int .u64 p2) ∧ w = w') ∧ (∀ w, Calls Tryz.prog 57 #[.int .u64 c3] w fun e w' => e = .returned (.int .u64 m) ∧ w = w')) := by
  rw [← hp0, ← hp1, ← hp2]
  refine ⟨pick_any _ _ _ km k0 j0, pick_any _ _ _ km k1 j1, pick_any _ _ _ km k2 j2, ?_⟩
  have := bit_any c3 ⟨d3.1, by omega⟩
  rwa [hm] at this
 rw [en, ← em, hp0, hp1, hp2]
 clear hx h0 h1 h2 n1 n2 en k0 k1 k2 hc1 hc2 hc3 hy0 hy1 hy2 d1 d2 d3 j0 j1 j2 hm em km hp0 hp1 hp2
 go_enter Tryz.func165, Tryz.ntmps165
 go_wp2_with (first | (refine wpList_box_new rfl 247 _ rfl (u64s [x0, x1, x2]) rfl ?_; intro z1 b1 s1 l1) | (refine wpList_alloc_new rfl 247 rfl 3 _ zeroNumber ?_; intro z2 b2 s2 l2; have m1 := b1.later l2 (by omega); have cA : z2.cell? ⟨w.heap.size, 0, none⟩ = some (.int .u64 x0) := m1.cell 0; have cB : z2.cell? ⟨w.heap.size, 1, none⟩ = some (.int .u64 x1) := m1.cell 1; have cC : z2.cell? ⟨w.heap.size, 2, none⟩ = some (.int .u64 x2) := m1.cell 2) | (go_at_call 57; refine (CC.out.2.2.2 _).mono ?_; rintro e w' ⟨rfl, rfl⟩))
 try simp only [Act.put, sqA, sqB, sqC]
 have HB : Hid (Blk z2 w.heap.size 247 (u64s [x0, x1, x2]) ∧ Blk z2 (w.heap.size + 1) 247 (u64s [0, 0, 0]) ∧ Below w.heap.size w z2) := by
  rw [s1] at b2
  exact ⟨m1, b2, below_chain l1 l2 (by omega)⟩
 clear b1 s1 l1 b2 s2 l2 m1 cA cB cC
 refine region_inv [.val (.int .u64 m), .val (.pointer (some ⟨w.heap.size, 0, none⟩)), .val (.int .u64 x0), .val (.int .u64 y0), .val (.int .u64 p0), .val (.int .u64 m), .val (.pointer (some ⟨w.heap.size, 1, none⟩)), .val (.int .u64 x1), .val (.int .u64 y1), .val (.int .u64 p1), .val (.int .u64 m), .val (.pointer (some ⟨w.heap.size, 2, none⟩)), .val (.int .u64 x2), .val (.int .u64 y2), .val (.int .u64 p2), .val (.agg (u64s [p0, p1, p2]).toArray)] (by kernel_rfl) (by kernel_rfl) (by kernel_rfl) ?_ ?_
 ·refine Steps'.cons ?_ (Steps'.cons ?_ (Steps'.cons ?_ (Steps'.cons ?_ (Steps'.cons ?_ (Steps'.cons ?_ (Steps'.cons ?_ (Steps'.cons ?_ (Steps'.cons ?_ (Steps'.cons ?_ (Steps'.cons ?_ (Steps'.cons ?_ (Steps'.cons ?_ (Steps'.cons ?_ (Steps'.cons ?_ (Steps'.cons ?_ (Steps'.one _ _ _ _ _ _ _))))))))))))))))
  ·intro ax wx hb hs hd
   have h7 : ax.tmps.getD 7 undef = (.int .u64 m) := hs 7 (by kernel_rfl)
   refine Does.value (.int .u64 m) ?_ rfl
   go_simp
  ·intro ax wx hb hs hd
   have h1 : ax.tmps.getD 1 undef = (.pointer (some ⟨w.heap.size, 0, none⟩)) := hs 1 (by kernel_rfl)
   refine Does.value (.pointer (some ⟨w.heap.size, 0, none⟩)) ?_ rfl
   go_simp
  ·intro ax wx hb hs hd
   have h31 := sqV (hd 1 31 rfl (by kernel_rfl) (by decide))
   have cx : wx.cell? ⟨w.heap.size, 0, none⟩ = some (.int .u64 x0) := (Blk.later HB.out.1 hb (Blk.lt HB.out.1)).cell 0
   refine Does.value (.int .u64 x0) ?_ rfl
   go_simp
  ·intro ax wx hb hs hd
   have h3 : ax.tmps.getD 3 undef = (.int .u64 y0) := hs 3 (by kernel_rfl)
   refine Does.value (.int .u64 y0) ?_ rfl
   go_simp
  ·intro ax wx hb hs hd
   have h30 := sqV (hd 0 30 rfl (by kernel_rfl) (by decide))
   have h32 := sqV (hd 2 32 rfl (by kernel_rfl) (by decide))
   have h33 := sqV (hd 3 33 rfl (by kernel_rfl) (by decide))
   refine Does.call 59 #[(.int .u64 m), (.int .u64 x0), (.int .u64 y0)] (by go_simp) ?_
   refine (CC.out.1 _).mono ?_
   rintro z w' ⟨rfl, rfl⟩
   exact ⟨_, rfl, rfl, Below.refl _ _⟩
  ·intro ax wx hb hs hd
   have h7 : ax.tmps.getD 7 undef = (.int .u64 m) := hs 7 (by kernel_rfl)
   refine Does.value (.int .u64 m) ?_ rfl
   go_simp
  ·intro ax wx hb hs hd
   have h1 : ax.tmps.getD 1 undef = (.pointer (some ⟨w.heap.size, 0, none⟩)) := hs 1 (by kernel_rfl)
   refine Does.value (.pointer (some ⟨w.heap.size, 1, none⟩)) ?_ rfl
   go_simp
  ·intro ax wx hb hs hd
   have h36 := sqV (hd 6 36 rfl (by kernel_rfl) (by decide))
   have cx : wx.cell? ⟨w.heap.size, 1, none⟩ = some (.int .u64 x1) := (Blk.later HB.out.1 hb (Blk.lt HB.out.1)).cell 1
   refine Does.value (.int .u64 x1) ?_ rfl
   go_simp
  ·intro ax wx hb hs hd
   have h5 : ax.tmps.getD 5 undef = (.int .u64 y1) := hs 5 (by kernel_rfl)
   refine Does.value (.int .u64 y1) ?_ rfl
   go_simp
  ·intro ax wx hb hs hd
   have h35 := sqV (hd 5 35 rfl (by kernel_rfl) (by decide))
   have h37 := sqV (hd 7 37 rfl (by kernel_rfl) (by decide))
   have h38 := sqV (hd 8 38 rfl (by kernel_rfl) (by decide))
   refine Does.call 59 #[(.int .u64 m), (.int .u64 x1), (.int .u64 y1)] (by go_simp) ?_
   refine (CC.out.2.1 _).mono ?_
   rintro z w' ⟨rfl, rfl⟩
   exact ⟨_, rfl, rfl, Below.refl _ _⟩
  ·intro ax wx hb hs hd
   have h7 : ax.tmps.getD 7 undef = (.int .u64 m) := hs 7 (by kernel_rfl)
   refine Does.value (.int .u64 m) ?_ rfl
   go_simp
  ·intro ax wx hb hs hd
   have h1 : ax.tmps.getD 1 undef = (.pointer (some ⟨w.heap.size, 0, none⟩)) := hs 1 (by kernel_rfl)
   refine Does.value (.pointer (some ⟨w.heap.size, 2, none⟩)) ?_ rfl
   go_simp
  ·intro ax wx hb hs hd
   have h41 := sqV (hd 11 41 rfl (by kernel_rfl) (by decide))
   have cx : wx.cell? ⟨w.heap.size, 2, none⟩ = some (.int .u64 x2) := (Blk.later HB.out.1 hb (Blk.lt HB.out.1)).cell 2
   refine Does.value (.int .u64 x2) ?_ rfl
   go_simp
  ·intro ax wx hb hs hd
   have h6 : ax.tmps.getD 6 undef = (.int .u64 y2) := hs 6 (by kernel_rfl)
   refine Does.value (.int .u64 y2) ?_ rfl
   go_simp
  ·intro ax wx hb hs hd
   have h40 := sqV (hd 10 40 rfl (by kernel_rfl) (by decide))
   have h42 := sqV (hd 12 42 rfl (by kernel_rfl) (by decide))
   have h43 := sqV (hd 13 43 rfl (by kernel_rfl) (by decide))
   refine Does.call 59 #[(.int .u64 m), (.int .u64 x2), (.int .u64 y2)] (by go_simp) ?_
   refine (CC.out.2.2.1 _).mono ?_
   rintro z w' ⟨rfl, rfl⟩
   exact ⟨_, rfl, rfl, Below.refl _ _⟩
  ·intro ax wx hb hs hd
   have h34 := sqV (hd 4 34 rfl (by kernel_rfl) (by decide))
   have h39 := sqV (hd 9 39 rfl (by kernel_rfl) (by decide))
   have h44 := sqV (hd 14 44 rfl (by kernel_rfl) (by decide))
   exact Does.build 247 _ rfl #[(0, .int .u64 p0), (1, .int .u64 p1), (2, .int .u64 p2)] (by simp only [List.map_toArray, List.map_cons, List.map_nil, Act.eval, h34, h39, h44]) _ (build_three _ _ _ _)
 ·intro wx hb
  iterate 16 refine @Ends.val _ _ _ _ _ _ _ _ _ _ rfl ?_
  refine @Ends.one _ _ _ _ _ _ _ ?_
  simp only [Act.put, sqA, sqB, sqC]
  have q := HB.out.2.1
  refine last_store 247 (.tmp 2) (.tmp 45) rfl rfl _ rfl 247 _ (u64s [p0, p1, p2]) rfl (q.later hb q.lt) rfl sizeNumber (u64s_one _) ?_
  intro x9 y9 s9 k9
  have HC : Hid (Below w.heap.size w x9) := below_kept (below_chain HB.out.2.2 hb (by have := HB.out.2.2.size; omega)) k9 (by have := HB.out.2.2.size; have := hb.size; omega) (fun j hj => by omega)
  clear hb k9 s9 q
  go_wp2_with fail
  exact ret_blk rfl (w.heap.size + 1) _ _ rfl y9 Tryz.underlying247 rfl sizeNumber rfl ⟨rfl, HC.out⟩
def step5 (r a c : Int) : Int := fold5 ((a + c) * r)
def accK (r : Int) (m : List Int) : Nat → Int
 | 0 => 0
 | k + 1 => step5 r (accK r m k) (le ((m.drop (16 * k)).take 16) + 340282366920938463463374607431768211456)
def acc (r : Int) (m : List Int) : Int := accK r m (m.length / 16)
def rest16 (m : List Int) : List Int := m.drop (16 * (m.length / 16))
theorem rest16_length (m : List Int) : (rest16 m).length = m.length % 16 := by unfold rest16; rw [List.length_drop]; omega
theorem rest16_bytes {m : List Int} (h : Bytes m) : Bytes (rest16 m) := bytes_drop h _
theorem accK_app (r : Int) (m x : List Int) : ∀ k, 16 * k ≤ m.length → accK r (m ++ x) k = accK r m k
 | 0, _ => rfl
 | k + 1, h => by
  rw [accK, accK, accK_app r m x k (by omega)]
  have e : ((m ++ x).drop (16 * k)).take 16 = (m.drop (16 * k)).take 16 := by
   rw [List.drop_append_of_le_length (by omega), List.take_append_of_le_length (by rw [List.length_drop]; omega)]
  rw [e]
theorem acc_less (r : Int) (m x : List Int) (h : m.length % 16 + x.length < 16) : acc r (m ++ x) = acc r m ∧ rest16 (m ++ x) = rest16 m ++ x := by
 have e : (m ++ x).length / 16 = m.length / 16 := by rw [List.length_append]; omega
 constructor
 ·rw [acc, e, accK_app r m x _ (by omega)]; rfl
 ·rw [rest16, e, List.drop_append_of_le_length (by omega)]; rfl
theorem acc_full (r : Int) (m x : List Int) (h : m.length % 16 + x.length = 16) : acc r (m ++ x) = step5 r (acc r m) (le (rest16 m ++ x) + 340282366920938463463374607431768211456) ∧ rest16 (m ++ x) = [] := by
 have e : (m ++ x).length / 16 = m.length / 16 + 1 := by rw [List.length_append]; omega
 constructor
 ·rw [acc, e, accK, accK_app r m x _ (by omega)]
  have e2 : ((m ++ x).drop (16 * (m.length / 16))).take 16 = rest16 m ++ x := by
   rw [List.drop_append_of_le_length (by omega), List.take_of_length_le (by rw [List.length_append, List.length_drop]; omega)]; rfl
  rw [e2]; rfl
 ·rw [rest16, e]
  exact List.drop_eq_nil_of_le (by rw [List.length_append]; omega)
theorem prod_bd (x r : Int) (hx : 0 ≤ x ∧ x < 2722258935367507707706996859454145691648) (hr : 0 ≤ r ∧ r < 21267647932558653966460912964485513216) : 0 ≤ x * r ∧ x * r < 57896044618658097711785492504343953926634992332820282019728792003956564819968 := by
 refine ⟨Int.mul_nonneg hx.1 hr.1, ?_⟩
 have h1 := Int.mul_le_mul (show x ≤ 2722258935367507707706996859454145691647 by omega) (show r ≤ 21267647932558653966460912964485513215 by omega) hr.1 (by decide)
 have h2 : (2722258935367507707706996859454145691647 : Int) * 21267647932558653966460912964485513215 < 57896044618658097711785492504343953926634992332820282019728792003956564819968 := by decide
 omega
theorem step5_bd (r a c : Int) (hr : 0 ≤ r ∧ r < 21267647932558653966460912964485513216) (ha : 0 ≤ a ∧ a < 1701411834604692317316873037158841057280) (hc : 0 ≤ c ∧ c < 680564733841876926926749214863536422912) : 0 ≤ step5 r a c ∧ step5 r a c < 1701411834604692317316873037158841057280 := by
 have := prod_bd (a + c) r ⟨by omega, by omega⟩ hr
 exact fold5_bd _ this.1 this.2
theorem le16_bd (l : List Int) (hb : Bytes l) (hl : l.length ≤ 16) : 0 ≤ le l ∧ le l < 340282366920938463463374607431768211456 := by
 have h := le_bd l hb
 have : (256 : Int) ^ l.length ≤ 256 ^ 16 := by
  show ((256 : Nat) : Int) ^ _ ≤ ((256 : Nat) : Int) ^ 16
  rw [← Int.natCast_pow, ← Int.natCast_pow]
  exact Int.ofNat_le.2 (Nat.pow_le_pow_right (by decide) hl)
 have e : (256 : Int) ^ 16 = 340282366920938463463374607431768211456 := by decide
 omega
theorem accK_bd (r : Int) (m : List Int) (hr : 0 ≤ r ∧ r < 21267647932558653966460912964485513216) (hm : Bytes m) : ∀ k, 0 ≤ accK r m k ∧ accK r m k < 1701411834604692317316873037158841057280
 | 0 => ⟨by rw [accK]; decide, by rw [accK]; decide⟩
 | k + 1 => by
  rw [accK]
  have h := le16_bd ((m.drop (16 * k)).take 16) (bytes_take (bytes_drop hm _) _) (by rw [List.length_take]; omega)
  exact step5_bd r _ _ hr (accK_bd r m hr hm k) ⟨by omega, by omega⟩
theorem acc_bd (r : Int) (m : List Int) (hr : 0 ≤ r ∧ r < 21267647932558653966460912964485513216) (hm : Bytes m) : 0 ≤ acc r m ∧ acc r m < 1701411834604692317316873037158841057280 := accK_bd r m hr hm _
def zs0 (k : Nat) : List Int := List.replicate k 0
theorem zs0_length (k : Nat) : (zs0 k).length = k := List.length_replicate
theorem zs0_bytes (k : Nat) : Bytes (zs0 k) := fun z hz => by
 obtain ⟨_, rfl⟩ := List.mem_replicate.1 hz
 decide
def openB (m : List Int) : List Int := rest16 m ++ zs0 (16 - m.length % 16)
def lastB (m : List Int) : List Int := rest16 m ++ (1 :: zs0 (15 - m.length % 16))
theorem openB_length (m : List Int) : (openB m).length = 16 := by rw [openB, List.length_append, rest16_length, zs0_length]; omega
theorem lastB_length (m : List Int) : (lastB m).length = 16 := by rw [lastB, List.length_append, rest16_length, List.length_cons, zs0_length]; omega
theorem lastB_bytes {m : List Int} (h : Bytes m) : Bytes (lastB m) := bytes_app (rest16_bytes h) (fun z hz => by
 rcases List.mem_cons.1 hz with rfl | hz
 ·decide
 ·exact zs0_bytes _ z hz)
theorem open_set (m : List Int) : (openB m).set (m.length % 16) 1 = lastB m := by
 have hl := rest16_length m
 rw [openB, lastB, List.set_append_right _ _ (by omega), hl, Nat.sub_self]
 have e : zs0 (16 - m.length % 16) = 0 :: zs0 (15 - m.length % 16) := by
  rw [zs0, zs0, show 16 - m.length % 16 = 15 - m.length % 16 + 1 by omega, List.replicate_succ]
 rw [e, List.set_cons_zero]
def accE (r : Int) (m : List Int) : Int := if 0 < m.length % 16 then step5 r (acc r m) (le (lastB m)) else acc r m
theorem accE_bd (r : Int) (m : List Int) (hr : 0 ≤ r ∧ r < 21267647932558653966460912964485513216) (hm : Bytes m) : 0 ≤ accE r m ∧ accE r m < 1701411834604692317316873037158841057280 := by
 unfold accE
 split
 ·have h := le16_bd (lastB m) (lastB_bytes hm) (by rw [lastB_length]; omega)
  exact step5_bd r _ _ hr (acc_bd r m hr hm) ⟨h.1, by omega⟩
 ·exact acc_bd r m hr hm
def codeN (r s : Int) (m : List Int) : Int := (accE r m % prime % 340282366920938463463374607431768211456 + s) % 340282366920938463463374607431768211456
def codeB (r s : Int) (m : List Int) : List Int := leB 16 (codeN r s m)
theorem codeB_length (r s : Int) (m : List Int) : (codeB r s m).length = 16 := leB_length _ _
theorem codeB_bytes (r s : Int) (m : List Int) : Bytes (codeB r s m) := leB_bytes _ _
theorem leB_split (a b : Nat) (v : Int) : leB a (v % 256 ^ a) ++ leB b (v / 256 ^ a) = leB (a + b) v := by
 induction a generalizing v with
 | zero => simp [leB]
 | succ a ih =>
  have hp : (0 : Int) < 256 ^ a := Int.pow_pos (by decide)
  rw [show a + 1 + b = (a + b) + 1 by omega, leB, leB, List.cons_append]
  have e : (256 : Int) ^ (a + 1) = 256 * 256 ^ a := by rw [Int.pow_succ, Int.mul_comm]
  have e1 : v % 256 ^ (a + 1) % 256 = v % 256 := by
   rw [e]; exact Int.emod_emod_of_dvd v ⟨_, rfl⟩
  have e2 : v % 256 ^ (a + 1) / 256 = v / 256 % 256 ^ a := by
   rw [e]
   have h1 := Int.mul_ediv_add_emod v 256
   have h2 := Int.mul_ediv_add_emod (v / 256) (256 ^ a)
   have b1 := Int.emod_nonneg (v / 256) (Int.ne_of_gt hp)
   have b2 := Int.emod_lt_of_pos (v / 256) hp
   have key : v = (256 * 256 ^ a) * (v / 256 / 256 ^ a) + (v % 256 + 256 * (v / 256 % 256 ^ a)) := by
    rw [Int.mul_assoc]; omega
   have g : v % (256 * 256 ^ a) = v % 256 + 256 * (v / 256 % 256 ^ a) := by
    conv => lhs; rw [key]
    rw [Int.mul_add_emod_self_left]
    exact Int.emod_eq_of_lt (by omega) (by omega)
   rw [g]; omega
  have e3 : v / 256 ^ (a + 1) = v / 256 / 256 ^ a := by
   rw [e, Int.ediv_ediv_of_nonneg (by decide)]
  rw [e1, e2, e3, ih]
theorem code_split (v : Int) : leB 8 (v % 18446744073709551616) ++ leB 8 (v / 18446744073709551616) = leB 16 v := leB_split 8 8 v
def rLow (key : List Int) : Int := bits .and .u64 (le (key.take 8)) 1152921487695413247
def rHigh (key : List Int) : Int := bits .and .u64 (le ((key.drop 8).take 8)) 1152921487695413244
def rOf (key : List Int) : Int := rLow key + 18446744073709551616 * rHigh key
def sOf (key : List Int) : Int := le ((key.drop 16).take 16)
theorem and_le (x : Int) (c : Nat) (hx : 0 ≤ x ∧ x < 18446744073709551616) (hc : c < 1152921504606846976) : 0 ≤ bits .and .u64 x c ∧ bits .and .u64 x c < 1152921504606846976 := by
 rw [u64_and _ _ hx.1 hx.2 (by omega) (by omega)]
 have : x.toNat &&& (c : Int).toNat ≤ (c : Int).toNat := Nat.and_le_right
 omega
theorem le8_bd (l : List Int) (hb : Bytes l) (hl : l.length ≤ 8) : 0 ≤ le l ∧ le l < 18446744073709551616 := by
 have h := le_bd l hb
 have : (256 : Int) ^ l.length ≤ 256 ^ 8 := by
  show ((256 : Nat) : Int) ^ _ ≤ ((256 : Nat) : Int) ^ 8
  rw [← Int.natCast_pow, ← Int.natCast_pow]
  exact Int.ofNat_le.2 (Nat.pow_le_pow_right (by decide) hl)
 have e : (256 : Int) ^ 8 = 18446744073709551616 := by decide
 omega
theorem rLow_bd (key : List Int) (h : Bytes key) : 0 ≤ rLow key ∧ rLow key < 1152921504606846976 := and_le _ 1152921487695413247 (le8_bd _ (bytes_take h _) (by rw [List.length_take]; omega)) (by decide)
theorem rHigh_bd (key : List Int) (h : Bytes key) : 0 ≤ rHigh key ∧ rHigh key < 1152921504606846976 := and_le _ 1152921487695413244 (le8_bd _ (bytes_take (bytes_drop h _) _) (by rw [List.length_take]; omega)) (by decide)
theorem sOf_bd (key : List Int) (h : Bytes key) : 0 ≤ sOf key ∧ sOf key < 340282366920938463463374607431768211456 := le16_bd _ (bytes_take (bytes_drop h _) _) (by rw [List.length_take]; omega)
theorem le_app (xs ys : List Int) : le (xs ++ ys) = le xs + 256 ^ xs.length * le ys := by
 induction xs with
 | nil => simp [le]
 | cons x xs ih => rw [List.cons_append, le, le, ih, List.length_cons, Int.pow_succ, Int.mul_comm (256 ^ xs.length) 256, Int.mul_add, Int.add_assoc, Int.mul_assoc]
theorem le_pr (cs : List Int) (hl : cs.length = 16) (hb : Bytes cs) : pr (le cs) = [le (cs.take 8), le ((cs.drop 8).take 8)] := by
 have e : le cs = le (cs.take 8) + 18446744073709551616 * le ((cs.drop 8).take 8) := by
  conv => lhs; rw [← List.take_append_drop 8 cs, le_app]
  have e1 : (cs.take 8).length = 8 := by rw [List.length_take]; omega
  have e2 : (cs.drop 8).take 8 = cs.drop 8 := List.take_of_length_le (by rw [List.length_drop]; omega)
  rw [e1, e2]; rfl
 have h1 := le8_bd (cs.take 8) (bytes_take hb _) (by rw [List.length_take]; omega)
 unfold pr
 rw [e]
 refine List.cons_eq_cons.2 ⟨by omega, List.cons_eq_cons.2 ⟨by omega, rfl⟩⟩
theorem size16 : (Tryz.prog.info? 66).map (·.size) = some 16 := by kernel_rfl
theorem zero16 : (Tryz.prog.info? 66).map (fun i => (i.zero, i.size)) = some (some (.agg (u8s (zs0 16)).toArray), 16) := by kernel_rfl
theorem build_pair (a b : Int) (w : World) : (Instr.build 244 #[(0, .int .u64 a), (1, .int .u64 b)]).run Tryz.prog w = .ok (.agg (u64s [a, b]).toArray) w := by kernel_rfl
theorem seen_mid {w : World} {g off n : Nat} {zs : List Int} (h : w.rangeAt g off (u8s zs)) (hl : zs.length = n) (hb : Bytes zs) (ht : n ≤ 140737488355328) (hg : g < w.heap.size) : Seen w (some ⟨g, off, none⟩) n zs :=
 ⟨hl, ht, hb, fun _ => ⟨g, off, rfl, hg, fun i hi => h i _ (by simp [u8s, List.getD, show i < zs.length by omega])⟩⟩
theorem range_sub {w : World} {g off : Nat} {vs : List Value} (h : w.rangeAt g off vs) (lo k : Nat) : w.rangeAt g (off + lo) ((vs.drop lo).take k) := fun j v hv => by
 rw [List.getElem?_take] at hv
 split at hv
 ·rw [List.getElem?_drop] at hv
  have := h (lo + j) v hv
  rwa [← Nat.add_assoc] at this
 ·cases hv
theorem u8s_sub (cs : List Int) (lo k : Nat) : ((u8s cs).drop lo).take k = u8s ((cs.drop lo).take k) := by simp [u8s, List.map_drop, List.map_take]
theorem pairOf_any (cs : List Int) (hl : cs.length = 16) (hb : Bytes cs) (w : World) :
  Calls Tryz.prog 162 #[.agg (u8s cs).toArray] w fun e w' => e = .returned (.agg (u64s (pr (le cs))).toArray) ∧ Below w.heap.size w w' := by
 have HS : Hid (cs.length = 16 ∧ Bytes cs) := ⟨hl, hb⟩
 rw [le_pr cs hl hb]
 obtain ⟨A, hA⟩ : ∃ z, le (cs.take 8) = z := ⟨_, rfl⟩
 obtain ⟨B, hB⟩ : ∃ z, le ((cs.drop 8).take 8) = z := ⟨_, rfl⟩
 rw [hA, hB]
 have HA : Hid (le (cs.take 8) = A ∧ le ((cs.drop 8).take 8) = B) := ⟨hA, hB⟩
 clear hl hb hA hB
 go_enter Tryz.func162, Tryz.ntmps162
 go_wp2_with (first | (refine wpList_box_new rfl 66 _ rfl (u8s cs) rfl ?_; intro w1 b1 s1 l1) | (refine wpList_alloc_new rfl 244 rfl 2 _ zeroPair ?_; intro w2 b2 s2 l2; have b2' : Blk w2 (w.heap.size + 1) 244 (u64s [0, 0]) := (by rw [← s1]; exact b2); have L1 : Hid (∀ c, Calls Tryz.prog 145 #[.slice (some ⟨w.heap.size, 0, none⟩) 8 c] w2 fun e w' => e = .returned (.tuple #[.int .u64 A, .int .i64 0]) ∧ w2 = w') := (fun c => by { have q := range_sub (b1.later l2 (by omega)).whole 0 8; rw [u8s_sub, List.drop_zero] at q; have := little_64 _ 8 c _ w2 (seen_mid q (by have := HS.out.1; simp; omega) (bytes_take HS.out.2 _) (by decide) (by omega)); rwa [leV_ok, fit_ok, HA.out.1] at this }); have L2 : Hid (∀ c, Calls Tryz.prog 145 #[.slice (some ⟨w.heap.size, 8, none⟩) 8 c] w2 fun e w' => e = .returned (.tuple #[.int .u64 B, .int .i64 0]) ∧ w2 = w') := (fun c => by { have q := range_sub (b1.later l2 (by omega)).whole 8 8; rw [u8s_sub] at q; have := little_64 _ 8 c _ w2 (seen_mid q (by have := HS.out.1; simp; omega) (bytes_take (bytes_drop HS.out.2 _) _) (by decide) (by omega)); rwa [leV_ok, fit_ok, HA.out.2] at this })) | (go_at_call 145; with_reducible refine (L1.out _).mono ?_; rintro e w' ⟨rfl, rfl⟩) | (go_at_call 145; with_reducible refine (L2.out _).mono ?_; rintro e w' ⟨rfl, rfl⟩) | (refine wpList_build rfl 244 _ rfl #[(0, .int .u64 A), (1, .int .u64 B)] (by simp [Act.eval]) _ (build_pair _ _ _) ?_) | (refine wpList_store_blk rfl 244 244 _ _ rfl _ rfl _ (u64s [A, B]) rfl b2' rfl sizePair (u64s_one _) ?_; intro w3 b3 s3 k3))
 exact ret_blk rfl (w.heap.size + 1) (u64s [A, B]) _ rfl b3 Tryz.underlying244 rfl sizePair rfl ⟨rfl, below_kept (below_chain l1 l2 (by omega)) k3 (by omega) (fun j hj => by omega)⟩
def pCells (r0 r1 s a : Int) (op : List Int) (f : Nat) : List Value := u64s [r0, r1] ++ (u64s (pr s) ++ (u64s (nm a) ++ (u8s op ++ [Value.int .i64 (f : Int)])))
structure PolyAt (w : World) (g : Nat) (r0 r1 s a : Int) (op : List Int) (f : Nat) : Prop where
 blk : Blk w g 249 (pCells r0 r1 s a op f)
 hr0 : 0 ≤ r0 ∧ r0 < 1152921504606846976
 hr1 : 0 ≤ r1 ∧ r1 < 1152921504606846976
 hs : 0 ≤ s ∧ s < 340282366920938463463374607431768211456
 ha : 0 ≤ a ∧ a < 1701411834604692317316873037158841057280
 ol : op.length = 16
 ob : Bytes op
 hf : f ≤ 16
theorem PolyAt.lt {w : World} {g : Nat} {r0 r1 s a : Int} {op : List Int} {f : Nat} (h : PolyAt w g r0 r1 s a op f) : g < w.heap.size := h.blk.lt
theorem PolyAt.later {w w' : World} {g : Nat} {r0 r1 s a : Int} {op : List Int} {f : Nat} (h : PolyAt w g r0 r1 s a op f) {B : Nat} (hb : Below B w w') (hB : g < B) : PolyAt w' g r0 r1 s a op f := ⟨h.blk.later hb hB, h.hr0, h.hr1, h.hs, h.ha, h.ol, h.ob, h.hf⟩
theorem PolyAt.kept {S : Nat → Prop} {w w' : World} {g : Nat} {r0 r1 s a : Int} {op : List Int} {f : Nat} (h : PolyAt w g r0 r1 s a op f) (hk : Kept S w w') (hS : ¬ S g) : PolyAt w' g r0 r1 s a op f := ⟨h.blk.kept hk hS, h.hr0, h.hr1, h.hs, h.ha, h.ol, h.ob, h.hf⟩
theorem blk_r {w : World} {g : Nat} {r0 r1 s a : Int} {op : List Int} {f : Nat} (h : Blk w g 249 (pCells r0 r1 s a op f)) : w.rangeAt g 0 (u64s [r0, r1]) := Blk.range (xs := []) (ys := u64s [r0, r1]) h
theorem blk_s {w : World} {g : Nat} {r0 r1 s a : Int} {op : List Int} {f : Nat} (h : Blk w g 249 (pCells r0 r1 s a op f)) : w.rangeAt g 2 (u64s (pr s)) := Blk.range (xs := u64s [r0, r1]) (ys := u64s (pr s)) h
theorem blk_a {w : World} {g : Nat} {r0 r1 s a : Int} {op : List Int} {f : Nat} (h : Blk w g 249 (pCells r0 r1 s a op f)) : w.rangeAt g 4 (u64s (nm a)) := Blk.range (xs := u64s [r0, r1] ++ u64s (pr s)) (ys := u64s (nm a)) (zs := u8s op ++ [Value.int .i64 (f : Int)]) (by rw [List.append_assoc]; exact h)
theorem blk_open {w : World} {g : Nat} {r0 r1 s a : Int} {op : List Int} {f : Nat} (h : Blk w g 249 (pCells r0 r1 s a op f)) : w.rangeAt g 7 (u8s op) := Blk.range (xs := u64s [r0, r1] ++ (u64s (pr s) ++ u64s (nm a))) (ys := u8s op) (zs := [Value.int .i64 (f : Int)]) (by rw [List.append_assoc, List.append_assoc]; exact h)
theorem blk_filled {w : World} {g : Nat} {r0 r1 s a : Int} {op : List Int} {f : Nat} (h : Blk w g 249 (pCells r0 r1 s a op f)) (hl : op.length = 16) : w.cell? ⟨g, 23, none⟩ = some (.int .i64 f) := by
 have := Blk.range (xs := u64s [r0, r1] ++ (u64s (pr s) ++ (u64s (nm a) ++ u8s op))) (ys := [Value.int .i64 (f : Int)]) (zs := []) (by rw [List.append_assoc, List.append_assoc, List.append_assoc, List.append_nil]; exact h)
 have e : (u64s [r0, r1] ++ (u64s (pr s) ++ (u64s (nm a) ++ u8s op))).length = 23 := by simp [u64s, u8s, pr, nm, hl]
 rw [e] at this
 exact this 0 _ rfl
theorem nm_top (c t : Int) (hc : 0 ≤ c ∧ c < 340282366920938463463374607431768211456) : nm (c + t * 340282366920938463463374607431768211456) = [c % 18446744073709551616, c / 18446744073709551616, t] := by
 unfold nm
 refine List.cons_eq_cons.2 ⟨by omega, List.cons_eq_cons.2 ⟨by omega, List.cons_eq_cons.2 ⟨by omega, rfl⟩⟩⟩
theorem behind_any (g : Nat) (r0 r1 s a : Int) (op : List Int) (f : Nat) (cs : List Int) (top : Int) (hl : cs.length = 16) (hb : Bytes cs) (ht : 0 ≤ top ∧ top ≤ 1) (w : World) (hp : PolyAt w g r0 r1 s a op f) :
  Calls Tryz.prog 164 #[.pointer (some ⟨g, 0, none⟩), .agg (u8s cs).toArray, .int .u64 top] w fun e w' => e = .returned (.agg (u64s (nm (step5 (r0 + 18446744073709551616 * r1) a (le cs + top * 340282366920938463463374607431768211456)))).toArray) ∧ Below w.heap.size w w' := by
 have hc := le16_bd cs hb (by omega)
 obtain ⟨C, hC⟩ : ∃ z, le cs = z := ⟨_, rfl⟩
 have PO : Hid (∀ w, Calls Tryz.prog 162 #[.agg (u8s cs).toArray] w fun e w' => e = .returned (.agg (u64s [C % 18446744073709551616, C / 18446744073709551616]).toArray) ∧ Below w.heap.size w w') := by
  have := pairOf_any cs hl hb
  rw [hC] at this
  exact this
 rw [hC] at hc ⊢
 have hR : 0 ≤ r0 + 18446744073709551616 * r1 ∧ r0 + 18446744073709551616 * r1 < 21267647932558653966460912964485513216 := by have := hp.hr0; have := hp.hr1; omega
 obtain ⟨R, hRR⟩ : ∃ z, r0 + 18446744073709551616 * r1 = z := ⟨_, rfl⟩
 have hA := hp.ha
 have hpd := prod_bd (a + (C + top * 340282366920938463463374607431768211456)) R ⟨by omega, by omega⟩ (by rw [← hRR]; exact hR)
 have CC : Hid ((∀ w, Calls Tryz.prog 169 #[.agg (u64s (nm a)).toArray, .agg (u64s [C % 18446744073709551616, C / 18446744073709551616, top]).toArray] w fun e w' => e = .returned (.agg (u64s (nm (a + (C + top * 340282366920938463463374607431768211456)))).toArray) ∧ Below w.heap.size w w') ∧ (∀ w, Calls Tryz.prog 170 #[.agg (u64s (nm (a + (C + top * 340282366920938463463374607431768211456)))).toArray, .agg (u64s [r0, r1]).toArray] w fun e w' => e = .returned (.agg (u64s (q4 ((a + (C + top * 340282366920938463463374607431768211456)) * R))).toArray) ∧ Below w.heap.size w w') ∧ (∀ w, Calls Tryz.prog 168 #[.agg (u64s (q4 ((a + (C + top * 340282366920938463463374607431768211456)) * R))).toArray] w fun e w' => e = .returned (.agg (u64s (nm (step5 R a (C + top * 340282366920938463463374607431768211456)))).toArray) ∧ Below w.heap.size w w')) := by
  refine ⟨?_, ?_, ?_⟩
  ·rw [← nm_top C top hc]
   exact nplus_any _ _ hA.1 (by omega) (by omega)
  ·rw [← hRR]
   exact times_any _ _ _ ⟨by omega, by omega⟩ hp.hr0 hp.hr1
  ·exact folded_any _ hpd
 rw [hRR]
 have HP : Hid (Blk w g 249 (pCells r0 r1 s a op f) ∧ cs.length = 16) := ⟨hp.blk, hl⟩
 obtain ⟨S1, e1⟩ : ∃ z, nm a = z := ⟨_, rfl⟩
 obtain ⟨S2, e2⟩ : ∃ z, nm (a + (C + top * 340282366920938463463374607431768211456)) = z := ⟨_, rfl⟩
 obtain ⟨S3, e3⟩ : ∃ z, q4 ((a + (C + top * 340282366920938463463374607431768211456)) * R) = z := ⟨_, rfl⟩
 obtain ⟨S4, e4⟩ : ∃ z, nm (step5 R a (C + top * 340282366920938463463374607431768211456)) = z := ⟨_, rfl⟩
 have HL : Hid (nm a = S1 ∧ S1.length = 3 ∧ S4.length = 3) := ⟨e1, by rw [← e1]; rfl, by rw [← e4]; rfl⟩
 rw [e1, e2, e3, e4] at CC
 rw [e4]
 clear hl hb ht hp hc hR hA hpd hC hRR e1 e2 e3 e4
 go_enter Tryz.func164, Tryz.ntmps164
 go_wp2_with (first | (refine wpList_box_new rfl 66 _ rfl (u8s cs) rfl ?_; intro w1 b1 s1 l1) | (refine wpList_alloc_new rfl 247 rfl 3 _ zeroNumber ?_; intro w2 b2 s2 l2) | (refine wpList_load_blk rfl 66 _ rfl _ rfl (u8s cs) _ (b1.later l2 (by omega)) Tryz.underlying66 rfl (by rw [u8s_length, HP.out.2]; exact size16) ?_) | (go_at_call 162; refine (PO.out _).mono ?_; rintro e w3 ⟨rfl, l3⟩) | (refine wpList_alloc_new rfl 244 rfl 2 _ zeroPair ?_; intro w4 b4 s4 l4) | (refine wpList_store_blk rfl 244 244 _ _ rfl _ rfl _ (u64s [C % 18446744073709551616, C / 18446744073709551616]) rfl b4 rfl sizePair (u64s_one _) ?_; intro w5 b5 s5 k5))
 try simp only [Act.put, sqA, sqB, sqC]
 obtain ⟨G, hG⟩ : ∃ G, w3.heap.size = G := ⟨_, rfl⟩
 rw [hG] at b5 k5 ⊢
 have HB : Hid (Blk w5 g 249 (pCells r0 r1 s a op f) ∧ Blk w5 G 244 (u64s [C % 18446744073709551616, C / 18446744073709551616]) ∧ Blk w5 (w.heap.size + 1) 247 (u64s [0, 0, 0]) ∧ Below w.heap.size w w5) := by
  have q := l3.size
  have gl := HP.out.1.lt
  rw [s1] at b2
  exact ⟨((((HP.out.1.later l1 (by omega)).later l2 (by omega)).later l3 (by omega)).later l4 (by omega)).kept k5 (by omega), b5, ((b2.later l3 (by omega)).later l4 (by omega)).kept k5 (by omega), below_kept (below_chain (below_chain (below_chain l1 l2 (by omega)) l3 (by omega)) l4 (by omega)) k5 (by omega) (fun j hj => by omega)⟩
 clear b1 s1 l1 b2 s2 l2 l3 b4 s4 l4 b5 s5 k5 hG
 refine region_inv [.val (.pointer (some ⟨g, 0, none⟩)), .val (.pointer (some ⟨g, 0, none⟩)), .val (.pointer (some ⟨g, 4, none⟩)), .val (.agg (u64s S1).toArray), .val (.pointer (some ⟨G, 0, none⟩)), .val (.int .u64 (C % 18446744073709551616)), .val (.pointer (some ⟨G, 1, none⟩)), .val (.int .u64 (C / 18446744073709551616)), .val (.int .u64 top), .val (.agg (u64s [C % 18446744073709551616, C / 18446744073709551616, top]).toArray), .val (.agg (u64s S2).toArray), .val (.pointer (some ⟨g, 0, none⟩)), .val (.pointer (some ⟨g, 0, none⟩)), .val (.pointer (some ⟨g, 0, none⟩)), .val (.agg (u64s [r0, r1]).toArray), .val (.agg (u64s S3).toArray), .val (.agg (u64s S4).toArray)] (by kernel_rfl) (by kernel_rfl) (by kernel_rfl) ?_ ?_
 ·refine Steps'.cons ?_ (Steps'.cons ?_ (Steps'.cons ?_ (Steps'.cons ?_ (Steps'.cons ?_ (Steps'.cons ?_ (Steps'.cons ?_ (Steps'.cons ?_ (Steps'.cons ?_ (Steps'.cons ?_ (Steps'.cons ?_ (Steps'.cons ?_ (Steps'.cons ?_ (Steps'.cons ?_ (Steps'.cons ?_ (Steps'.cons ?_ (Steps'.cons ?_ (Steps'.one _ _ _ _ _ _ _)))))))))))))))))
  ·intro ax wx hb hs hd
   have h0 : ax.tmps.getD 0 undef = (.pointer (some ⟨g, 0, none⟩)) := hs 0 (by kernel_rfl)
   refine Does.value (.pointer (some ⟨g, 0, none⟩)) ?_ rfl
   go_simp
  ·intro ax wx hb hs hd
   have h10 := sqV (hd 0 10 rfl (by kernel_rfl) (by decide))
   refine Does.value (.pointer (some ⟨g, 0, none⟩)) ?_ rfl
   go_simp
  ·intro ax wx hb hs hd
   have h11 := sqV (hd 1 11 rfl (by kernel_rfl) (by decide))
   refine Does.value _ ?_ rfl
   go_simp
  ·intro ax wx hb hs hd
   have h12 := sqV (hd 2 12 rfl (by kernel_rfl) (by decide))
   exact Does.load 247 (.tmp 12) rfl g 4 h12 (u64s S1) _ (by have q := blk_a (Blk.later HB.out.1 hb (Blk.lt HB.out.1)); rwa [HL.out.1] at q) Tryz.underlying247 rfl (by rw [u64s_length, HL.out.2.1]; exact sizeNumber)
  ·intro ax wx hb hs hd
   have h7 : ax.tmps.getD 7 undef = (.pointer (some ⟨G, 0, none⟩)) := hs 7 (by kernel_rfl)
   refine Does.value (.pointer (some ⟨G, 0, none⟩)) ?_ rfl
   go_simp
  ·intro ax wx hb hs hd
   have h14 := sqV (hd 4 14 rfl (by kernel_rfl) (by decide))
   have cx : wx.cell? ⟨G, 0, none⟩ = some (.int .u64 (C % 18446744073709551616)) := (Blk.later HB.out.2.1 hb (Blk.lt HB.out.2.1)).cell 0
   refine Does.value (.int .u64 (C % 18446744073709551616)) ?_ rfl
   go_simp
  ·intro ax wx hb hs hd
   have h7 : ax.tmps.getD 7 undef = (.pointer (some ⟨G, 0, none⟩)) := hs 7 (by kernel_rfl)
   refine Does.value (.pointer (some ⟨G, 1, none⟩)) ?_ rfl
   go_simp
  ·intro ax wx hb hs hd
   have h16 := sqV (hd 6 16 rfl (by kernel_rfl) (by decide))
   have cx : wx.cell? ⟨G, 1, none⟩ = some (.int .u64 (C / 18446744073709551616)) := (Blk.later HB.out.2.1 hb (Blk.lt HB.out.2.1)).cell 1
   refine Does.value (.int .u64 (C / 18446744073709551616)) ?_ rfl
   go_simp
  ·intro ax wx hb hs hd
   have h2 : ax.tmps.getD 2 undef = (.int .u64 top) := hs 2 (by kernel_rfl)
   refine Does.value (.int .u64 top) ?_ rfl
   go_simp
  ·intro ax wx hb hs hd
   have h15 := sqV (hd 5 15 rfl (by kernel_rfl) (by decide))
   have h17 := sqV (hd 7 17 rfl (by kernel_rfl) (by decide))
   have h18 := sqV (hd 8 18 rfl (by kernel_rfl) (by decide))
   exact Does.build 247 _ rfl #[(0, .int .u64 (C % 18446744073709551616)), (1, .int .u64 (C / 18446744073709551616)), (2, .int .u64 top)] (by simp only [List.map_toArray, List.map_cons, List.map_nil, Act.eval, h15, h17, h18]) _ (build_three _ _ _ _)
  ·intro ax wx hb hs hd
   have h13 := sqV (hd 3 13 rfl (by kernel_rfl) (by decide))
   have h19 := sqV (hd 9 19 rfl (by kernel_rfl) (by decide))
   refine Does.call 169 #[(.agg (u64s S1).toArray), (.agg (u64s [C % 18446744073709551616, C / 18446744073709551616, top]).toArray)] (by go_simp) ?_
   refine (CC.out.1 _).mono ?_
   rintro z w' ⟨rfl, l⟩
   exact ⟨_, rfl, rfl, l⟩
  ·intro ax wx hb hs hd
   have h0 : ax.tmps.getD 0 undef = (.pointer (some ⟨g, 0, none⟩)) := hs 0 (by kernel_rfl)
   refine Does.value (.pointer (some ⟨g, 0, none⟩)) ?_ rfl
   go_simp
  ·intro ax wx hb hs hd
   have h21 := sqV (hd 11 21 rfl (by kernel_rfl) (by decide))
   refine Does.value (.pointer (some ⟨g, 0, none⟩)) ?_ rfl
   go_simp
  ·intro ax wx hb hs hd
   have h22 := sqV (hd 12 22 rfl (by kernel_rfl) (by decide))
   refine Does.value _ ?_ rfl
   go_simp
  ·intro ax wx hb hs hd
   have h23 := sqV (hd 13 23 rfl (by kernel_rfl) (by decide))
   exact Does.load 244 (.tmp 23) rfl g 0 h23 (u64s [r0, r1]) _ (blk_r (Blk.later HB.out.1 hb (Blk.lt HB.out.1))) Tryz.underlying244 rfl sizePair
  ·intro ax wx hb hs hd
   have h20 := sqV (hd 10 20 rfl (by kernel_rfl) (by decide))
   have h24 := sqV (hd 14 24 rfl (by kernel_rfl) (by decide))
   refine Does.call 170 #[(.agg (u64s S2).toArray), (.agg (u64s [r0, r1]).toArray)] (by go_simp) ?_
   refine (CC.out.2.1 _).mono ?_
   rintro z w' ⟨rfl, l⟩
   exact ⟨_, rfl, rfl, l⟩
  ·intro ax wx hb hs hd
   have h25 := sqV (hd 15 25 rfl (by kernel_rfl) (by decide))
   refine Does.call 168 #[(.agg (u64s S3).toArray)] (by go_simp) ?_
   refine (CC.out.2.2 _).mono ?_
   rintro z w' ⟨rfl, l⟩
   exact ⟨_, rfl, rfl, l⟩
 ·intro wx hb
  iterate 17 refine @Ends.val _ _ _ _ _ _ _ _ _ _ rfl ?_
  refine @Ends.one _ _ _ _ _ _ _ ?_
  simp only [Act.put, sqA, sqB, sqC]
  have q := HB.out.2.2.1
  refine last_store 247 (.tmp 6) (.tmp 26) rfl rfl _ rfl 247 _ (u64s S4) rfl (q.later hb q.lt) (by rw [u64s_length, HL.out.2.2]; rfl) (by rw [u64s_length, HL.out.2.2]; exact sizeNumber) (u64s_one _) ?_
  intro x9 y9 s9 k9
  have HC : Hid (Below w.heap.size w x9) := below_kept (below_chain HB.out.2.2.2 hb (by have := HB.out.2.2.2.size; omega)) k9 (by have := HB.out.2.2.2.size; have := hb.size; omega) (fun j hj => by omega)
  clear hb k9 s9 q
  go_wp2_with fail
  exact ret_blk rfl (w.heap.size + 1) _ _ rfl y9 Tryz.underlying247 rfl (by rw [u64s_length, HL.out.2.2]; exact sizeNumber) rfl ⟨rfl, HC.out⟩
structure PHolds (w : World) (g : Nat) (r0 r1 s : Int) (m : List Int) : Prop where
 at_ : PolyAt w g r0 r1 s (acc (r0 + 18446744073709551616 * r1) m) (openB m) (m.length % 16)
 bytes : Bytes m
theorem PHolds.lt {w : World} {g : Nat} {r0 r1 s : Int} {m : List Int} (h : PHolds w g r0 r1 s m) : g < w.heap.size := h.at_.lt
theorem wpList_store_part {ops : Array Oper} {rest : List Oper} {o : Oper} {a : Act} {Q : Exit → Act → World → Prop} {w : World} (hgd : o.guard = none) (t t' : TypeId) (x y : Operand) (ho : o.op = .store t x y) (g off : Nat) (hx : a.eval x = .pointer (some ⟨g, off, none⟩))
  (xs ys zs us : List Value) (hy : a.eval y = .agg us.toArray) (hb : Blk w g t' (xs ++ (ys ++ zs))) (hoff : xs.length = off) (hl : us.length = ys.length) (hi : (Tryz.prog.info? t).map (·.size) = some us.length) (h1 : ∀ v ∈ us, v.oneCell' = true)
  (h : ∀ w', Blk w' g t' (xs ++ (us ++ zs)) → w'.heap.size = w.heap.size → Kept (fun k => k = g) w w' → wpList Tryz.prog ops Q rest (a.put o.dst undef) w') : wpList Tryz.prog ops Q (o :: rest) a w := by
 refine wpList_store_mid hgd t x y ho g off us.toArray hx hy (hb.there (by simp; omega)) (by simpa using hi) (all_oneCell_toArray h1) (h _ ?_ (setCells_size ..) ((Kept.refl _ _).setCells (S := fun k => k = g) rfl _ _))
 subst hoff
 exact Blk.setCells us ys hl hb
theorem sl_open (g F : Nat) (hF : F < 16) (w : World) : (Instr.sliceAt 66 (.pointer (some ⟨g, 7, none⟩)) (some (.int .i64 (F : Int))) none none).run Tryz.prog w = .ok (.slice (some ⟨g, 7 + F, none⟩) (16 - F) (16 - F)) w := by
 have h := run_sliceAt_array_l (P := Tryz.prog) w 66 ⟨g, 7, none⟩ (by kernel_rfl) .i64 (F : Int) (by omega) (by rw [show Tryz.prog.arrayLen 66 = 16 by kernel_rfl]; omega)
 rw [h, show Tryz.prog.elem 66 = 5 by kernel_rfl, show Tryz.prog.arrayLen 66 = 16 by kernel_rfl]
 have hs : (sizeOf 5).run Tryz.prog w = .ok 1 w := by
  have h := sizeByte
  cases hq : Tryz.prog.info? 5 with
  | none => simp [hq] at h
  | some i => simp [hq] at h; simp [sizeOf, typeInfo, hq, h]
 have hne : ¬ 16 = F := by omega
 simp [hs, Result.andThen, slicedAt, hne, add_mid]
theorem open_split (m x : List Int) (k : Nat) (hk : m.length % 16 + k ≤ 16) (hx : x.length = k) : rest16 m ++ (x ++ zs0 (16 - m.length % 16 - k)) = if m.length % 16 + k < 16 then openB (m ++ x) else rest16 m ++ x := by
 split
 ·next h =>
  have := (acc_less 0 m x (by omega)).2
  have e : (m ++ x).length % 16 = m.length % 16 + k := by rw [List.length_append]; omega
  rw [openB, this, e, List.append_assoc, show 16 - (m.length % 16 + k) = 16 - m.length % 16 - k by omega]
 ·rw [show 16 - m.length % 16 - k = 0 by omega, zs0, List.replicate_zero, List.append_nil]
theorem zs0_split (a b : Nat) : zs0 (a + b) = zs0 a ++ zs0 b := by simp [zs0, List.replicate_append_replicate]
theorem set_filled (r0 r1 s a : Int) (op : List Int) (f f' : Nat) (hl : op.length = 16) : (pCells r0 r1 s a op f).set 23 (.int .i64 (f' : Int)) = pCells r0 r1 s a op f' := by
 rw [pCells, List.set_append_right _ _ (by simp [u64s]), List.set_append_right _ _ (by simp [u64s, pr]), List.set_append_right _ _ (by simp [u64s, pr, nm]), List.set_append_right _ _ (by simp [u64s, u8s, pr, nm, hl])]
 simp [u64s, u8s, pr, nm, hl, pCells]
theorem build_zero (w : World) : (Instr.build 66 #[]).run Tryz.prog w = .ok (.agg (u8s (zs0 16)).toArray) w := by kernel_rfl
theorem min_sum (n F : Nat) (hF : F < 16) : Nat.min n (16 - F) ≤ n ∧ F + Nat.min n (16 - F) ≤ 16 := ⟨Nat.min_le_left _ _, by have : Nat.min n (16 - F) ≤ 16 - F := Nat.min_le_right _ _; omega⟩
theorem fill_any (g : Nat) (r0 r1 s : Int) (m : List Int) (ao : Option Addr) (n c : Nat) (zs : List Int) (w : World) (h : PHolds w g r0 r1 s m) (hx : Seen w ao n zs) (hne : ∀ b o, 0 < n → ao = some ⟨b, o, none⟩ → b ≠ g) :
  Calls Tryz.prog 163 #[.pointer (some ⟨g, 0, none⟩), .slice ao n c] w fun e w' => e = .returned (.int .i64 (Nat.min n (16 - m.length % 16) : Nat)) ∧ PHolds w' g r0 r1 s (m ++ zs.take (Nat.min n (16 - m.length % 16))) ∧ Kept (fun k => k = g) w w' := by
 obtain ⟨F, hF⟩ : ∃ z, m.length % 16 = z := ⟨_, rfl⟩
 have hF16 : F < 16 := by omega
 obtain ⟨k, hk⟩ : ∃ z, Nat.min n (16 - F) = z := ⟨_, rfl⟩
 have hk1 : k ≤ n := by rw [← hk]; exact (min_sum n F hF16).1
 have hk2 : F + k ≤ 16 := by rw [← hk]; exact (min_sum n F hF16).2
 have hP := h.at_
 rw [hF] at hP ⊢
 rw [hk]
 obtain ⟨a, ha⟩ : ∃ z, acc (r0 + 18446744073709551616 * r1) m = z := ⟨_, rfl⟩
 rw [ha] at hP
 have c23 := blk_filled hP.blk hP.ol
 have HM : Hid (m.length % 16 = F ∧ acc (r0 + 18446744073709551616 * r1) m = a ∧ Nat.min n (16 - F) = k ∧ Bytes m ∧ F < 16) := ⟨hF, ha, hk, h.bytes, hF16⟩
 have HX : Hid (Seen w ao n zs ∧ PolyAt w g r0 r1 s a (openB m) F) := ⟨hx, hP⟩
 have hsl := sl_open g F hF16
 have hzl : (zs.take k).length = k := by rw [List.length_take, hx.len]; omega
 have HZ : Hid ((zs.take k).length = k ∧ Bytes (zs.take k)) := ⟨hzl, bytes_take hx.bytes _⟩
 clear h hx hne hP hF ha hk hzl
 go_enter Tryz.func163, Tryz.ntmps163
 go_wp2_with fail
 refine wp_region_noPanic (till_region 7 (fun W => W.cell? ⟨g, 23, none⟩ = some (.int .i64 (F : Int))) (by kernel_rfl) ?_)
 change wpTill _ _ _ _ _ _ _ _ w.drew
 have SG : Hid (w.drew.cell? ⟨g, 23, none⟩ = some (.int .i64 (F : Int))) := c23
 refine tTake 0 (some 6) (.pointer (some ⟨g, 0, none⟩)) rfl rfl (by kernel_rfl) (by kernel_rfl) (by kernel_rfl) (by decide) (fun _ _ _ h => h) (by rfl) (fun _ => by go_simp) SG.out ?_
 simp only [Act.put, sqA, sqB, sqC]
 refine tTake 1 (some 7) (.pointer (some ⟨g, 0, none⟩)) rfl rfl (by kernel_rfl) (by kernel_rfl) (by kernel_rfl) (by decide) (fun _ _ _ h => h) (by rfl) (fun _ => by go_simp) SG.out ?_
 simp only [Act.put, sqA, sqB, sqC]
 refine tTake 2 (some 8) (.pointer (some ⟨g, 7, none⟩)) rfl rfl (by kernel_rfl) (by kernel_rfl) (by kernel_rfl) (by decide) (fun _ _ _ h => h) (by rfl) (fun _ => by go_simp) SG.out ?_
 simp only [Act.put, sqA, sqB, sqC]
 refine tTake 3 (some 9) (.pointer (some ⟨g, 0, none⟩)) rfl rfl (by kernel_rfl) (by kernel_rfl) (by kernel_rfl) (by decide) (fun _ _ _ h => h) (by rfl) (fun _ => by go_simp) SG.out ?_
 simp only [Act.put, sqA, sqB, sqC]
 refine tTake 4 (some 10) (.pointer (some ⟨g, 0, none⟩)) rfl rfl (by kernel_rfl) (by kernel_rfl) (by kernel_rfl) (by decide) (fun _ _ _ h => h) (by rfl) (fun _ => by go_simp) SG.out ?_
 simp only [Act.put, sqA, sqB, sqC]
 refine tTake 5 (some 11) (.pointer (some ⟨g, 23, none⟩)) rfl rfl (by kernel_rfl) (by kernel_rfl) (by kernel_rfl) (by decide) (fun _ _ _ h => h) (by rfl) (fun _ => by go_simp) SG.out ?_
 simp only [Act.put, sqA, sqB, sqC]
 refine tLoad 6 (some 12) (.int .i64 (F : Int)) rfl rfl (by kernel_rfl) (by kernel_rfl) (by kernel_rfl) (by decide) (by kernel_rfl) (by kernel_rfl) (fun _ _ _ h => h) (by rfl) (fun W hS => by go_simp) SG.out ?_
 simp only [Act.put, sqA, sqB, sqC]
 refine tTake 8 (some 14) (.slice ao n c) rfl rfl (by kernel_rfl) (by kernel_rfl) (by kernel_rfl) (by decide) (fun _ _ _ h => h) (by rfl) (fun _ => by go_simp) SG.out ?_
 simp only [Act.put, sqA, sqB, sqC]
 refine till_at (by kernel_rfl) ?_
 refine take_op 7 (some 13) (.slice (some ⟨g, 7 + F, none⟩) (16 - F) (16 - F)) rfl rfl (by kernel_rfl) (by kernel_rfl) (by kernel_rfl) (fun _ _ _ h => h) (by rfl) (fun _ => by go_simp) ?_
 simp only [Act.put, sqA, sqB, sqC]
 have HB : Hid (Blk w.drew g 249 (u64s [r0, r1] ++ (u64s (pr s) ++ (u64s (nm a) ++ u8s (rest16 m))) ++ (u8s (zs0 k) ++ (u8s (zs0 (16 - F - k)) ++ [Value.int .i64 (F : Int)])))) := by
  have q := HX.out.2.blk.drew
  have e : openB m = rest16 m ++ (zs0 k ++ zs0 (16 - F - k)) := by rw [openB, HM.out.1, ← zs0_split, show k + (16 - F - k) = 16 - F by omega]
  have e2 : pCells r0 r1 s a (openB m) F = u64s [r0, r1] ++ (u64s (pr s) ++ (u64s (nm a) ++ u8s (rest16 m))) ++ (u8s (zs0 k) ++ (u8s (zs0 (16 - F - k)) ++ [Value.int .i64 (F : Int)])) := by
   rw [pCells, e]; simp [u8s, List.append_assoc]
  rwa [e2] at q
 refine wpAny_ready (rs := [9]) (by kernel_rfl) (by simp) (AllReady.cons rfl (fun K hK => ?_) AllReady.nil)
 refine step_copy_seen rfl (.tmp 13) (.tmp 14) rfl g (7 + F) (16 - F) (16 - F) (some ⟨g, 7 + F, none⟩) ao n c rfl rfl zs (HX.out.1.drew) 249 _ _ _ HB.out (by have h1 := rest16_length m; rw [HM.out.1] at h1; simp [u64s, u8s, pr, nm, h1]; omega) k HM.out.2.2.1 (by simp [u8s, zs0]) (fun _ => rfl) (some 15) rfl ?_
 intro w1 b1 s1 k1
 refine hK _ _ ?_
 simp only [Act.put, sqA, sqB, sqC]
 refine take_op 10 (some 5) (goInt k) rfl rfl (by kernel_rfl) (by kernel_rfl) (by kernel_rfl) (fun _ _ _ h => h) (by rfl) (fun _ => rfl) ?_
 simp only [Act.put, sqA, sqB, sqC]
 refine wpAny_done (by kernel_rfl) (NoPanic.normal ?_) _
 obtain ⟨op1, ho1⟩ : ∃ z, rest16 m ++ (zs.take k ++ zs0 (16 - F - k)) = z := ⟨_, rfl⟩
 have hol : op1.length = 16 := by
  have h1 := rest16_length m
  rw [HM.out.1] at h1
  rw [← ho1, List.length_append, List.length_append, h1, HZ.out.1, zs0_length]; omega
 have hob : Bytes op1 := by rw [← ho1]; exact bytes_app (rest16_bytes HM.out.2.2.2.1) (bytes_app HZ.out.2 (zs0_bytes _))
 have b1' : Blk w1 g 249 (pCells r0 r1 s a op1 F) := by
  have e2 : pCells r0 r1 s a op1 F = u64s [r0, r1] ++ (u64s (pr s) ++ (u64s (nm a) ++ u8s (rest16 m))) ++ (u8s (zs.take k) ++ (u8s (zs0 (16 - F - k)) ++ [Value.int .i64 (F : Int)])) := by
   rw [pCells, ← ho1]; simp [u8s, List.append_assoc]
  rw [e2]; exact b1
 have K1 : Kept (fun b => b = g) w w1 := ⟨k1.os, k1.tape, k1.output, k1.size, k1.block⟩
 have c1 := blk_filled b1' hol
 have f1 := b1'.frozen 23
 have b2 := b1'.set 23 (.int .i64 ((F + k : Nat) : Int))
 rw [set_filled r0 r1 s a op1 F (F + k) hol] at b2
 have K2 := K1.setCell (p := ⟨g, 23, none⟩) rfl (.int .i64 ((F + k : Nat) : Int))
 have X1 : Hid (Blk (w1.setCell ⟨g, 23, none⟩ (.int .i64 ((F + k : Nat) : Int))) g 249 (pCells r0 r1 s a op1 (F + k)) ∧ Kept (fun b => b = g) w (w1.setCell ⟨g, 23, none⟩ (.int .i64 ((F + k : Nat) : Int)))) := ⟨b2, K2⟩
 have HO : Hid (op1.length = 16 ∧ Bytes op1 ∧ rest16 m ++ (zs.take k ++ zs0 (16 - F - k)) = op1) := ⟨hol, hob, ho1⟩
 have c2 := blk_filled b2 hol
 have n1 : ((F + k : Nat) : Int) = (F : Int) + (k : Int) := by omega
 rw [n1] at c2 X1
 clear b1 s1 k1 b1' K1 b2 K2 ho1 hol hob SG HB n1
 by_cases hfull : F + k = 16
 ·have i1 : (F : Int) + (k : Int) = 16 := by omega
  rw [i1] at c2 X1
  rw [hfull] at X1
  obtain ⟨A, hA⟩ : ∃ z, nm (step5 (r0 + 18446744073709551616 * r1) a (le op1 + 1 * 340282366920938463463374607431768211456)) = z := ⟨_, rfl⟩
  have HAL : Hid (nm (step5 (r0 + 18446744073709551616 * r1) a (le op1 + 1 * 340282366920938463463374607431768211456)) = A ∧ A.length = 3) := ⟨hA, by rw [← hA]; rfl⟩
  have PA : Hid (PolyAt (w1.setCell ⟨g, 23, none⟩ (.int .i64 16)) g r0 r1 s a op1 16) := ⟨X1.out.1, HX.out.2.hr0, HX.out.2.hr1, HX.out.2.hs, HX.out.2.ha, HO.out.1, HO.out.2.1, Nat.le_refl _⟩
  have BH := behind_any g r0 r1 s a op1 16 op1 1 HO.out.1 HO.out.2.1 (by decide) _ PA.out
  rw [hA] at BH
  have HBH : Hid (Calls Tryz.prog 164 #[.pointer (some ⟨g, 0, none⟩), .agg (u8s op1).toArray, .int .u64 1] (w1.setCell ⟨g, 23, none⟩ (.int .i64 16)) fun e w' => e = .returned (.agg (u64s A).toArray) ∧ Below (w1.setCell ⟨g, 23, none⟩ (.int .i64 16)).heap.size (w1.setCell ⟨g, 23, none⟩ (.int .i64 16)) w') := BH
  clear BH hA
  go_wp2_with (first | (refine wpList_load_mid rfl 66 _ rfl g 7 rfl (u8s op1) _ (blk_open X1.out.1) Tryz.underlying66 rfl (by rw [u8s_length, HO.out.1]; exact size16) ?_) | (go_at_call 164; refine HBH.out.mono ?_; rintro e w3 ⟨rfl, l3⟩; have B3 : Hid (Blk w3 g 249 (u64s [r0, r1] ++ u64s (pr s) ++ (u64s (nm a) ++ (u8s op1 ++ [Value.int .i64 ((16 : Nat) : Int)])))) := (by have q := X1.out.1.later l3 X1.out.1.lt; rw [pCells, ← List.append_assoc] at q; exact q); have K3 : Hid (Kept (fun b => b = g) w w3) := (by have q := X1.out.2; exact q.trans (Kept.new _ l3)); clear l3 c1 f1 c2) | (refine wpList_store_part rfl 247 249 _ _ rfl g 4 rfl (u64s [r0, r1] ++ u64s (pr s)) (u64s (nm a)) (u8s op1 ++ [Value.int .i64 ((16 : Nat) : Int)]) (u64s A) rfl B3.out rfl (by rw [u64s_length, HAL.out.2]; rfl) (by rw [u64s_length, HAL.out.2]; exact sizeNumber) (u64s_one _) ?_; intro w4 b4 s4 k4; have B4 : Hid (Blk w4 g 249 (u64s [r0, r1] ++ (u64s (pr s) ++ u64s A) ++ (u8s op1 ++ ([Value.int .i64 ((16 : Nat) : Int)] ++ [])))) := (by have q := b4; simp only [List.append_assoc, List.append_nil] at q ⊢; exact q); have K4 : Hid (Kept (fun b => b = g) w w4) := K3.out.trans k4; clear b4 s4 k4) | (refine wpList_build rfl 66 _ rfl #[] rfl _ (build_zero _) ?_) | (refine wpList_store_part rfl 66 249 _ _ rfl g 7 rfl (u64s [r0, r1] ++ (u64s (pr s) ++ u64s A)) (u8s op1) ([Value.int .i64 ((16 : Nat) : Int)] ++ []) (u8s (zs0 16)) rfl B4.out (by simp [u64s, pr, HAL.out.2]) (by rw [u8s_length, u8s_length, HO.out.1]; rfl) size16 (u8s_one _) ?_; intro w5 b5 s5 k5; have B5 : Hid (Blk w5 g 249 (pCells r0 r1 s (step5 (r0 + 18446744073709551616 * r1) a (le op1 + 1 * 340282366920938463463374607431768211456)) (zs0 16) 16)) := (by have q := b5; rw [pCells, HAL.out.1]; simp only [List.append_assoc, List.append_nil] at q ⊢; exact q); have K5 : Hid (Kept (fun b => b = g) w w5) := K4.out.trans k5; have c5 := blk_filled B5.out (zs0_length 16); have f5 := B5.out.frozen 23; clear b5 s5 k5))
  go_ret
  have e1 := acc_full (r0 + 18446744073709551616 * r1) m (zs.take k) (by rw [HM.out.1, HZ.out.1]; exact hfull)
  have e2 : (m ++ zs.take k).length % 16 = 0 := by rw [List.length_append, HZ.out.1]; have := HM.out.1; omega
  have e3 : openB (m ++ zs.take k) = zs0 16 := by rw [openB, e1.2, e2]; rfl
  have e4 : op1 = rest16 m ++ zs.take k := by
   rw [← HO.out.2.2, show 16 - F - k = 0 by omega, zs0, List.replicate_zero, List.append_nil]
  have hbd := step5_bd (r0 + 18446744073709551616 * r1) a (le op1 + 1 * 340282366920938463463374607431768211456) (by have := HX.out.2.hr0; have := HX.out.2.hr1; omega) HX.out.2.ha (by have := le16_bd op1 HO.out.2.1 (by rw [HO.out.1]; omega); omega)
  have b6 := B5.out.set 23 (.int .i64 ((0 : Nat) : Int))
  rw [set_filled _ _ _ _ _ 16 0 (zs0_length 16)] at b6
  refine ⟨rfl, ⟨?_, bytes_app HM.out.2.2.2.1 HZ.out.2⟩, K5.out.setCell (p := ⟨g, 23, none⟩) rfl _⟩
  rw [e3, e2, e1.1, HM.out.2.1, ← e4, show le op1 + 340282366920938463463374607431768211456 = le op1 + 1 * 340282366920938463463374607431768211456 by omega]
  exact ⟨b6, HX.out.2.hr0, HX.out.2.hr1, HX.out.2.hs, hbd, zs0_length 16, zs0_bytes 16, by decide⟩
 ·have i1 : ¬ (F : Int) + (k : Int) = 16 := by omega
  go_wp2_with fail
  go_ret
  have e1 := acc_less (r0 + 18446744073709551616 * r1) m (zs.take k) (by rw [HM.out.1, HZ.out.1]; omega)
  have e2 : (m ++ zs.take k).length % 16 = F + k := by rw [List.length_append, HZ.out.1]; have := HM.out.1; omega
  have e3 := open_split m (zs.take k) k (by rw [HM.out.1]; omega) HZ.out.1
  rw [if_pos (by rw [HM.out.1]; omega), HM.out.1, HO.out.2.2] at e3
  refine ⟨rfl, ⟨?_, bytes_app HM.out.2.2.2.1 HZ.out.2⟩, X1.out.2⟩
  rw [← e3, e2, e1.1, HM.out.2.1]
  exact ⟨X1.out.1, HX.out.2.hr0, HX.out.2.hr1, HX.out.2.hs, HX.out.2.ha, HO.out.1, HO.out.2.1, by omega⟩
theorem sub_some (b o lo c : Nat) (h : lo < c ∨ lo = 0) : subA (some ⟨b, o, none⟩) lo c = some ⟨b, o + lo, none⟩ := by
 unfold subA
 split
 ·next h1 =>
  obtain rfl : lo = 0 := by omega
  rfl
 ·exact congrArg some (add_mid b o lo)
theorem arr16 (ao : Option Addr) (n c : Nat) (hn : 16 ≤ n) (w : World) : (Instr.arrayAt 66 (.slice ao n c)).run Tryz.prog w = .ok (.pointer ao) w := run_arrayAt w 66 5 16 ao n c Tryz.underlying66 hn
theorem take_take_drop (zs : List Int) (j k : Nat) : zs.take j ++ (zs.drop j).take k = zs.take (j + k) := by
 rw [List.take_add]
theorem write_any (g : Nat) (r0 r1 s : Int) (m : List Int) (ao : Option Addr) (n c : Nat) (zs : List Int) (w : World) (h : PHolds w g r0 r1 s m) (hx : Seen w ao n zs) (hc : n ≤ c) (hne : ∀ b o, 0 < n → ao = some ⟨b, o, none⟩ → b ≠ g) :
  Calls Tryz.prog 154 #[.pointer (some ⟨g, 0, none⟩), .slice ao n c] w fun e w' => e = .returned (.tuple #[.int .i64 n, .nilIface]) ∧ PHolds w' g r0 r1 s (m ++ zs) ∧ Kept (fun k => k = g) w w' := by
 obtain ⟨b0, o0, hbo⟩ : ∃ b o, 0 < n → ao = some ⟨b, o, none⟩ ∧ b ≠ g ∧ b < w.heap.size := by
  rcases Nat.eq_zero_or_pos n with h0 | h0
  ·exact ⟨0, 0, fun h => by omega⟩
  ·obtain ⟨b, o, e, hl, hcs⟩ := hx.cells h0
   exact ⟨b, o, fun _ => ⟨e, hne b o h0 e, hl⟩⟩
 have hF := fill_any g r0 r1 s m ao n c zs w h hx hne
 obtain ⟨k, hk⟩ : ∃ z, Nat.min n (16 - m.length % 16) = z := ⟨_, rfl⟩
 rw [hk] at hF
 have hk1 : k ≤ n := by rw [← hk]; exact Nat.min_le_left _ _
 have hk2 : (m.length + k) % 16 = 0 ∨ k = n := by
  have h1 : Nat.min n (16 - m.length % 16) = if n ≤ 16 - m.length % 16 then n else 16 - m.length % 16 := rfl
  rw [hk] at h1
  split at h1
  ·exact .inr h1
  ·left; omega
 have hsl := sl_l ao n c k hk1
 have HX : Hid (Seen w ao n zs ∧ Bytes m ∧ zs.length = n ∧ ∀ b o, 0 < n → ao = some ⟨b, o, none⟩ → b ≠ g) := ⟨hx, h.bytes, hx.len, hne⟩
 have HB : Hid (0 < n → ao = some ⟨b0, o0, none⟩ ∧ b0 ≠ g ∧ b0 < w.heap.size) := hbo
 have HF : Hid (Calls Tryz.prog 163 #[.pointer (some ⟨g, 0, none⟩), .slice ao n c] w fun e w' => e = .returned (.int .i64 (k : Nat)) ∧ PHolds w' g r0 r1 s (m ++ zs.take k) ∧ Kept (fun k => k = g) w w') := hF
 have ht := hx.top
 clear h hx hne hbo hF hk
 go_enter Tryz.func154, Tryz.ntmps154
 go_wp2_with (go_at_call 163; refine HF.out.mono ?_; rintro e w1 ⟨rfl, h1, k1⟩; have X1 : Hid (PHolds w1 g r0 r1 s (m ++ zs.take k) ∧ Kept (fun k => k = g) w w1) := ⟨h1, k1⟩; clear h1 k1)
 go_loopw [6] (fun v wr => ∃ (j cc : Nat) (r : Option Addr), j ≤ n ∧ n - j ≤ cc ∧ v = .slice r (n - j) cc ∧ (j < n → r = some ⟨b0, o0 + j, none⟩) ∧ PHolds wr g r0 r1 s (m ++ zs.take j) ∧ Kept (fun k => k = g) w wr ∧ ((m.length + j) % 16 = 0 ∨ j = n)) (fun v _ => match v with | .slice _ l _ => l | _ => 0)
 case atStart =>
  refine ⟨k, c - k, _, hk1, by omega, rfl, fun hn => ?_, X1.out.1, X1.out.2, hk2⟩
  rw [(HB.out (by omega)).1]
  exact sub_some _ _ _ _ (.inl (by omega))
 case round =>
  clear hsl
  obtain ⟨j, cc, r, hj, hcc, rfl, hr, hh, hkp, hm16⟩ := hrel
  obtain ⟨M, hM⟩ : ∃ M, m ++ zs.take j = M := ⟨_, rfl⟩
  rw [hM] at hh
  have hML : M.length = m.length + j := by rw [← hM, List.length_append, List.length_take, HX.out.2.2.1]; omega
  by_cases hlt : 16 ≤ n - j
  ·obtain rfl := hr (by omega)
   have HN := HB.out (by omega)
   have hz16 : ((zs.drop j).take 16).length = 16 := by rw [List.length_take, List.length_drop, HX.out.2.2.1]; omega
   obtain ⟨P, hP⟩ : ∃ P, (zs.drop j).take 16 = P := ⟨_, rfl⟩
   rw [hP] at hz16
   have hPb : Bytes P := by rw [← hP]; exact bytes_take (bytes_drop HX.out.1.bytes _) _
   have hrange : wr.rangeAt b0 (o0 + j) (u8s P) := by
    intro i v hv
    have hi : i < 16 := by have := (List.getElem?_eq_some_iff.1 hv).1; rw [u8s_length] at this; omega
    obtain ⟨b, o, e, hbl, hcs⟩ := HX.out.1.cells (by omega)
    rw [HN.1] at e
    cases e
    rw [hkp.cell (p := ⟨b0, o0 + j + i, none⟩) hbl HN.2.1, Nat.add_assoc, hcs (j + i) (by omega), ← hv, ← hP]
    have hzz : j + i < zs.length := by rw [HX.out.2.2.1]; omega
    simp [u8s, List.getElem?_take, hi, List.getD, hzz]
   have hsh : ∀ W, (Instr.sliceAt 37 (.slice (some ⟨b0, o0 + j, none⟩) (n - j) cc) none (some (.int .i64 16)) none).run Tryz.prog W = .ok (.slice (some ⟨b0, o0 + j, none⟩) 16 cc) W := fun W => by
    have := sl_h (some ⟨b0, o0 + j, none⟩) (n - j) cc 16 (by omega) W
    rw [sub_some _ _ _ _ (.inr rfl)] at this
    exact this
   have hsx := sl_l (some ⟨b0, o0 + j, none⟩) (n - j) cc 16 (by omega)
   have harr := fun W => arr16 (some ⟨b0, o0 + j, none⟩) 16 cc (Nat.le_refl _) W
   have hbe := behind_any g r0 r1 s _ _ _ P 1 hz16 hPb (by decide) wr hh.at_
   have e0 : M.length % 16 = 0 := by rcases hm16 with h | h <;> omega
   have e1 := acc_full (r0 + 18446744073709551616 * r1) M P (by omega)
   have e2 : (M ++ P).length % 16 = 0 := by rw [List.length_append]; omega
   have e3 : openB (M ++ P) = zs0 16 := by rw [openB, e1.2, e2]; rfl
   have e4 : openB M = zs0 16 := by
    have : rest16 M = [] := List.eq_nil_of_length_eq_zero (by rw [rest16_length]; exact e0)
    rw [openB, this, e0]; rfl
   have e5 : rest16 M = [] := List.eq_nil_of_length_eq_zero (by rw [rest16_length]; exact e0)
   rw [e5, List.nil_append] at e1
   obtain ⟨A, hA⟩ : ∃ z, step5 (r0 + 18446744073709551616 * r1) (acc (r0 + 18446744073709551616 * r1) M) (le P + 340282366920938463463374607431768211456) = z := ⟨_, rfl⟩
   rw [show le P + 1 * 340282366920938463463374607431768211456 = le P + 340282366920938463463374607431768211456 by omega, hA] at hbe
   obtain ⟨B, hB⟩ : ∃ z, nm A = z := ⟨_, rfl⟩
   rw [hB] at hbe
   have hbd := step5_bd (r0 + 18446744073709551616 * r1) (acc (r0 + 18446744073709551616 * r1) M) (le P + 340282366920938463463374607431768211456) (by have := hh.at_.hr0; have := hh.at_.hr1; omega) hh.at_.ha (by have := le16_bd P hPb (by omega); omega)
   rw [hA] at hbd
   have Y0 : Hid (PHolds wr g r0 r1 s M ∧ Kept (fun k => k = g) w wr ∧ acc (r0 + 18446744073709551616 * r1) (M ++ P) = A ∧ (M ++ P).length % 16 = 0 ∧ openB (M ++ P) = zs0 16 ∧ openB M = zs0 16 ∧ M.length % 16 = 0 ∧ Bytes P ∧ m ++ zs.take (j + 16) = M ++ P ∧ nm A = B ∧ B.length = 3 ∧ (0 ≤ A ∧ A < 1701411834604692317316873037158841057280) ∧ P.length = 16 ∧ (m.length + (j + 16)) % 16 = 0) := ⟨hh, hkp, by rw [e1.1, hA], e2, e3, e4, e0, hPb, by rw [← hM, ← hP, List.append_assoc, take_take_drop], hB, by rw [← hB]; rfl, hbd, hz16, by omega⟩
   have HR : Hid (wr.rangeAt b0 (o0 + j) (u8s P)) := hrange
   have HBE : Hid (Calls Tryz.prog 164 #[.pointer (some ⟨g, 0, none⟩), .agg (u8s P).toArray, .int .u64 1] wr fun e w' => e = .returned (.agg (u64s B).toArray) ∧ Below wr.heap.size wr w') := hbe
   have i1 : (16 : Int) ≤ ((n - j : Nat) : Int) := by omega
   clear hh hkp hm16 hM hML hz16 hP hPb hrange hbe e0 e1 e2 e3 e4 e5 hA hB hbd hr HN
   obtain ⟨N, hN⟩ : ∃ N, n - j = N := ⟨_, rfl⟩
   rw [hN] at hsh hsx i1 hlt hcc ⊢
   have HNN : Hid (n - j = N) := hN
   clear hN
   go_wp2_with (first | (refine wpList_load_mid rfl 66 _ rfl b0 (o0 + j) rfl (u8s P) _ HR.out Tryz.underlying66 rfl (by rw [u8s_length, Y0.out.2.2.2.2.2.2.2.2.2.2.2.2.1]; exact size16) ?_) | (go_at_call 164; refine HBE.out.mono ?_; rintro e w3 ⟨rfl, l3⟩; have B3 : Hid (Blk w3 g 249 (u64s [r0, r1] ++ u64s (pr s) ++ (u64s (nm (acc (r0 + 18446744073709551616 * r1) M)) ++ (u8s (openB M) ++ [Value.int .i64 ((M.length % 16 : Nat) : Int)])))) := (by have q := Y0.out.1.at_.blk.later l3 Y0.out.1.lt; rw [pCells, ← List.append_assoc] at q; exact q); have K3 : Hid (Kept (fun b => b = g) w w3) := Y0.out.2.1.trans (Kept.new _ l3); clear l3) | (refine wpList_store_part rfl 247 249 _ _ rfl g 4 rfl (u64s [r0, r1] ++ u64s (pr s)) (u64s (nm (acc (r0 + 18446744073709551616 * r1) M))) (u8s (openB M) ++ [Value.int .i64 ((M.length % 16 : Nat) : Int)]) (u64s B) rfl B3.out rfl (by rw [u64s_length, Y0.out.2.2.2.2.2.2.2.2.2.2.1]; rfl) (by rw [u64s_length, Y0.out.2.2.2.2.2.2.2.2.2.2.1]; exact sizeNumber) (u64s_one _) ?_; intro w4 b4 s4 k4; have B4 : Hid (Blk w4 g 249 (pCells r0 r1 s A (openB M) (M.length % 16))) := (by have q := b4; rw [pCells, Y0.out.2.2.2.2.2.2.2.2.2.1, ← List.append_assoc]; exact q); have K4 : Hid (Kept (fun b => b = g) w w4) := K3.out.trans k4; clear b4 s4 k4))
   have F0 := Y0.out
   refine ⟨⟨j + 16, cc - 16, _, by have := HNN.out; omega, by have := HNN.out; omega, by rw [← Nat.sub_sub, HNN.out], fun hn => ?_, ?_, K4.out, .inl F0.2.2.2.2.2.2.2.2.2.2.2.2.2⟩, ?_⟩
   ·rw [← Nat.add_assoc]
    exact sub_some _ _ _ _ (.inl (by have := HNN.out; omega))
   ·rw [F0.2.2.2.2.2.2.2.2.1]
    refine ⟨?_, bytes_app F0.1.bytes F0.2.2.2.2.2.2.2.1⟩
    rw [F0.2.2.1, F0.2.2.2.1, F0.2.2.2.2.1]
    have q := B4.out
    rw [F0.2.2.2.2.2.1, F0.2.2.2.2.2.2.1] at q
    exact ⟨q, F0.1.at_.hr0, F0.1.at_.hr1, F0.1.at_.hs, F0.2.2.2.2.2.2.2.2.2.2.2.1, zs0_length 16, zs0_bytes 16, by decide⟩
   ·simp; omega
  ·have hS : Seen wr r (n - j) (zs.drop j) := by
    have hl := HX.out.2.2.1
    refine ⟨by rw [List.length_drop]; omega, by omega, bytes_drop HX.out.1.bytes _, fun h0 => ?_⟩
    have HN := HB.out (by omega)
    refine ⟨b0, o0 + j, hr (by omega), Nat.lt_of_lt_of_le HN.2.2 hkp.size, fun i hi => ?_⟩
    obtain ⟨b, o, e, hbl, hcs⟩ := HX.out.1.cells (by omega)
    rw [HN.1] at e
    cases e
    rw [hkp.cell (p := ⟨b0, o0 + j + i, none⟩) hbl HN.2.1, Nat.add_assoc, hcs (j + i) (by omega)]
    simp [List.getD]
   have hne2 : ∀ b o, 0 < n - j → r = some ⟨b, o, none⟩ → b ≠ g := fun b o h0 e => by
    have HN := HB.out (by omega)
    rw [hr (by omega)] at e
    cases e
    exact HN.2.1
   have hF2 := fill_any g r0 r1 s M r (n - j) cc (zs.drop j) wr hh hS hne2
   have e1 : (zs.drop j).take (Nat.min (n - j) (16 - M.length % 16)) = zs.drop j := by
    refine List.take_of_length_le ?_
    rw [List.length_drop, HX.out.2.2.1]
    refine Nat.le_min.2 ⟨Nat.le_refl _, ?_⟩
    rcases hm16 with h | h <;> omega
   rw [e1, ← hM, List.append_assoc, List.take_append_drop] at hF2
   have HF2 : Hid (Calls Tryz.prog 163 #[.pointer (some ⟨g, 0, none⟩), .slice r (n - j) cc] wr fun e w' => e = .returned (.int .i64 ((Nat.min (n - j) (16 - (m ++ zs.take j).length % 16) : Nat) : Int)) ∧ PHolds w' g r0 r1 s (m ++ zs) ∧ Kept (fun k => k = g) wr w') := hF2
   have HK : Hid (Kept (fun k => k = g) w wr) := hkp
   have i1 : ¬ (16 : Int) ≤ ((n - j : Nat) : Int) := by omega
   clear hS hne2 hF2 e1 hh hkp hm16 hM hML hr
   go_wp2_with (go_at_call 163; refine HF2.out.mono ?_; rintro e w4 ⟨rfl, h4, k4⟩; have X4 : Hid (PHolds w4 g r0 r1 s (m ++ zs) ∧ Kept (fun k => k = g) w w4) := ⟨h4, HK.out.trans k4⟩; clear h4 k4)
   go_ret2
   exact ⟨rfl, X4.out⟩
theorem tsizeKey : (Tryz.prog.info? 30).map (·.size) = some 32 := by kernel_rfl
theorem build_poly (a b c d : Int) (w : World) : (Instr.build 249 #[(0, .agg (u64s [a, b]).toArray), (1, .agg (u64s [c, d]).toArray)]).run Tryz.prog w = .ok (.agg (u64s [a, b] ++ (u64s [c, d] ++ (u64s [0, 0, 0] ++ (u8s (zs0 16) ++ [Value.int .i64 0])))).toArray) w := by kernel_rfl
theorem tnew_any (key : List Int) (hk : key.length = 32) (hb : Bytes key) (w : World) :
  Calls Tryz.prog 153 #[.agg (u8s key).toArray] w fun e w' => ∃ g, e = .returned (.pointer (some ⟨g, 0, none⟩)) ∧ w.heap.size ≤ g ∧ PHolds w' g (rLow key) (rHigh key) (sOf key) [] ∧ Below w.heap.size w w' := by
 have h1 : (key.take 16).length = 16 := by rw [List.length_take]; omega
 have h2 : ((key.drop 16).take 16).length = 16 := by rw [List.length_take, List.length_drop]; omega
 have p1 := pairOf_any (key.take 16) h1 (bytes_take hb _)
 have p2 := pairOf_any ((key.drop 16).take 16) h2 (bytes_take (bytes_drop hb _) _)
 rw [le_pr _ h1 (bytes_take hb _), show (key.take 16).take 8 = key.take 8 by rw [List.take_take]; rfl, show ((key.take 16).drop 8).take 8 = (key.drop 8).take 8 by rw [List.drop_take, List.take_take]; rfl] at p1
 obtain ⟨A, hA⟩ : ∃ z, le (key.take 8) = z := ⟨_, rfl⟩
 obtain ⟨B, hB⟩ : ∃ z, le ((key.drop 8).take 8) = z := ⟨_, rfl⟩
 obtain ⟨S, hS⟩ : ∃ z, le ((key.drop 16).take 16) = z := ⟨_, rfl⟩
 rw [hA, hB] at p1
 rw [hS] at p2
 have eR : rLow key = bits .and .u64 A 1152921487695413247 := by rw [rLow, hA]
 have eH : rHigh key = bits .and .u64 B 1152921487695413244 := by rw [rHigh, hB]
 have bR := rLow_bd key hb
 have bH := rHigh_bd key hb
 have bS := sOf_bd key hb
 have wA := le8_bd (key.take 8) (bytes_take hb _) (by rw [List.length_take]; omega)
 have wB := le8_bd ((key.drop 8).take 8) (bytes_take (bytes_drop hb _) _) (by rw [List.length_take]; omega)
 rw [hA] at wA
 rw [hB] at wB
 obtain ⟨R, hR⟩ : ∃ z, bits .and .u64 A 1152921487695413247 = z := ⟨_, rfl⟩
 obtain ⟨H, hH⟩ : ∃ z, bits .and .u64 B 1152921487695413244 = z := ⟨_, rfl⟩
 rw [eR, hR] at bR
 rw [eH, hH] at bH
 rw [eR, eH, hR, hH, show sOf key = S from hS]
 rw [show sOf key = S from hS] at bS
 have HS : Hid (key.length = 32 ∧ Bytes key ∧ (0 ≤ R ∧ R < 1152921504606846976) ∧ (0 ≤ H ∧ H < 1152921504606846976) ∧ (0 ≤ S ∧ S < 340282366920938463463374607431768211456) ∧ (key.take 16).length = 16 ∧ ((key.drop 16).take 16).length = 16) := ⟨hk, hb, bR, bH, bS, h1, h2⟩
 obtain ⟨K1, hK1⟩ : ∃ z, key.take 16 = z := ⟨_, rfl⟩
 obtain ⟨K2, hK2⟩ : ∃ z, (key.drop 16).take 16 = z := ⟨_, rfl⟩
 rw [hK1] at p1
 rw [hK2] at p2
 have HKK : Hid (key.take 16 = K1 ∧ (key.drop 16).take 16 = K2 ∧ K1.length = 16 ∧ K2.length = 16) := ⟨hK1, hK2, by rw [← hK1]; exact h1, by rw [← hK2]; exact h2⟩
 have CC : Hid ((∀ w, Calls Tryz.prog 162 #[.agg (u8s K1).toArray] w fun e w' => e = .returned (.agg (u64s [A, B]).toArray) ∧ Below w.heap.size w w') ∧ (∀ w, Calls Tryz.prog 162 #[.agg (u8s K2).toArray] w fun e w' => e = .returned (.agg (u64s (pr S)).toArray) ∧ Below w.heap.size w w')) := ⟨p1, p2⟩
 clear hk hb bR bH bS h1 h2 p1 p2 hK1 hK2 eR eH hA hB hS
 have harr := fun W => arr16 (some ⟨w.heap.size, 0, none⟩) 16 32 (Nat.le_refl _) W
 go_enter Tryz.func153, Tryz.ntmps153
 go_wp2_with (first | (refine wpList_box_new rfl 30 _ rfl (u8s key) rfl ?_; intro w1 b1 s1 l1; have R1 : Hid (w1.rangeAt w.heap.size 0 (u8s K1)) := (by have q := range_sub b1.whole 0 16; rw [u8s_sub, List.drop_zero, HKK.out.1] at q; exact q)) | (refine wpList_load_mid rfl 66 _ rfl w.heap.size 0 rfl (u8s K1) _ R1.out Tryz.underlying66 rfl (by rw [u8s_length, HKK.out.2.2.1]; exact size16) ?_) | (go_at_call 162; refine (CC.out.1 _).mono ?_; rintro e w2 ⟨rfl, l2⟩) | (refine wpList_alloc_new rfl 244 rfl 2 _ zeroPair ?_; intro w3 b3 s3 l3) | (refine wpList_store_blk rfl 244 244 _ _ rfl _ rfl _ (u64s [A, B]) rfl b3 rfl sizePair (u64s_one _) ?_; intro w4 b4 s4 k4))
 try simp only [Act.put, sqA, sqB, sqC]
 obtain ⟨G, hG⟩ : ∃ G, w2.heap.size = G := ⟨_, rfl⟩
 rw [hG] at b4 k4 ⊢
 have HB : Hid (Blk w4 w.heap.size 30 (u8s key) ∧ Blk w4 G 244 (u64s [A, B]) ∧ Below w.heap.size w w4) := by
  have q := l2.size
  exact ⟨((b1.later l2 (by omega)).later l3 (by omega)).kept k4 (by omega), b4, below_kept (below_chain (below_chain l1 l2 (by omega)) l3 (by omega)) k4 (by omega) (fun j hj => by omega)⟩
 clear b1 s1 l1 l2 b3 s3 l3 b4 s4 k4 hG R1
 refine region_inv [.val (.pointer (some ⟨G, 0, none⟩)), .val (.int .u64 A), .val (.int .u64 R), .val (.pointer (some ⟨G, 1, none⟩)), .val (.int .u64 B), .val (.int .u64 H), .val (.agg (u64s [R, H]).toArray), .val (.slice (some ⟨w.heap.size, 16, none⟩) 16 16), .val (.pointer (some ⟨w.heap.size, 16, none⟩)), .val (.agg (u8s K2).toArray), .val (.agg (u64s (pr S)).toArray), .val (.agg (u64s [R, H] ++ (u64s (pr S) ++ (u64s [0, 0, 0] ++ (u8s (zs0 16) ++ [Value.int .i64 0])))).toArray), .blk 249 (u64s [R, H] ++ (u64s (pr S) ++ (u64s [0, 0, 0] ++ (u8s (zs0 16) ++ [Value.int .i64 0]))))] (by kernel_rfl) (by kernel_rfl) (by kernel_rfl) ?_ ?_
 ·refine Steps'.cons ?_ (Steps'.cons ?_ (Steps'.cons ?_ (Steps'.cons ?_ (Steps'.cons ?_ (Steps'.cons ?_ (Steps'.cons ?_ (Steps'.cons ?_ (Steps'.cons ?_ (Steps'.cons ?_ (Steps'.cons ?_ (Steps'.cons ?_ (Steps'.cons ?_ (Steps'.one _ _ _ _ _ _ _)))))))))))))
  ·intro ax wx hb hs hd
   have h3 : ax.tmps.getD 3 undef = (.pointer (some ⟨G, 0, none⟩)) := hs 3 (by kernel_rfl)
   refine Does.value (.pointer (some ⟨G, 0, none⟩)) ?_ rfl
   go_simp
  ·intro ax wx hb hs hd
   have h8 := sqV (hd 0 8 rfl (by kernel_rfl) (by decide))
   have cx : wx.cell? ⟨G, 0, none⟩ = some (.int .u64 A) := (Blk.later HB.out.2.1 hb (Blk.lt HB.out.2.1)).cell 0
   refine Does.value (.int .u64 A) ?_ rfl
   go_simp
  ·intro ax wx hb hs hd
   have h9 := sqV (hd 1 9 rfl (by kernel_rfl) (by decide))
   refine Does.value _ ?_ rfl
   go_simp
  ·intro ax wx hb hs hd
   have h3 : ax.tmps.getD 3 undef = (.pointer (some ⟨G, 0, none⟩)) := hs 3 (by kernel_rfl)
   refine Does.value (.pointer (some ⟨G, 1, none⟩)) ?_ rfl
   go_simp
  ·intro ax wx hb hs hd
   have h11 := sqV (hd 3 11 rfl (by kernel_rfl) (by decide))
   have cx : wx.cell? ⟨G, 1, none⟩ = some (.int .u64 B) := (Blk.later HB.out.2.1 hb (Blk.lt HB.out.2.1)).cell 1
   refine Does.value (.int .u64 B) ?_ rfl
   go_simp
  ·intro ax wx hb hs hd
   have h12 := sqV (hd 4 12 rfl (by kernel_rfl) (by decide))
   refine Does.value _ ?_ rfl
   go_simp
  ·intro ax wx hb hs hd
   have h10 := sqV (hd 2 10 rfl (by kernel_rfl) (by decide))
   have h13 := sqV (hd 5 13 rfl (by kernel_rfl) (by decide))
   exact Does.build 244 _ rfl #[(0, .int .u64 R), (1, .int .u64 H)] (by simp only [List.map_toArray, List.map_cons, List.map_nil, Act.eval, h10, h13]) _ (build_pair _ _ _)
  ·intro ax wx hb hs hd
   have h1 : ax.tmps.getD 1 undef = (.pointer (some ⟨w.heap.size, 0, none⟩)) := hs 1 (by kernel_rfl)
   refine Does.value _ ?_ rfl
   go_simp
  ·intro ax wx hb hs hd
   have h15 := sqV (hd 7 15 rfl (by kernel_rfl) (by decide))
   refine Does.value _ ?_ rfl
   have harr := fun W => arr16 (some ⟨w.heap.size, 16, none⟩) 16 16 (Nat.le_refl _) W
   go_simp
  ·intro ax wx hb hs hd
   have h16 := sqV (hd 8 16 rfl (by kernel_rfl) (by decide))
   exact Does.load 66 (.tmp 16) rfl w.heap.size 16 h16 (u8s K2) _ (by have q := range_sub (Blk.later HB.out.1 hb (Blk.lt HB.out.1)).whole 16 16; rw [u8s_sub, HKK.out.2.1, Nat.zero_add] at q; exact q) Tryz.underlying66 rfl (by rw [u8s_length, HKK.out.2.2.2]; exact size16)
  ·intro ax wx hb hs hd
   have h17 := sqV (hd 9 17 rfl (by kernel_rfl) (by decide))
   refine Does.call 162 #[(.agg (u8s K2).toArray)] (by go_simp) ?_
   refine (CC.out.2 _).mono ?_
   rintro z w' ⟨rfl, l⟩
   exact ⟨_, rfl, rfl, l⟩
  ·intro ax wx hb hs hd
   have h14 := sqV (hd 6 14 rfl (by kernel_rfl) (by decide))
   have h18 := sqV (hd 10 18 rfl (by kernel_rfl) (by decide))
   exact Does.build 249 _ rfl #[(0, .agg (u64s [R, H]).toArray), (1, .agg (u64s (pr S)).toArray)] (by simp only [List.map_toArray, List.map_cons, List.map_nil, Act.eval, h14, h18]) _ (build_poly _ _ _ _ _)
  ·intro ax wx hb hs hd
   have h19 := sqV (hd 11 19 rfl (by kernel_rfl) (by decide))
   exact Does.box 249 (.tmp 19) rfl (u64s [R, H] ++ (u64s (pr S) ++ (u64s [0, 0, 0] ++ (u8s (zs0 16) ++ [Value.int .i64 0])))) h19 hb.size
 ·intro wx hb
  iterate 12 refine @Ends.val _ _ _ _ _ _ _ _ _ _ rfl ?_
  refine @Ends.blk _ _ _ _ _ _ _ _ _ 249 (u64s [R, H] ++ (u64s (pr S) ++ (u64s [0, 0, 0] ++ (u8s (zs0 16) ++ [Value.int .i64 0])))) rfl ?_
  intro g12 hg12 bg12
  refine @Ends.one _ _ _ _ _ _ _ ?_
  simp only [Act.put, sqA, sqB, sqC]
  refine last_assign (.tmp 20) rfl (some 2) rfl _ rfl ?_
  simp only [Act.put, sqA, sqB, sqC]
  have HC : Hid (Blk wx g12 249 (pCells R H S (acc (R + 18446744073709551616 * H) []) (openB []) 0) ∧ Below w.heap.size w wx ∧ w.heap.size ≤ g12) := ⟨bg12, below_chain HB.out.2.2 hb (by have := HB.out.2.2.size; omega), by have := HB.out.2.2.size; omega⟩
  clear hb bg12 hg12
  go_wp2_with fail
  go_ret
  exact ⟨g12, rfl, HC.out.2.2, ⟨⟨HC.out.1, HS.out.2.2.1, HS.out.2.2.2.1, HS.out.2.2.2.2.1, (by show (0 : Int) ≤ 0 ∧ (0 : Int) < _; decide), rfl, zs0_bytes 16, by decide⟩, fun z hz => by cases hz⟩, HC.out.2.1⟩
theorem sizeTag : (Tryz.prog.info? 197).map (·.size) = some 16 := by kernel_rfl
theorem zeroTag : (Tryz.prog.info? 197).map (fun i => (i.zero, i.size)) = some (some (.agg (u8s (zs0 16)).toArray), 16) := by kernel_rfl
def isSl (n : Nat) (L : List Int) (v : Value) (w : World) : Prop := ∃ b o c, v = .slice (some ⟨b, o, none⟩) n c ∧ Seen w (some ⟨b, o, none⟩) n L
theorem isSl_later (n : Nat) (L : List Int) : ∀ v w w', Below w.heap.size w w' → isSl n L v w → isSl n L v w' := fun _ _ _ hb ⟨b, o, c, h1, h2⟩ => ⟨b, o, c, h1, h2.later hb (Nat.le_refl _)⟩
def isPt (n : Nat) (L : List Int) (v : Value) (w : World) : Prop := ∃ b o, v = .pointer (some ⟨b, o, none⟩) ∧ Seen w (some ⟨b, o, none⟩) n L
theorem isPt_later (n : Nat) (L : List Int) : ∀ v w w', Below w.heap.size w w' → isPt n L v w → isPt n L v w' := fun _ _ _ hb ⟨b, o, h1, h2⟩ => ⟨b, o, h1, h2.later hb (Nat.le_refl _)⟩
theorem seen_range {w : World} {b o n : Nat} {L : List Int} (h : Seen w (some ⟨b, o, none⟩) n L) : w.rangeAt b o (u8s L) := fun j v hv => by
 have hj : j < L.length := by have := (List.getElem?_eq_some_iff.1 hv).1; rwa [u8s_length] at this
 have hl := h.len
 obtain ⟨b', o', e, _, hc⟩ := h.cells (by omega)
 cases e
 rw [hc j (by omega), ← hv]
 simp [u8s, List.getD, hj]
theorem own_sl {w : World} {base : Nat} {v : Value} {n : Nat} {L : List Int} (hl : L.length = n) (hn : 0 < n) (hb : Bytes L) (ht : n ≤ 140737488355328) (h : w.ownsRow base 5 1 v n (L.map (Value.int .u8))) : isSl n L v w := by
 obtain ⟨vo, cap, rfl, hs, _⟩ := own_seen hl hb ht h
 obtain ⟨b, o, rfl, _⟩ := hs.cells hn
 exact ⟨b, o, cap, rfl, hs⟩
theorem put_first (x : Int) (hx : Word x) (w : World) : Calls Tryz.prog 129 #[.slice none 0 0, .int .u64 x] w fun e w' => ∃ v, e = .returned v ∧ isSl 8 (leB 8 x) v w' ∧ Below w.heap.size w w' := by
 refine (put_64 none 0 0 [] x w (Seen.empty _ _) (fun _ => rfl) (by decide) hx).mono ?_
 rintro e w' ⟨v, rfl, ho, hb⟩
 exact ⟨v, rfl, own_sl (leB_length _ _) (by decide) (leB_bytes _ _) (by decide) ho, hb⟩
theorem put_more (b o c : Nat) (L : List Int) (x : Int) (hx : Word x) (w : World) (hs : Seen w (some ⟨b, o, none⟩) 8 L) : Calls Tryz.prog 129 #[.slice (some ⟨b, o, none⟩) 8 c, .int .u64 x] w fun e w' => ∃ v, e = .returned v ∧ isSl 16 (L ++ leB 8 x) v w' ∧ Below w.heap.size w w' := by
 refine (put_64 (some ⟨b, o, none⟩) 8 c L x w hs (fun h => by cases h) (by decide) hx).mono ?_
 rintro e w' ⟨v, rfl, ho, hb⟩
 exact ⟨v, rfl, own_sl (by rw [List.length_append, hs.len, leB_length]) (by decide) (bytes_app hs.bytes (leB_bytes _ _)) (by decide) ho, hb⟩
theorem arrTag (ao : Option Addr) (n c : Nat) (hn : 16 ≤ n) (w : World) : (Instr.arrayAt 197 (.slice ao n c)).run Tryz.prog w = .ok (.pointer ao) w := run_arrayAt w 197 5 16 ao n c Tryz.underlying197 hn
theorem code_words (A s : Int) (hA : 0 ≤ A) (hs : 0 ≤ s ∧ s < 340282366920938463463374607431768211456) : pr (A % 340282366920938463463374607431768211456) = [A % 18446744073709551616, A / 18446744073709551616 % 18446744073709551616] := by
 unfold pr
 refine List.cons_eq_cons.2 ⟨by omega, List.cons_eq_cons.2 ⟨by omega, rfl⟩⟩
theorem psum_any (g : Nat) (r0 r1 s : Int) (m : List Int) (w : World) (h : PHolds w g r0 r1 s m) :
  Calls Tryz.prog 155 #[.pointer (some ⟨g, 0, none⟩)] w fun e w' => e = .returned (.agg (u8s (codeB (r0 + 18446744073709551616 * r1) s m)).toArray) ∧ Below w.heap.size w w' := by
 have hP := h.at_
 have hE := accE_bd (r0 + 18446744073709551616 * r1) m (by have := hP.hr0; have := hP.hr1; omega) h.bytes
 have hR := reduced_any (accE (r0 + 18446744073709551616 * r1) m) ⟨hE.1, by omega⟩
 obtain ⟨E, hEe⟩ : ∃ z, accE (r0 + 18446744073709551616 * r1) m = z := ⟨_, rfl⟩
 obtain ⟨D, hD⟩ : ∃ z, E % prime = z := ⟨_, rfl⟩
 have hD0 : 0 ≤ D := by rw [← hD]; exact Int.emod_nonneg _ (by decide)
 obtain ⟨T, hT⟩ : ∃ z, (D % 340282366920938463463374607431768211456 + s) % 340282366920938463463374607431768211456 = z := ⟨_, rfl⟩
 have hT0 : 0 ≤ T ∧ T < 340282366920938463463374607431768211456 := by omega
 have hcode : codeB (r0 + 18446744073709551616 * r1) s m = leB 8 (T % 18446744073709551616) ++ leB 8 (T / 18446744073709551616) := by
  rw [code_split, codeB, codeN, hEe, hD, hT]
 rw [hEe, hD] at hR
 have hpl := pplus_any (D % 340282366920938463463374607431768211456) s ⟨by omega, by omega⟩ hP.hs
 rw [hT, code_words D s hD0 hP.hs] at hpl
 obtain ⟨d0, hd0⟩ : ∃ z, D % 18446744073709551616 = z := ⟨_, rfl⟩
 obtain ⟨d1, hd1⟩ : ∃ z, D / 18446744073709551616 % 18446744073709551616 = z := ⟨_, rfl⟩
 obtain ⟨d2, hd2⟩ : ∃ z, D / 340282366920938463463374607431768211456 = z := ⟨_, rfl⟩
 have eD : nm D = [d0, d1, d2] := by unfold nm; rw [hd0, hd1, hd2]
 obtain ⟨t0, ht0⟩ : ∃ z, T % 18446744073709551616 = z := ⟨_, rfl⟩
 obtain ⟨t1, ht1⟩ : ∃ z, T / 18446744073709551616 = z := ⟨_, rfl⟩
 have eT : pr T = [t0, t1] := by unfold pr; rw [ht0, ht1]
 have wt0 : Word t0 := ⟨by omega, by omega⟩
 have wt1 : Word t1 := ⟨by omega, by omega⟩
 rw [hd0, hd1, eT] at hpl
 rw [eD] at hR
 obtain ⟨EE, hEE⟩ : ∃ z, nm E = z := ⟨_, rfl⟩
 rw [hEE] at hR
 obtain ⟨CB, hCB⟩ : ∃ z, codeB (r0 + 18446744073709551616 * r1) s m = z := ⟨_, rfl⟩
 rw [ht0, ht1, hCB] at hcode
 have HC : Hid (CB = leB 8 t0 ++ leB 8 t1 ∧ CB.length = 16 ∧ Word t0 ∧ Word t1 ∧ EE.length = 3 ∧ Bytes CB) := ⟨hcode, by rw [← hCB]; exact codeB_length _ _ _, wt0, wt1, by rw [← hEE]; rfl, by rw [← hCB]; exact codeB_bytes _ _ _⟩
 rw [hCB]
 have CC : Hid ((∀ w, Calls Tryz.prog 165 #[.agg (u64s EE).toArray] w fun e w' => e = .returned (.agg (u64s [d0, d1, d2]).toArray) ∧ Below w.heap.size w w') ∧ (∀ w, Calls Tryz.prog 166 #[.agg (u64s [d0, d1]).toArray, .agg (u64s (pr s)).toArray] w fun e w' => e = .returned (.agg (u64s [t0, t1]).toArray) ∧ Below w.heap.size w w')) := ⟨hR, hpl⟩
 have HE : Hid (accE (r0 + 18446744073709551616 * r1) m = E ∧ nm E = EE) := ⟨hEe, hEE⟩
 obtain ⟨a, ha⟩ : ∃ z, acc (r0 + 18446744073709551616 * r1) m = z := ⟨_, rfl⟩
 obtain ⟨F, hF⟩ : ∃ z, m.length % 16 = z := ⟨_, rfl⟩
 rw [ha, hF] at hP
 have HP : Hid (PolyAt w g r0 r1 s a (openB m) F ∧ Bytes m ∧ m.length % 16 = F ∧ acc (r0 + 18446744073709551616 * r1) m = a ∧ F < 16) := ⟨hP, h.bytes, hF, ha, by omega⟩
 clear hP hE hR hpl hD hD0 hT hT0 hcode hd0 hd1 hd2 eD ht0 ht1 eT wt0 wt1 hEE hCB hEe ha hF h
 by_cases h0 : 0 < F
 ·have i0 : (0 : Int) < (F : Int) := by omega
  have hF16 := HP.out.2.2.2.2
  have i2 : (F : Int) < 16 := by omega
  obtain ⟨LB, hLB⟩ : ∃ z, lastB m = z := ⟨_, rfl⟩
  have hbe : ∀ W, PolyAt W g r0 r1 s a (openB m) F → Calls Tryz.prog 164 #[.pointer (some ⟨g, 0, none⟩), .agg (u8s LB).toArray, .int .u64 0] W fun e w' => e = .returned (.agg (u64s EE).toArray) ∧ Below W.heap.size W w' := fun W hW => by
   have q := behind_any g r0 r1 s a (openB m) F (lastB m) 0 (lastB_length m) (lastB_bytes HP.out.2.1) (by decide) W hW
   have e : step5 (r0 + 18446744073709551616 * r1) a (le (lastB m) + 0 * 340282366920938463463374607431768211456) = E := by
    rw [← HE.out.1, accE, HP.out.2.2.1, if_pos h0, HP.out.2.2.2.1, Int.zero_mul, Int.add_zero]
   rw [e, HE.out.2, hLB] at q
   exact q
  have HBE : Hid (∀ W, PolyAt W g r0 r1 s a (openB m) F → Calls Tryz.prog 164 #[.pointer (some ⟨g, 0, none⟩), .agg (u8s LB).toArray, .int .u64 0] W fun e w' => e = .returned (.agg (u64s EE).toArray) ∧ Below W.heap.size W w') := hbe
  have HLB : Hid (LB.length = 16 ∧ (openB m).set F 1 = LB) := ⟨by rw [← hLB]; exact lastB_length m, by rw [← hLB, ← open_set, HP.out.2.2.1]⟩
  clear hbe hLB
  go_enter Tryz.func155, Tryz.ntmps155
  go_wp2_with (first | (refine wpList_alloc_new rfl 197 rfl 16 _ zeroTag ?_; intro w1 b1 s1 l1; have P1 : Hid (PolyAt w1 g r0 r1 s a (openB m) F) := HP.out.1.later l1 HP.out.1.lt; have A1 : Hid (w1.rangeAt g 4 (u64s (nm a))) := blk_a P1.out.blk) | ((with_reducible show wpList _ _ _ _ _ w1); refine wpList_load_mid rfl 247 _ rfl g 4 rfl (u64s (nm a)) _ A1.out Tryz.underlying247 rfl (by exact sizeNumber) ?_) | ((with_reducible show wpList _ _ _ _ _ w1); refine wpList_alloc_new rfl 247 rfl 3 _ zeroNumber ?_; intro w2 b2 s2 l2) | ((with_reducible show wpList _ _ _ _ _ w2); refine wpList_store_blk rfl 247 247 _ _ rfl _ rfl _ (u64s (nm a)) rfl b2 rfl sizeNumber (u64s_one _) ?_; intro w3 b3 s3 k3; have P3 : Hid (PolyAt w3 g r0 r1 s a (openB m) F) := ((P1.out.later l2 P1.out.lt).kept k3 (by have := P1.out.lt; omega)); have c3 := blk_filled P3.out.blk P3.out.ol) | ((with_reducible show wpList _ _ _ _ _ w3); refine wpList_load_mid rfl 66 _ rfl g 7 rfl (u8s (openB m)) _ (blk_open P3.out.blk) Tryz.underlying66 rfl (by rw [u8s_length, openB_length]; exact size16) ?_) | ((with_reducible show wpList _ _ _ _ _ w3); refine wpList_alloc_new rfl 66 rfl 16 _ zero16 ?_; intro w4 b4 s4 l4) | ((with_reducible show wpList _ _ _ _ _ w4); refine wpList_store_blk rfl 66 66 _ _ rfl _ rfl _ (u8s (openB m)) rfl b4 (by rw [u8s_length, u8s_length, openB_length]; rfl) (by rw [u8s_length, openB_length]; exact size16) (u8s_one _) ?_; intro w5 b5 s5 k5; have e3 : w3.heap.size = w.heap.size + 1 + 1 := (by omega); rw [e3] at b5 k5; have P5 : Hid (PolyAt w5 g r0 r1 s a (openB m) F) := ((P3.out.later l4 P3.out.lt).kept k5 (by have := P3.out.lt; omega)); have c5 := blk_filled P5.out.blk P5.out.ol; have y5 := u8s_cell b5 F (by rw [openB_length]; exact hF16); have f5 := b5.frozen F) | (refine wpList_load_blk rfl 66 _ rfl _ rfl (u8s LB) _ (by have q := b5.set F (.int .u8 1); rw [u8s_set, HLB.out.2] at q; exact q) Tryz.underlying66 rfl (by rw [u8s_length, HLB.out.1]; exact size16) ?_) | (go_at_call 164; refine (HBE.out _ (P5.out.kept ((Kept.refl (fun k => k = (w.heap.size + 1 + 1)) w5).setCell (p := ⟨(w.heap.size + 1 + 1), F, none⟩) rfl (.int .u8 1)) (by have := P3.out.lt; omega))).mono ?_; rintro e w6 ⟨rfl, l6⟩; have B6 : Hid (Blk w6 (w.heap.size + 1) 247 (u64s (nm a)) ∧ Blk w6 w.heap.size 197 (u8s (zs0 16)) ∧ Below w.heap.size w w6 ∧ PolyAt w6 g r0 r1 s a (openB m) F) := (by have q6 := l6.size; rw [s1] at b3; have q : (w5.setCell ⟨(w.heap.size + 1 + 1), F, none⟩ (.int .u8 1)).heap.size = w5.heap.size := (by simp [World.setCell]); have kk := (Kept.refl (fun k => k = (w.heap.size + 1 + 1)) w5).setCell (p := ⟨(w.heap.size + 1 + 1), F, none⟩) rfl (.int .u8 1); have gl := P5.out.lt; have gl3 := P3.out.lt; have glw := HP.out.1.lt; exact ⟨((((b3.later l4 (by omega)).kept k5 (by omega)).kept kk (by omega)).later l6 (by omega)), (((((((b1.later l2 (by omega)).kept k3 (by omega)).later l4 (by omega)).kept k5 (by omega)).kept kk (by omega))).later l6 (by omega)), below_chain (below_kept (below_kept (below_chain (below_kept (below_chain l1 l2 (by omega)) k3 (by omega) (fun j hj => by omega)) l4 (by omega)) k5 (by omega) (fun j hj => by omega)) kk (by omega) (fun j hj => by omega)) l6 (by omega), (P5.out.kept kk (by omega)).later l6 (by omega)⟩)) | ((with_reducible show wpList _ _ _ _ _ w6); refine wpList_store_blk rfl 247 247 _ _ rfl (w.heap.size + 1) rfl _ (u64s EE) rfl B6.out.1 (by rw [u64s_length, HC.out.2.2.2.2.1]; rfl) (by rw [u64s_length, HC.out.2.2.2.2.1]; exact sizeNumber) (u64s_one _) ?_; intro w7 b7 s7 k7; have X7 : Hid (Blk w7 (w.heap.size + 1) 247 (u64s EE) ∧ Blk w7 w.heap.size 197 (u8s (zs0 16)) ∧ Below w.heap.size w w7 ∧ PolyAt w7 g r0 r1 s a (openB m) F ∧ g < w.heap.size) := ⟨b7, B6.out.2.1.kept k7 (by omega), below_kept B6.out.2.2.1 k7 B6.out.2.2.1.size (fun j hj => by omega), B6.out.2.2.2.kept k7 (by have := HP.out.1.lt; omega), HP.out.1.lt⟩; clear e3 b1 s1 l1 b2 s2 l2 b3 s3 k3 c3 b4 s4 l4 b5 s5 k5 c5 y5 f5 l6 b7 s7 k7) | (refine wpList_load_blk rfl 247 _ rfl (w.heap.size + 1) rfl (u64s EE) _ X7.out.1 Tryz.underlying247 rfl (by rw [u64s_length, HC.out.2.2.2.2.1]; exact sizeNumber) ?_) | (go_at_call 165; refine (CC.out.1 _).mono ?_; rintro e w8 ⟨rfl, l8⟩; have X8 : Hid (Blk w8 (w.heap.size + 1) 247 (u64s EE) ∧ Blk w8 w.heap.size 197 (u8s (zs0 16)) ∧ Below w.heap.size w w8 ∧ PolyAt w8 g r0 r1 s a (openB m) F) := ⟨X7.out.1.later l8 X7.out.1.lt, X7.out.2.1.later l8 X7.out.2.1.lt, below_chain X7.out.2.2.1 l8 X7.out.2.2.1.size, X7.out.2.2.2.1.later l8 X7.out.2.2.2.1.lt⟩; clear l8) | (refine wpList_store_blk rfl 247 247 _ _ rfl (w.heap.size + 1) rfl _ (u64s [d0, d1, d2]) rfl X8.out.1 (by rw [u64s_length, u64s_length, HC.out.2.2.2.2.1]; rfl) sizeNumber (u64s_one _) ?_; intro w9 b9 s9 k9; have X9 : Hid (Blk w9 (w.heap.size + 1) 247 (u64s [d0, d1, d2]) ∧ Blk w9 w.heap.size 197 (u8s (zs0 16)) ∧ Below w.heap.size w w9 ∧ Blk w9 g 249 (pCells r0 r1 s a (openB m) F)) := ⟨b9, X8.out.2.1.kept k9 (by omega), below_kept X8.out.2.2.1 k9 X8.out.2.2.1.size (fun j hj => by omega), (X8.out.2.2.2.kept k9 (by have := X7.out.2.2.2.2; omega)).blk⟩; clear b9 s9 k9))
  simp only [Act.put, sqA, sqB, sqC]
  refine region_inv [.val (.pointer (some ⟨(w.heap.size + 1), 0, none⟩)), .val (.int .u64 d0), .val (.pointer (some ⟨(w.heap.size + 1), 1, none⟩)), .val (.int .u64 d1), .val (.agg (u64s [d0, d1]).toArray), .val (.pointer (some ⟨g, 0, none⟩)), .val (.pointer (some ⟨g, 0, none⟩)), .val (.pointer (some ⟨g, 2, none⟩)), .val (.agg (u64s (pr s)).toArray), .val (.agg (u64s [t0, t1]).toArray), .blk 244 (u64s [0, 0])] (by kernel_rfl) (by kernel_rfl) (by kernel_rfl) ?_ ?_
  ·refine Steps'.cons ?_ (Steps'.cons ?_ (Steps'.cons ?_ (Steps'.cons ?_ (Steps'.cons ?_ (Steps'.cons ?_ (Steps'.cons ?_ (Steps'.cons ?_ (Steps'.cons ?_ (Steps'.cons ?_ (Steps'.cons ?_ (Steps'.one _ _ _ _ _ _ _)))))))))))
   ·intro ax wx hb hs hd
    have h3 : ax.tmps.getD 3 undef = (.pointer (some ⟨(w.heap.size + 1), 0, none⟩)) := hs 3 (by kernel_rfl)
    refine Does.value (.pointer (some ⟨(w.heap.size + 1), 0, none⟩)) ?_ rfl
    go_simp
   ·intro ax wx hb hs hd
    have h32 := sqV (hd 0 32 rfl (by kernel_rfl) (by decide))
    have cx : wx.cell? ⟨(w.heap.size + 1), 0, none⟩ = some (.int .u64 d0) := (Blk.later X9.out.1 hb (Blk.lt X9.out.1)).cell 0
    refine Does.value (.int .u64 d0) ?_ rfl
    go_simp
   ·intro ax wx hb hs hd
    have h3 : ax.tmps.getD 3 undef = (.pointer (some ⟨(w.heap.size + 1), 0, none⟩)) := hs 3 (by kernel_rfl)
    refine Does.value (.pointer (some ⟨(w.heap.size + 1), 1, none⟩)) ?_ rfl
    go_simp
   ·intro ax wx hb hs hd
    have h34 := sqV (hd 2 34 rfl (by kernel_rfl) (by decide))
    have cx : wx.cell? ⟨(w.heap.size + 1), 1, none⟩ = some (.int .u64 d1) := (Blk.later X9.out.1 hb (Blk.lt X9.out.1)).cell 1
    refine Does.value (.int .u64 d1) ?_ rfl
    go_simp
   ·intro ax wx hb hs hd
    have h33 := sqV (hd 1 33 rfl (by kernel_rfl) (by decide))
    have h35 := sqV (hd 3 35 rfl (by kernel_rfl) (by decide))
    exact Does.build 244 _ rfl #[(0, .int .u64 d0), (1, .int .u64 d1)] (by simp only [List.map_toArray, List.map_cons, List.map_nil, Act.eval, h33, h35]) _ (build_pair _ _ _)
   ·intro ax wx hb hs hd
    have h0 : ax.tmps.getD 0 undef = (.pointer (some ⟨g, 0, none⟩)) := hs 0 (by kernel_rfl)
    refine Does.value (.pointer (some ⟨g, 0, none⟩)) ?_ rfl
    go_simp
   ·intro ax wx hb hs hd
    have h37 := sqV (hd 5 37 rfl (by kernel_rfl) (by decide))
    refine Does.value (.pointer (some ⟨g, 0, none⟩)) ?_ rfl
    go_simp
   ·intro ax wx hb hs hd
    have h38 := sqV (hd 6 38 rfl (by kernel_rfl) (by decide))
    refine Does.value _ ?_ rfl
    go_simp
   ·intro ax wx hb hs hd
    have h39 := sqV (hd 7 39 rfl (by kernel_rfl) (by decide))
    exact Does.load 244 (.tmp 39) rfl g 2 h39 (u64s (pr s)) _ (blk_s (Blk.later X9.out.2.2.2 hb (Blk.lt X9.out.2.2.2))) Tryz.underlying244 rfl (by exact sizePair)
   ·intro ax wx hb hs hd
    have h36 := sqV (hd 4 36 rfl (by kernel_rfl) (by decide))
    have h40 := sqV (hd 8 40 rfl (by kernel_rfl) (by decide))
    refine Does.call 166 #[(.agg (u64s [d0, d1]).toArray), (.agg (u64s (pr s)).toArray)] (by go_simp) ?_
    refine (CC.out.2 _).mono ?_
    rintro z w' ⟨rfl, l⟩
    exact ⟨_, rfl, rfl, l⟩
   ·intro ax wx hb hs hd
    exact Does.alloc 244 rfl 2 _ zeroPair hb.size
  ·intro wx hb
   iterate 10 refine @Ends.val _ _ _ _ _ _ _ _ _ _ rfl ?_
   refine @Ends.blk _ _ _ _ _ _ _ _ _ 244 (u64s [0, 0]) rfl ?_
   intro g10 hg10 bg10
   refine @Ends.one _ _ _ _ _ _ _ ?_
   simp only [Act.put, sqA, sqB, sqC]
   refine last_store 244 (.tmp 5) (.tmp 41) rfl rfl g10 rfl 244 _ (u64s [t0, t1]) rfl bg10 rfl sizePair (u64s_one _) ?_
   intro wa ba sa ka
   have XA : Hid (Blk wa g10 244 (u64s [t0, t1]) ∧ Blk wa w.heap.size 197 (u8s (zs0 16)) ∧ Below w.heap.size w wa) := by
    have q2 := X9.out.2.1.lt
    have q5 := hb.size
    have q6 := X9.out.2.2.1.size
    exact ⟨ba, (X9.out.2.1.later hb q2).kept ka (by omega), below_kept (below_chain X9.out.2.2.1 hb (by omega)) ka (by omega) (fun j hj => by omega)⟩
   clear ba sa ka hb bg10 hg10 X9
   go_wp2_with fail
   try simp only [Act.put, sqA, sqB, sqC]
   refine region_inv [.val (.pointer (some ⟨g10, 0, none⟩)), .val (.int .u64 t0), .any (isSl 8 (leB 8 t0)) (isSl_later _ _), .val (.pointer (some ⟨g10, 1, none⟩)), .val (.int .u64 t1), .any (isSl 16 CB) (isSl_later _ _), .any (isPt 16 CB) (isPt_later _ _), .val (.agg (u8s CB).toArray)] (by kernel_rfl) (by kernel_rfl) (by kernel_rfl) ?_ ?_
   ·refine Steps'.cons ?_ (Steps'.cons ?_ (Steps'.cons ?_ (Steps'.cons ?_ (Steps'.cons ?_ (Steps'.cons ?_ (Steps'.cons ?_ (Steps'.cons ?_ (Steps'.one _ _ _ _ _ _ _))))))))
    ·intro ax wx hb hs hd
     have h5 : ax.tmps.getD 5 undef = (.pointer (some ⟨g10, 0, none⟩)) := hs 5 (by kernel_rfl)
     refine Does.value (.pointer (some ⟨g10, 0, none⟩)) ?_ rfl
     go_simp
    ·intro ax wx hb hs hd
     have h42 := sqV (hd 0 42 rfl (by kernel_rfl) (by decide))
     have cx : wx.cell? ⟨g10, 0, none⟩ = some (.int .u64 t0) := (Blk.later XA.out.1 hb (Blk.lt XA.out.1)).cell 0
     refine Does.value (.int .u64 t0) ?_ rfl
     go_simp
    ·intro ax wx hb hs hd
     have h43 := sqV (hd 1 43 rfl (by kernel_rfl) (by decide))
     refine Does.call 129 #[(Value.slice none 0 0), (.int .u64 t0)] (by go_simp) ?_
     exact put_first t0 HC.out.2.2.1 _
    ·intro ax wx hb hs hd
     have h5 : ax.tmps.getD 5 undef = (.pointer (some ⟨g10, 0, none⟩)) := hs 5 (by kernel_rfl)
     refine Does.value (.pointer (some ⟨g10, 1, none⟩)) ?_ rfl
     go_simp
    ·intro ax wx hb hs hd
     have h45 := sqV (hd 3 45 rfl (by kernel_rfl) (by decide))
     have cx : wx.cell? ⟨g10, 1, none⟩ = some (.int .u64 t1) := (Blk.later XA.out.1 hb (Blk.lt XA.out.1)).cell 1
     refine Does.value (.int .u64 t1) ?_ rfl
     go_simp
    ·intro ax wx hb hs hd
     have h46 := sqV (hd 4 46 rfl (by kernel_rfl) (by decide))
     obtain ⟨b, o, cc, h44, s44⟩ : isSl 8 (leB 8 t0) (ax.tmps.getD 44 undef) wx := hd 2 44 rfl (by kernel_rfl) (by decide)
     refine Does.call 129 #[.slice (some ⟨b, o, none⟩) 8 cc, .int .u64 t1] (by go_simp) ?_
     have q := put_more b o cc _ t1 HC.out.2.2.2.1 wx s44
     rw [← HC.out.1] at q
     exact q
    ·intro ax wx hb hs hd
     obtain ⟨b, o, cc, h47, s47⟩ : isSl 16 CB (ax.tmps.getD 47 undef) wx := hd 5 47 rfl (by kernel_rfl) (by decide)
     have harr := fun W => arrTag (some ⟨b, o, none⟩) 16 cc (Nat.le_refl _) W
     refine Does.value (.pointer (some ⟨b, o, none⟩)) ?_ ⟨b, o, rfl, s47⟩
     go_simp
    ·intro ax wx hb hs hd
     obtain ⟨b, o, h48, s48⟩ : isPt 16 CB (ax.tmps.getD 48 undef) wx := hd 6 48 rfl (by kernel_rfl) (by decide)
     exact Does.load 197 (.tmp 48) rfl b o h48 (u8s CB) _ (seen_range s48) Tryz.underlying197 rfl (by rw [u8s_length, HC.out.2.1]; exact sizeTag)
   ·intro wx hb
    iterate 2 refine @Ends.val _ _ _ _ _ _ _ _ _ _ rfl ?_
    refine @Ends.any _ _ _ _ _ _ _ _ _ (isSl 8 (leB 8 t0)) (isSl_later _ _) rfl ?_
    intro v2 p2
    iterate 2 refine @Ends.val _ _ _ _ _ _ _ _ _ _ rfl ?_
    refine @Ends.any _ _ _ _ _ _ _ _ _ (isSl 16 CB) (isSl_later _ _) rfl ?_
    intro v5 p5
    refine @Ends.any _ _ _ _ _ _ _ _ _ (isPt 16 CB) (isPt_later _ _) rfl ?_
    intro v6 p6
    refine @Ends.val _ _ _ _ _ _ _ _ _ (.agg (u8s CB).toArray) rfl ?_
    refine @Ends.one _ _ _ _ _ _ _ ?_
    simp only [Act.put, sqA, sqB, sqC]
    have q := XA.out.2.1
    refine last_store 197 (.tmp 2) (.tmp 49) rfl rfl w.heap.size rfl 197 _ (u8s CB) rfl (q.later hb q.lt) (by rw [u8s_length, u8s_length, HC.out.2.1]; rfl) (by rw [u8s_length, HC.out.2.1]; exact sizeTag) (u8s_one _) ?_
    intro wb bb sb kb
    have XB : Hid (Below w.heap.size w wb) := below_kept (below_chain XA.out.2.2 hb XA.out.2.2.size) kb (by have := XA.out.2.2.size; have := hb.size; omega) (fun j hj => by omega)
    clear hb sb kb q
    go_wp2_with fail
    exact ret_blk rfl w.heap.size (u8s CB) _ rfl bb Tryz.underlying197 rfl (by rw [u8s_length, HC.out.2.1]; exact sizeTag) rfl ⟨rfl, XB.out⟩
 ·have i0 : ¬ (0 : Int) < (F : Int) := by omega
  have ea : nm a = EE := by rw [← HE.out.2, ← HE.out.1, accE, HP.out.2.2.1, if_neg h0, HP.out.2.2.2.1]
  have HEA : Hid (nm a = EE) := ea
  clear ea
  go_enter Tryz.func155, Tryz.ntmps155
  go_wp2_with (first | (refine wpList_alloc_new rfl 197 rfl 16 _ zeroTag ?_; intro w1 b1 s1 l1; have P1 : Hid (PolyAt w1 g r0 r1 s a (openB m) F) := HP.out.1.later l1 HP.out.1.lt; have A1 : Hid (w1.rangeAt g 4 (u64s EE)) := (by have q := blk_a P1.out.blk; rw [HEA.out] at q; exact q)) | ((with_reducible show wpList _ _ _ _ _ w1); refine wpList_load_mid rfl 247 _ rfl g 4 rfl (u64s EE) _ A1.out Tryz.underlying247 rfl (by rw [u64s_length, HC.out.2.2.2.2.1]; exact sizeNumber) ?_) | ((with_reducible show wpList _ _ _ _ _ w1); refine wpList_alloc_new rfl 247 rfl 3 _ zeroNumber ?_; intro w2 b2 s2 l2) | ((with_reducible show wpList _ _ _ _ _ w2); refine wpList_store_blk rfl 247 247 _ _ rfl _ rfl _ (u64s EE) rfl b2 (by rw [u64s_length, HC.out.2.2.2.2.1]; rfl) (by rw [u64s_length, HC.out.2.2.2.2.1]; exact sizeNumber) (u64s_one _) ?_; intro w3 b3 s3 k3; have P3 : Hid (PolyAt w3 g r0 r1 s a (openB m) F) := ((P1.out.later l2 P1.out.lt).kept k3 (by have := P1.out.lt; omega)); have c3 := blk_filled P3.out.blk P3.out.ol; have X7 : Hid (Blk w3 (w.heap.size + 1) 247 (u64s EE) ∧ Blk w3 w.heap.size 197 (u8s (zs0 16)) ∧ Below w.heap.size w w3 ∧ PolyAt w3 g r0 r1 s a (openB m) F ∧ g < w.heap.size) := (by have q := HP.out.1.lt; rw [s1] at b3; exact ⟨b3, (b1.later l2 (by omega)).kept k3 (by omega), below_kept (below_chain l1 l2 (by omega)) k3 (by omega) (fun j hj => by omega), P3.out, q⟩)) | (refine wpList_load_blk rfl 247 _ rfl (w.heap.size + 1) rfl (u64s EE) _ X7.out.1 Tryz.underlying247 rfl (by rw [u64s_length, HC.out.2.2.2.2.1]; exact sizeNumber) ?_) | (go_at_call 165; refine (CC.out.1 _).mono ?_; rintro e w8 ⟨rfl, l8⟩; have X8 : Hid (Blk w8 (w.heap.size + 1) 247 (u64s EE) ∧ Blk w8 w.heap.size 197 (u8s (zs0 16)) ∧ Below w.heap.size w w8 ∧ PolyAt w8 g r0 r1 s a (openB m) F) := ⟨X7.out.1.later l8 X7.out.1.lt, X7.out.2.1.later l8 X7.out.2.1.lt, below_chain X7.out.2.2.1 l8 X7.out.2.2.1.size, X7.out.2.2.2.1.later l8 X7.out.2.2.2.1.lt⟩; clear l8) | (refine wpList_store_blk rfl 247 247 _ _ rfl (w.heap.size + 1) rfl _ (u64s [d0, d1, d2]) rfl X8.out.1 (by rw [u64s_length, u64s_length, HC.out.2.2.2.2.1]; rfl) sizeNumber (u64s_one _) ?_; intro w9 b9 s9 k9; have X9 : Hid (Blk w9 (w.heap.size + 1) 247 (u64s [d0, d1, d2]) ∧ Blk w9 w.heap.size 197 (u8s (zs0 16)) ∧ Below w.heap.size w w9 ∧ Blk w9 g 249 (pCells r0 r1 s a (openB m) F)) := ⟨b9, X8.out.2.1.kept k9 (by omega), below_kept X8.out.2.2.1 k9 X8.out.2.2.1.size (fun j hj => by omega), (X8.out.2.2.2.kept k9 (by have := X7.out.2.2.2.2; omega)).blk⟩; clear b9 s9 k9))
  simp only [Act.put, sqA, sqB, sqC]
  refine region_inv [.val (.pointer (some ⟨(w.heap.size + 1), 0, none⟩)), .val (.int .u64 d0), .val (.pointer (some ⟨(w.heap.size + 1), 1, none⟩)), .val (.int .u64 d1), .val (.agg (u64s [d0, d1]).toArray), .val (.pointer (some ⟨g, 0, none⟩)), .val (.pointer (some ⟨g, 0, none⟩)), .val (.pointer (some ⟨g, 2, none⟩)), .val (.agg (u64s (pr s)).toArray), .val (.agg (u64s [t0, t1]).toArray), .blk 244 (u64s [0, 0])] (by kernel_rfl) (by kernel_rfl) (by kernel_rfl) ?_ ?_
  ·refine Steps'.cons ?_ (Steps'.cons ?_ (Steps'.cons ?_ (Steps'.cons ?_ (Steps'.cons ?_ (Steps'.cons ?_ (Steps'.cons ?_ (Steps'.cons ?_ (Steps'.cons ?_ (Steps'.cons ?_ (Steps'.cons ?_ (Steps'.one _ _ _ _ _ _ _)))))))))))
   ·intro ax wx hb hs hd
    have h3 : ax.tmps.getD 3 undef = (.pointer (some ⟨(w.heap.size + 1), 0, none⟩)) := hs 3 (by kernel_rfl)
    refine Does.value (.pointer (some ⟨(w.heap.size + 1), 0, none⟩)) ?_ rfl
    go_simp
   ·intro ax wx hb hs hd
    have h32 := sqV (hd 0 32 rfl (by kernel_rfl) (by decide))
    have cx : wx.cell? ⟨(w.heap.size + 1), 0, none⟩ = some (.int .u64 d0) := (Blk.later X9.out.1 hb (Blk.lt X9.out.1)).cell 0
    refine Does.value (.int .u64 d0) ?_ rfl
    go_simp
   ·intro ax wx hb hs hd
    have h3 : ax.tmps.getD 3 undef = (.pointer (some ⟨(w.heap.size + 1), 0, none⟩)) := hs 3 (by kernel_rfl)
    refine Does.value (.pointer (some ⟨(w.heap.size + 1), 1, none⟩)) ?_ rfl
    go_simp
   ·intro ax wx hb hs hd
    have h34 := sqV (hd 2 34 rfl (by kernel_rfl) (by decide))
    have cx : wx.cell? ⟨(w.heap.size + 1), 1, none⟩ = some (.int .u64 d1) := (Blk.later X9.out.1 hb (Blk.lt X9.out.1)).cell 1
    refine Does.value (.int .u64 d1) ?_ rfl
    go_simp
   ·intro ax wx hb hs hd
    have h33 := sqV (hd 1 33 rfl (by kernel_rfl) (by decide))
    have h35 := sqV (hd 3 35 rfl (by kernel_rfl) (by decide))
    exact Does.build 244 _ rfl #[(0, .int .u64 d0), (1, .int .u64 d1)] (by simp only [List.map_toArray, List.map_cons, List.map_nil, Act.eval, h33, h35]) _ (build_pair _ _ _)
   ·intro ax wx hb hs hd
    have h0 : ax.tmps.getD 0 undef = (.pointer (some ⟨g, 0, none⟩)) := hs 0 (by kernel_rfl)
    refine Does.value (.pointer (some ⟨g, 0, none⟩)) ?_ rfl
    go_simp
   ·intro ax wx hb hs hd
    have h37 := sqV (hd 5 37 rfl (by kernel_rfl) (by decide))
    refine Does.value (.pointer (some ⟨g, 0, none⟩)) ?_ rfl
    go_simp
   ·intro ax wx hb hs hd
    have h38 := sqV (hd 6 38 rfl (by kernel_rfl) (by decide))
    refine Does.value _ ?_ rfl
    go_simp
   ·intro ax wx hb hs hd
    have h39 := sqV (hd 7 39 rfl (by kernel_rfl) (by decide))
    exact Does.load 244 (.tmp 39) rfl g 2 h39 (u64s (pr s)) _ (blk_s (Blk.later X9.out.2.2.2 hb (Blk.lt X9.out.2.2.2))) Tryz.underlying244 rfl (by exact sizePair)
   ·intro ax wx hb hs hd
    have h36 := sqV (hd 4 36 rfl (by kernel_rfl) (by decide))
    have h40 := sqV (hd 8 40 rfl (by kernel_rfl) (by decide))
    refine Does.call 166 #[(.agg (u64s [d0, d1]).toArray), (.agg (u64s (pr s)).toArray)] (by go_simp) ?_
    refine (CC.out.2 _).mono ?_
    rintro z w' ⟨rfl, l⟩
    exact ⟨_, rfl, rfl, l⟩
   ·intro ax wx hb hs hd
    exact Does.alloc 244 rfl 2 _ zeroPair hb.size
  ·intro wx hb
   iterate 10 refine @Ends.val _ _ _ _ _ _ _ _ _ _ rfl ?_
   refine @Ends.blk _ _ _ _ _ _ _ _ _ 244 (u64s [0, 0]) rfl ?_
   intro g10 hg10 bg10
   refine @Ends.one _ _ _ _ _ _ _ ?_
   simp only [Act.put, sqA, sqB, sqC]
   refine last_store 244 (.tmp 5) (.tmp 41) rfl rfl g10 rfl 244 _ (u64s [t0, t1]) rfl bg10 rfl sizePair (u64s_one _) ?_
   intro wa ba sa ka
   have XA : Hid (Blk wa g10 244 (u64s [t0, t1]) ∧ Blk wa w.heap.size 197 (u8s (zs0 16)) ∧ Below w.heap.size w wa) := by
    have q2 := X9.out.2.1.lt
    have q5 := hb.size
    have q6 := X9.out.2.2.1.size
    exact ⟨ba, (X9.out.2.1.later hb q2).kept ka (by omega), below_kept (below_chain X9.out.2.2.1 hb (by omega)) ka (by omega) (fun j hj => by omega)⟩
   clear ba sa ka hb bg10 hg10 X9
   go_wp2_with fail
   try simp only [Act.put, sqA, sqB, sqC]
   refine region_inv [.val (.pointer (some ⟨g10, 0, none⟩)), .val (.int .u64 t0), .any (isSl 8 (leB 8 t0)) (isSl_later _ _), .val (.pointer (some ⟨g10, 1, none⟩)), .val (.int .u64 t1), .any (isSl 16 CB) (isSl_later _ _), .any (isPt 16 CB) (isPt_later _ _), .val (.agg (u8s CB).toArray)] (by kernel_rfl) (by kernel_rfl) (by kernel_rfl) ?_ ?_
   ·refine Steps'.cons ?_ (Steps'.cons ?_ (Steps'.cons ?_ (Steps'.cons ?_ (Steps'.cons ?_ (Steps'.cons ?_ (Steps'.cons ?_ (Steps'.cons ?_ (Steps'.one _ _ _ _ _ _ _))))))))
    ·intro ax wx hb hs hd
     have h5 : ax.tmps.getD 5 undef = (.pointer (some ⟨g10, 0, none⟩)) := hs 5 (by kernel_rfl)
     refine Does.value (.pointer (some ⟨g10, 0, none⟩)) ?_ rfl
     go_simp
    ·intro ax wx hb hs hd
     have h42 := sqV (hd 0 42 rfl (by kernel_rfl) (by decide))
     have cx : wx.cell? ⟨g10, 0, none⟩ = some (.int .u64 t0) := (Blk.later XA.out.1 hb (Blk.lt XA.out.1)).cell 0
     refine Does.value (.int .u64 t0) ?_ rfl
     go_simp
    ·intro ax wx hb hs hd
     have h43 := sqV (hd 1 43 rfl (by kernel_rfl) (by decide))
     refine Does.call 129 #[(Value.slice none 0 0), (.int .u64 t0)] (by go_simp) ?_
     exact put_first t0 HC.out.2.2.1 _
    ·intro ax wx hb hs hd
     have h5 : ax.tmps.getD 5 undef = (.pointer (some ⟨g10, 0, none⟩)) := hs 5 (by kernel_rfl)
     refine Does.value (.pointer (some ⟨g10, 1, none⟩)) ?_ rfl
     go_simp
    ·intro ax wx hb hs hd
     have h45 := sqV (hd 3 45 rfl (by kernel_rfl) (by decide))
     have cx : wx.cell? ⟨g10, 1, none⟩ = some (.int .u64 t1) := (Blk.later XA.out.1 hb (Blk.lt XA.out.1)).cell 1
     refine Does.value (.int .u64 t1) ?_ rfl
     go_simp
    ·intro ax wx hb hs hd
     have h46 := sqV (hd 4 46 rfl (by kernel_rfl) (by decide))
     obtain ⟨b, o, cc, h44, s44⟩ : isSl 8 (leB 8 t0) (ax.tmps.getD 44 undef) wx := hd 2 44 rfl (by kernel_rfl) (by decide)
     refine Does.call 129 #[.slice (some ⟨b, o, none⟩) 8 cc, .int .u64 t1] (by go_simp) ?_
     have q := put_more b o cc _ t1 HC.out.2.2.2.1 wx s44
     rw [← HC.out.1] at q
     exact q
    ·intro ax wx hb hs hd
     obtain ⟨b, o, cc, h47, s47⟩ : isSl 16 CB (ax.tmps.getD 47 undef) wx := hd 5 47 rfl (by kernel_rfl) (by decide)
     have harr := fun W => arrTag (some ⟨b, o, none⟩) 16 cc (Nat.le_refl _) W
     refine Does.value (.pointer (some ⟨b, o, none⟩)) ?_ ⟨b, o, rfl, s47⟩
     go_simp
    ·intro ax wx hb hs hd
     obtain ⟨b, o, h48, s48⟩ : isPt 16 CB (ax.tmps.getD 48 undef) wx := hd 6 48 rfl (by kernel_rfl) (by decide)
     exact Does.load 197 (.tmp 48) rfl b o h48 (u8s CB) _ (seen_range s48) Tryz.underlying197 rfl (by rw [u8s_length, HC.out.2.1]; exact sizeTag)
   ·intro wx hb
    iterate 2 refine @Ends.val _ _ _ _ _ _ _ _ _ _ rfl ?_
    refine @Ends.any _ _ _ _ _ _ _ _ _ (isSl 8 (leB 8 t0)) (isSl_later _ _) rfl ?_
    intro v2 p2
    iterate 2 refine @Ends.val _ _ _ _ _ _ _ _ _ _ rfl ?_
    refine @Ends.any _ _ _ _ _ _ _ _ _ (isSl 16 CB) (isSl_later _ _) rfl ?_
    intro v5 p5
    refine @Ends.any _ _ _ _ _ _ _ _ _ (isPt 16 CB) (isPt_later _ _) rfl ?_
    intro v6 p6
    refine @Ends.val _ _ _ _ _ _ _ _ _ (.agg (u8s CB).toArray) rfl ?_
    refine @Ends.one _ _ _ _ _ _ _ ?_
    simp only [Act.put, sqA, sqB, sqC]
    have q := XA.out.2.1
    refine last_store 197 (.tmp 2) (.tmp 49) rfl rfl w.heap.size rfl 197 _ (u8s CB) rfl (q.later hb q.lt) (by rw [u8s_length, u8s_length, HC.out.2.1]; rfl) (by rw [u8s_length, HC.out.2.1]; exact sizeTag) (u8s_one _) ?_
    intro wb bb sb kb
    have XB : Hid (Below w.heap.size w wb) := below_kept (below_chain XA.out.2.2 hb XA.out.2.2.size) kb (by have := XA.out.2.2.size; have := hb.size; omega) (fun j hj => by omega)
    clear hb sb kb q
    go_wp2_with fail
    exact ret_blk rfl w.heap.size (u8s CB) _ rfl bb Tryz.underlying197 rfl (by rw [u8s_length, HC.out.2.1]; exact sizeTag) rfl ⟨rfl, XB.out⟩
structure SeenP (w : World) (ao : Option Addr) (n : Nat) (pss : List (List Int)) : Prop where
 len : pss.length = n
 cells : ∀ i, i < n → ∃ b o so c, ao = some ⟨b, o, none⟩ ∧ b < w.heap.size ∧ w.cell? ⟨b, o + i, none⟩ = some (.slice so (pss.getD i []).length c) ∧ Seen w so (pss.getD i []).length (pss.getD i []) ∧ (pss.getD i []).length ≤ c
theorem SeenP.later {w w' : World} {ao : Option Addr} {n : Nat} {pss : List (List Int)} (h : SeenP w ao n pss) {B : Nat} (hb : Below B w w') (hB : w.heap.size ≤ B) : SeenP w' ao n pss :=
 ⟨h.len, fun i hi => by
  obtain ⟨b, o, so, c, e, hlt, hc, hs, hl⟩ := h.cells i hi
  exact ⟨b, o, so, c, e, Nat.lt_of_lt_of_le hlt hb.size, (hb.cell (p := ⟨b, o + i, none⟩) (Nat.lt_of_lt_of_le hlt hB)).trans hc, hs.later hb hB, hl⟩⟩
theorem flat_succ (pss : List (List Int)) (k : Nat) (hk : k < pss.length) : (pss.take (k + 1)).flatten = (pss.take k).flatten ++ pss.getD k [] := by
 rw [List.take_succ_eq_append_getElem hk, List.flatten_append]
 simp [List.getD, hk]
def tagB (key m : List Int) : List Int := codeB (rOf key) (sOf key) m
theorem tagB_length (key m : List Int) : (tagB key m).length = 16 := codeB_length _ _ _
theorem tagB_bytes (key m : List Int) : Bytes (tagB key m) := codeB_bytes _ _ _
def KHolds (w : World) (g : Nat) (key m : List Int) : Prop := PHolds w g (rLow key) (rHigh key) (sOf key) m
theorem psum_key (g : Nat) (key m : List Int) (w : World) (h : KHolds w g key m) : Calls Tryz.prog 155 #[.pointer (some ⟨g, 0, none⟩)] w fun e w' => e = .returned (.agg (u8s (tagB key m)).toArray) ∧ Below w.heap.size w w' := psum_any g _ _ _ m w h
theorem tsum_any (key : List Int) (hkl : key.length = 32) (hkb : Bytes key) (ao : Option Addr) (n c : Nat) (pss : List (List Int)) (w : World) (hx : SeenP w ao n pss) (hn : n ≤ 140737488355328) :
  Calls Tryz.prog 143 #[.agg (u8s key).toArray, .slice ao n c] w fun e w' => e = .returned (.agg (u8s (tagB key pss.flatten)).toArray) ∧ Below w.heap.size w w' := by
 have HX : Hid (SeenP w ao n pss) := hx
 have HN : Hid (pss.length = n) := hx.len
 have HK : Hid (key.length = 32 ∧ Bytes key) := ⟨hkl, hkb⟩
 clear hx hkl hkb
 go_enter Tryz.func143, Tryz.ntmps143
 go_wp2_with (first | (refine wpList_box_new rfl 30 _ rfl (u8s key) rfl ?_; intro w1 b1 s1 l1) | (refine wpList_alloc_new rfl 197 rfl 16 _ zeroTag ?_; intro w2 b2 s2 l2) | (refine wpList_load_blk rfl 30 _ rfl _ rfl (u8s key) _ (b1.later l2 (by omega)) Tryz.underlying30 rfl (by rw [u8s_length, HK.out.1]; exact tsizeKey) ?_) | (go_at_call 153; refine (tnew_any key HK.out.1 HK.out.2 _).mono ?_; rintro e w4 ⟨G, rfl, hG, h4, l4⟩))
 have q2 := l4.size
 have HB : Hid (Blk w4 (w.heap.size + 1) 197 (u8s (zs0 16)) ∧ KHolds w4 G key [] ∧ Below w.heap.size w w4 ∧ w.heap.size + 1 < G) := by
  rw [s1] at b2
  exact ⟨b2.later l4 (by omega), h4, below_chain (below_chain l1 l2 (by omega)) l4 (by omega), by omega⟩
 clear b1 s1 l1 b2 s2 l2 hG h4 l4 q2
 go_loopw [12] (fun i wr => ∃ k : Nat, k ≤ n ∧ i = .int .i64 k ∧ KHolds wr G key (pss.take k).flatten ∧ Kept (fun b => b = G) w4 wr) (fun i _ => n - (intOf i).toNat)
 case atStart => exact ⟨0, Nat.zero_le _, rfl, HB.out.2.1, Kept.refl _ _⟩
 case round =>
  obtain ⟨k, hk, rfl, hh, hkp⟩ := hrel
  by_cases hlt : k < n
  ·obtain ⟨b, o, so, cs, rfl, hb, hc, hs, hl⟩ := HX.out.cells k hlt
   obtain ⟨B1, B2, B3, B5⟩ := HB.out
   have c1 : wr.cell? ⟨b, o + k, none⟩ = some (.slice so (pss.getD k []).length cs) := (hkp.cell (p := ⟨b, o + k, none⟩) (Nat.lt_of_lt_of_le hb B3.size) (by show ¬ b = _; omega)).trans ((B3.cell (p := ⟨b, o + k, none⟩) hb).trans hc)
   have S1 : Hid (Seen wr so (pss.getD k []).length (pss.getD k [])) := (hs.later B3 (Nat.le_refl _)).kept hkp (fun b' o' h0 e => by
    have := hs.old (Nat.le_refl _) b' o' h0 e
    omega)
   have N1 : Hid (∀ b' o', 0 < (pss.getD k []).length → so = some ⟨b', o', none⟩ → b' ≠ G) := fun b' o' h0 e => by
    have := hs.old (Nat.le_refl _) b' o' h0 e
    omega
   have L1 : Hid ((pss.getD k []).length ≤ cs) := hl
   have E1 : Hid _ := flat_succ pss k (by have := HN.out; omega)
   have HH : Hid (KHolds wr G key (pss.take k).flatten ∧ Kept (fun b => b = G) w4 wr) := ⟨hh, hkp⟩
   have i1 : (0 : Int) ≤ (k : Int) := by omega
   have i2 : (k : Int) < (n : Int) := by omega
   clear B1 B2 B3 B5 hs hl hc hh hkp
   obtain ⟨p, hp⟩ : ∃ p, pss.getD k [] = p := ⟨_, rfl⟩
   rw [hp] at c1 S1 N1 L1 E1
   clear hp
   go_wp2_with (go_at_call 154; refine (write_any _ _ _ _ _ so p.length cs p _ HH.out.1 S1.out L1.out N1.out).mono ?_; rintro e w5 ⟨rfl, h5, k5⟩)
   exact ⟨⟨k + 1, by omega, by go_num, by rw [E1.out]; exact h5, HH.out.2.trans k5⟩, by simp [intOf]; omega⟩
  ·obtain rfl : k = n := by omega
   obtain ⟨B1, B2, B3, B5⟩ := HB.out
   rw [List.take_of_length_le (by have := HN.out; omega)] at hh
   have X1 : Hid (KHolds wr G key pss.flatten ∧ Blk wr (w.heap.size + 1) 197 (u8s (zs0 16)) ∧ Below w.heap.size w wr) := ⟨hh, B1.kept hkp (by omega), below_kept B3 hkp B3.size (fun j hj => by omega)⟩
   clear B1 B2 B3 B5 hh hkp
   go_wp2_with (first | (go_at_call 155; refine (psum_key _ key pss.flatten _ X1.out.1).mono ?_; rintro e w5 ⟨rfl, l5⟩; have X5 : Hid (Blk w5 (w.heap.size + 1) 197 (u8s (zs0 16)) ∧ Below w.heap.size w w5) := ⟨X1.out.2.1.later l5 X1.out.2.1.lt, below_chain X1.out.2.2 l5 X1.out.2.2.size⟩) | (refine wpList_store_blk rfl 197 197 _ _ rfl _ rfl _ (u8s (tagB key pss.flatten)) rfl X5.out.1 (by rw [u8s_length, tagB_length]; rfl) (by rw [u8s_length, tagB_length]; exact sizeTag) (u8s_one _) ?_; intro w6 b6 s6 k6))
   exact ret_blk rfl (w.heap.size + 1) (u8s (tagB key pss.flatten)) _ rfl b6 Tryz.underlying197 rfl (by rw [u8s_length, tagB_length]; exact sizeTag) rfl ⟨rfl, below_kept X5.out.2 k6 X5.out.2.size (fun j hj => by omega)⟩
def fillN (n : Nat) : Nat := (16 - n % 16) % 16
def fillL (n : Nat) : List Int := List.replicate (fillN n) 0
theorem rep0_bytes (n : Nat) : Bytes (List.replicate n 0) := fun z hz => by rw [List.eq_of_mem_replicate hz]; decide
def tagKey (key nonce : List Int) : List Int := (blkB key 0 nonce).take 32
theorem tagKey_length (key nonce : List Int) : (tagKey key nonce).length = 32 := by rw [tagKey, List.length_take, blkB_length]; rfl
theorem tagKey_bytes (key nonce : List Int) : Bytes (tagKey key nonce) := bytes_take (blkB_bytes _ _ _) _
def ends8 (a b : Nat) : List Int := leB 8 (a : Int) ++ leB 8 (b : Int)
def vouched (more cover : List Int) : List Int := ([more, fillL more.length, cover, fillL cover.length, ends8 more.length cover.length] : List (List Int)).flatten
def codeL (key nonce more cover : List Int) : List Int := tagB (tagKey key nonce) (vouched more cover)
theorem codeL_length (key nonce more cover : List Int) : (codeL key nonce more cover).length = 16 := tagB_length _ _
theorem codeL_bytes (key nonce more cover : List Int) : Bytes (codeL key nonce more cover) := tagB_bytes _ _
def coverL (key nonce zs : List Int) : List Int := over key nonce 64 zs
theorem coverL_length (key nonce zs : List Int) : (coverL key nonce zs).length = zs.length := over_length _ _ _ _
theorem coverL_bytes (key nonce : List Int) {zs : List Int} (h : Bytes zs) : Bytes (coverL key nonce zs) := over_bytes _ _ _ _ h
theorem cover_cover (key nonce : List Int) {zs : List Int} (h : Bytes zs) : coverL key nonce (coverL key nonce zs) = zs := over_over _ _ _ _ h
def boxL (key nonce more zs : List Int) : List Int := coverL key nonce zs ++ codeL key nonce more (coverL key nonce zs)
theorem boxL_length (key nonce more zs : List Int) : (boxL key nonce more zs).length = zs.length + 16 := by rw [boxL, List.length_append, coverL_length, codeL_length]
theorem boxL_bytes (key nonce more : List Int) {zs : List Int} (h : Bytes zs) : Bytes (boxL key nonce more zs) := bytes_app (coverL_bytes _ _ h) (codeL_bytes _ _ _ _)
theorem boxL_front (key nonce more zs : List Int) : (boxL key nonce more zs).take zs.length = coverL key nonce zs := by
 rw [boxL, List.take_append_of_le_length (by rw [coverL_length]; exact Nat.le_refl _), List.take_of_length_le (by rw [coverL_length]; exact Nat.le_refl _)]
theorem boxL_back (key nonce more zs : List Int) : (boxL key nonce more zs).drop zs.length = codeL key nonce more (coverL key nonce zs) := by
 have h := List.drop_left (l₁ := coverL key nonce zs) (l₂ := codeL key nonce more (coverL key nonce zs))
 rwa [coverL_length] at h
def opensL (key nonce more box : List Int) : Bool := decide (codeL key nonce more (box.take (box.length - 16)) = box.drop (box.length - 16))
def textL (key nonce box : List Int) : List Int := coverL key nonce (box.take (box.length - 16))
theorem textL_length (key nonce box : List Int) : (textL key nonce box).length = box.length - 16 := by rw [textL, coverL_length, List.length_take]; omega
theorem opens_box (key nonce more : List Int) {zs : List Int} : opensL key nonce more (boxL key nonce more zs) = true := by
 rw [opensL, boxL_length, Nat.add_sub_cancel, boxL_front, boxL_back]; simp
theorem text_box (key nonce more : List Int) {zs : List Int} (h : Bytes zs) : textL key nonce (boxL key nonce more zs) = zs := by
 rw [textL, boxL_length, Nat.add_sub_cancel, boxL_front, cover_cover _ _ h]
theorem own_data {w : World} {base : Nat} {v : Value} {zs : List Int} (hb : Bytes zs) (ht : zs.length ≤ 140737488355328) (h : w.ownsRow base 5 1 v zs.length (zs.map (Value.int .u8))) :
  ∃ vo cap, v = .slice vo zs.length cap ∧ Seen w vo zs.length zs ∧ zs.length ≤ cap ∧ (vo = none → cap = 0) ∧ (∀ b o, vo = some ⟨b, o, none⟩ → base ≤ b ∧ b < w.heap.size ∧ o = 0 ∧ RowAt w b zs) ∧ cap ≤ maxLen := by
 rcases own_cases h with ⟨rfl, h0⟩ | ⟨g, cap, rfl, hr, hg, hc, hm⟩
 ·subst h0
  exact ⟨none, 0, rfl, Seen.empty _ _, Nat.le_refl _, fun _ => rfl, (fun b o h => by cases h), by decide⟩
 ·refine ⟨_, cap, rfl, ?_, hc, (fun h => by cases h), fun b o h => ?_, hm⟩
  ·have := Seen.of_row (n := zs.length) hr (Nat.le_refl _) ht hb
   rwa [List.take_length] at this
  ·simp only [Option.some.injEq, Addr.mk.injEq, and_true] at h
   obtain ⟨rfl, rfl⟩ := h
   exact ⟨hg, hr.lt, rfl, hr⟩
theorem seenP1 (W : World) (s1 : Option Addr) (n1 c1 : Nat) (z1 : List Int) (h1 : Seen W s1 n1 z1) (l1 : n1 ≤ c1) :
  SeenP (W.alloc (.cells #[.slice s1 n1 c1] 37)) (some ⟨W.heap.size, 0, none⟩) 1 [z1] := by
 obtain rfl := h1.len
 have hb : Below W.heap.size W (W.alloc (.cells #[.slice s1 z1.length c1] 37)) := (Below.refl _ _).alloc (Nat.le_refl _) _
 have hh : (W.alloc (.cells #[.slice s1 z1.length c1] 37)).heap[W.heap.size]? = some (.cells [.slice s1 z1.length c1].toArray 37 (0, 0)) := heap_alloc_new W _
 refine ⟨rfl, fun i hi => ?_⟩
 obtain rfl : i = 0 := by omega
 exact ⟨_, 0, s1, c1, rfl, by simp, by rw [cell_of_row _ _ _ _ _ _ hh]; rfl, h1.later hb (Nat.le_refl _), l1⟩
end Go.Proofs.YtpanagghppdiiaaGreat
