/- The document's state and places. -/
import Derived.Test.YtpjnimmclncdoaaRSRow
import Derived.Test.YtpjnimmclncdoaaRTNum
import Derived.Test.YtpjnimmclncdoaaSBegin
import Derived.Test.YtpjnimmclncdoaaTRows
namespace Go.Proofs.Ytpjnimmclncdoaa
open Go.RowKit
set_option linter.unusedVariables false
set_option linter.unusedSimpArgs false

theorem wpList_append_seenU {ops : Array Oper} {rest : List Oper} {o : Oper} {a : Act} {Q : Exit → Act → World → Prop} {w : World} (hgd : o.guard = none) (s x : Operand)
    (ho : o.op = .call { callee := .builtin .append, args := #[s, x], argTypes := #[60, 60] }) (base : Nat) (v : Value) (n : Nat) (xs : List Int) (hs : a.eval s = v) (hown : w.ownsRow base 36 1 v n (w64s xs))
    (ao : Option Addr) (m c : Nat) (zs : List Int) (hx : a.eval x = .slice ao m c) (hsn : SeenU w ao m zs) (h0 : 0 < m) (hb : n + m ≤ 2000) (hbase : base ≤ w.heap.size)
    (h : ∀ v' w', w'.ownsRow base 36 1 v' (n + m) (w64s (xs ++ zs)) → w.grownBy w' v.ownBlock → wpList Try.prog ops Q rest (a.put o.dst v') w') : wpList Try.prog ops Q (o :: rest) a w := by
  obtain ⟨i0, hi, hz0, hz1, hz2⟩ := info_parts info_w
  obtain ⟨b, off, rfl, hlt, hc⟩ := hsn.cells h0
  refine wpList_append_own _ hgd s x 60 ho base 36 i0 (.int .u64 0) 1 8 Try.underlying60 hi hz0 hz1 hz2 rfl (by decide) v n (w64s xs) hs hown ⟨b, off, none⟩ m c (w64s zs) hx ?_ ?_ ?_ ?_ ?_ hbase (fun v' w' h1 h2 _ => h v' w' ?_ h2)
  · rw [w64s_length, hsn.len, Nat.mul_one]
  · intro j u hj
    have hjl : j < zs.length := by have := (List.getElem?_eq_some_iff.1 hj).1; simpa [w64s] using this
    rw [show (⟨b, off, none⟩ : Addr).add j = ⟨b, off + j, none⟩ from Addr.add_mid b off j, hc j (by rw [← hsn.len]; exact hjl), ← hj]
    simp [w64s, List.getD, hjl]
  · intro u hu
    obtain ⟨z, _, rfl⟩ := List.mem_map.1 hu
    rfl
  · unfold maxLen; omega
  · omega
  · rw [w64s, List.map_append]; exact h1
theorem wd_app {xs ys : List Int} (hx : Wds xs) (hy : Wds ys) : Wds (xs ++ ys) := fun z hz => by
  rcases List.mem_append.1 hz with h | h
  · exact hx z h
  · exact hy z h
theorem fix_wd : Wds fixW := by unfold Wds fixW Wd; decide
theorem begW_wd (key : List Int) (ctr : Int) (nonce : List Int) (hk : key.length = 32) (hn : nonce.length = 12) (hkb : Bytes key) (hnb : Bytes nonce) (hc : Wd ctr) : Wds (begW key ctr nonce) :=
  wd_app fix_wd (wd_app (wds_wd key 8 hkb (by omega)) (fun z hz => by
    rcases List.mem_cons.1 hz with rfl | h
    · exact hc
    · exact wds_wd nonce 3 hnb (by omega) z h))
theorem one_u64 (w : World) (x : Int) (hx : Wd x) : SeenU (w.alloc (.cells #[.int .u64 x] 36)) (some ⟨w.heap.size, 0, none⟩) 1 [x] := by
  have h : RowU (w.alloc (.cells #[.int .u64 x] 36)) w.heap.size 1 [x] := ⟨[], heap_alloc_new w _, rfl⟩
  exact h.seen (by simp) (fun d hd => by simp at hd; subst hd; exact hx)
theorem below_grownU {w w1 w2 : World} {base n : Nat} {v : Value} {xs : List Value} (hb : Below w.heap.size w w1) (hbs : w.heap.size ≤ base) (ho : w1.ownsRow base 36 1 v n xs) (hg : w1.grownBy w2 v.ownBlock) : Below w.heap.size w w2 :=
  hb.grown hg hb.size (fun j hj => Nat.le_trans hbs (ho.lt j hj).1)
set_option maxHeartbeats 1000000 in
set_option maxRecDepth 20000 in
theorem rstate_any (key : List Int) (ctr : Int) (nonce : List Int) (hk : key.length = 32) (hn : nonce.length = 12) (hkb : Bytes key) (hnb : Bytes nonce) (hc : Wd ctr) (w : World) :
    Calls Try.prog 21 #[.agg (u8s key).toArray, .int .u32 ctr, .agg (u8s nonce).toArray] w fun e w' => ∃ v, e = .returned v ∧ w'.ownsRow w.heap.size 36 1 v 16 (w64s (begW key ctr nonce)) ∧ Below w.heap.size w w' := by
  have HS : Hid (key.length = 32 ∧ nonce.length = 12 ∧ Bytes key ∧ Bytes nonce ∧ Wd ctr) := ⟨hk, hn, hkb, hnb, hc⟩
  have v1 : IntKind.u64.wrap ctr = ctr := by simp only [IntKind.wrap, IntKind.bits, IntKind.signed]; simp; unfold Wd at hc; omega
  clear hk hn hkb hnb hc
  go_enter Try.func21, Try.ntmps21
  go_wp2_with (first | (refine wpList_box_new rfl 23 _ rfl (u8s key) rfl ?_; intro w1 b1 s1 l1) | (refine wpList_box_new rfl 25 _ rfl (u8s nonce) rfl ?_; intro w2 b2 s2 l2))
  have r3 : RowU (w2.alloc (.cells #[.int .u64 1634760805, .int .u64 857760878, .int .u64 2036477234, .int .u64 1797285236] 36)) w2.heap.size 4 fixW := ⟨[], heap_alloc_new w2 _, rfl⟩
  have l3 : Below w2.heap.size w2 (w2.alloc (.cells #[.int .u64 1634760805, .int .u64 857760878, .int .u64 2036477234, .int .u64 1797285236] 36)) := (Below.refl _ _).alloc (Nat.le_refl _) _
  obtain ⟨w3, hw3⟩ : ∃ W, w2.alloc (.cells #[.int .u64 1634760805, .int .u64 857760878, .int .u64 2036477234, .int .u64 1797285236] 36) = W := ⟨_, rfl⟩
  rw [hw3] at r3 l3 ⊢
  have e2 : w2.heap.size = w.heap.size + 1 + 1 := by omega
  rw [e2] at r3
  have H3 : Hid (Blk w3 w.heap.size 23 (u8s key) ∧ Blk w3 (w.heap.size + 1) 25 (u8s nonce) ∧ w3.ownsRow (w.heap.size + 1 + 1) 36 1 (.slice (some ⟨w.heap.size + 1 + 1, 0, none⟩) 4 4) 4 (w64s fixW) ∧ Below w.heap.size w w3) := by
    rw [s1] at b2
    exact ⟨(b1.later l2 (by omega)).later l3 (by omega), b2.later l3 (by omega), r3.own rfl (Nat.le_refl _) (by unfold maxLen; decide), below_chain (below_chain l1 l2 (by omega)) l3 (by omega)⟩
  clear b1 s1 l1 b2 s2 l2 r3 l3 hw3 e2
  have hw8 := words_any (some ⟨w.heap.size, 0, none⟩) 8 32 key (by decide) w3 (by have := seen_blk H3.out.1 HS.out.2.2.1 (by rw [HS.out.1]; decide); rwa [HS.out.1] at this) (by decide)
  go_wp2_with fail
  refine hw8.mono ?_
  rintro e w4 ⟨v4, rfl, hv4, l4⟩
  obtain ⟨a4, n4, c4, rfl, s4⟩ := hv4
  obtain rfl : 8 = n4 := by rw [← s4.len, wds_length]
  have H4 : Hid (Blk w4 (w.heap.size + 1) 25 (u8s nonce) ∧ w4.ownsRow (w.heap.size + 1 + 1) 36 1 (.slice (some ⟨w.heap.size + 1 + 1, 0, none⟩) 4 4) 4 (w64s fixW) ∧ Below w.heap.size w w4 ∧ SeenU w4 a4 8 (wds key 8) ∧ w.heap.size + 1 + 1 ≤ w4.heap.size) := ⟨H3.out.2.1.later l4 H3.out.2.1.lt, ownsRow_below H3.out.2.2.1 l4, below_chain H3.out.2.2.2 l4 H3.out.2.2.2.size, s4, by have := H3.out.2.1.lt; have := l4.size; omega⟩
  clear hw8 s4 l4 H3
  go_wp2_with (first | (at_builtin; refine wpList_append_seenU rfl _ _ rfl (w.heap.size + 1 + 1) _ 4 fixW rfl H4.out.2.1 a4 8 c4 (wds key 8) rfl H4.out.2.2.2.1 (by decide) (by decide) H4.out.2.2.2.2 ?_; intro v5 w5 o5 g5; have H5 : Hid (w5.ownsRow (w.heap.size + 1 + 1) 36 1 v5 (4 + 8) (w64s (fixW ++ wds key 8)) ∧ Below w.heap.size w w5 ∧ Blk w5 (w.heap.size + 1) 25 (u8s nonce)) := (by
    have B5 := H4.out.2.2.1.grown g5 H4.out.2.2.1.size (fun j hj => Nat.le_trans (by omega) (H4.out.2.1.lt j hj).1)
    refine ⟨o5, B5, ?_⟩
    have B6 : Below (w.heap.size + 1 + 1) w4 w5 := (Below.refl (w.heap.size + 1 + 1) w4).grown g5 H4.out.2.2.2.2 (fun j hj => (H4.out.2.1.lt j hj).1)
    exact H4.out.1.later B6 (by omega)); clear o5 g5 H4) | (at_builtin; refine wpList_append_seenU rfl _ _ rfl (w.heap.size + 1 + 1) _ (4 + 8) (fixW ++ wds key 8) rfl (H5.out.1.alloc _) (some ⟨w5.heap.size, 0, none⟩) 1 1 [ctr] rfl (one_u64 w5 ctr HS.out.2.2.2.2) (by decide) (by decide) (by have := H5.out.2.2.lt; simp; omega) ?_; intro v6 w6 o6 g6))
  have H6 : Hid (w6.ownsRow (w.heap.size + 1 + 1) 36 1 v6 (4 + 8 + 1) (w64s (fixW ++ wds key 8 ++ [ctr])) ∧ Below w.heap.size w w6 ∧ Blk w6 (w.heap.size + 1) 25 (u8s nonce)) := by
    have A6 : Below w.heap.size w (w5.alloc (.cells #[.int .u64 ctr] 36)) := H5.out.2.1.alloc H5.out.2.1.size _
    have oA := H5.out.1.alloc (.cells #[.int .u64 ctr] 36)
    have B5 := A6.grown g6 A6.size (fun j hj => Nat.le_trans (by omega) (oA.lt j hj).1)
    refine ⟨o6, B5, ?_⟩
    have q5 := H5.out.2.2.lt
    have B6 : Below (w.heap.size + 1 + 1) w5 w6 := ((Below.refl (w.heap.size + 1 + 1) w5).alloc (by omega) _).grown g6 (by simp; omega) (fun j hj => (oA.lt j hj).1)
    exact H5.out.2.2.later B6 (by omega)
  clear o6 g6 H5
  have hw3 := words_any (some ⟨w.heap.size + 1, 0, none⟩) 3 12 nonce (by decide) w6 (by have := seen_blk H6.out.2.2 HS.out.2.2.2.1 (by rw [HS.out.2.1]; decide); rwa [HS.out.2.1] at this) (by decide)
  refine hw3.mono ?_
  rintro e w7 ⟨v7, rfl, hv7, l7⟩
  obtain ⟨a7, n7, c7, rfl, s7⟩ := hv7
  obtain rfl : 3 = n7 := by rw [← s7.len, wds_length]
  have H7 : Hid (w7.ownsRow (w.heap.size + 1 + 1) 36 1 v6 (4 + 8 + 1) (w64s (fixW ++ wds key 8 ++ [ctr])) ∧ Below w.heap.size w w7 ∧ SeenU w7 a7 3 (wds nonce 3) ∧ w.heap.size + 1 + 1 ≤ w7.heap.size) := ⟨ownsRow_below H6.out.1 l7, below_chain H6.out.2.1 l7 H6.out.2.1.size, s7, by have := H6.out.2.2.lt; have := l7.size; omega⟩
  clear hw3 s7 l7 H6
  go_wp2_with (at_builtin; refine wpList_append_seenU rfl _ _ rfl (w.heap.size + 1 + 1) _ (4 + 8 + 1) (fixW ++ wds key 8 ++ [ctr]) rfl H7.out.1 a7 3 c7 (wds nonce 3) rfl H7.out.2.2.1 (by decide) (by decide) H7.out.2.2.2 ?_; intro v8 w8 o8 g8)
  have H8 : Hid (w8.ownsRow w.heap.size 36 1 v8 16 (w64s (begW key ctr nonce)) ∧ Below w.heap.size w w8) := by
    refine ⟨?_, H7.out.2.1.grown g8 H7.out.2.1.size (fun j hj => Nat.le_trans (by omega) (H7.out.1.lt j hj).1)⟩
    have e : fixW ++ wds key 8 ++ [ctr] ++ wds nonce 3 = begW key ctr nonce := by simp [begW]
    rw [e] at o8
    exact ownsRow_base o8 (by omega)
  clear o8 g8
  go_ret
  exact ⟨_, rfl, H8.out⟩
def placesL : List Int := [0, 4, 8, 12, 1, 5, 9, 13, 2, 6, 10, 14, 3, 7, 11, 15, 0, 5, 10, 15, 1, 6, 11, 12, 2, 7, 8, 13, 3, 4, 9, 14]
theorem places_run (W : World) : (Instr.buildSlice 62 32 #[(0, .int .i64 0), (1, .int .i64 4), (2, .int .i64 8), (3, .int .i64 12), (4, .int .i64 1), (5, .int .i64 5), (6, .int .i64 9), (7, .int .i64 13), (8, .int .i64 2), (9, .int .i64 6), (10, .int .i64 10), (11, .int .i64 14), (12, .int .i64 3), (13, .int .i64 7), (14, .int .i64 11), (15, .int .i64 15), (16, .int .i64 0), (17, .int .i64 5), (18, .int .i64 10), (19, .int .i64 15), (20, .int .i64 1), (21, .int .i64 6), (22, .int .i64 11), (23, .int .i64 12), (24, .int .i64 2), (25, .int .i64 7), (26, .int .i64 8), (27, .int .i64 13), (28, .int .i64 3), (29, .int .i64 4), (30, .int .i64 9), (31, .int .i64 14)]).run Try.prog W = .ok (.slice (some ⟨W.heap.size, 0, none⟩) 32 32) (W.alloc (.cells (i64s placesL).toArray 3)) := by kernel_rfl
set_option maxHeartbeats 1000000 in
set_option maxRecDepth 20000 in
theorem rplaces_any (w : World) : Calls Try.prog 22 #[] w fun e w' => ∃ g, e = .returned (.slice (some ⟨g, 0, none⟩) 32 32) ∧ RowN w' g 32 placesL ∧ w.heap.size ≤ g ∧ Below w.heap.size w w' := by
  go_enter Try.func22, Try.ntmps22
  go_wp2_with (refine wpList_buildSlice rfl 62 32 _ rfl _ rfl _ _ (places_run _) ?_)
  go_ret
  refine ⟨w.heap.size, rfl, ?_, Nat.le_refl _, (Below.refl _ _).alloc (Nat.le_refl _) _⟩
  have h : RowN (w.alloc (.cells (i64s placesL).toArray 3)) w.heap.size 32 placesL := ⟨[], by rw [List.append_nil]; exact heap_alloc_new w _, rfl⟩
  exact h
end Go.Proofs.Ytpjnimmclncdoaa
