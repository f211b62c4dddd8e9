/- Joined texts: RPag RPagS OApartW RApart ROut RSpare. -/
import Derived.Test.YtcimiajkbgabiaaGreatZF
import Derived.Test.YtcimiajkbgabiaaGreatZI
import Derived.Test.YtcimiajkbgabiaaGreatZA
import Derived.Test.YtcimiajkbgabiaaGreatZE
import Derived.Test.YtcimiajkbgabiaaGreatZG
namespace Go.Proofs.YtcimiajkbgabiaaGreat
open Go.RowKit
set_option linter.unusedVariables false
set_option linter.unusedSimpArgs false

theorem wrap_u32 {x : Int} (h : U32 x) : IntKind.u64.wrap x = x := by
  have := h.1; have := h.2
  simp [IntKind.wrap, IntKind.signed, IntKind.bits]; omega
theorem two_own (v u : Value) (B n m : Nat) (zs ys : List Int) (hn : zs.length = n) (hm : ys.length = m) (hb : Bytes zs) (hc : Bytes ys) (ht : n ≤ 2000000) (ht' : m ≤ 2000000) (W : World) (o : isO B n zs v W) (p : isO B m ys u W) : Calls Tryz.prog 21 #[v, u] W fun e w' => ∃ v, e = .returned v ∧ isO W.heap.size (n + m) (zs ++ ys) v w' ∧ Below W.heap.size W w' := by
  obtain ⟨vo, vc, rfl, h1, h2, _⟩ := pown_sl hn hb (by omega) o
  obtain ⟨uo, uc, rfl, k1, k2, _⟩ := pown_sl hm hc (by omega) p
  refine (two_any vo uo n m vc uc zs ys W h1 k1 h2 k2 (by omega)).mono ?_
  rintro e w' ⟨v, rfl, o', l⟩
  rw [List.length_append, hn, hm] at o'
  exact ⟨_, rfl, o', l⟩
theorem word_u32 {x : Int} (h : U32 x) : 0 ≤ x ∧ x < 18446744073709551616 := ⟨h.1, by have := h.2; omega⟩
set_option maxRecDepth 20000 in
set_option maxHeartbeats 1000000 in
theorem rhead_any (r c p q : Int) (hr : Word r) (hc : U32 c) (w : World) :
    Calls Tryz.prog 17 #[.agg (placeC r c p q).toArray] w fun e w' => ∃ v, e = .returned v ∧ isO w.heap.size 12 (hdL r c) v w' ∧ Below w.heap.size w w' := by
  have HR : Hid (Word r ∧ U32 c) := ⟨hr, hc⟩
  obtain ⟨H, hH⟩ : ∃ H, hdL r c = H := ⟨_, rfl⟩
  have HH : Hid (leB 8 r ++ leB 4 c = H) := hH
  rw [hH]
  clear hH hr hc
  go_enter Tryz.func17, Tryz.ntmps17
  go_wp2_with (first | (refine wpList_box_new rfl 27 _ rfl (placeC r c p q) rfl ?_; intro w1 b1 s1 l1))
  have V : Hid (Below w.heap.size w w1 ∧ Blk w1 w.heap.size 27 (placeC r c p q)) := ⟨l1, b1⟩
  clear b1 l1 s1
  refine region_inv [.val (.pointer (some ⟨w.heap.size, 0, none⟩)), .val (.int .u64 r), .any (isO w.heap.size 8 (leB 8 r)) (isO_later _ _ _), .val (.pointer (some ⟨w.heap.size, 1, none⟩)), .val (.int .u32 c), .val (.int .u64 c), .any (isO w.heap.size 4 (leB 4 c)) (isO_later _ _ _), .any (isO w.heap.size 12 H) (isO_later _ _ _)] (by kernel_rfl) (by kernel_rfl) (by kernel_rfl) ?_ ?_
  · refine Steps'.cons ?_ (Steps'.cons ?_ (Steps'.cons ?_ (Steps'.cons ?_ (Steps'.cons ?_ (Steps'.cons ?_ (Steps'.cons ?_ (Steps'.cons ?_ (Steps'.one _ _ _ _ _ _ _))))))))
    · intro ax wx hb hs hd
      have h1 : ax.tmps.getD 1 undef = (.pointer (some ⟨w.heap.size, 0, none⟩)) := hs 1 (by kernel_rfl)
      refine Does.value (.pointer (some ⟨w.heap.size, 0, none⟩)) ?_ rfl
      clear hs hd
      go_simp
    · intro ax wx hb hs hd
      have h3 : ax.tmps.getD 3 undef = (.pointer (some ⟨w.heap.size, 0, none⟩)) := hd 0 3 rfl (by kernel_rfl) (by decide)
      have cx : wx.cell? ⟨w.heap.size, 0, none⟩ = some (.int .u64 r) := (V.out.2.later hb V.out.2.lt).cell 0
      refine Does.value (.int .u64 r) ?_ rfl
      clear hs hd
      go_simp
    · intro ax wx hb hs hd
      have h4 : ax.tmps.getD 4 undef = (.int .u64 r) := hd 1 4 rfl (by kernel_rfl) (by decide)
      refine Does.call 34 #[.int .u64 r, .int .i64 8] (by clear hs hd; go_simp) ?_
      refine (rlit_any r HR.out.1 8 (by decide) wx).mono ?_
      rintro e w' ⟨v, rfl, o, l⟩
      exact ⟨_, rfl, ownsRow_base o (by have := hb.size; have := V.out.1.size; omega), l⟩
    · intro ax wx hb hs hd
      have h1 : ax.tmps.getD 1 undef = (.pointer (some ⟨w.heap.size, 0, none⟩)) := hs 1 (by kernel_rfl)
      refine Does.value (.pointer (some ⟨w.heap.size, 1, none⟩)) ?_ rfl
      clear hs hd
      go_simp
    · intro ax wx hb hs hd
      have h6 : ax.tmps.getD 6 undef = (.pointer (some ⟨w.heap.size, 1, none⟩)) := hd 3 6 rfl (by kernel_rfl) (by decide)
      have cx : wx.cell? ⟨w.heap.size, 1, none⟩ = some (.int .u32 c) := (V.out.2.later hb V.out.2.lt).cell 1
      refine Does.value (.int .u32 c) ?_ rfl
      clear hs hd
      go_simp
    · intro ax wx hb hs hd
      have h7 : ax.tmps.getD 7 undef = (.int .u32 c) := hd 4 7 rfl (by kernel_rfl) (by decide)
      have wc := wrap_u32 HR.out.2
      refine Does.value (.int .u64 c) ?_ rfl
      clear hs hd
      go_simp
    · intro ax wx hb hs hd
      have h8 : ax.tmps.getD 8 undef = (.int .u64 c) := hd 5 8 rfl (by kernel_rfl) (by decide)
      refine Does.call 34 #[.int .u64 c, .int .i64 4] (by clear hs hd; go_simp) ?_
      refine (rlit_any c (word_u32 HR.out.2) 4 (by decide) wx).mono ?_
      rintro e w' ⟨v, rfl, o, l⟩
      exact ⟨_, rfl, ownsRow_base o (by have := hb.size; have := V.out.1.size; omega), l⟩
    · intro ax wx hb hs hd
      have p5 : (isO w.heap.size 8 (leB 8 r)) (ax.tmps.getD 5 undef) wx := hd 2 5 rfl (by kernel_rfl) (by decide)
      have p9 : (isO w.heap.size 4 (leB 4 c)) (ax.tmps.getD 9 undef) wx := hd 6 9 rfl (by kernel_rfl) (by decide)
      obtain ⟨va, ha⟩ : ∃ v, ax.tmps.getD 5 undef = v := ⟨_, rfl⟩
      obtain ⟨vb, hbb⟩ : ∃ v, ax.tmps.getD 9 undef = v := ⟨_, rfl⟩
      rw [ha] at p5
      rw [hbb] at p9
      refine Does.call 21 #[va, vb] (by clear hs hd; go_simp) ?_
      refine (two_own va vb w.heap.size 8 4 (leB 8 r) (leB 4 c) (leB_length _ _) (leB_length _ _) (leB_bytes _ _) (leB_bytes _ _) (by decide) (by decide) wx p5 p9).mono ?_
      rintro e w' ⟨v, rfl, o, l⟩
      rw [HH.out] at o
      exact ⟨_, rfl, ownsRow_base o (by have := hb.size; have := V.out.1.size; omega), l⟩
  · intro wx hb
    refine @Ends.val _ _ _ _ _ _ _ _ _ (.pointer (some ⟨w.heap.size, 0, none⟩)) rfl ?_
    refine @Ends.val _ _ _ _ _ _ _ _ _ (.int .u64 r) rfl ?_
    refine @Ends.any _ _ _ _ _ _ _ _ _ (isO w.heap.size 8 (leB 8 r)) (isO_later _ _ _) rfl ?_
    intro v5 p5
    refine @Ends.val _ _ _ _ _ _ _ _ _ (.pointer (some ⟨w.heap.size, 1, none⟩)) rfl ?_
    refine @Ends.val _ _ _ _ _ _ _ _ _ (.int .u32 c) rfl ?_
    refine @Ends.val _ _ _ _ _ _ _ _ _ (.int .u64 c) rfl ?_
    refine @Ends.any _ _ _ _ _ _ _ _ _ (isO w.heap.size 4 (leB 4 c)) (isO_later _ _ _) rfl ?_
    intro v9 p9
    refine @Ends.any _ _ _ _ _ _ _ _ _ (isO w.heap.size 12 H) (isO_later _ _ _) rfl ?_
    intro v10 p10
    refine @Ends.one _ _ _ _ _ _ _ ?_
    simp only [Act.put, List.setIfInBounds_toArray, List.set_cons_zero, List.set_cons_succ]
    have HE : Hid (isO w.heap.size 12 H v10 wx ∧ Below w.heap.size w wx) := ⟨p10, below_chain V.out.1 hb V.out.1.size⟩
    clear p5 p9 p10
    refine last_assign (.tmp 10) rfl (some 2) rfl v10 rfl ?_
    simp only [Act.put, List.setIfInBounds_toArray, List.set_cons_zero, List.set_cons_succ]
    go_wp2
    go_ret
    exact ⟨_, rfl, HE.out.1, HE.out.2⟩
set_option maxRecDepth 20000 in
set_option maxHeartbeats 1000000 in
theorem rmore_any (r c p q : Int) (hp : U32 p) (hq : U32 q) (w : World) :
    Calls Tryz.prog 20 #[.agg (placeC r c p q).toArray] w fun e w' => ∃ v, e = .returned v ∧ isO w.heap.size 8 (moL p q) v w' ∧ Below w.heap.size w w' := by
  have HR : Hid (U32 p ∧ U32 q) := ⟨hp, hq⟩
  obtain ⟨H, hH⟩ : ∃ H, moL p q = H := ⟨_, rfl⟩
  have HH : Hid (leB 4 p ++ leB 4 q = H) := hH
  rw [hH]
  clear hH hp hq
  go_enter Tryz.func20, Tryz.ntmps20
  go_wp2_with (first | (refine wpList_box_new rfl 27 _ rfl (placeC r c p q) rfl ?_; intro w1 b1 s1 l1))
  have V : Hid (Below w.heap.size w w1 ∧ Blk w1 w.heap.size 27 (placeC r c p q)) := ⟨l1, b1⟩
  clear b1 l1 s1
  refine region_inv [.val (.pointer (some ⟨w.heap.size, 2, none⟩)), .val (.int .u32 p), .val (.int .u64 p), .any (isO w.heap.size 4 (leB 4 p)) (isO_later _ _ _), .val (.pointer (some ⟨w.heap.size, 3, none⟩)), .val (.int .u32 q), .val (.int .u64 q), .any (isO w.heap.size 4 (leB 4 q)) (isO_later _ _ _), .any (isO w.heap.size 8 H) (isO_later _ _ _)] (by kernel_rfl) (by kernel_rfl) (by kernel_rfl) ?_ ?_
  · refine Steps'.cons ?_ (Steps'.cons ?_ (Steps'.cons ?_ (Steps'.cons ?_ (Steps'.cons ?_ (Steps'.cons ?_ (Steps'.cons ?_ (Steps'.cons ?_ (Steps'.cons ?_ (Steps'.one _ _ _ _ _ _ _)))))))))
    · intro ax wx hb hs hd
      have h1 : ax.tmps.getD 1 undef = (.pointer (some ⟨w.heap.size, 0, none⟩)) := hs 1 (by kernel_rfl)
      refine Does.value (.pointer (some ⟨w.heap.size, 2, none⟩)) ?_ rfl
      clear hs hd
      go_simp
    · intro ax wx hb hs hd
      have h3 : ax.tmps.getD 3 undef = (.pointer (some ⟨w.heap.size, 2, none⟩)) := hd 0 3 rfl (by kernel_rfl) (by decide)
      have cx : wx.cell? ⟨w.heap.size, 2, none⟩ = some (.int .u32 p) := (V.out.2.later hb V.out.2.lt).cell 2
      refine Does.value (.int .u32 p) ?_ rfl
      clear hs hd
      go_simp
    · intro ax wx hb hs hd
      have h4 : ax.tmps.getD 4 undef = (.int .u32 p) := hd 1 4 rfl (by kernel_rfl) (by decide)
      have wc := wrap_u32 HR.out.1
      refine Does.value (.int .u64 p) ?_ rfl
      clear hs hd
      go_simp
    · intro ax wx hb hs hd
      have h5 : ax.tmps.getD 5 undef = (.int .u64 p) := hd 2 5 rfl (by kernel_rfl) (by decide)
      refine Does.call 34 #[.int .u64 p, .int .i64 4] (by clear hs hd; go_simp) ?_
      refine (rlit_any p (word_u32 HR.out.1) 4 (by decide) wx).mono ?_
      rintro e w' ⟨v, rfl, o, l⟩
      exact ⟨_, rfl, ownsRow_base o (by have := hb.size; have := V.out.1.size; omega), l⟩
    · intro ax wx hb hs hd
      have h1 : ax.tmps.getD 1 undef = (.pointer (some ⟨w.heap.size, 0, none⟩)) := hs 1 (by kernel_rfl)
      refine Does.value (.pointer (some ⟨w.heap.size, 3, none⟩)) ?_ rfl
      clear hs hd
      go_simp
    · intro ax wx hb hs hd
      have h7 : ax.tmps.getD 7 undef = (.pointer (some ⟨w.heap.size, 3, none⟩)) := hd 4 7 rfl (by kernel_rfl) (by decide)
      have cx : wx.cell? ⟨w.heap.size, 3, none⟩ = some (.int .u32 q) := (V.out.2.later hb V.out.2.lt).cell 3
      refine Does.value (.int .u32 q) ?_ rfl
      clear hs hd
      go_simp
    · intro ax wx hb hs hd
      have h8 : ax.tmps.getD 8 undef = (.int .u32 q) := hd 5 8 rfl (by kernel_rfl) (by decide)
      have wc := wrap_u32 HR.out.2
      refine Does.value (.int .u64 q) ?_ rfl
      clear hs hd
      go_simp
    · intro ax wx hb hs hd
      have h9 : ax.tmps.getD 9 undef = (.int .u64 q) := hd 6 9 rfl (by kernel_rfl) (by decide)
      refine Does.call 34 #[.int .u64 q, .int .i64 4] (by clear hs hd; go_simp) ?_
      refine (rlit_any q (word_u32 HR.out.2) 4 (by decide) wx).mono ?_
      rintro e w' ⟨v, rfl, o, l⟩
      exact ⟨_, rfl, ownsRow_base o (by have := hb.size; have := V.out.1.size; omega), l⟩
    · intro ax wx hb hs hd
      have p6 : (isO w.heap.size 4 (leB 4 p)) (ax.tmps.getD 6 undef) wx := hd 3 6 rfl (by kernel_rfl) (by decide)
      have p10 : (isO w.heap.size 4 (leB 4 q)) (ax.tmps.getD 10 undef) wx := hd 7 10 rfl (by kernel_rfl) (by decide)
      obtain ⟨va, ha⟩ : ∃ v, ax.tmps.getD 6 undef = v := ⟨_, rfl⟩
      obtain ⟨vb, hbb⟩ : ∃ v, ax.tmps.getD 10 undef = v := ⟨_, rfl⟩
      rw [ha] at p6
      rw [hbb] at p10
      refine Does.call 21 #[va, vb] (by clear hs hd; go_simp) ?_
      refine (two_own va vb w.heap.size 4 4 (leB 4 p) (leB 4 q) (leB_length _ _) (leB_length _ _) (leB_bytes _ _) (leB_bytes _ _) (by decide) (by decide) wx p6 p10).mono ?_
      rintro e w' ⟨v, rfl, o, l⟩
      rw [HH.out] at o
      exact ⟨_, rfl, ownsRow_base o (by have := hb.size; have := V.out.1.size; omega), l⟩
  · intro wx hb
    refine @Ends.val _ _ _ _ _ _ _ _ _ (.pointer (some ⟨w.heap.size, 2, none⟩)) rfl ?_
    refine @Ends.val _ _ _ _ _ _ _ _ _ (.int .u32 p) rfl ?_
    refine @Ends.val _ _ _ _ _ _ _ _ _ (.int .u64 p) rfl ?_
    refine @Ends.any _ _ _ _ _ _ _ _ _ (isO w.heap.size 4 (leB 4 p)) (isO_later _ _ _) rfl ?_
    intro v6 p6
    refine @Ends.val _ _ _ _ _ _ _ _ _ (.pointer (some ⟨w.heap.size, 3, none⟩)) rfl ?_
    refine @Ends.val _ _ _ _ _ _ _ _ _ (.int .u32 q) rfl ?_
    refine @Ends.val _ _ _ _ _ _ _ _ _ (.int .u64 q) rfl ?_
    refine @Ends.any _ _ _ _ _ _ _ _ _ (isO w.heap.size 4 (leB 4 q)) (isO_later _ _ _) rfl ?_
    intro v10 p10
    refine @Ends.any _ _ _ _ _ _ _ _ _ (isO w.heap.size 8 H) (isO_later _ _ _) rfl ?_
    intro v11 p11
    refine @Ends.one _ _ _ _ _ _ _ ?_
    simp only [Act.put, List.setIfInBounds_toArray, List.set_cons_zero, List.set_cons_succ]
    have HE : Hid (isO w.heap.size 8 H v11 wx ∧ Below w.heap.size w wx) := ⟨p11, below_chain V.out.1 hb V.out.1.size⟩
    clear p6 p10 p11
    refine last_assign (.tmp 11) rfl (some 2) rfl v11 rfl ?_
    simp only [Act.put, List.setIfInBounds_toArray, List.set_cons_zero, List.set_cons_succ]
    go_wp2
    go_ret
    exact ⟨_, rfl, HE.out.1, HE.out.2⟩
theorem fill12 (H : List Int) (hl : H.length = 12) (k : Nat) (hk : k < 12) : (H.take k ++ List.replicate (12 - k) 0).set k (H.getD k 0) = H.take (k + 1) ++ List.replicate (12 - (k + 1)) 0 := by
  have e : (H.take k).length = k := by simp; omega
  rw [List.set_append_right _ _ (by omega), e, Nat.sub_self, show 12 - k = (12 - (k + 1)) + 1 by omega, List.replicate_succ, List.set_cons_zero, List.take_succ_eq_append_getElem (by omega), List.append_assoc]
  simp [List.getD, show k < H.length by omega]
set_option maxRecDepth 20000 in
set_option maxHeartbeats 1000000 in
theorem rnon_any (ao : Option Addr) (n c : Nat) (H : List Int) (hn : n = 12) (w : World) (hx : Seen w ao n H) :
    Calls Tryz.prog 19 #[.slice ao n c] w fun e w' => e = .returned (.agg (u8s H).toArray) ∧ Below w.heap.size w w' := by
  have hl : H.length = 12 := hx.len.trans hn
  have hn' : (n : Int) = 12 := by omega
  have HL : Hid (H.length = 12 ∧ n = 12 ∧ Bytes H) := ⟨hl, hn, hx.bytes⟩
  obtain ⟨b, o, rfl, hb, hc⟩ := hx.cells (by omega)
  have HC : Hid (∀ i, i < n → w.cell? ⟨b, o + i, none⟩ = some (.int .u8 (H.getD i 0))) := hc
  have HB : Hid (b < w.heap.size) := hb
  clear hx hl hn hc hb
  go_enter Tryz.func19, Tryz.ntmps19
  go_wp2_with (first | ((with_reducible show wpList _ _ _ (({ dst := some 2, op := _, type := _, pos := _, after := _, guard := _ } : Oper) :: _) _ _); refine wpList_alloc_new rfl 45 rfl 12 _ pzNonce ?_; intro w1 b1 s1 l1) | ((with_reducible show wpList _ _ _ (({ dst := some 3, op := _, type := _, pos := _, after := _, guard := _ } : Oper) :: _) _ _); refine wpList_alloc_new rfl 45 rfl 12 _ pzNonce ?_; intro w2 b2 s2 l2))
  obtain ⟨g2, hg2⟩ : ∃ g, w1.heap.size = g := ⟨_, rfl⟩
  have V : Hid (Below w.heap.size w w2 ∧ Blk w2 w.heap.size 45 (u8s (List.replicate 12 0)) ∧ Blk w2 g2 45 (u8s (List.replicate 12 0)) ∧ w.heap.size < g2) := by rw [← hg2]; exact ⟨below_chain l1 l2 (by omega), b1.later l2 (by omega), b2, by omega⟩
  have e2 : w.heap.size + 1 = g2 := by omega
  try rw [hg2]
  try rw [e2]
  clear b1 b2 l1 l2 s1 s2 hg2 e2
  go_loopw [4] (fun i wr => ∃ k : Nat, k ≤ 12 ∧ i = .int .i64 k ∧ Blk wr g2 45 (u8s (H.take k ++ List.replicate (12 - k) 0)) ∧ Kept (fun y => y = g2) w2 wr) (fun i _ => 12 - (intOf i).toNat)
  case atStart => exact ⟨0, Nat.zero_le _, rfl, by simpa using V.out.2.2.1, Kept.refl _ _⟩
  case round =>
    obtain ⟨k, hk, rfl, hbk, hkp⟩ := hrel
    by_cases hlt : k < 12
    · have i1 : (0 : Int) ≤ (k : Int) := by omega
      have i2 : (k : Int) < 12 := by omega
      have i3 : (k : Int) < (n : Int) := by omega
      have c1 : wr.cell? ⟨b, o + k, none⟩ = some (.int .u8 (H.getD k 0)) := by
        have q := V.out.1.cell (p := ⟨b, o + k, none⟩) HB.out
        have z := HB.out
        have gz := V.out.2.2.2
        rw [hkp.cell (p := ⟨b, o + k, none⟩) (by have := V.out.1.size; show b < _; omega) (by show ¬ b = g2; omega), q]
        exact HC.out k (by have := HL.out.2.1; omega)
      have f1 := hbk.frozen k
      have len : (H.take k ++ List.replicate (12 - k) 0).length = 12 := by have := HL.out.1; simp; omega
      have c2 := u8s_cell hbk k (by omega)
      obtain ⟨Z, hZ⟩ : ∃ Z, H.getD k 0 = Z := ⟨_, rfl⟩
      rw [hZ] at c1
      have T1 : Hid (Blk (wr.setCell ⟨g2, k, none⟩ (.int .u8 Z)) g2 45 (u8s (H.take (k + 1) ++ List.replicate (12 - (k + 1)) 0)) ∧ Kept (fun y => y = g2) w2 (wr.setCell ⟨g2, k, none⟩ (.int .u8 Z))) := by
        have t := hbk.set k (.int .u8 Z)
        rw [u8s_set, ← hZ, fill12 H HL.out.1 k hlt, hZ] at t
        exact ⟨t, hkp.setCell (p := ⟨g2, k, none⟩) rfl _⟩
      clear hZ hbk hkp len
      go_wp2
      go_roundw
      case rel => exact ⟨k + 1, by omega, by go_num, T1.out.1, T1.out.2⟩
      case measure => simp [intOf]; omega
    · obtain rfl : k = 12 := by omega
      have hbk' : Blk wr g2 45 (u8s H) := by
        have := hbk
        rwa [List.take_of_length_le (by have := HL.out.1; omega), Nat.sub_self, List.replicate_zero, List.append_nil] at this
      have Q : Hid (Blk wr g2 45 (u8s H) ∧ Blk wr w.heap.size 45 (u8s (List.replicate 12 0)) ∧ Below w.heap.size w wr) := by
        have gz := V.out.2.2.2
        exact ⟨hbk', V.out.2.1.kept hkp (by omega), below_kept V.out.1 hkp V.out.1.size (fun j hj => by omega)⟩
      clear hbk hbk' hkp
      go_wp2_with (first | (refine wpList_load_blk rfl 45 _ rfl g2 rfl (u8s H) _ Q.out.1 Tryz.underlying45 rfl (by rw [u8s_length, HL.out.1]; exact sizeNonce) ?_) | (refine wpList_store_blk rfl 45 45 _ _ rfl w.heap.size rfl _ (u8s H) rfl Q.out.2.1 (by rw [u8s_length, HL.out.1]; rfl) (by rw [u8s_length, HL.out.1]; exact sizeNonce) (u8s_one _) ?_; intro w5 b5 s5 k5))
      exact ret_blk rfl w.heap.size (u8s H) _ rfl b5 Tryz.underlying45 rfl (by rw [u8s_length, HL.out.1]; exact sizeNonce) rfl ⟨rfl, below_kept Q.out.2.2 k5 Q.out.2.2.size (fun j hj => by omega)⟩
set_option maxRecDepth 20000 in
set_option maxHeartbeats 1000000 in
theorem rnum12_any (ao : Option Addr) (n c : Nat) (zs : List Int) (hn : n ≤ 8) (h0 : 0 < n) (w : World) (hx : Seen w ao n zs) :
    Calls Tryz.prog 28 #[.slice ao n c] w fun e w' => e = .returned (.int .u64 (le zs)) ∧ w = w' := by
  have HL : Hid (zs.length = n) := hx.len
  have HB : Hid (Bytes zs) := hx.bytes
  go_enter Tryz.func28, Tryz.ntmps28
  go_wp2
  go_loopw [3, 4] (fun v i wr => ∃ (m : Nat) (I : Int), m ≤ n ∧ I + 1 = m ∧ i = .int .i64 I ∧ v = .int .u64 (le (zs.drop m)) ∧ wr = w) (fun _ i _ => (intOf i + 1).toNat)
  case atStart => exact ⟨n, (n : Int) - 1, by omega, by omega, by go_num, by rw [List.drop_of_length_le (by have := HL.out; omega)]; rfl, rfl⟩
  case round =>
    obtain ⟨m, I, hm, hI, rfl, rfl, rfl⟩ := hrel
    by_cases hlt : 0 < m
    · obtain ⟨b, o, rfl, hb, hc⟩ := hx.cells h0
      obtain ⟨p, rfl⟩ : ∃ p, m = p + 1 := ⟨m - 1, by omega⟩
      obtain rfl : I = (p : Int) := by omega
      have c1 := hc p (by omega)
      have hd := le_drop zs p (by have := HL.out; omega)
      have hbd := le_drop_bd zs HB.out n (p + 1) HL.out hn (by omega)
      have hz := HB.out.at p (by have := HL.out; omega)
      obtain ⟨Z, hZ⟩ : ∃ Z, zs.getD p 0 = Z := ⟨_, rfl⟩
      obtain ⟨A, hA⟩ : ∃ A, le (zs.drop (p + 1)) = A := ⟨_, rfl⟩
      rw [hZ] at c1 hd hz
      rw [hA] at hd hbd
      have HO : Hid (A * 256 + Z = le (zs.drop p)) := by show _ = _; rw [hd]; omega
      have bd2 : A * 256 + Z < 18446744073709551616 := by omega
      have HA : Hid (le (zs.drop (p + 1)) = A) := hA
      rw [hA]
      have i1 : (0 : Int) ≤ (p : Int) := by omega
      have i2 : (p : Int) < (n : Int) := by omega
      clear hZ hA hc hx hd
      go_wp2
      go_roundw
      case rel => exact ⟨p, (p : Int) - 1, by omega, by omega, by go_num, by rw [← HO.out], by first | rfl | trivial⟩
      case measure => simp [intOf] <;> omega
    · obtain rfl : m = 0 := by omega
      obtain rfl : I = -1 := by omega
      rw [List.drop_zero]
      obtain ⟨A, hA⟩ : ∃ A, le zs = A := ⟨_, rfl⟩
      rw [hA]
      clear hx
      go_wp2
      go_ret
      exact ⟨by rw [hA]; rfl, rfl⟩
set_option maxRecDepth 20000 in
set_option maxHeartbeats 1000000 in
theorem rsopen_no (key nonce : List Int) (n c M d : Nat) (ao bo : Option Addr) (ms zs : List Int) (hk : key.length = 32) (hno : nonce.length = 12) (hkb : Bytes key) (hnb : Bytes nonce) (hm : M + 16 ≤ 1048592) (hn : n ≤ 1048576) (w : World) (hx : Seen w ao n ms) (hy : Seen w bo (M + 16) zs) (hc : n ≤ c) (hd : M + 16 ≤ d) (hO : opensL key nonce ms zs = false) :
    Calls Tryz.prog 27 #[.agg (u8s key).toArray, .agg (u8s nonce).toArray, .slice ao n c, .slice bo (M + 16) d] w fun e w' => e = .returned (.tuple #[.slice none 0 0, .int .i64 70]) ∧ Below w.heap.size w w' := by
  have HE : Hid (boxE n (M + 16) = 0) := boxE_ok (by omega) hm hn
  have HX : Hid (Seen w ao n ms ∧ Seen w bo (M + 16) zs ∧ n ≤ c ∧ M + 16 ≤ d) := ⟨hx, hy, hc, hd⟩
  have HS : Hid (key.length = 32 ∧ nonce.length = 12 ∧ Bytes key ∧ Bytes nonce) := ⟨hk, hno, hkb, hnb⟩
  have HO : Hid (opensL key nonce ms zs = false) := hO
  clear hx hy hc hd hk hno hkb hnb hO
  go_enter Tryz.func27, Tryz.ntmps27
  go_wp2_with (first | (refine wpList_box_new rfl 23 _ rfl (u8s key) rfl ?_; intro w1 b1 s1 l1) | (refine wpList_box_new rfl 45 _ rfl (u8s nonce) rfl ?_; intro w2 b2 s2 l2) | (go_at_call 44; refine (rwrong_any ao bo n (M + 16) c d _).mono ?_; rintro e w' ⟨rfl, rfl⟩; rw [HE.out]) | (refine wpList_load_blk rfl 23 _ rfl _ rfl (u8s key) _ (by first | exact b1.later l2 (by omega)) Tryz.underlying23 rfl (by rw [u8s_length, HS.out.1]; exact sizeKey) ?_) | (refine wpList_load_blk rfl 45 _ rfl _ rfl (u8s nonce) _ (by first | exact b2 | (rw [← s1]; exact b2)) Tryz.underlying45 rfl (by rw [u8s_length, HS.out.2.1]; exact sizeNonce) ?_))
  have L2 : Below w.heap.size w w2 := below_chain l1 l2 (by omega)
  refine (rtext_any key nonce n c M d ao bo ms zs HS.out.1 HS.out.2.1 HS.out.2.2.1 HS.out.2.2.2 hm hn w2 (HX.out.1.later L2 (Nat.le_refl _)) (HX.out.2.1.later L2 (Nat.le_refl _)) HX.out.2.2.1 HX.out.2.2.2).mono ?_
  rintro e w3 ⟨h3, l3⟩
  rcases h3 with ⟨_, rfl⟩ | ⟨h4, _⟩
  · have H3 : Hid (Below w.heap.size w w3) := below_chain L2 l3 L2.size
    clear l3 L2 b1 b2 l1 l2 s1 s2
    go_wp2
    go_ret2
    exact ⟨rfl, H3.out⟩
  · rw [HO.out] at h4; cases h4
set_option maxRecDepth 20000 in
set_option maxHeartbeats 1000000 in
theorem rsopen_yes (key nonce : List Int) (n c M d : Nat) (ao bo : Option Addr) (ms zs : List Int) (hk : key.length = 32) (hno : nonce.length = 12) (hkb : Bytes key) (hnb : Bytes nonce) (hm : M + 16 ≤ 1048592) (hn : n ≤ 1048576) (w : World) (hx : Seen w ao n ms) (hy : Seen w bo (M + 16) zs) (hc : n ≤ c) (hd : M + 16 ≤ d) (hO : opensL key nonce ms zs = true) :
    Calls Tryz.prog 27 #[.agg (u8s key).toArray, .agg (u8s nonce).toArray, .slice ao n c, .slice bo (M + 16) d] w fun e w' => ∃ v, e = .returned (.tuple #[v, .int .i64 0]) ∧ isO w.heap.size M (textL key nonce zs) v w' ∧ Below w.heap.size w w' := by
  have HE : Hid (boxE n (M + 16) = 0) := boxE_ok (by omega) hm hn
  have HX : Hid (Seen w ao n ms ∧ Seen w bo (M + 16) zs ∧ n ≤ c ∧ M + 16 ≤ d) := ⟨hx, hy, hc, hd⟩
  have HS : Hid (key.length = 32 ∧ nonce.length = 12 ∧ Bytes key ∧ Bytes nonce) := ⟨hk, hno, hkb, hnb⟩
  have HO : Hid (opensL key nonce ms zs = true) := hO
  clear hx hy hc hd hk hno hkb hnb hO
  go_enter Tryz.func27, Tryz.ntmps27
  go_wp2_with (first | (refine wpList_box_new rfl 23 _ rfl (u8s key) rfl ?_; intro w1 b1 s1 l1) | (refine wpList_box_new rfl 45 _ rfl (u8s nonce) rfl ?_; intro w2 b2 s2 l2) | (go_at_call 44; refine (rwrong_any ao bo n (M + 16) c d _).mono ?_; rintro e w' ⟨rfl, rfl⟩; rw [HE.out]) | (refine wpList_load_blk rfl 23 _ rfl _ rfl (u8s key) _ (by first | exact b1.later l2 (by omega)) Tryz.underlying23 rfl (by rw [u8s_length, HS.out.1]; exact sizeKey) ?_) | (refine wpList_load_blk rfl 45 _ rfl _ rfl (u8s nonce) _ (by first | exact b2 | (rw [← s1]; exact b2)) Tryz.underlying45 rfl (by rw [u8s_length, HS.out.2.1]; exact sizeNonce) ?_))
  have L2 : Below w.heap.size w w2 := below_chain l1 l2 (by omega)
  refine (rtext_any key nonce n c M d ao bo ms zs HS.out.1 HS.out.2.1 HS.out.2.2.1 HS.out.2.2.2 hm hn w2 (HX.out.1.later L2 (Nat.le_refl _)) (HX.out.2.1.later L2 (Nat.le_refl _)) HX.out.2.2.1 HX.out.2.2.2).mono ?_
  rintro e w3 ⟨h3, l3⟩
  rcases h3 with ⟨h4, _⟩ | ⟨_, v, rfl, o3⟩
  · rw [HO.out] at h4; cases h4
  have H3 : Hid (isO w.heap.size M (textL key nonce zs) v w3 ∧ Below w.heap.size w w3) := ⟨ownsRow_base o3 L2.size, below_chain L2 l3 L2.size⟩
  clear o3 l3 L2 b1 b2 l1 l2 s1 s2
  go_wp2
  go_ret2
  exact ⟨_, rfl, H3.out.1, H3.out.2⟩
set_option maxRecDepth 20000 in
theorem rphead_bad (ao : Option Addr) (n c : Nat) (hn : n < 28) (w : World) :
    Calls Tryz.prog 14 #[.slice ao n c] w fun e w' => e = .returned (.tuple #[.int .u64 0, .int .u32 0, .int .i64 20]) ∧ w = w' := by
  have i1 : (n : Int) < 28 := by omega
  go_enter Tryz.func14, Tryz.ntmps14
  go_wp2
  go_ret3
  exact ⟨rfl, rfl⟩
set_option maxRecDepth 20000 in
set_option maxHeartbeats 1000000 in
theorem rphead_any (ao : Option Addr) (n c : Nat) (zs : List Int) (w : World) (hx : Seen w ao n zs) (h28 : 28 ≤ n) (hc : n ≤ c) :
    Calls Tryz.prog 14 #[.slice ao n c] w fun e w' => e = .returned (.tuple #[.int .u64 (tellR zs), .int .u32 (tellC zs), .int .i64 0]) ∧ Below w.heap.size w w' := by
  have i1 : ¬ (n : Int) < 28 := by omega
  have t1 := hx.top
  have S8 : Hid (∀ W, (Instr.sliceAt 28 (.slice ao n c) none (some (.int .i64 8)) none).run Tryz.prog W = .ok (.slice (subA ao 0 c) 8 c) W) := fun W => sl_h ao n c 8 (by omega) W
  have S12 : Hid (∀ W, (Instr.sliceAt 28 (.slice ao n c) (some (.int .i64 8)) (some (.int .i64 12)) none).run Tryz.prog W = .ok (.slice (subA ao 8 c) 4 (c - 8)) W) := fun W => sl_lh ao n c 8 12 (by omega) (by omega) W
  have HS : Hid (Seen w (subA ao 0 c) 8 (zs.take 8) ∧ Seen w (subA ao 8 c) 4 ((zs.drop 8).take 4)) := by
    have h1 := hx.sub 0 8 c (by omega) (by omega) hc
    have h2 := hx.sub 8 12 c (by omega) (by omega) hc
    rw [List.drop_zero, Nat.sub_zero] at h1
    exact ⟨h1, h2⟩
  have hC := le_bd ((zs.drop 8).take 4) (bytes_take (bytes_drop hx.bytes 8) 4)
  rw [show ((zs.drop 8).take 4).length = 4 by have := hx.len; simp; omega] at hC
  have WC : Hid (IntKind.u32.wrap (tellC zs) = tellC zs) := by
    show _ = _
    unfold tellC
    simp [IntKind.wrap, IntKind.signed, IntKind.bits]; omega
  obtain ⟨A, hA⟩ : ∃ A, tellR zs = A := ⟨_, rfl⟩
  obtain ⟨C, hCC⟩ : ∃ A, tellC zs = A := ⟨_, rfl⟩
  have HA : Hid (le (zs.take 8) = A ∧ le ((zs.drop 8).take 4) = C) := ⟨hA, hCC⟩
  rw [hCC] at WC
  rw [hA, hCC]
  clear hx hC hA hCC
  go_enter Tryz.func14, Tryz.ntmps14
  go_wp2_with fail
  refine region_inv [.val (.slice ao n c), .val (.slice (subA ao 0 c) 8 c), .val (.int .u64 A), .val (.slice ao n c), .val (.slice (subA ao 8 c) 4 (c - 8)), .val (.int .u64 C), .val (.int .u32 C), .val (.int .u64 A), .val (.int .u32 C)] (by kernel_rfl) (by kernel_rfl) (by kernel_rfl) ?_ ?_
  · refine Steps'.cons ?_ (Steps'.cons ?_ (Steps'.cons ?_ (Steps'.cons ?_ (Steps'.cons ?_ (Steps'.cons ?_ (Steps'.cons ?_ (Steps'.cons ?_ (Steps'.cons ?_ (Steps'.one _ _ _ _ _ _ _)))))))))
    · intro ax wx hb hs hd
      have h0 : ax.tmps.getD 0 undef = (.slice ao n c) := hs 0 (by kernel_rfl)
      refine Does.value (.slice ao n c) ?_ rfl
      clear hs hd
      go_simp
    · intro ax wx hb hs hd
      have h8 : ax.tmps.getD 8 undef = (.slice ao n c) := hd 0 8 rfl (by kernel_rfl) (by decide)
      have SA := S8.out
      refine Does.value (.slice (subA ao 0 c) 8 c) ?_ rfl
      clear hs hd
      go_simp
    · intro ax wx hb hs hd
      have h9 : ax.tmps.getD 9 undef = (.slice (subA ao 0 c) 8 c) := hd 1 9 rfl (by kernel_rfl) (by decide)
      refine Does.call 28 #[.slice (subA ao 0 c) 8 c] (by clear hs hd; go_simp) ?_
      refine (rnum12_any (subA ao 0 c) 8 c (zs.take 8) (by decide) (by decide) wx (HS.out.1.later hb (Nat.le_refl _))).mono ?_
      rintro e w' ⟨rfl, rfl⟩
      rw [HA.out.1]
      exact ⟨_, rfl, rfl, Below.refl _ _⟩
    · intro ax wx hb hs hd
      have h0 : ax.tmps.getD 0 undef = (.slice ao n c) := hs 0 (by kernel_rfl)
      refine Does.value (.slice ao n c) ?_ rfl
      clear hs hd
      go_simp
    · intro ax wx hb hs hd
      have h11 : ax.tmps.getD 11 undef = (.slice ao n c) := hd 3 11 rfl (by kernel_rfl) (by decide)
      have SA := S12.out
      refine Does.value (.slice (subA ao 8 c) 4 (c - 8)) ?_ rfl
      clear hs hd
      go_simp
    · intro ax wx hb hs hd
      have h12 : ax.tmps.getD 12 undef = (.slice (subA ao 8 c) 4 (c - 8)) := hd 4 12 rfl (by kernel_rfl) (by decide)
      refine Does.call 28 #[.slice (subA ao 8 c) 4 (c - 8)] (by clear hs hd; go_simp) ?_
      refine (rnum12_any (subA ao 8 c) 4 (c - 8) ((zs.drop 8).take 4) (by decide) (by decide) wx (HS.out.2.later hb (Nat.le_refl _))).mono ?_
      rintro e w' ⟨rfl, rfl⟩
      rw [HA.out.2]
      exact ⟨_, rfl, rfl, Below.refl _ _⟩
    · intro ax wx hb hs hd
      have h13 : ax.tmps.getD 13 undef = (.int .u64 C) := hd 5 13 rfl (by kernel_rfl) (by decide)
      have wc := WC.out
      refine Does.value (.int .u32 C) ?_ rfl
      clear hs hd
      go_simp
    · intro ax wx hb hs hd
      have h10 : ax.tmps.getD 10 undef = (.int .u64 A) := hd 2 10 rfl (by kernel_rfl) (by decide)
      refine Does.value (.int .u64 A) ?_ rfl
      clear hs hd
      go_simp
    · intro ax wx hb hs hd
      have h14 : ax.tmps.getD 14 undef = (.int .u32 C) := hd 6 14 rfl (by kernel_rfl) (by decide)
      refine Does.value (.int .u32 C) ?_ rfl
      clear hs hd
      go_simp
  · intro wx hb
    refine @Ends.val _ _ _ _ _ _ _ _ _ (.slice ao n c) rfl ?_
    refine @Ends.val _ _ _ _ _ _ _ _ _ (.slice (subA ao 0 c) 8 c) rfl ?_
    refine @Ends.val _ _ _ _ _ _ _ _ _ (.int .u64 A) rfl ?_
    refine @Ends.val _ _ _ _ _ _ _ _ _ (.slice ao n c) rfl ?_
    refine @Ends.val _ _ _ _ _ _ _ _ _ (.slice (subA ao 8 c) 4 (c - 8)) rfl ?_
    refine @Ends.val _ _ _ _ _ _ _ _ _ (.int .u64 C) rfl ?_
    refine @Ends.val _ _ _ _ _ _ _ _ _ (.int .u32 C) rfl ?_
    refine @Ends.val _ _ _ _ _ _ _ _ _ (.int .u64 A) rfl ?_
    refine @Ends.val _ _ _ _ _ _ _ _ _ (.int .u32 C) rfl ?_
    refine @Ends.one _ _ _ _ _ _ _ ?_
    simp only [Act.put, List.setIfInBounds_toArray, List.set_cons_zero, List.set_cons_succ]
    refine last_assign _ rfl (some 4) rfl (.int .i64 0) rfl ?_
    simp only [Act.put, List.setIfInBounds_toArray, List.set_cons_zero, List.set_cons_succ]
    have L : Hid (Below w.heap.size w wx) := hb
    clear hb
    go_wp2
    go_ret3
    exact ⟨rfl, L.out⟩
end Go.Proofs.YtcimiajkbgabiaaGreat

namespace Go.Proofs.YtcimiajkbgabiaaGreat
open Go.RowKit
set_option linter.unusedVariables false
set_option linter.unusedSimpArgs false

set_option maxRecDepth 20000 in
set_option maxHeartbeats 1000000 in
theorem rpseal_bad (key : List Int) (r c p q : Int) (bo : Option Addr) (m d : Nat) (t1 : m ≤ 140737488355328) (hm : 4096 < m) (w : World) :
    Calls Tryz.prog 5 #[.agg (u8s key).toArray, .agg (placeC r c p q).toArray, .slice bo m d] w fun e w' => e = .returned (.tuple #[.slice none 0 0, .int .i64 3]) ∧ Below w.heap.size w w' := by
  have i1 : (4096 : Int) < (m : Int) := by omega
  go_enter Tryz.func5, Tryz.ntmps5
  go_wp2_with (first | (refine wpList_box_new rfl 23 _ rfl (u8s key) rfl ?_; intro w1 b1 s1 l1) | (refine wpList_box_new rfl 27 _ rfl (placeC r c p q) rfl ?_; intro w2 b2 s2 l2))
  go_ret2
  exact ⟨rfl, below_chain l1 l2 (by omega)⟩
set_option maxRecDepth 20000 in
set_option maxHeartbeats 1000000 in
theorem rpopen_short (key : List Int) (r c p q : Int) (bo : Option Addr) (m d : Nat) (t1 : m ≤ 140737488355328) (hm : m < 28) (w : World) :
    Calls Tryz.prog 13 #[.agg (u8s key).toArray, .agg (placeC r c p q).toArray, .slice bo m d] w fun e w' => e = .returned (.tuple #[.slice none 0 0, .int .i64 120]) ∧ Below w.heap.size w w' := by
  have i1 : (m : Int) < 28 := by omega
  go_enter Tryz.func13, Tryz.ntmps13
  go_wp2_with (first | (refine wpList_box_new rfl 23 _ rfl (u8s key) rfl ?_; intro w1 b1 s1 l1) | (refine wpList_box_new rfl 27 _ rfl (placeC r c p q) rfl ?_; intro w2 b2 s2 l2))
  go_ret2
  exact ⟨rfl, below_chain l1 l2 (by omega)⟩
set_option maxRecDepth 20000 in
set_option maxHeartbeats 1000000 in
theorem rpopen_long (key : List Int) (r c p q : Int) (bo : Option Addr) (m d : Nat) (t1 : m ≤ 140737488355328) (hm : 4124 < m) (w : World) :
    Calls Tryz.prog 13 #[.agg (u8s key).toArray, .agg (placeC r c p q).toArray, .slice bo m d] w fun e w' => e = .returned (.tuple #[.slice none 0 0, .int .i64 120]) ∧ Below w.heap.size w w' := by
  have i1 : ¬ (m : Int) < 28 := by omega
  have i2 : (4124 : Int) < (m : Int) := by omega
  go_enter Tryz.func13, Tryz.ntmps13
  go_wp2_with (first | (refine wpList_box_new rfl 23 _ rfl (u8s key) rfl ?_; intro w1 b1 s1 l1) | (refine wpList_box_new rfl 27 _ rfl (placeC r c p q) rfl ?_; intro w2 b2 s2 l2))
  go_ret2
  exact ⟨rfl, below_chain l1 l2 (by omega)⟩
set_option maxRecDepth 20000 in
set_option maxHeartbeats 2000000 in
theorem rpseal_any (key : List Int) (r c p q : Int) (bo : Option Addr) (m d : Nat) (zs : List Int) (hk : key.length = 32) (hkb : Bytes key) (hr : Word r) (hc : U32 c) (hp : U32 p) (hq : U32 q) (hm : m ≤ 4096) (w : World) (hy : Seen w bo m zs) (hd : m ≤ d) :
    Calls Tryz.prog 5 #[.agg (u8s key).toArray, .agg (placeC r c p q).toArray, .slice bo m d] w fun e w' => ∃ v, e = .returned (.tuple #[v, .int .i64 0]) ∧ isO w.heap.size (m + 28) (pageL key r c p q zs) v w' ∧ Below w.heap.size w w' := by
  have i1 : ¬ (4096 : Int) < (m : Int) := by omega
  obtain ⟨H, hH⟩ : ∃ H, hdL r c = H := ⟨_, rfl⟩
  obtain ⟨M, hM⟩ : ∃ H, moL p q = H := ⟨_, rfl⟩
  have HH : Hid (hdL r c = H ∧ H.length = 12 ∧ Bytes H) := ⟨hH, by rw [← hH]; exact hdL_length r c, by rw [← hH]; exact hdL_bytes r c⟩
  have HM : Hid (moL p q = M ∧ M.length = 8 ∧ Bytes M) := ⟨hM, by rw [← hM]; exact moL_length p q, by rw [← hM]; exact moL_bytes p q⟩
  have HK : Hid (key.length = 32 ∧ Bytes key ∧ Word r ∧ U32 c ∧ U32 p ∧ U32 q) := ⟨hk, hkb, hr, hc, hp, hq⟩
  have HY : Hid (Seen w bo m zs) := hy
  have HD : Hid (m ≤ d) := hd
  obtain ⟨X, hX⟩ : ∃ X, boxL key H M zs = X := ⟨_, rfl⟩
  have HX : Hid (boxL key H M zs = X ∧ X.length = m + 16 ∧ Bytes X ∧ pageL key r c p q zs = H ++ X) := ⟨hX, by rw [← hX, boxL_length, hy.len], by rw [← hX]; exact boxL_bytes _ _ _ hy.bytes, by rw [pageL, hH, hM, hX]⟩
  clear hH hM hX hk hkb hr hc hp hq hy hd
  go_enter Tryz.func5, Tryz.ntmps5
  go_wp2_with (first | (refine wpList_box_new rfl 23 _ rfl (u8s key) rfl ?_; intro w1 b1 s1 l1) | (refine wpList_box_new rfl 27 _ rfl (placeC r c p q) rfl ?_; intro w2 b2 s2 l2) | (refine wpList_load_blk rfl 27 _ rfl _ rfl (placeC r c p q) _ (by first | exact b2 | (rw [← s1]; exact b2)) Tryz.underlying27 rfl pzKey ?_))
  refine (rhead_any r c p q HK.out.2.2.1 HK.out.2.2.2.1 w2).mono ?_
  rintro e w3 ⟨hv, rfl, o3, l3⟩
  rw [HH.out.1] at o3
  obtain ⟨ho, hcap, rfl, sh, ch, _⟩ := pown_sl HH.out.2.1 HH.out.2.2 (by decide) o3
  rw [s1] at b2
  have V : Hid (Blk w3 w.heap.size 23 (u8s key) ∧ Blk w3 (w.heap.size + 1) 27 (placeC r c p q) ∧ Below w.heap.size w w3 ∧ Seen w3 bo m zs ∧ Seen w3 ho 12 H ∧ 12 ≤ hcap) := by
    have L : Below w.heap.size w w3 := below_chain (below_chain l1 l2 (by omega)) l3 (by omega)
    exact ⟨(b1.later l2 (by omega)).later l3 (by omega), b2.later l3 (by omega), L, HY.out.later L (Nat.le_refl _), sh, ch⟩
  clear b1 b2 l1 l2 l3 s2 s1 o3 sh ch
  go_wp2_with fail
  refine region_inv [.val (.agg (u8s key).toArray), .val (.slice ho 12 hcap), .val (.agg (u8s H).toArray), .val (.agg (placeC r c p q).toArray), .any (isO w.heap.size 8 M) (isO_later _ _ _), .val (.slice bo m d), .any (isT w.heap.size (m + 16) X 0) (isT_later _ _ _ _), .any (isT w.heap.size (m + 16) X 0) (isT_later _ _ _ _), .any (isO w.heap.size (m + 16) X) (isO_later _ _ _), .val (.int .i64 0), .any (isO w.heap.size (m + 16) X) (isO_later _ _ _)] (by kernel_rfl) (by kernel_rfl) (by kernel_rfl) ?_ ?_
  · refine Steps'.cons ?_ (Steps'.cons ?_ (Steps'.cons ?_ (Steps'.cons ?_ (Steps'.cons ?_ (Steps'.cons ?_ (Steps'.cons ?_ (Steps'.cons ?_ (Steps'.cons ?_ (Steps'.cons ?_ (Steps'.cons ?_ (Steps'.one _ _ _ _ _ _ _)))))))))))
    · intro ax wx hb hs hd
      have h3 : ax.tmps.getD 3 undef = (.pointer (some ⟨w.heap.size, 0, none⟩)) := hs 3 (by kernel_rfl)
      exact Does.load 23 (.tmp 3) rfl w.heap.size 0 h3 (u8s key) _ ((V.out.1).later hb (V.out.1).lt).all Tryz.underlying23 rfl (by rw [u8s_length, HK.out.1]; exact sizeKey)
    · intro ax wx hb hs hd
      have h8 : ax.tmps.getD 8 undef = (.slice ho 12 hcap) := hs 8 (by kernel_rfl)
      refine Does.value (.slice ho 12 hcap) ?_ rfl
      clear hs hd
      go_simp
    · intro ax wx hb hs hd
      have h18 : ax.tmps.getD 18 undef = (.slice ho 12 hcap) := hd 1 18 rfl (by kernel_rfl) (by decide)
      refine Does.call 19 #[.slice ho 12 hcap] (by clear hs hd; go_simp) ?_
      refine (rnon_any ho 12 hcap H rfl wx (V.out.2.2.2.2.1.later hb (Nat.le_refl _))).mono ?_
      rintro e w' ⟨rfl, l⟩
      exact ⟨_, rfl, rfl, l⟩
    · intro ax wx hb hs hd
      have h4 : ax.tmps.getD 4 undef = (.pointer (some ⟨w.heap.size + 1, 0, none⟩)) := hs 4 (by kernel_rfl)
      exact Does.load 27 (.tmp 4) rfl (w.heap.size + 1) 0 h4 (placeC r c p q) _ ((V.out.2.1).later hb (V.out.2.1).lt).all Tryz.underlying27 rfl pzKey
    · intro ax wx hb hs hd
      have h20 : ax.tmps.getD 20 undef = (.agg (placeC r c p q).toArray) := hd 3 20 rfl (by kernel_rfl) (by decide)
      refine Does.call 20 #[.agg (placeC r c p q).toArray] (by clear hs hd; go_simp) ?_
      refine (rmore_any r c p q HK.out.2.2.2.2.1 HK.out.2.2.2.2.2 wx).mono ?_
      rintro e w' ⟨v, rfl, o, l⟩
      rw [HM.out.1] at o
      exact ⟨_, rfl, ownsRow_base o (by have := hb.size; have := V.out.2.2.1.size; omega), l⟩
    · intro ax wx hb hs hd
      have h2 : ax.tmps.getD 2 undef = (.slice bo m d) := hs 2 (by kernel_rfl)
      refine Does.value (.slice bo m d) ?_ rfl
      clear hs hd
      go_simp
    · intro ax wx hb hs hd
      have h17 : ax.tmps.getD 17 undef = (.agg (u8s key).toArray) := hd 0 17 rfl (by kernel_rfl) (by decide)
      have h19 : ax.tmps.getD 19 undef = (.agg (u8s H).toArray) := hd 2 19 rfl (by kernel_rfl) (by decide)
      have p21 : (isO w.heap.size 8 M) (ax.tmps.getD 21 undef) wx := hd 4 21 rfl (by kernel_rfl) (by decide)
      have h22 : ax.tmps.getD 22 undef = (.slice bo m d) := hd 5 22 rfl (by kernel_rfl) (by decide)
      obtain ⟨mo, mc, h21, s21, c21, _⟩ := pown_sl HM.out.2.1 HM.out.2.2 (by decide) p21
      clear p21
      refine Does.call 18 #[.agg (u8s key).toArray, .agg (u8s H).toArray, .slice mo 8 mc, .slice bo m d] (by clear hs hd; go_simp) ?_
      refine (rseal_any key H 8 mc m d mo bo M zs HK.out.1 HH.out.2.1 HK.out.2.1 HH.out.2.2 wx s21 (V.out.2.2.2.1.later hb (Nat.le_refl _)) c21 (by decide) (by omega)).mono ?_
      rintro e w' ⟨v, rfl, o, l⟩
      rw [HX.out.1] at o
      exact ⟨_, rfl, ⟨v, rfl, ownsRow_base o (by have := hb.size; have := V.out.2.2.1.size; omega)⟩, l⟩
    · intro ax wx hb hs hd
      have p23 : (isT w.heap.size (m + 16) X 0) (ax.tmps.getD 23 undef) wx := hd 6 23 rfl (by kernel_rfl) (by decide)
      obtain ⟨u, h23, o⟩ := p23
      refine Does.value (.tuple #[u, .int .i64 0]) ?_ ⟨u, rfl, o⟩
      clear hs hd
      go_simp
    · intro ax wx hb hs hd
      have p16 : (isT w.heap.size (m + 16) X 0) (ax.tmps.getD 16 undef) wx := hd 7 16 rfl (by kernel_rfl) (by decide)
      obtain ⟨u, h16, o⟩ := p16
      refine Does.value u ?_ o
      clear hs hd
      go_simp
    · intro ax wx hb hs hd
      have p16 : (isT w.heap.size (m + 16) X 0) (ax.tmps.getD 16 undef) wx := hd 7 16 rfl (by kernel_rfl) (by decide)
      obtain ⟨u, h16, o⟩ := p16
      refine Does.value (.int .i64 0) ?_ rfl
      clear hs hd
      go_simp
    · intro ax wx hb hs hd
      have p24 : (isO w.heap.size (m + 16) X) (ax.tmps.getD 24 undef) wx := hd 8 24 rfl (by kernel_rfl) (by decide)
      obtain ⟨u, h24⟩ : ∃ u, ax.tmps.getD 24 undef = u := ⟨_, rfl⟩
      rw [h24] at p24
      refine Does.value u ?_ p24
      clear hs hd
      go_simp
  · intro wx hb
    refine @Ends.val _ _ _ _ _ _ _ _ _ (.agg (u8s key).toArray) rfl ?_
    refine @Ends.val _ _ _ _ _ _ _ _ _ (.slice ho 12 hcap) rfl ?_
    refine @Ends.val _ _ _ _ _ _ _ _ _ (.agg (u8s H).toArray) rfl ?_
    refine @Ends.val _ _ _ _ _ _ _ _ _ (.agg (placeC r c p q).toArray) rfl ?_
    refine @Ends.any _ _ _ _ _ _ _ _ _ (isO w.heap.size 8 M) (isO_later _ _ _) rfl ?_
    intro v21 p21
    refine @Ends.val _ _ _ _ _ _ _ _ _ (.slice bo m d) rfl ?_
    refine @Ends.any _ _ _ _ _ _ _ _ _ (isT w.heap.size (m + 16) X 0) (isT_later _ _ _ _) rfl ?_
    intro v23 p23
    refine @Ends.any _ _ _ _ _ _ _ _ _ (isT w.heap.size (m + 16) X 0) (isT_later _ _ _ _) rfl ?_
    intro v16 p16
    refine @Ends.any _ _ _ _ _ _ _ _ _ (isO w.heap.size (m + 16) X) (isO_later _ _ _) rfl ?_
    intro v24 p24
    refine @Ends.val _ _ _ _ _ _ _ _ _ (.int .i64 0) rfl ?_
    refine @Ends.any _ _ _ _ _ _ _ _ _ (isO w.heap.size (m + 16) X) (isO_later _ _ _) rfl ?_
    intro v9 p9
    refine @Ends.one _ _ _ _ _ _ _ ?_
    simp only [Act.put, List.setIfInBounds_toArray, List.set_cons_zero, List.set_cons_succ]
    obtain ⟨xo, xc, rfl, sx, cx, _⟩ := pown_sl HX.out.2.1 HX.out.2.2.1 (by omega) p9
    have W1 : Hid (Below w.heap.size w wx ∧ Seen wx xo (m + 16) X ∧ Seen wx ho 12 H ∧ m + 16 ≤ xc) := ⟨below_chain V.out.2.2.1 hb V.out.2.2.1.size, sx, V.out.2.2.2.2.1.later hb (Nat.le_refl _), cx⟩
    clear p9 p24 p23 p21 p16 sx cx
    refine last_assign (.tmp 25) rfl (some 10) rfl (.int .i64 0) rfl ?_
    simp only [Act.put, List.setIfInBounds_toArray, List.set_cons_zero, List.set_cons_succ]
    go_wp2_with fail
    refine (two_any ho xo 12 (m + 16) hcap xc H X wx W1.out.2.2.1 W1.out.2.1 V.out.2.2.2.2.2 W1.out.2.2.2 (by omega)).mono ?_
    rintro e w7 ⟨v, rfl, o7, l7⟩
    rw [List.length_append, HH.out.2.1, HX.out.2.1] at o7
    have W7 : Hid (isO wx.heap.size (12 + (m + 16)) (H ++ X) v w7 ∧ Below wx.heap.size wx w7) := ⟨o7, l7⟩
    clear o7 l7
    go_wp2
    go_ret2
    exact ⟨_, rfl, by rw [HX.out.2.2.2, show m + 28 = 12 + (m + 16) by omega]; exact ownsRow_base W7.out.1 W1.out.1.size, below_chain W1.out.1 W7.out.2 W1.out.1.size⟩
set_option maxRecDepth 20000 in
set_option maxHeartbeats 2000000 in
theorem rpopen_else (key : List Int) (r c p q : Int) (bo : Option Addr) (m d : Nat) (zs : List Int) (hk : key.length = 32) (hkb : Bytes key) (hr : Word r) (hc : U32 c) (hp : U32 p) (hq : U32 q) (h28 : 28 ≤ m) (hm : m ≤ 4124) (w : World) (hy : Seen w bo m zs) (hd : m ≤ d) (hne : ¬ zs.take 12 = hdL r c) :
    Calls Tryz.prog 13 #[.agg (u8s key).toArray, .agg (placeC r c p q).toArray, .slice bo m d] w fun e w' => e = .returned (.tuple #[.slice none 0 0, .int .i64 120]) ∧ Below w.heap.size w w' := by
  obtain ⟨H, hH⟩ : ∃ H, hdL r c = H := ⟨_, rfl⟩
  obtain ⟨M, hM⟩ : ∃ H, moL p q = H := ⟨_, rfl⟩
  have HH : Hid (hdL r c = H ∧ H.length = 12 ∧ Bytes H) := ⟨hH, by rw [← hH]; exact hdL_length r c, by rw [← hH]; exact hdL_bytes r c⟩
  have HM : Hid (moL p q = M ∧ M.length = 8 ∧ Bytes M) := ⟨hM, by rw [← hM]; exact moL_length p q, by rw [← hM]; exact moL_bytes p q⟩
  have HK : Hid (key.length = 32 ∧ Bytes key ∧ Word r ∧ U32 c ∧ U32 p ∧ U32 q) := ⟨hk, hkb, hr, hc, hp, hq⟩
  have HY : Hid (Seen w bo m zs) := hy
  have HD : Hid (m ≤ d) := hd
  have i1 : ¬ (m : Int) < 28 := by omega
  have i2 : ¬ (4124 : Int) < (m : Int) := by omega
  have HS : Hid ((∀ W, (Instr.sliceAt 28 (.slice bo m d) none (some (.int .i64 12)) none).run Tryz.prog W = .ok (.slice (subA bo 0 d) 12 d) W) ∧ Seen w (subA bo 0 d) 12 (zs.take 12) ∧ decide (zs.take 12 = hdL r c) = false) := by
    refine ⟨fun W => sl_h bo m d 12 (by omega) W, ?_, decide_eq_false hne⟩
    have h := hy.sub 0 12 d (by omega) (by omega) hd
    rwa [List.drop_zero, Nat.sub_zero] at h
  clear hH hM hk hkb hr hc hp hq hy hd hne
  go_enter Tryz.func13, Tryz.ntmps13
  go_wp2_with (first | (refine wpList_box_new rfl 23 _ rfl (u8s key) rfl ?_; intro w1 b1 s1 l1) | (refine wpList_box_new rfl 27 _ rfl (placeC r c p q) rfl ?_; intro w2 b2 s2 l2) | (refine wpList_load_blk rfl 27 _ rfl _ rfl (placeC r c p q) _ (by first | exact b2 | (rw [← s1]; exact b2)) Tryz.underlying27 rfl pzKey ?_))
  refine (rhead_any r c p q HK.out.2.2.1 HK.out.2.2.2.1 w2).mono ?_
  rintro e w3 ⟨hv, rfl, o3, l3⟩
  rw [HH.out.1] at o3
  obtain ⟨ho, hcap, rfl, sh, ch, _⟩ := pown_sl HH.out.2.1 HH.out.2.2 (by decide) o3
  rw [s1] at b2
  have V : Hid (Blk w3 w.heap.size 23 (u8s key) ∧ Blk w3 (w.heap.size + 1) 27 (placeC r c p q) ∧ Below w.heap.size w w3 ∧ Seen w3 bo m zs ∧ Seen w3 ho 12 H ∧ 12 ≤ hcap) := by
    have L : Below w.heap.size w w3 := below_chain (below_chain l1 l2 (by omega)) l3 (by omega)
    exact ⟨(b1.later l2 (by omega)).later l3 (by omega), b2.later l3 (by omega), L, HY.out.later L (Nat.le_refl _), sh, ch⟩
  clear b1 b2 l1 l2 l3 s2 s1 o3 sh ch
  have S12 := HS.out.1
  go_wp2_with fail
  clear S12
  refine (reqb_any (subA bo 0 d) ho 12 12 d hcap (zs.take 12) H w3 (HS.out.2.1.later V.out.2.2.1 (Nat.le_refl _)) V.out.2.2.2.2.1).mono ?_
  rintro e w4 ⟨rfl, qq, hw4⟩
  rw [← HH.out.1, HS.out.2.2]
  have V4 : Hid (Blk w4 w.heap.size 23 (u8s key) ∧ Blk w4 (w.heap.size + 1) 27 (placeC r c p q) ∧ Below w.heap.size w w4 ∧ Seen w4 bo m zs ∧ Seen w4 ho 12 H ∧ 12 ≤ hcap) := by rw [hw4]; exact ⟨V.out.1.drewN qq, V.out.2.1.drewN qq, below_dn V.out.2.2.1 qq, V.out.2.2.2.1.drewN qq, V.out.2.2.2.2.1.drewN qq, V.out.2.2.2.2.2⟩
  clear hw4
  go_wp2_with fail
  go_ret2
  exact ⟨rfl, V4.out.2.2.1⟩
set_option maxRecDepth 20000 in
set_option maxHeartbeats 2000000 in
theorem rpopen_no (key : List Int) (r c p q : Int) (bo : Option Addr) (m d : Nat) (zs : List Int) (hk : key.length = 32) (hkb : Bytes key) (hr : Word r) (hc : U32 c) (hp : U32 p) (hq : U32 q) (h28 : 28 ≤ m) (hm : m ≤ 4124) (w : World) (hy : Seen w bo m zs) (hd : m ≤ d) (heq : zs.take 12 = hdL r c) (hO : opensL key (hdL r c) (moL p q) (zs.drop 12) = false) :
    Calls Tryz.prog 13 #[.agg (u8s key).toArray, .agg (placeC r c p q).toArray, .slice bo m d] w fun e w' => e = .returned (.tuple #[.slice none 0 0, .int .i64 120]) ∧ Below w.heap.size w w' := by
  obtain ⟨H, hH⟩ : ∃ H, hdL r c = H := ⟨_, rfl⟩
  obtain ⟨M, hM⟩ : ∃ H, moL p q = H := ⟨_, rfl⟩
  have HH : Hid (hdL r c = H ∧ H.length = 12 ∧ Bytes H) := ⟨hH, by rw [← hH]; exact hdL_length r c, by rw [← hH]; exact hdL_bytes r c⟩
  have HM : Hid (moL p q = M ∧ M.length = 8 ∧ Bytes M) := ⟨hM, by rw [← hM]; exact moL_length p q, by rw [← hM]; exact moL_bytes p q⟩
  have HK : Hid (key.length = 32 ∧ Bytes key ∧ Word r ∧ U32 c ∧ U32 p ∧ U32 q) := ⟨hk, hkb, hr, hc, hp, hq⟩
  have HY : Hid (Seen w bo m zs) := hy
  have HD : Hid (m ≤ d) := hd
  have i1 : ¬ (m : Int) < 28 := by omega
  have i2 : ¬ (4124 : Int) < (m : Int) := by omega
  have HS : Hid ((∀ W, (Instr.sliceAt 28 (.slice bo m d) none (some (.int .i64 12)) none).run Tryz.prog W = .ok (.slice (subA bo 0 d) 12 d) W) ∧ Seen w (subA bo 0 d) 12 (zs.take 12) ∧ decide (zs.take 12 = hdL r c) = true) := by
    refine ⟨fun W => sl_h bo m d 12 (by omega) W, ?_, decide_eq_true heq⟩
    have h := hy.sub 0 12 d (by omega) (by omega) hd
    rwa [List.drop_zero, Nat.sub_zero] at h
  obtain ⟨K, hK⟩ : ∃ K, m = K + 28 := ⟨m - 28, by omega⟩
  have hK2 : K ≤ 4096 := by omega
  have HQ : Hid (m = K + 28 ∧ m - 28 = K) := ⟨hK, by omega⟩
  obtain ⟨B, hB⟩ : ∃ B, zs.drop 12 = B := ⟨_, rfl⟩
  have HB : Hid ((∀ W, (Instr.sliceAt 28 (.slice bo m d) (some (.int .i64 12)) none none).run Tryz.prog W = .ok (.slice (subA bo 12 d) (K + 16) (d - 12)) W) ∧ Seen w (subA bo 12 d) (K + 16) B ∧ opensL key H M B = false) := by
    refine ⟨fun W => ?_, ?_, by rw [← hH, ← hM, ← hB]; exact hO⟩
    · rw [show K + 16 = m - 12 by omega]; exact sl_l bo m d 12 (by omega) W
    · have h := hy.sub 12 m d (by omega) (Nat.le_refl _) hd
      rw [hB, List.take_of_length_le (by rw [← hB, List.length_drop, hy.len]; omega)] at h
      rwa [show m - 12 = K + 16 by omega] at h
  clear hH hM hB hk hkb hr hc hp hq hy hd heq hO hK
  go_enter Tryz.func13, Tryz.ntmps13
  go_wp2_with (first | (refine wpList_box_new rfl 23 _ rfl (u8s key) rfl ?_; intro w1 b1 s1 l1) | (refine wpList_box_new rfl 27 _ rfl (placeC r c p q) rfl ?_; intro w2 b2 s2 l2) | (refine wpList_load_blk rfl 27 _ rfl _ rfl (placeC r c p q) _ (by first | exact b2 | (rw [← s1]; exact b2)) Tryz.underlying27 rfl pzKey ?_))
  refine (rhead_any r c p q HK.out.2.2.1 HK.out.2.2.2.1 w2).mono ?_
  rintro e w3 ⟨hv, rfl, o3, l3⟩
  rw [HH.out.1] at o3
  obtain ⟨ho, hcap, rfl, sh, ch, _⟩ := pown_sl HH.out.2.1 HH.out.2.2 (by decide) o3
  rw [s1] at b2
  have V : Hid (Blk w3 w.heap.size 23 (u8s key) ∧ Blk w3 (w.heap.size + 1) 27 (placeC r c p q) ∧ Below w.heap.size w w3 ∧ Seen w3 bo m zs ∧ Seen w3 ho 12 H ∧ 12 ≤ hcap) := by
    have L : Below w.heap.size w w3 := below_chain (below_chain l1 l2 (by omega)) l3 (by omega)
    exact ⟨(b1.later l2 (by omega)).later l3 (by omega), b2.later l3 (by omega), L, HY.out.later L (Nat.le_refl _), sh, ch⟩
  clear b1 b2 l1 l2 l3 s2 s1 o3 sh ch
  have S12 := HS.out.1
  go_wp2_with fail
  clear S12
  refine (reqb_any (subA bo 0 d) ho 12 12 d hcap (zs.take 12) H w3 (HS.out.2.1.later V.out.2.2.1 (Nat.le_refl _)) V.out.2.2.2.2.1).mono ?_
  rintro e w4 ⟨rfl, qq, hw4⟩
  rw [← HH.out.1, HS.out.2.2]
  have V4 : Hid (Blk w4 w.heap.size 23 (u8s key) ∧ Blk w4 (w.heap.size + 1) 27 (placeC r c p q) ∧ Below w.heap.size w w4 ∧ Seen w4 bo m zs ∧ Seen w4 ho 12 H ∧ 12 ≤ hcap) := by rw [hw4]; exact ⟨V.out.1.drewN qq, V.out.2.1.drewN qq, below_dn V.out.2.2.1 qq, V.out.2.2.2.1.drewN qq, V.out.2.2.2.2.1.drewN qq, V.out.2.2.2.2.2⟩
  clear hw4
  go_wp2_with fail
  refine region_inv [.val (.agg (u8s key).toArray), .val (.slice ho 12 hcap), .val (.agg (u8s H).toArray), .val (.agg (placeC r c p q).toArray), .any (isO w.heap.size 8 M) (isO_later _ _ _), .val (.slice bo m d), .val (.slice (subA bo 12 d) (K + 16) (d - 12)), .val (.tuple #[.slice none 0 0, .int .i64 70]), .val (.tuple #[.slice none 0 0, .int .i64 70]), .val (.slice none 0 0), .val (.int .i64 70), .val (.slice none 0 0)] (by kernel_rfl) (by kernel_rfl) (by kernel_rfl) ?_ ?_
  · refine Steps'.cons ?_ (Steps'.cons ?_ (Steps'.cons ?_ (Steps'.cons ?_ (Steps'.cons ?_ (Steps'.cons ?_ (Steps'.cons ?_ (Steps'.cons ?_ (Steps'.cons ?_ (Steps'.cons ?_ (Steps'.cons ?_ (Steps'.cons ?_ (Steps'.one _ _ _ _ _ _ _))))))))))))
    · intro ax wx hb hs hd
      have h3 : ax.tmps.getD 3 undef = (.pointer (some ⟨w.heap.size, 0, none⟩)) := hs 3 (by kernel_rfl)
      exact Does.load 23 (.tmp 3) rfl w.heap.size 0 h3 (u8s key) _ ((V4.out.1).later hb (V4.out.1).lt).all Tryz.underlying23 rfl (by rw [u8s_length, HK.out.1]; exact sizeKey)
    · intro ax wx hb hs hd
      have h8 : ax.tmps.getD 8 undef = (.slice ho 12 hcap) := hs 8 (by kernel_rfl)
      refine Does.value (.slice ho 12 hcap) ?_ rfl
      clear hs hd
      go_simp
    · intro ax wx hb hs hd
      have h28 : ax.tmps.getD 28 undef = (.slice ho 12 hcap) := hd 1 28 rfl (by kernel_rfl) (by decide)
      refine Does.call 19 #[.slice ho 12 hcap] (by clear hs hd; go_simp) ?_
      refine (rnon_any ho 12 hcap H rfl wx (V4.out.2.2.2.2.1.later hb (Nat.le_refl _))).mono ?_
      rintro e w' ⟨rfl, l⟩
      exact ⟨_, rfl, rfl, l⟩
    · intro ax wx hb hs hd
      have h4 : ax.tmps.getD 4 undef = (.pointer (some ⟨w.heap.size + 1, 0, none⟩)) := hs 4 (by kernel_rfl)
      exact Does.load 27 (.tmp 4) rfl (w.heap.size + 1) 0 h4 (placeC r c p q) _ ((V4.out.2.1).later hb (V4.out.2.1).lt).all Tryz.underlying27 rfl pzKey
    · intro ax wx hb hs hd
      have h30 : ax.tmps.getD 30 undef = (.agg (placeC r c p q).toArray) := hd 3 30 rfl (by kernel_rfl) (by decide)
      refine Does.call 20 #[.agg (placeC r c p q).toArray] (by clear hs hd; go_simp) ?_
      refine (rmore_any r c p q HK.out.2.2.2.2.1 HK.out.2.2.2.2.2 wx).mono ?_
      rintro e w' ⟨v, rfl, o, l⟩
      rw [HM.out.1] at o
      exact ⟨_, rfl, ownsRow_base o (by have := hb.size; have := V4.out.2.2.1.size; omega), l⟩
    · intro ax wx hb hs hd
      have h2 : ax.tmps.getD 2 undef = (.slice bo m d) := hs 2 (by kernel_rfl)
      refine Does.value (.slice bo m d) ?_ rfl
      clear hs hd
      go_simp
    · intro ax wx hb hs hd
      have h32 : ax.tmps.getD 32 undef = (.slice bo m d) := hd 5 32 rfl (by kernel_rfl) (by decide)
      have S12 := HB.out.1
      refine Does.value (.slice (subA bo 12 d) (K + 16) (d - 12)) ?_ rfl
      clear hs hd
      go_simp
    · intro ax wx hb hs hd
      have h27 : ax.tmps.getD 27 undef = (.agg (u8s key).toArray) := hd 0 27 rfl (by kernel_rfl) (by decide)
      have h29 : ax.tmps.getD 29 undef = (.agg (u8s H).toArray) := hd 2 29 rfl (by kernel_rfl) (by decide)
      have p31 : (isO w.heap.size 8 M) (ax.tmps.getD 31 undef) wx := hd 4 31 rfl (by kernel_rfl) (by decide)
      have h33 : ax.tmps.getD 33 undef = (.slice (subA bo 12 d) (K + 16) (d - 12)) := hd 6 33 rfl (by kernel_rfl) (by decide)
      obtain ⟨mo, mc, h31, s31, c31, _⟩ := pown_sl HM.out.2.1 HM.out.2.2 (by decide) p31
      clear p31
      refine Does.call 27 #[.agg (u8s key).toArray, .agg (u8s H).toArray, .slice mo 8 mc, .slice (subA bo 12 d) (K + 16) (d - 12)] (by clear hs hd; go_simp) ?_
      refine (rsopen_no key H 8 mc K (d - 12) mo (subA bo 12 d) M B HK.out.1 HH.out.2.1 HK.out.2.1 HH.out.2.2 (by omega) (by decide) wx s31 (HB.out.2.1.later (below_chain V4.out.2.2.1 hb V4.out.2.2.1.size) (Nat.le_refl _)) c31 (by have := HD.out; have := HQ.out.1; omega) HB.out.2.2).mono ?_
      rintro e w' ⟨rfl, l⟩
      exact ⟨_, rfl, rfl, l⟩
    · intro ax wx hb hs hd
      have h34 : ax.tmps.getD 34 undef = (.tuple #[.slice none 0 0, .int .i64 70]) := hd 7 34 rfl (by kernel_rfl) (by decide)
      refine Does.value (.tuple #[.slice none 0 0, .int .i64 70]) ?_ rfl
      clear hs hd
      go_simp
    · intro ax wx hb hs hd
      have h26 : ax.tmps.getD 26 undef = (.tuple #[.slice none 0 0, .int .i64 70]) := hd 8 26 rfl (by kernel_rfl) (by decide)
      refine Does.value (.slice none 0 0) ?_ rfl
      clear hs hd
      go_simp
    · intro ax wx hb hs hd
      have h26 : ax.tmps.getD 26 undef = (.tuple #[.slice none 0 0, .int .i64 70]) := hd 8 26 rfl (by kernel_rfl) (by decide)
      refine Does.value (.int .i64 70) ?_ rfl
      clear hs hd
      go_simp
    · intro ax wx hb hs hd
      have h35 : ax.tmps.getD 35 undef = (.slice none 0 0) := hd 9 35 rfl (by kernel_rfl) (by decide)
      refine Does.value (.slice none 0 0) ?_ rfl
      clear hs hd
      go_simp
  · intro wx hb
    refine @Ends.val _ _ _ _ _ _ _ _ _ (.agg (u8s key).toArray) rfl ?_
    refine @Ends.val _ _ _ _ _ _ _ _ _ (.slice ho 12 hcap) rfl ?_
    refine @Ends.val _ _ _ _ _ _ _ _ _ (.agg (u8s H).toArray) rfl ?_
    refine @Ends.val _ _ _ _ _ _ _ _ _ (.agg (placeC r c p q).toArray) rfl ?_
    refine @Ends.any _ _ _ _ _ _ _ _ _ (isO w.heap.size 8 M) (isO_later _ _ _) rfl ?_
    intro v31 p31
    refine @Ends.val _ _ _ _ _ _ _ _ _ (.slice bo m d) rfl ?_
    refine @Ends.val _ _ _ _ _ _ _ _ _ (.slice (subA bo 12 d) (K + 16) (d - 12)) rfl ?_
    refine @Ends.val _ _ _ _ _ _ _ _ _ (.tuple #[.slice none 0 0, .int .i64 70]) rfl ?_
    refine @Ends.val _ _ _ _ _ _ _ _ _ (.tuple #[.slice none 0 0, .int .i64 70]) rfl ?_
    refine @Ends.val _ _ _ _ _ _ _ _ _ (.slice none 0 0) rfl ?_
    refine @Ends.val _ _ _ _ _ _ _ _ _ (.int .i64 70) rfl ?_
    refine @Ends.val _ _ _ _ _ _ _ _ _ (.slice none 0 0) rfl ?_
    refine @Ends.one _ _ _ _ _ _ _ ?_
    simp only [Act.put, List.setIfInBounds_toArray, List.set_cons_zero, List.set_cons_succ]
    have W1 : Hid (Below w.heap.size w wx) := below_chain V4.out.2.2.1 hb V4.out.2.2.1.size
    clear p31
    refine last_assign (.tmp 36) rfl (some 10) rfl (.int .i64 70) rfl ?_
    simp only [Act.put, List.setIfInBounds_toArray, List.set_cons_zero, List.set_cons_succ]
    go_wp2
    go_ret2
    exact ⟨rfl, W1.out⟩
set_option maxRecDepth 20000 in
set_option maxHeartbeats 2000000 in
theorem rpopen_yes (key : List Int) (r c p q : Int) (bo : Option Addr) (m d : Nat) (zs : List Int) (hk : key.length = 32) (hkb : Bytes key) (hr : Word r) (hc : U32 c) (hp : U32 p) (hq : U32 q) (h28 : 28 ≤ m) (hm : m ≤ 4124) (w : World) (hy : Seen w bo m zs) (hd : m ≤ d) (heq : zs.take 12 = hdL r c) (hO : opensL key (hdL r c) (moL p q) (zs.drop 12) = true) :
    Calls Tryz.prog 13 #[.agg (u8s key).toArray, .agg (placeC r c p q).toArray, .slice bo m d] w fun e w' => ∃ v, e = .returned (.tuple #[v, .int .i64 0]) ∧ isO w.heap.size (m - 28) (textL key (hdL r c) (zs.drop 12)) v w' ∧ Below w.heap.size w w' := by
  obtain ⟨H, hH⟩ : ∃ H, hdL r c = H := ⟨_, rfl⟩
  obtain ⟨M, hM⟩ : ∃ H, moL p q = H := ⟨_, rfl⟩
  have HH : Hid (hdL r c = H ∧ H.length = 12 ∧ Bytes H) := ⟨hH, by rw [← hH]; exact hdL_length r c, by rw [← hH]; exact hdL_bytes r c⟩
  have HM : Hid (moL p q = M ∧ M.length = 8 ∧ Bytes M) := ⟨hM, by rw [← hM]; exact moL_length p q, by rw [← hM]; exact moL_bytes p q⟩
  have HK : Hid (key.length = 32 ∧ Bytes key ∧ Word r ∧ U32 c ∧ U32 p ∧ U32 q) := ⟨hk, hkb, hr, hc, hp, hq⟩
  have HY : Hid (Seen w bo m zs) := hy
  have HD : Hid (m ≤ d) := hd
  have i1 : ¬ (m : Int) < 28 := by omega
  have i2 : ¬ (4124 : Int) < (m : Int) := by omega
  have HS : Hid ((∀ W, (Instr.sliceAt 28 (.slice bo m d) none (some (.int .i64 12)) none).run Tryz.prog W = .ok (.slice (subA bo 0 d) 12 d) W) ∧ Seen w (subA bo 0 d) 12 (zs.take 12) ∧ decide (zs.take 12 = hdL r c) = true) := by
    refine ⟨fun W => sl_h bo m d 12 (by omega) W, ?_, decide_eq_true heq⟩
    have h := hy.sub 0 12 d (by omega) (by omega) hd
    rwa [List.drop_zero, Nat.sub_zero] at h
  obtain ⟨K, hK⟩ : ∃ K, m = K + 28 := ⟨m - 28, by omega⟩
  have hK2 : K ≤ 4096 := by omega
  have HQ : Hid (m = K + 28 ∧ m - 28 = K) := ⟨hK, by omega⟩
  obtain ⟨B, hB⟩ : ∃ B, zs.drop 12 = B := ⟨_, rfl⟩
  have HB : Hid ((∀ W, (Instr.sliceAt 28 (.slice bo m d) (some (.int .i64 12)) none none).run Tryz.prog W = .ok (.slice (subA bo 12 d) (K + 16) (d - 12)) W) ∧ Seen w (subA bo 12 d) (K + 16) B ∧ opensL key H M B = true) := by
    refine ⟨fun W => ?_, ?_, by rw [← hH, ← hM, ← hB]; exact hO⟩
    · rw [show K + 16 = m - 12 by omega]; exact sl_l bo m d 12 (by omega) W
    · have h := hy.sub 12 m d (by omega) (Nat.le_refl _) hd
      rw [hB, List.take_of_length_le (by rw [← hB, List.length_drop, hy.len]; omega)] at h
      rwa [show m - 12 = K + 16 by omega] at h
  obtain ⟨X, hX⟩ : ∃ X, textL key H B = X := ⟨_, rfl⟩
  have HX : Hid (textL key H B = X) := hX
  rw [hH, hB, hX]
  clear hX
  clear hH hM hB hk hkb hr hc hp hq hy hd heq hO hK
  go_enter Tryz.func13, Tryz.ntmps13
  go_wp2_with (first | (refine wpList_box_new rfl 23 _ rfl (u8s key) rfl ?_; intro w1 b1 s1 l1) | (refine wpList_box_new rfl 27 _ rfl (placeC r c p q) rfl ?_; intro w2 b2 s2 l2) | (refine wpList_load_blk rfl 27 _ rfl _ rfl (placeC r c p q) _ (by first | exact b2 | (rw [← s1]; exact b2)) Tryz.underlying27 rfl pzKey ?_))
  refine (rhead_any r c p q HK.out.2.2.1 HK.out.2.2.2.1 w2).mono ?_
  rintro e w3 ⟨hv, rfl, o3, l3⟩
  rw [HH.out.1] at o3
  obtain ⟨ho, hcap, rfl, sh, ch, _⟩ := pown_sl HH.out.2.1 HH.out.2.2 (by decide) o3
  rw [s1] at b2
  have V : Hid (Blk w3 w.heap.size 23 (u8s key) ∧ Blk w3 (w.heap.size + 1) 27 (placeC r c p q) ∧ Below w.heap.size w w3 ∧ Seen w3 bo m zs ∧ Seen w3 ho 12 H ∧ 12 ≤ hcap) := by
    have L : Below w.heap.size w w3 := below_chain (below_chain l1 l2 (by omega)) l3 (by omega)
    exact ⟨(b1.later l2 (by omega)).later l3 (by omega), b2.later l3 (by omega), L, HY.out.later L (Nat.le_refl _), sh, ch⟩
  clear b1 b2 l1 l2 l3 s2 s1 o3 sh ch
  have S12 := HS.out.1
  go_wp2_with fail
  clear S12
  refine (reqb_any (subA bo 0 d) ho 12 12 d hcap (zs.take 12) H w3 (HS.out.2.1.later V.out.2.2.1 (Nat.le_refl _)) V.out.2.2.2.2.1).mono ?_
  rintro e w4 ⟨rfl, qq, hw4⟩
  rw [← HH.out.1, HS.out.2.2]
  have V4 : Hid (Blk w4 w.heap.size 23 (u8s key) ∧ Blk w4 (w.heap.size + 1) 27 (placeC r c p q) ∧ Below w.heap.size w w4 ∧ Seen w4 bo m zs ∧ Seen w4 ho 12 H ∧ 12 ≤ hcap) := by rw [hw4]; exact ⟨V.out.1.drewN qq, V.out.2.1.drewN qq, below_dn V.out.2.2.1 qq, V.out.2.2.2.1.drewN qq, V.out.2.2.2.2.1.drewN qq, V.out.2.2.2.2.2⟩
  clear hw4
  go_wp2_with fail
  refine region_inv [.val (.agg (u8s key).toArray), .val (.slice ho 12 hcap), .val (.agg (u8s H).toArray), .val (.agg (placeC r c p q).toArray), .any (isO w.heap.size 8 M) (isO_later _ _ _), .val (.slice bo m d), .val (.slice (subA bo 12 d) (K + 16) (d - 12)), .any (isT w.heap.size K X 0) (isT_later _ _ _ _), .any (isT w.heap.size K X 0) (isT_later _ _ _ _), .any (isO w.heap.size K X) (isO_later _ _ _), .val (.int .i64 0), .any (isO w.heap.size K X) (isO_later _ _ _)] (by kernel_rfl) (by kernel_rfl) (by kernel_rfl) ?_ ?_
  · refine Steps'.cons ?_ (Steps'.cons ?_ (Steps'.cons ?_ (Steps'.cons ?_ (Steps'.cons ?_ (Steps'.cons ?_ (Steps'.cons ?_ (Steps'.cons ?_ (Steps'.cons ?_ (Steps'.cons ?_ (Steps'.cons ?_ (Steps'.cons ?_ (Steps'.one _ _ _ _ _ _ _))))))))))))
    · intro ax wx hb hs hd
      have h3 : ax.tmps.getD 3 undef = (.pointer (some ⟨w.heap.size, 0, none⟩)) := hs 3 (by kernel_rfl)
      exact Does.load 23 (.tmp 3) rfl w.heap.size 0 h3 (u8s key) _ ((V4.out.1).later hb (V4.out.1).lt).all Tryz.underlying23 rfl (by rw [u8s_length, HK.out.1]; exact sizeKey)
    · intro ax wx hb hs hd
      have h8 : ax.tmps.getD 8 undef = (.slice ho 12 hcap) := hs 8 (by kernel_rfl)
      refine Does.value (.slice ho 12 hcap) ?_ rfl
      clear hs hd
      go_simp
    · intro ax wx hb hs hd
      have h28 : ax.tmps.getD 28 undef = (.slice ho 12 hcap) := hd 1 28 rfl (by kernel_rfl) (by decide)
      refine Does.call 19 #[.slice ho 12 hcap] (by clear hs hd; go_simp) ?_
      refine (rnon_any ho 12 hcap H rfl wx (V4.out.2.2.2.2.1.later hb (Nat.le_refl _))).mono ?_
      rintro e w' ⟨rfl, l⟩
      exact ⟨_, rfl, rfl, l⟩
    · intro ax wx hb hs hd
      have h4 : ax.tmps.getD 4 undef = (.pointer (some ⟨w.heap.size + 1, 0, none⟩)) := hs 4 (by kernel_rfl)
      exact Does.load 27 (.tmp 4) rfl (w.heap.size + 1) 0 h4 (placeC r c p q) _ ((V4.out.2.1).later hb (V4.out.2.1).lt).all Tryz.underlying27 rfl pzKey
    · intro ax wx hb hs hd
      have h30 : ax.tmps.getD 30 undef = (.agg (placeC r c p q).toArray) := hd 3 30 rfl (by kernel_rfl) (by decide)
      refine Does.call 20 #[.agg (placeC r c p q).toArray] (by clear hs hd; go_simp) ?_
      refine (rmore_any r c p q HK.out.2.2.2.2.1 HK.out.2.2.2.2.2 wx).mono ?_
      rintro e w' ⟨v, rfl, o, l⟩
      rw [HM.out.1] at o
      exact ⟨_, rfl, ownsRow_base o (by have := hb.size; have := V4.out.2.2.1.size; omega), l⟩
    · intro ax wx hb hs hd
      have h2 : ax.tmps.getD 2 undef = (.slice bo m d) := hs 2 (by kernel_rfl)
      refine Does.value (.slice bo m d) ?_ rfl
      clear hs hd
      go_simp
    · intro ax wx hb hs hd
      have h32 : ax.tmps.getD 32 undef = (.slice bo m d) := hd 5 32 rfl (by kernel_rfl) (by decide)
      have S12 := HB.out.1
      refine Does.value (.slice (subA bo 12 d) (K + 16) (d - 12)) ?_ rfl
      clear hs hd
      go_simp
    · intro ax wx hb hs hd
      have h27 : ax.tmps.getD 27 undef = (.agg (u8s key).toArray) := hd 0 27 rfl (by kernel_rfl) (by decide)
      have h29 : ax.tmps.getD 29 undef = (.agg (u8s H).toArray) := hd 2 29 rfl (by kernel_rfl) (by decide)
      have p31 : (isO w.heap.size 8 M) (ax.tmps.getD 31 undef) wx := hd 4 31 rfl (by kernel_rfl) (by decide)
      have h33 : ax.tmps.getD 33 undef = (.slice (subA bo 12 d) (K + 16) (d - 12)) := hd 6 33 rfl (by kernel_rfl) (by decide)
      obtain ⟨mo, mc, h31, s31, c31, _⟩ := pown_sl HM.out.2.1 HM.out.2.2 (by decide) p31
      clear p31
      refine Does.call 27 #[.agg (u8s key).toArray, .agg (u8s H).toArray, .slice mo 8 mc, .slice (subA bo 12 d) (K + 16) (d - 12)] (by clear hs hd; go_simp) ?_
      refine (rsopen_yes key H 8 mc K (d - 12) mo (subA bo 12 d) M B HK.out.1 HH.out.2.1 HK.out.2.1 HH.out.2.2 (by omega) (by decide) wx s31 (HB.out.2.1.later (below_chain V4.out.2.2.1 hb V4.out.2.2.1.size) (Nat.le_refl _)) c31 (by have := HD.out; have := HQ.out.1; omega) HB.out.2.2).mono ?_
      rintro e w' ⟨v, rfl, o, l⟩
      rw [HX.out] at o
      exact ⟨_, rfl, ⟨v, rfl, ownsRow_base o (by have := hb.size; have := V4.out.2.2.1.size; omega)⟩, l⟩
    · intro ax wx hb hs hd
      have p34 : (isT w.heap.size K X 0) (ax.tmps.getD 34 undef) wx := hd 7 34 rfl (by kernel_rfl) (by decide)
      obtain ⟨u, h34, o⟩ := p34
      refine Does.value (.tuple #[u, .int .i64 0]) ?_ ⟨u, rfl, o⟩
      clear hs hd
      go_simp
    · intro ax wx hb hs hd
      have p26 : (isT w.heap.size K X 0) (ax.tmps.getD 26 undef) wx := hd 8 26 rfl (by kernel_rfl) (by decide)
      obtain ⟨u, h26, o⟩ := p26
      refine Does.value u ?_ o
      clear hs hd
      go_simp
    · intro ax wx hb hs hd
      have p26 : (isT w.heap.size K X 0) (ax.tmps.getD 26 undef) wx := hd 8 26 rfl (by kernel_rfl) (by decide)
      obtain ⟨u, h26, o⟩ := p26
      refine Does.value (.int .i64 0) ?_ rfl
      clear hs hd
      go_simp
    · intro ax wx hb hs hd
      have p35 : (isO w.heap.size K X) (ax.tmps.getD 35 undef) wx := hd 9 35 rfl (by kernel_rfl) (by decide)
      obtain ⟨u, h35⟩ : ∃ u, ax.tmps.getD 35 undef = u := ⟨_, rfl⟩
      rw [h35] at p35
      refine Does.value u ?_ p35
      clear hs hd
      go_simp
  · intro wx hb
    refine @Ends.val _ _ _ _ _ _ _ _ _ (.agg (u8s key).toArray) rfl ?_
    refine @Ends.val _ _ _ _ _ _ _ _ _ (.slice ho 12 hcap) rfl ?_
    refine @Ends.val _ _ _ _ _ _ _ _ _ (.agg (u8s H).toArray) rfl ?_
    refine @Ends.val _ _ _ _ _ _ _ _ _ (.agg (placeC r c p q).toArray) rfl ?_
    refine @Ends.any _ _ _ _ _ _ _ _ _ (isO w.heap.size 8 M) (isO_later _ _ _) rfl ?_
    intro v31 p31
    refine @Ends.val _ _ _ _ _ _ _ _ _ (.slice bo m d) rfl ?_
    refine @Ends.val _ _ _ _ _ _ _ _ _ (.slice (subA bo 12 d) (K + 16) (d - 12)) rfl ?_
    refine @Ends.any _ _ _ _ _ _ _ _ _ (isT w.heap.size K X 0) (isT_later _ _ _ _) rfl ?_
    intro v34 p34
    refine @Ends.any _ _ _ _ _ _ _ _ _ (isT w.heap.size K X 0) (isT_later _ _ _ _) rfl ?_
    intro v26 p26
    refine @Ends.any _ _ _ _ _ _ _ _ _ (isO w.heap.size K X) (isO_later _ _ _) rfl ?_
    intro v35 p35
    refine @Ends.val _ _ _ _ _ _ _ _ _ (.int .i64 0) rfl ?_
    refine @Ends.any _ _ _ _ _ _ _ _ _ (isO w.heap.size K X) (isO_later _ _ _) rfl ?_
    intro v9 p9
    refine @Ends.one _ _ _ _ _ _ _ ?_
    simp only [Act.put, List.setIfInBounds_toArray, List.set_cons_zero, List.set_cons_succ]
    have W1 : Hid (isO w.heap.size K X v9 wx ∧ Below w.heap.size w wx) := ⟨p9, below_chain V4.out.2.2.1 hb V4.out.2.2.1.size⟩
    clear p9 p35 p34 p31 p26
    refine last_assign (.tmp 36) rfl (some 10) rfl (.int .i64 0) rfl ?_
    simp only [Act.put, List.setIfInBounds_toArray, List.set_cons_zero, List.set_cons_succ]
    go_wp2
    go_ret2
    exact ⟨_, rfl, by rw [HQ.out.2]; exact W1.out.1, W1.out.2⟩
theorem rpopen_bad (key : List Int) (r c p q : Int) (bo : Option Addr) (m d : Nat) (zs : List Int) (hk : key.length = 32) (hkb : Bytes key) (hr : Word r) (hc : U32 c) (hp : U32 p) (hq : U32 q) (w : World) (hy : Seen w bo m zs) (hd : m ≤ d) (hO : pOpens key r c p q zs = false) :
    Calls Tryz.prog 13 #[.agg (u8s key).toArray, .agg (placeC r c p q).toArray, .slice bo m d] w fun e w' => e = .returned (.tuple #[.slice none 0 0, .int .i64 120]) ∧ Below w.heap.size w w' := by
  have hl := hy.len
  have t1 := hy.top
  by_cases h1 : 4124 < m
  · exact rpopen_long key r c p q bo m d t1 h1 w
  · by_cases h2 : m < 28
    · exact rpopen_short key r c p q bo m d t1 h2 w
    · have ht := tell_head (zs := zs) hy.bytes (by omega) hr hc
      by_cases h3 : zs.take 12 = hdL r c
      · refine rpopen_no key r c p q bo m d zs hk hkb hr hc hp hq (by omega) (by omega) w hy hd h3 ?_
        have h4 := ht.2 h3
        rw [pOpens, h4.1, h4.2, decide_eq_true (by omega), decide_eq_true (by omega)] at hO
        simpa using hO
      · exact rpopen_else key r c p q bo m d zs hk hkb hr hc hp hq (by omega) (by omega) w hy hd h3
theorem rpopen_good (key : List Int) (r c p q : Int) (bo : Option Addr) (m d : Nat) (zs : List Int) (hk : key.length = 32) (hkb : Bytes key) (hr : Word r) (hc : U32 c) (hp : U32 p) (hq : U32 q) (w : World) (hy : Seen w bo m zs) (hd : m ≤ d) (hO : pOpens key r c p q zs = true) :
    Calls Tryz.prog 13 #[.agg (u8s key).toArray, .agg (placeC r c p q).toArray, .slice bo m d] w fun e w' => ∃ v, e = .returned (.tuple #[v, .int .i64 0]) ∧ isO w.heap.size (m - 28) (pText key r c zs) v w' ∧ Below w.heap.size w w' := by
  obtain ⟨h1, h2, h3, h4⟩ := pOpens_len hO
  have hl := hy.len
  exact rpopen_yes key r c p q bo m d zs hk hkb hr hc hp hq (by omega) (by omega) w hy hd ((tell_head hy.bytes (by omega) hr hc).1 (by simpa using h3)) h4
end Go.Proofs.YtcimiajkbgabiaaGreat

namespace Go.Proofs.YtcimiajkbgabiaaGreat
open Go.RowKit
set_option linter.unusedVariables false
set_option linter.unusedSimpArgs false

theorem set_take (l : List Int) (k : Nat) (z : Int) (h : k < l.length) : (l.set k z).take (k + 1) = l.take k ++ [z] := by
  rw [List.take_succ_eq_append_getElem (by simpa using h)]
  simp [List.take_set_of_le]
theorem Lot.drew {w : World} {O n : Nat} {V : Nat → Option Addr} {len cap cap0 : Nat → Nat} {f : Nat → List Int} (h : Lot w O n V len cap cap0 f) : Lot w.drew O n V len cap cap0 f := h.later ((Below.refl _ _).drew) (Nat.le_refl _)

end Go.Proofs.YtcimiajkbgabiaaGreat

namespace Go.Proofs.YtcimiajkbgabiaaGreat
open Go.RowKit
set_option linter.unusedVariables false
set_option linter.unusedSimpArgs false

def mkR (j t : Nat) : Int := (31 * (j : Int) + 7 * (t : Int) + 1) % 256
theorem mark_any (j t : Nat) (hj : j ≤ 1048576) (ht : t ≤ 140737488355328) (w : World) : Calls Tryz.prog 26 #[.int .i64 j, .int .i64 t] w fun e w' => e = .returned (.int .u8 (mkR j t)) ∧ w = w' := by
  have e1 : (31 * (j : Int) + 7 * (t : Int) + 1) % 256 = mkR j t := rfl
  have e2 : ((j : Int) * 31 + (t : Int) * 7 + 1) % 256 = mkR j t := by rw [← e1]; congr 1; omega
  go_enter Tryz.func26, Tryz.ntmps26
  go_wp2
  go_ret
  exact ⟨by first | rfl | simp [e1, e2], rfl⟩
theorem mark_same (j t : Nat) (hj : j ≤ 1048576) (ht : t ≤ 140737488355328) : ∀ W, Calls Tryz.prog 26 #[.int .i64 j, .int .i64 t] W fun e w' => e = .returned (.int .u8 (mkR j t)) ∧ w' = W := fun W => (mark_any j t hj ht W).mono fun e w' h => ⟨h.1, h.2.symm⟩
/-- The list k, full of its marks; and grown m times. -/
def fulR (len : Nat → Nat) (j : Nat) : List Int := (List.range (len j)).map (mkR j)
def groR (len : Nat → Nat) (j m : Nat) : List Int := (List.range (len j + m)).map (mkR j)
theorem fulR_length (len : Nat → Nat) (j : Nat) : (fulR len j).length = len j := by simp [fulR]
theorem groR_length (len : Nat → Nat) (j m : Nat) : (groR len j m).length = len j + m := by simp [groR]
theorem groR_succ (len : Nat → Nat) (j m : Nat) : (groR len j (m + 1)).map (Value.int .u8) = (groR len j m).map (Value.int .u8) ++ [.int .u8 (mkR j (len j + m))] := by
  rw [groR, groR, ← Nat.add_assoc, List.range_succ, List.map_append, List.map_append]; rfl
theorem groR_zero (len : Nat → Nat) (j : Nat) : groR len j 0 = fulR len j := rfl
theorem groR_app (len : Nat → Nat) (j m : Nat) : groR len j m = fulR len j ++ (List.range m).map (fun t => mkR j (len j + t)) := by
  rw [groR, fulR, List.range_add, List.map_append, List.map_map]; rfl
theorem fulR_at (len : Nat → Nat) (j t : Nat) (ht : t < len j) : (fulR len j).getD t 0 = mkR j t := by simp [fulR, List.getD, ht]
theorem groR_at (len : Nat → Nat) (j m t : Nat) (ht : t < len j + m) : (groR len j m).getD t 0 = mkR j t := by simp [groR, List.getD, ht]
/-- The lists that were grown, i of them. -/
structure GrewR (base : Nat) (w : World) (gv : Value) (i : Nat) (V : Nat → Option Addr) (len : Nat → Nat) (hd : List Value) : Prop where
  outer : w.ownsRow base 28 1 gv i hd
  inner : ∀ j, j < i → ∃ g cap, hd[j]? = some (.slice (some ⟨g, 0, none⟩) (len j + 70) cap) ∧ RowAt w g (groR len j 70) ∧ (base ≤ g ∨ V j = some ⟨g, 0, none⟩)
theorem GrewR.step {base n : Nat} {w w1 w2 : World} {gv gv' : Value} {i : Nat} {V : Nat → Option Addr} {len : Nat → Nat} {hd : List Value} {g cap : Nat} (h : GrewR base w gv i V len hd)
    (hap : ∀ j j' g, j < n → j' < n → V j = some ⟨g, 0, none⟩ → V j' = some ⟨g, 0, none⟩ → j = j') (hin : i < n) (hlt : ∀ g, V i = some ⟨g, 0, none⟩ → g < base)
    (hK : Kept (fun b => V i = some ⟨b, 0, none⟩) w w1) (hr : RowAt w1 g (groR len i 70)) (hgb : base ≤ g ∨ V i = some ⟨g, 0, none⟩)
    (ho : w2.ownsRow base 28 1 gv' (i + 1) (hd ++ [.slice (some ⟨g, 0, none⟩) (len i + 70) cap])) (hg : (w1.alloc (.cells #[.slice (some ⟨g, 0, none⟩) (len i + 70) cap] 28)).grownBy w2 gv.ownBlock) (ho1 : w1.ownsRow base 28 1 gv i hd) :
    GrewR base w2 gv' (i + 1) V len (hd ++ [.slice (some ⟨g, 0, none⟩) (len i + 70) cap]) := by
  have hl : hd.length = i := by have := h.outer.1; omega
  have keep : ∀ g zs, RowAt w1 g zs → RowAt w2 g zs := fun g zs h => row_grown (h.alloc _) hg (row_ne h ho1)
  refine ⟨ho, fun j hj => ?_⟩
  by_cases hji : j < i
  · obtain ⟨g', cap', e', hr', hb'⟩ := h.inner j hji
    refine ⟨g', cap', by rw [List.getElem?_append_left (by omega)]; exact e', keep _ _ (hr'.kept hK ?_), hb'⟩
    intro e
    rcases hb' with hb' | hb'
    · have := hlt g' e; omega
    · have := hap j i g' (by omega) hin hb' e; omega
  · have e : j = i := by omega
    subst e
    exact ⟨g, cap, by rw [List.getElem?_append_right (by omega)]; simp [hl], keep _ _ hr, hgb⟩
set_option maxRecDepth 20000 in
set_option maxHeartbeats 8000000 in
theorem rapart_any (O n c : Nat) (V : Nat → Option Addr) (len cap cap0 : Nat → Nat) (f : Nat → List Int) (w : World) (hx : Lot w O n V len cap cap0 f) (hn : n ≤ 1048576) (hl : ∀ j, j < n → len j + 70 ≤ 140737488355328) :
    Calls Tryz.prog 11 #[.slice (some ⟨O, 0, none⟩) n c] w fun e w' => e = .returned (.bool true) ∧ Kept (LotS n V) w w' := by
  have HX : Hid (Lot w O n V len cap cap0 f) := hx
  clear hx
  go_enter Tryz.func11, Tryz.ntmps11
  go_wp2
  go_loopw [3, 4] (fun i _ wr => ∃ (k : Nat) (f' : Nat → List Int), k ≤ n ∧ i = .int .i64 k ∧ Lot wr O n V len cap cap0 f' ∧ (∀ j, j < k → f' j = fulR len j) ∧ Kept (LotS n V) w wr) (fun i _ _ => n - (intOf i).toNat)
  case atStart => exact ⟨0, f, Nat.zero_le _, rfl, HX.out, fun j h => by omega, Kept.refl _ _⟩
  case round =>
    clear HX
    obtain ⟨i, f', hi, rfl, hlot, hfu, hkept⟩ := hrel
    by_cases hlt : i < n
    · have c1 := hlot.heads i hlt
      have tL := hl i hlt
      have a1 : (0 : Int) ≤ (i : Int) := by omega
      have a2 : (i : Int) < (n : Int) := by omega
      have HH : Hid (Lot _ O n V len cap cap0 f' ∧ (∀ j, j < i → f' j = fulR len j) ∧ Kept (LotS n V) w _) := ⟨hlot, hfu, hkept⟩
      clear hkept hlot hfu
      go_wp2
      go_loopw [4] (fun t wr => ∃ (k : Nat) (f2 : Nat → List Int), k ≤ len i ∧ t = .int .i64 k ∧ Lot wr O n V len cap cap0 f2 ∧ (∀ j, j < i → f2 j = fulR len j) ∧ (f2 i).take k = (List.range k).map (mkR i) ∧ Kept (LotS n V) w wr) (fun t _ => len i - (intOf t).toNat)
      case atStart => exact ⟨0, f', Nat.zero_le _, rfl, HH.out.1, HH.out.2.1, by simp, HH.out.2.2⟩
      case round =>
        clear HH c1
        obtain ⟨k, f2, hk, rfl, hlot, hfu, htk, hkept⟩ := hrel
        have c1 := hlot.heads i hlt
        have hfl : (f2 i).length = len i := by have := (hlot.own i hlt).1; simpa using this
        by_cases hlk : k < len i
        · obtain ⟨g, eg, hglt⟩ := hlot.at hlt (by have := hlot.capLe hlt; omega)
          have ho := hlot.own i hlt
          rw [eg] at ho c1
          obtain ⟨hgc, hgf⟩ := own_at ho k hlk
          have R0 := (hlot.set hlt hlk eg (mkR i k)).drew
          obtain ⟨f3, hf3⟩ : ∃ f3 : Nat → List Int, (fun j' => if j' = i then (f2 i).set k (mkR i k) else f2 j') = f3 := ⟨_, rfl⟩
          rw [hf3] at R0
          have R1 : Hid _ := R0
          have R2 : Hid _ := (hkept.setCell (p := ⟨g, k, none⟩) (by exact ⟨i, hlt, eg⟩) (.int .u8 (mkR i k))).drew
          have R3 : Hid ((∀ j, j < i → f3 j = fulR len j) ∧ (f3 i).take (k + 1) = (List.range (k + 1)).map (mkR i)) := by
            rw [← hf3]
            refine ⟨fun j hj => ?_, ?_⟩
            · show (if j = i then _ else f2 j) = _
              rw [if_neg (by omega)]; exact hfu j hj
            · show (if i = i then _ else f2 i).take (k + 1) = _
              rw [if_pos rfl, set_take _ _ _ (by omega), htk, List.range_succ, List.map_append]; rfl
          clear hf3 R0
          have a3 : (0 : Int) ≤ (k : Int) := by omega
          have a4 : (k : Int) < (len i : Int) := by omega
          have hmk := mark_any i k (by omega) (by omega)
          clear hlot hkept eg ho hfu htk hfl
          go_wp2
          go_region_with (go_at_call 26; refine (hmk _).mono ?_; rintro e w' ⟨rfl, rfl⟩)
          all_goals
            go_wp2
            go_roundw
            case rel => exact ⟨k + 1, _, by omega, by go_num, R1.out, R3.out.1, R3.out.2, R2.out⟩
            case measure => simp [intOf]; omega
        · have e : k = len i := by omega
          subst e
          have R3 : Hid (∀ j, j < i + 1 → f2 j = fulR len j) := fun j hj => by
            by_cases h : j < i
            · exact hfu j h
            · obtain rfl : j = i := by omega
              rw [List.take_of_length_le (by omega)] at htk
              exact htk
          have R1 : Hid _ := hlot
          have R2 : Hid _ := hkept
          clear hlot hkept htk hfu hfl
          go_wp2
          go_roundw
          case rel => exact ⟨i + 1, f2, by omega, by go_num, R1.out, R3.out, R2.out⟩
          case measure => simp [intOf]; omega
    · have e : i = n := by omega
      subst e
      have hl1 := hlot.congr hfu
      obtain ⟨w1, hw1⟩ : ∃ x, x = wr := ⟨_, rfl⟩
      subst hw1
      have HK1 : Hid _ := hkept
      clear hlot hkept hfu
      obtain ⟨iB, hiB, hB0, hB1, hB2⟩ := info_parts info_byte
      obtain ⟨iL, hiL, hL0, hL1, hL2⟩ := info_parts info_bytes
      have HG1 : Hid (∀ j g, j < i → V j = some ⟨g, 0, none⟩ → g < w1.heap.size) := fun j g hj hg => by
        have h1 := hl1.own j hj
        rw [hg] at h1
        exact (h1.lt g rfl).2
      have HAP : Hid (∀ j j' g, j < i → j' < i → V j = some ⟨g, 0, none⟩ → V j' = some ⟨g, 0, none⟩ → j = j') := hl1.apart
      have HL1 : Hid _ := hl1
      have HO1 : Hid (O < w1.heap.size) := hl1.olt
      have z1 := HK1.out.size
      clear hl1
      go_wp2
      go_loopw [5, 6, 7, 8] (fun gv a _ _ wr => ∃ (k : Nat) (hd : List Value), k ≤ i ∧ a = .int .i64 k ∧ GrewR w1.heap.size wr gv k V len hd ∧ Lot wr O i V len cap cap0 (fulR len) ∧ Kept (LotS i V) w wr ∧ w1.heap.size ≤ wr.heap.size) (fun _ a _ _ _ => i - (intOf a).toNat)
      case atStart => exact ⟨0, [], Nat.zero_le _, rfl, ⟨World.ownsRow_nil _ _ _ _, fun j h => by omega⟩, HL1.out, HK1.out, Nat.le_refl _⟩
      case round =>
        clear HL1 HK1
        obtain ⟨k, hd, hk, rfl, hgr, hlr, hkr, hsr⟩ := hrel
        by_cases hlt : k < i
        · have c1 := hlr.heads k hlt
          have tL := hl k hlt
          have a1 : (0 : Int) ≤ (k : Int) := by omega
          have a2 : (k : Int) < (i : Int) := by omega
          obtain ⟨w2, hw2⟩ : ∃ x, x = wr := ⟨_, rfl⟩
          subst hw2
          have hok := hlr.own k hlt
          have HOK : Hid (w2.ownsRow 0 5 1 (.slice (V k) (len k) (cap0 k)) (len k) ((fulR len k).map (Value.int .u8))) := hok
          have HGR : Hid _ := hgr
          have HLR : Hid _ := hlr
          have HKR : Hid _ := hkr
          clear hgr hlr hkr hok
          go_wp2
          go_loopw [7, 8] (fun v t wr => ∃ m : Nat, m ≤ 70 ∧ t = .int .i64 m ∧ Kept (fun b => V k = some ⟨b, 0, none⟩) w2 wr ∧ wr.ownsRow 0 5 1 (.slice (V k) (len k) (cap0 k)) (len k) ((fulR len k).map (Value.int .u8)) ∧
            ((v = .slice (V k) (len k + m) (cap k) ∧ wr.ownsRow 0 5 1 (.slice (V k) (len k + m) (cap0 k)) (len k + m) ((groR len k m).map (Value.int .u8))) ∨ (0 < m ∧ wr.ownsRow w2.heap.size 5 1 v (len k + m) ((groR len k m).map (Value.int .u8))))) (fun _ t _ => 70 - (intOf t).toNat)
          case atStart => exact ⟨0, Nat.zero_le _, rfl, Kept.refl _ _, HOK.out, .inl ⟨rfl, by rw [groR_zero]; exact HOK.out⟩⟩
          case round =>
            clear c1 HOK
            obtain ⟨m, hm, rfl, hkw, hokw, hown⟩ := hrel
            have c1 : wr.cell? ⟨O, k, none⟩ = some (.slice (V k) (len k) (cap k)) := (hkw.cell (p := ⟨O, k, none⟩) HLR.out.olt (fun e => HLR.out.off k O hlt e rfl)).trans (HLR.out.heads k hlt)
            have hsw := hkw.size
            have HKW : Hid _ := hkw
            have HOKW : Hid (wr.ownsRow 0 5 1 (.slice (V k) (len k) (cap0 k)) (len k) ((fulR len k).map (Value.int .u8))) := hokw
            clear hkw hokw
            by_cases hmt : m < 70
            · have HGS : Hid _ := groR_succ len k m
              have hgn : ∀ W, Calls Tryz.prog 26 #[.int .i64 (k : Int), .int .i64 ((len k : Int) + (m : Int))] W fun e w' => e = .returned (.int .u8 (mkR k (len k + m))) ∧ W = w' := fun W => by have q := mark_any k (len k + m) (by omega) (by omega) W; rwa [show ((len k + m : Nat) : Int) = (len k : Int) + (m : Int) by omega] at q
              obtain ⟨MK, hMK⟩ : ∃ z, mkR k (len k + m) = z := ⟨_, rfl⟩
              rw [hMK] at hgn HGS
              clear hMK
              rcases hown with ⟨hv, hA⟩ | ⟨hm0, hB⟩
              · by_cases hroom : len k + m + 1 ≤ cap k
                · have hcc : cap0 k = cap k := by
                    rcases HLR.out.caps k hlt with h | h
                    · exact h.symm
                    · omega
                  obtain ⟨g, eg, _⟩ := HLR.out.at hlt (by omega)
                  rw [eg] at hv hA
                  rw [hcc] at hA
                  have HCC : Hid (cap0 k = cap k) := hcc
                  clear hcc
                  subst hv
                  have R4 : Hid (V k = some ⟨g, 0, none⟩) := eg
                  clear eg
                  go_wp2_with fail
                  refine (hgn _).mono ?_
                  rintro e w' ⟨rfl, rfl⟩
                  go_wp2_with (at_builtin; refine wpList_append_fits _ rfl _ _ 28 rfl 0 5 iB 1 Tryz.underlying28 hiB hB1 g (len k + m) (cap k) _ rfl (hA.alloc _) ⟨wr.heap.size, 0, none⟩ 1 1 [.int .u8 MK] rfl rfl (cell_one_new _ _ _) (one_int _) ?b1 ?_)
                  case b1 => omega
                  · intro w3 hown' hgrow
                    have R1 : w3.ownsRow 0 5 1 (.slice (some ⟨g, 0, none⟩) (len k + (m + 1)) (cap k)) (len k + (m + 1)) ((groR len k (m + 1)).map (Value.int .u8)) := by rw [HGS.out]; exact hown'
                    have R2 : Kept (fun b => V k = some ⟨b, 0, none⟩) w2 w3 := (HKW.out.alloc _).grown hgrow (fun b hb _ => by cases hb; exact R4.out)
                    have R3 : w3.ownsRow 0 5 1 (.slice (V k) (len k) (cap0 k)) (len k) ((fulR len k).map (Value.int .u8)) := by
                      rw [R4.out, HCC.out]
                      refine own_prefix (m := m + 1) (ys := ((List.range (m + 1)).map (fun t => mkR k (len k + t))).map (Value.int .u8)) (by simp [fulR_length]) ?_
                      rw [← List.map_append, ← groR_app]; exact R1
                    clear hown' hgrow hA
                    go_wp2
                    go_roundw
                    case rel => exact ⟨m + 1, by omega, by go_num, R2, R3, .inl ⟨by rw [R4.out]; rfl, by rw [R4.out, HCC.out]; exact R1⟩⟩
                    case measure => simp [intOf]; omega
                · subst hv
                  obtain ⟨hno, hlo, hol⟩ := own_olds (hA.alloc (.cells #[.int .u8 MK] 5))
                  have HNO : Hid (V k = none → len k + m = 0 ∧ cap k = 0) := fun h => ⟨(hno h).1, by have := hno h; rcases HLR.out.caps k hlt with h1 | h1 <;> omega⟩
                  have HLO : Hid _ := hlo
                  have HOL : Hid _ := hol
                  have HRO : Hid (¬ len k + m + 1 ≤ cap k) := hroom
                  clear hno hlo hol hA hroom
                  go_wp2_with fail
                  refine (hgn _).mono ?_
                  rintro e w' ⟨rfl, rfl⟩
                  go_wp2_with (at_builtin; refine wpList_append_grows _ rfl _ _ 28 rfl 5 iB (.int .u8 0) 1 1 Tryz.underlying28 hiB hB0 hB1 hB2 rfl (by decide) (V k) (len k + m) (cap k) ((groR len k m).map (Value.int .u8)) rfl HNO.out HLO.out HOL.out ⟨wr.heap.size, 0, none⟩ 1 1 [.int .u8 MK] rfl rfl (cell_one_new _ _ _) (one_int _) ?b0 ?b1 ?b2 ?_)
                  case b0 => have := HRO.out; omega
                  case b1 => unfold maxLen; omega
                  case b2 => omega
                  · intro v' w3 hown' hgrow
                    have R1 : w3.ownsRow w2.heap.size 5 1 v' (len k + (m + 1)) ((groR len k (m + 1)).map (Value.int .u8)) := by
                      rw [HGS.out]
                      exact ownsRow_base hown' (by first | omega | (simp; omega))
                    have R2 : Kept (fun b => V k = some ⟨b, 0, none⟩) w2 w3 := (HKW.out.alloc _).grown hgrow (fun b hb _ => by cases hb)
                    have R3 : w3.ownsRow 0 5 1 (.slice (V k) (len k) (cap0 k)) (len k) ((fulR len k).map (Value.int .u8)) :=
                      own_block (HOKW.out.alloc (.cells #[.int .u8 MK] 5)) fun b hb => hgrow.block b ((HOKW.out.alloc (.cells #[.int .u8 MK] 5)).lt b hb).2 (fun e => by cases e)
                    clear hown' hgrow
                    go_wp2
                    go_roundw
                    case rel => exact ⟨m + 1, by omega, by go_num, R2, R3, .inr ⟨by omega, R1⟩⟩
                    case measure => simp [intOf]; omega
              · go_wp2_with fail
                refine (hgn _).mono ?_
                rintro e w' ⟨rfl, rfl⟩
                go_wp2_with (at_builtin; refine wpList_append_own _ rfl _ _ 28 rfl w2.heap.size 5 iB (.int .u8 0) 1 1 Tryz.underlying28 hiB hB0 hB1 hB2 rfl (by decide) _ _ _ rfl (hB.alloc _) ⟨wr.heap.size, 0, none⟩ 1 1 [.int .u8 MK] rfl rfl (cell_one_new _ _ _) (one_int _) ?d1 ?d2 ?d3 ?_)
                case d1 => unfold maxLen; omega
                case d2 => omega
                case d3 => first | omega | (simp; omega)
                · intro v' w3 hown' hgrow _
                  have R1 : w3.ownsRow w2.heap.size 5 1 v' (len k + (m + 1)) ((groR len k (m + 1)).map (Value.int .u8)) := by rw [HGS.out]; exact hown'
                  have R2 : Kept (fun b => V k = some ⟨b, 0, none⟩) w2 w3 := (HKW.out.alloc _).grown hgrow (fun b hb hlt => by have := (hB.lt b hb).1; omega)
                  have R3 : w3.ownsRow 0 5 1 (.slice (V k) (len k) (cap0 k)) (len k) ((fulR len k).map (Value.int .u8)) :=
                    own_block (HOKW.out.alloc (.cells #[.int .u8 MK] 5)) fun b hb => hgrow.block b ((HOKW.out.alloc (.cells #[.int .u8 MK] 5)).lt b hb).2 (fun e => by
                      have h1 := (hB.lt b e.symm).1
                      have h2 := HG1.out k b hlt (own_addr HOKW.out hb)
                      omega)
                  clear hown' hgrow hB
                  go_wp2
                  go_roundw
                  case rel => exact ⟨m + 1, by omega, by go_num, R2, R3, .inr ⟨by omega, R1⟩⟩
                  case measure => simp [intOf]; omega
            · have e : m = 70 := by omega
              subst e
              clear c1
              obtain ⟨g, cap', rfl, hrow, hgb⟩ : ∃ g cap', u7 = .slice (some ⟨g, 0, none⟩) (len k + 70) cap' ∧ RowAt wr g (groR len k 70) ∧ (w1.heap.size ≤ g ∨ V k = some ⟨g, 0, none⟩) := by
                rcases hown with ⟨hv, hA⟩ | ⟨_, hB⟩
                · rcases own_len (groR_length len k 70) hA with ⟨_, h0⟩ | ⟨g, cap', e, hr, _⟩
                  · omega
                  · simp only [Value.slice.injEq] at e
                    exact ⟨g, cap k, by rw [hv, e.1], hr, .inr e.1⟩
                · rcases own_len (groR_length len k 70) hB with ⟨_, h0⟩ | ⟨g, cap', e, hr, hg, _⟩
                  · omega
                  · exact ⟨g, cap', e, hr, .inl (by omega)⟩
              have ho : wr.ownsRow w1.heap.size 28 1 u5 k hd := own_kept HGR.out.outer HKW.out (fun b hb e => by
                have h1 := (HGR.out.outer.lt b hb).1
                have h2 := HG1.out k b hlt e
                omega)
              have HRW : Hid (RowAt wr g (groR len k 70) ∧ (w1.heap.size ≤ g ∨ V k = some ⟨g, 0, none⟩)) := ⟨hrow, hgb⟩
              clear hown hrow hgb
              go_wp2_with (at_builtin; refine wpList_append_own _ rfl _ _ 37 rfl w1.heap.size 28 iL (.slice none 0 0) 1 24 Tryz.underlying37 hiL hL0 hL1 hL2 rfl (by decide) _ _ _ rfl (ho.alloc _) ⟨wr.heap.size, 0, none⟩ 1 1 [.slice (some ⟨g, 0, none⟩) (len k + 70) cap'] rfl rfl (cell_one_new _ _ _) (one_header _ _ _) ?f1 ?f2 ?f3 ?_)
              case f1 => unfold maxLen; omega
              case f2 => omega
              case f3 => first | omega | (simp; omega)
              · intro v' w3 hown' hgrow _
                have R1 := HGR.out.step HAP.out hlt (fun g hg => HG1.out k g hlt hg) HKW.out HRW.out.1 HRW.out.2 hown' hgrow ho
                have R2 : Lot w3 O i V len cap cap0 (fulR len) := (HLR.out.kept hlt HKW.out HOKW.out).below (B := w1.heap.size) (((Below.refl _ _).alloc (by omega) _).grown hgrow (by simp; omega) (fun j hj => (ho.lt j hj).1)) HO1.out HG1.out
                have R3 : Kept (LotS i V) w w3 := ((HKR.out.trans (HKW.out.mono (fun b hb => ⟨k, hlt, hb⟩))).alloc _).grown hgrow (fun b hb hlt => by have := (ho.lt b hb).1; omega)
                have R4 : w1.heap.size ≤ w3.heap.size := by have := hgrow.size; simp at this; omega
                clear hown' hgrow ho
                go_wp2
                go_roundw
                case rel => exact ⟨k + 1, _, by omega, by go_num, R1, R2, R3, R4⟩
                case measure => simp [intOf]; omega
        · have e : k = i := by omega
          subst e
          obtain ⟨w3, hw3⟩ : ∃ x, x = wr := ⟨_, rfl⟩
          subst hw3
          have HKK : Hid (Kept (LotS k V) w w3) := hkr
          have heads2 : ∀ j, j < k → ∃ GO cg g cap', u5 = .slice (some ⟨GO, 0, none⟩) k cg ∧ w3.cell? ⟨GO, j, none⟩ = some (.slice (some ⟨g, 0, none⟩) (len j + 70) cap') ∧ (∀ t, t < len j + 70 → w3.cell? ⟨g, t, none⟩ = some (.int .u8 (mkR j t))) := by
            intro j hj
            obtain ⟨g, cap', e, hr, _⟩ := hgr.inner j hj
            rcases hgr.outer.2 with ⟨_, h0⟩ | ⟨GO, cg, cur, hv, r⟩
            · omega
            · have ho := hgr.outer
              rw [hv] at ho
              refine ⟨GO, cg, g, cap', hv, by rw [ho.cellAt j (by omega)]; exact e, fun t ht => ?_⟩
              rw [hr.cell t (by rw [groR_length]; omega), groR_at len j 70 t ht]
          have HH2 : Hid _ := heads2
          have HLR : Hid _ := hlr
          clear hgr hlr hkr heads2
          go_wp2
          go_loopw [9, 10] (fun a _ wr => ∃ j : Nat, j ≤ k ∧ a = .int .i64 j ∧ ∃ q, wr = w3.drewN q) (fun a _ _ => k - (intOf a).toNat)
          case atStart => exact ⟨0, Nat.zero_le _, rfl, 0, rfl⟩
          case round =>
            obtain ⟨j, hj, rfl, q, rfl⟩ := hrel
            by_cases hlt : j < k
            · have c1 := HLR.out.heads j hlt
              have tL := hl j hlt
              have a1 : (0 : Int) ≤ (j : Int) := by omega
              have a2 : (j : Int) < (k : Int) := by omega
              obtain ⟨GO, cg, g, cap', rfl, hgc, hg1⟩ := HH2.out j hlt
              have HG : Hid _ := hg1
              clear hg1
              go_wp2
              go_loopw [10] (fun a wr => ∃ t : Nat, t ≤ len j + 70 ∧ a = .int .i64 t ∧ ∃ q, wr = w3.drewN q) (fun a _ => len j + 70 - (intOf a).toNat)
              case atStart => exact ⟨0, Nat.zero_le _, rfl, _, rfl⟩
              case round =>
                obtain ⟨t, ht, rfl, q2, hwr⟩ := hrel
                have HW : Hid (wr = w3.drewN q2) := hwr
                have c1' : wr.cell? ⟨O, j, none⟩ = some (.slice (V j) (len j) (cap j)) := by rw [hwr]; exact c1
                have hgc' : wr.cell? ⟨GO, j, none⟩ = some (.slice (some ⟨g, 0, none⟩) (len j + 70) cap') := by rw [hwr]; exact hgc
                by_cases hltt : t < len j
                · obtain ⟨g0, eg, _⟩ := HLR.out.at hlt (by have := HLR.out.capLe hlt; omega)
                  have ho := HLR.out.own j hlt
                  rw [eg] at ho c1'
                  have c2 : wr.cell? ⟨g0, t, none⟩ = some (.int .u8 (mkR j t)) := by rw [hwr]; exact (own_at ho t hltt).1.trans (by rw [fulR_at len j t hltt])
                  have c3 : wr.cell? ⟨g, t, none⟩ = some (.int .u8 (mkR j t)) := by rw [hwr]; exact HG.out t (by omega)
                  have hmk := mark_same j t (by omega) (by omega)
                  obtain ⟨MK, hMK⟩ : ∃ z, mkR j t = z := ⟨_, rfl⟩
                  rw [hMK] at hmk c2 c3
                  have a3 : (0 : Int) ≤ (t : Int) := by omega
                  have a4 : (t : Int) < (len j : Int) := by omega
                  have a5 : (t : Int) < (len j : Int) + 70 := by omega
                  clear eg ho hwr c1 hgc hMK
                  go_wp2
                  go_quiet (first | (go_at_call 26; exact Calls.quiet_of_same (hmk _)))
                  go_wp2
                  go_roundw
                  case rel => exact ⟨t + 1, by omega, by go_num, _, by rw [HW.out, World.drewN_drewN]⟩
                  case measure => simp [intOf]; omega
                · by_cases hlt3 : t < len j + 70
                  · have c3 : wr.cell? ⟨g, t, none⟩ = some (.int .u8 (mkR j t)) := by rw [hwr]; exact HG.out t hlt3
                    have hmk := mark_same j t (by omega) (by omega)
                    obtain ⟨MK, hMK⟩ : ∃ z, mkR j t = z := ⟨_, rfl⟩
                    rw [hMK] at hmk c3
                    have a3 : (0 : Int) ≤ (t : Int) := by omega
                    have a5 : (t : Int) < (len j : Int) + 70 := by omega
                    have a6 : ¬ (t : Int) < (len j : Int) := by omega
                    have d1 : decide ((t : Int) < (len j : Int)) = false := by simp; omega
                    have d2 : decide (t < len j) = false := by simp; omega
                    clear hwr c1 hgc hMK
                    go_wp2
                    go_quiet (first | (go_at_call 26; exact Calls.quiet_of_same (hmk _)))
                    go_wp2
                    go_roundw
                    case rel => exact ⟨t + 1, by omega, by go_num, _, by rw [HW.out, World.drewN_drewN]⟩
                    case measure => simp [intOf]; omega
                  · have hlt4 : ¬ (t : Int) < (len j : Int) + 70 := by omega
                    clear hlt3 hltt hwr c1 hgc
                    go_wp2
                    go_roundw
                    case rel => exact ⟨j + 1, by omega, by go_num, _, HW.out⟩
                    case measure => simp [intOf]; omega
            · have HF : Hid (Kept (LotS k V) w (w3.drewN q)) := HKK.out.trans ⟨rfl, rfl, rfl, Nat.le_refl _, fun _ _ _ => rfl⟩
              go_wp2
              go_ret
              exact ⟨rfl, HF.out⟩
end Go.Proofs.YtcimiajkbgabiaaGreat

namespace Go.Proofs.YtcimiajkbgabiaaGreat
open Go.RowKit
set_option linter.unusedVariables false
set_option linter.unusedSimpArgs false

/-- A row that was handed out, in blocks from lo on, below hi. -/
structure Out (W : World) (lo hi : Nat) (vo : Option Addr) (n cap : Nat) (L : List Int) : Prop where
  own : W.ownsRow 0 5 1 (.slice vo n cap) n (L.map (Value.int .u8))
  seen : Seen W vo n L
  place : ∀ b o, vo = some ⟨b, o, none⟩ → lo ≤ b ∧ b < hi
  nil : vo = none → cap = 0
theorem out_of {W W' : World} {v : Value} {n : Nat} {L : List Int} (hl : L.length = n) (hb : Bytes L) (ht : n ≤ 140737488355328) (h : W'.ownsRow W.heap.size 5 1 v n (L.map (Value.int .u8))) : ∃ vo cap, v = .slice vo n cap ∧ Out W' W.heap.size W'.heap.size vo n cap L := by
  rcases own_len hl h with ⟨rfl, rfl⟩ | ⟨g, cap, rfl, r1, g1, c1, m1⟩
  · exact ⟨none, 0, rfl, ownsRow_base h (Nat.zero_le _), by rw [List.length_eq_zero_iff.1 hl]; exact Seen.empty _ _, fun b o e => (by cases e), fun _ => rfl⟩
  · have s := Seen.of_row (n := n) r1 (by omega) ht hb
    rw [List.take_of_length_le (by omega)] at s
    exact ⟨_, cap, rfl, ownsRow_base h (Nat.zero_le _), s, fun b o e => (by cases e; exact ⟨g1, r1.lt⟩), fun e => (by cases e)⟩
theorem Out.kept {W W' : World} {lo hi n cap : Nat} {vo : Option Addr} {L : List Int} {S : Nat → Prop} (h : Out W lo hi vo n cap L) (hk : Kept S W W') (hS : ∀ y, lo ≤ y → y < hi → ¬ S y) : Out W' lo hi vo n cap L :=
  ⟨own_kept h.own hk (fun k e => by have := own_addr h.own e; have p := h.place k 0 this; exact hS k p.1 p.2), h.seen.kept hk (fun b o _ e => hS b (h.place b o e).1 (h.place b o e).2), h.place, h.nil⟩
theorem Out.later {W W' : World} {lo hi n cap : Nat} {vo : Option Addr} {L : List Int} (h : Out W lo hi vo n cap L) (l : Below W.heap.size W W') : Out W' lo hi vo n cap L := h.kept (Kept.new (fun _ => False) l) (fun _ _ _ => id)
theorem obs2 (s1 s2 : Option Addr) (n1 n2 c1 c2 : Nat) (w : World) : (Instr.buildSlice 37 2 #[(0, .slice s1 n1 c1), (1, .slice s2 n2 c2)]).run Tryz.prog w = .ok (.slice (some ⟨w.heap.size, 0, none⟩) 2 2) (w.alloc (.cells #[.slice s1 n1 c1, .slice s2 n2 c2] 28)) := by kernel_rfl
theorem wpList_bs {ops : Array Oper} {rest : List Oper} {o : Oper} {a : Act} {Q : Exit → Act → World → Prop} {w : World} (hgd : o.guard = none) (t : TypeId) (m : Nat) (parts : Array (Nat × Operand)) (ho : o.op = .buildSlice t m parts) (ps : Array (Nat × Value))
    (hp : (parts.map fun (i, x) => (i, a.eval x)) = ps) (v : Value) (w' : World) (hrun : (Instr.buildSlice t m ps).run Tryz.prog w = .ok v w') (h : wpList Tryz.prog ops Q rest (a.put o.dst v) w') : wpList Tryz.prog ops Q (o :: rest) a w := by
  refine wpList_plain hgd fun K hK => ?_
  unfold Oper.wp execOp
  simp only [ho, hp, Sem.run_bind, hrun, Sem.run_pure, Result.andThen_ok]
  exact hK _ _ h
theorem cell_two (w : World) (x y : Value) (t : TypeId) (j : Nat) (hj : j < 2) : (w.alloc (.cells #[x, y] t)).cell? ⟨w.heap.size, j, none⟩ = some ([x, y].getD j undef) := by
  have h : (w.alloc (.cells #[x, y] t)).heap[w.heap.size]? = some (.cells [x, y].toArray t (0, 0)) := heap_alloc_new w _
  rw [cell_of_row _ _ j _ t (0, 0) h]
  rcases (by omega : j = 0 ∨ j = 1) with rfl | rfl <;> rfl
/-- The two rows, as a lot. -/
theorem lot2 {W : World} {o1 o2 : Option Addr} {n c1 c2 a b e : Nat} {L1 L2 : List Int} (h1 : Out W a b o1 n c1 L1) (h2 : Out W b e o2 n c2 L2) (hab : a ≤ b) (hde : b ≤ e) (he : e ≤ W.heap.size) :
    Lot (W.alloc (.cells #[.slice o1 n c1, .slice o2 n c2] 28)) W.heap.size 2 (fun j => [o1, o2].getD j none) (fun j => [n, n].getD j 0) (fun j => [c1, c2].getD j 0) (fun j => [c1, c2].getD j 0) (fun j => [L1, L2].getD j []) ∧
    ∀ y, LotS 2 (fun j => [o1, o2].getD j none) y → a ≤ y ∧ y < e := by
  have l := (Below.refl W.heap.size W).alloc (Nat.le_refl _) (.cells #[.slice o1 n c1, .slice o2 n c2] 28)
  have hp : ∀ j g, j < 2 → [o1, o2].getD j none = some ⟨g, 0, none⟩ → [a, b].getD j 0 ≤ g ∧ g < [b, e].getD j 0 := by
    intro j g hj e1
    rcases (by omega : j = 0 ∨ j = 1) with rfl | rfl
    · exact h1.place g 0 e1
    · exact h2.place g 0 e1
  have hr : ∀ j g, j < 2 → [o1, o2].getD j none = some ⟨g, 0, none⟩ → a ≤ g ∧ g < e := by
    intro j g hj e1
    have := hp j g hj e1
    rcases (by omega : j = 0 ∨ j = 1) with rfl | rfl <;> simp at this <;> omega
  refine ⟨⟨World.block_lt_of_cell? _ _ (cell_two W _ _ _ 0 (by decide)), fun j hj => ?_, fun j hj => ?_, fun j hj => .inl rfl, fun j j' g hj hj' e1 e2 => ?_, fun j g hj e1 => ?_⟩, fun y ⟨j, hj, e1⟩ => hr j y hj e1⟩
  · rw [cell_two _ _ _ _ j hj]
    rcases (by omega : j = 0 ∨ j = 1) with rfl | rfl <;> rfl
  · rcases (by omega : j = 0 ∨ j = 1) with rfl | rfl
    · exact (h1.later l).own
    · exact (h2.later l).own
  · have p1 := hp j g hj e1
    have p2 := hp j' g hj' e2
    rcases (by omega : j = 0 ∨ j = 1) with rfl | rfl <;> rcases (by omega : j' = 0 ∨ j' = 1) with rfl | rfl <;> first | rfl | (simp at p1 p2; omega)
  · have := hr j g hj e1
    omega
/-- What stands: what was lent, and nothing old was touched. -/
structure On (w1 W : World) (g : Nat) (xs : List Int) : Prop where
  row : RowAt W g (xs ++ marks)
  bel : Below w1.heap.size w1 W
theorem On.later {w1 W W' : World} {g : Nat} {xs : List Int} (h : On w1 W g xs) (l : Below W.heap.size W W') : On w1 W' g xs := ⟨h.row.kept (Kept.new (fun _ => False) l) id, below_chain h.bel l h.bel.size⟩
theorem On.kept {S : Nat → Prop} {w1 W W' : World} {g : Nat} {xs : List Int} (h : On w1 W g xs) (hk : Kept S W W') (hS : ∀ y, S y → w1.heap.size ≤ y ∧ y ≠ g) : On w1 W' g xs :=
  ⟨h.row.kept hk (fun s => (hS g s).2 rfl), below_kept h.bel hk h.bel.size (fun j hj s => by have := (hS j s).1; omega)⟩
theorem On.dn {w1 W : World} {g : Nat} {xs : List Int} (h : On w1 W g xs) (q : Nat) : On w1 (W.drewN q) g xs := h.later (below_dn (Below.refl _ _) q)
theorem Out.dn {W : World} {lo hi n cap : Nat} {vo : Option Addr} {L : List Int} (h : Out W lo hi vo n cap L) (q : Nat) : Out (W.drewN q) lo hi vo n cap L := h.later (below_dn (Below.refl _ _) q)
theorem size_dn (W : World) (q : Nat) : W.heap.size ≤ (W.drewN q).heap.size := (below_dn (Below.refl W.heap.size W) q).size
end Go.Proofs.YtcimiajkbgabiaaGreat

namespace Go.Proofs.YtcimiajkbgabiaaGreat
open Go.RowKit
set_option linter.unusedVariables false
set_option linter.unusedSimpArgs false

theorem spared_big {w : World} {g : Nat} {zs : List Int} (h : Blk w g 5 (u8s (spared zs))) (hb : Bytes zs) (ht : zs.length ≤ 140737488351232) : Seen w (some ⟨g, 0, none⟩) zs.length zs :=
  ⟨rfl, by omega, hb, fun _ => ⟨g, 0, rfl, h.lt, fun i hi => by rw [Nat.zero_add, u8s_cell h i (by rw [spared_length]; omega), spared_front zs i hi]⟩⟩
set_option maxHeartbeats 1000000 in
set_option maxRecDepth 20000 in
theorem spare_big (ao : Option Addr) (n c : Nat) (zs : List Int) (w : World) (hx : Seen w ao n zs) (hn : n ≤ 140737488351232) :
    Calls Tryz.prog 6 #[.slice ao n c] w fun e w' => e = .returned (.slice (some ⟨w.heap.size, 0, none⟩) n (n + 80)) ∧ Blk w' w.heap.size 5 (u8s (spared zs)) ∧ w'.heap.size = w.heap.size + 1 ∧ Below w.heap.size w w' := by
  have HL : Hid (zs.length = n) := hx.len
  have HX : Hid (Seen w ao n zs) := hx
  obtain ⟨i0, hi, hz0, hz1, hz2⟩ := info_parts info_byte
  have hmk := run_make (P := Tryz.prog) w 28 5 i0 (.int .u8 0) Tryz.underlying28 hi hz0 .i64 .i64 ((n : Int) + 80) ((n : Int) + 80) (by omega) (Int.le_refl _) (by rw [hz2]; omega) (by omega)
  rw [hz1, show (((n : Int) + 80).toNat) = n + 80 by omega, Nat.mul_one, show (Value.int .u8 0).cells = #[.int .u8 0] from rfl, made_zero] at hmk
  obtain ⟨w1, hw1, HB⟩ : ∃ w1, w.alloc (.cells (u8s (List.replicate (n + 80) 0)).toArray 5) = w1 ∧ Hid (Blk w1 w.heap.size 5 (u8s (List.replicate (n + 80) 0)) ∧ Below w.heap.size w w1 ∧ w1.heap.size = w.heap.size + 1) := ⟨_, rfl, ⟨heap_alloc_new w _, (Below.refl _ _).alloc (Nat.le_refl _) _, by simp⟩⟩
  rw [hw1] at hmk
  clear hw1 hx hi hz0 hz1 hz2
  go_enter Tryz.func6, Tryz.ntmps6
  go_wp2
  go_loopw [4] (fun i wr => ∃ k : Nat, k ≤ n + 80 ∧ i = .int .i64 k ∧ Blk wr w.heap.size 5 (u8s ((spared zs).take k ++ List.replicate (n + 80 - k) 0)) ∧ Kept (fun b => b = w.heap.size) w1 wr ∧ wr.heap.size = w.heap.size + 1) (fun i _ => n + 80 - (intOf i).toNat)
  case atStart => exact ⟨0, Nat.zero_le _, rfl, HB.out.1, Kept.refl _ _, HB.out.2.2⟩
  case round =>
    obtain ⟨k, hk, rfl, hb, hkp, hws⟩ := hrel
    have hsl := spared_length zs
    have hl := HL.out
    by_cases hlt : k < n + 80
    · have cs := u8s_cell hb k (by simp [hsl]; omega)
      have fs := hb.frozen k
      have i1 : (0 : Int) ≤ (k : Int) := by omega
      have i2 : (k : Int) < (n : Int) + 80 := by omega
      have HT := take_next (spared zs) k (by omega) (n + 80 - (k + 1))
      rw [show n + 80 - (k + 1) + 1 = n + 80 - k by omega] at HT
      have HE : Hid (((spared zs).take k ++ List.replicate (n + 80 - k) 0).set k ((spared zs).getD k 0) = (spared zs).take (k + 1) ++ List.replicate (n + 80 - (k + 1)) 0) := HT
      have X0 : Hid (Blk wr w.heap.size 5 (u8s ((spared zs).take k ++ List.replicate (n + 80 - k) 0)) ∧ Kept (fun b => b = w.heap.size) w1 wr ∧ wr.heap.size = w.heap.size + 1) := ⟨hb, hkp, hws⟩
      by_cases hin : k < n
      · obtain ⟨b, o, rfl, hbl, hc⟩ := HX.out.cells (by omega)
        have c1 : wr.cell? ⟨b, o + k, none⟩ = some (.int .u8 (zs.getD k 0)) := (hkp.cell (p := ⟨b, o + k, none⟩) (by show b < _; have := HB.out.2.2; omega) (by show ¬ b = _; omega)).trans ((HB.out.2.1.cell (p := ⟨b, o + k, none⟩) hbl).trans (hc k hin))
        have HV : Hid ((spared zs).getD k 0 = zs.getD k 0) := spared_front zs k (by omega)
        obtain ⟨Z, hZ⟩ : ∃ Z, zs.getD k 0 = Z := ⟨_, rfl⟩
        rw [hZ] at c1 HV
        have i3 : (k : Int) < (n : Int) := by omega
        clear hb hkp hZ hc HT hsl hl hws
        go_wp2
        have R1 := X0.out.1.set k (.int .u8 Z)
        rw [u8s_set, ← HV.out, HE.out, HV.out] at R1
        exact ⟨⟨k + 1, by omega, by go_num, R1, X0.out.2.1.setCell (S := fun b => b = w.heap.size) rfl _, by have := X0.out.2.2; simpa [World.setCell] using this⟩, by simp [intOf]; omega⟩
      · have HV : Hid ((spared zs).getD k 0 = markB k) := spared_mark zs k (by omega) (by omega)
        have i3 : ¬ (k : Int) < (n : Int) := by omega
        clear hb hkp HT hsl hl hws
        go_wp2
        have R1 := X0.out.1.set k (.int .u8 (markB k))
        rw [u8s_set, ← HV.out, HE.out, HV.out] at R1
        exact ⟨⟨k + 1, by omega, by go_num, R1, X0.out.2.1.setCell (S := fun b => b = w.heap.size) rfl _, by have := X0.out.2.2; simpa [World.setCell] using this⟩, by simp [intOf]; omega⟩
    · obtain rfl : k = n + 80 := by omega
      rw [Nat.sub_self, List.replicate_zero, List.append_nil, List.take_of_length_le (by omega)] at hb
      have X3 : Hid (Blk wr w.heap.size 5 (u8s (spared zs)) ∧ wr.heap.size = w.heap.size + 1 ∧ Below w.heap.size w wr) := ⟨hb, hws, below_kept HB.out.2.1 hkp HB.out.2.1.size (fun j hj => by omega)⟩
      clear hb hkp hws hsl hl
      go_wp2
      go_ret
      exact ⟨rfl, X3.out.1, X3.out.2.1, X3.out.2.2⟩
set_option maxHeartbeats 1000000 in
set_option maxRecDepth 20000 in
theorem kept_big (g : Nat) (bo : Option Addr) (n d : Nat) (zs : List Int) (w : World) (hx : Blk w g 5 (u8s (spared zs))) (hy : Seen w bo n zs) (hn : n ≤ 140737488351232) :
    Calls Tryz.prog 9 #[.slice (some ⟨g, 0, none⟩) n (n + 80), .slice bo n d] w fun e w' => e = .returned (.bool true) ∧ ∃ q, w' = w.drewN q := by
  have hl := hy.len
  have S1 : Hid (Seen w (some ⟨g, 0, none⟩) n zs) := by
    have := spared_big hx hy.bytes (by omega)
    rwa [hl] at this
  have HY : Hid (Seen w bo n zs ∧ Blk w g 5 (u8s (spared zs)) ∧ zs.length = n) := ⟨hy, hx, hl⟩
  clear hx hy hl
  go_enter Tryz.func9, Tryz.ntmps9
  go_wp2_with fail
  refine (eqb_yes _ bo n (n + 80) d zs w S1.out HY.out.1).mono ?_
  rintro e w1 ⟨rfl, q, rfl⟩
  go_wp2
  go_loopw [6] (fun i wr => ∃ k : Nat, n ≤ k ∧ k ≤ n + 80 ∧ i = .int .i64 k ∧ ∃ q, wr = w.drewN q) (fun i _ => n + 80 - (intOf i).toNat)
  case atStart => exact ⟨n, Nat.le_refl _, by omega, rfl, q, rfl⟩
  case round =>
    obtain ⟨k, hk0, hk, rfl, q, rfl⟩ := hrel
    by_cases hlt : k < n + 80
    · have c1 : (w.drewN q).cell? ⟨g, k, none⟩ = some (.int .u8 (markB k)) := by
        have := u8s_cell HY.out.2.1 k (by rw [spared_length, HY.out.2.2]; omega)
        rw [spared_mark zs k (by rw [HY.out.2.2]; exact hk0) (by rw [HY.out.2.2]; exact hlt)] at this
        exact this
      rw [markB] at c1
      have i1 : (0 : Int) ≤ (k : Int) := by omega
      have i2 : (k : Int) < (n : Int) + 80 := by omega
      go_wp2
      exact ⟨⟨k + 1, by omega, by omega, by go_num, q, rfl⟩, by simp [intOf]; omega⟩
    · obtain rfl : k = n + 80 := by omega
      go_wp2
      go_ret
      exact ⟨rfl, q, rfl⟩
theorem spared_set (us : List Int) (k : Nat) (z : Int) (hk : k < us.length) : (spared us).set k z = spared (us.set k z) := by
  rw [spared, spared, List.set_append_left _ _ hk, List.length_set]
theorem cell_three (w : World) (x y z : Value) (t : TypeId) (j : Nat) (hj : j < 3) : (w.alloc (.cells #[x, y, z] t)).cell? ⟨w.heap.size, j, none⟩ = some ([x, y, z].getD j undef) := by
  have h : (w.alloc (.cells #[x, y, z] t)).heap[w.heap.size]? = some (.cells [x, y, z].toArray t (0, 0)) := heap_alloc_new w _
  rw [cell_of_row _ _ j _ t (0, 0) h]
  rcases (by omega : j = 0 ∨ j = 1 ∨ j = 2) with rfl | rfl | rfl <;> rfl
/-- The three rows, as a lot. -/
theorem lot3 {W : World} {o1 o2 o3 : Option Addr} {n c1 c2 c3 a1 b1 a2 b2 a3 b3 : Nat} {L1 L2 L3 : List Int} (h1 : Out W a1 b1 o1 n c1 L1) (h2 : Out W a2 b2 o2 n c2 L2) (h3 : Out W a3 b3 o3 n c3 L3) (e1 : b1 ≤ a2) (e2 : b2 ≤ a3) (i1 : a1 ≤ b1) (i2 : a2 ≤ b2) (i3 : a3 ≤ b3) (he : b3 ≤ W.heap.size) :
    Lot (W.alloc (.cells #[.slice o1 n c1, .slice o2 n c2, .slice o3 n c3] 28)) W.heap.size 3 (fun j => [o1, o2, o3].getD j none) (fun j => [n, n, n].getD j 0) (fun j => [c1, c2, c3].getD j 0) (fun j => [c1, c2, c3].getD j 0) (fun j => [L1, L2, L3].getD j []) ∧
    ∀ y, LotS 3 (fun j => [o1, o2, o3].getD j none) y → (a1 ≤ y ∧ y < b1) ∨ (a2 ≤ y ∧ y < b2) ∨ (a3 ≤ y ∧ y < b3) := by
  have l := (Below.refl W.heap.size W).alloc (Nat.le_refl _) (.cells #[.slice o1 n c1, .slice o2 n c2, .slice o3 n c3] 28)
  have hp : ∀ j g, j < 3 → [o1, o2, o3].getD j none = some ⟨g, 0, none⟩ → [a1, a2, a3].getD j 0 ≤ g ∧ g < [b1, b2, b3].getD j 0 := by
    intro j g hj e1
    rcases (by omega : j = 0 ∨ j = 1 ∨ j = 2) with rfl | rfl | rfl
    · exact h1.place g 0 e1
    · exact h2.place g 0 e1
    · exact h3.place g 0 e1
  refine ⟨⟨World.block_lt_of_cell? _ _ (cell_three W _ _ _ _ 0 (by decide)), fun j hj => ?_, fun j hj => ?_, fun j hj => .inl rfl, fun j j' g hj hj' e1 e2 => ?_, fun j g hj e1 => ?_⟩, fun y ⟨j, hj, e1⟩ => ?_⟩
  · rw [cell_three _ _ _ _ _ j hj]
    rcases (by omega : j = 0 ∨ j = 1 ∨ j = 2) with rfl | rfl | rfl <;> rfl
  · rcases (by omega : j = 0 ∨ j = 1 ∨ j = 2) with rfl | rfl | rfl
    · exact (h1.later l).own
    · exact (h2.later l).own
    · exact (h3.later l).own
  · have p1 := hp j g hj e1
    have p2 := hp j' g hj' e2
    rcases (by omega : j = 0 ∨ j = 1 ∨ j = 2) with rfl | rfl | rfl <;> rcases (by omega : j' = 0 ∨ j' = 1 ∨ j' = 2) with rfl | rfl | rfl <;> first | rfl | (simp at p1 p2; omega)
  · have := hp j g hj e1
    rcases (by omega : j = 0 ∨ j = 1 ∨ j = 2) with rfl | rfl | rfl <;> simp at this <;> omega
  · have := hp j y hj e1
    rcases (by omega : j = 0 ∨ j = 1 ∨ j = 2) with rfl | rfl | rfl <;> simp at this <;> omega
end Go.Proofs.YtcimiajkbgabiaaGreat
