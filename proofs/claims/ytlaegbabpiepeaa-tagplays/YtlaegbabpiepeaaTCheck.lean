/- Layer tag: mask.Same, Check. -/
import Derived.Test.YtlaegbabpiepeaaTSum
import Derived.Test.YtlaegbabpiepeaaListPlain
namespace Go.Proofs.Ytlaegbabpiepeaa
open Go.RowKit
set_option linter.unusedVariables false
set_option linter.unusedSimpArgs false

theorem zero_any (x : Int) (hx : Word x) (w : World) :
    Calls Try.prog 43 #[.int .u64 x] w fun e w' => e = .returned (.int .u64 (mk (x == 0))) ∧ w' = w := by
  have hb : Word (bits .or .u64 x (IntKind.u64.wrap (-x)) / 9223372036854775808) := by rw [top_code x hx]; split <;> decide
  have H : Hid (bits .xor .u64 IntKind.u64.max (mk (bits .or .u64 x (IntKind.u64.wrap (-x)) / 9223372036854775808 % 2 == 1)) = mk (x == 0)) := by
    show _ = _
    rw [not_mk, top_code x hx]
    by_cases h : x = 0
    · simp [h]
    · have h' : (x == 0) = false := by simpa using h
      simp [h, h']
  go_enter Try.func43, Try.ntmps43
  go_wp2_with (go_at_call 33; refine (bit_any _ hb _).mono ?_; rintro e w' ⟨rfl, rfl⟩)
  go_ret
  exact ⟨ret_int H.out, rfl⟩

set_option maxHeartbeats 1000000 in
theorem same_any (ao bo : Option Addr) (n n' c c' : Nat) (xs ys : List Int) (w : World) (hx : Seen w ao n xs) (hy : Seen w bo n' ys) :
    Calls Try.prog 28 #[.slice ao n c, .slice bo n' c'] w fun e w' => e = .returned (.int .u64 (mk (decide (xs = ys)))) ∧ ∃ q, w' = w.drewN q := by
  have t1 := hx.top
  have t2 := hy.top
  by_cases hne : n = n'
  · subst hne
    have HL : Hid (xs.length = n ∧ ys.length = n) := ⟨hx.len, hy.len⟩
    go_enter Try.func28, Try.ntmps28
    go_wp2
    go_loopw [5, 14] (fun u i wr => ∃ (k : Nat) (U : Int), k ≤ n ∧ i = .int .i64 k ∧ u = .int .u8 U ∧ (0 ≤ U ∧ U < 256) ∧ (U = 0 ↔ xs.take k = ys.take k) ∧ ∃ q, wr = w.drewN q) (fun _ i _ => n - (intOf i).toNat)
    case atStart => exact ⟨0, 0, Nat.zero_le _, rfl, rfl, by decide, by simp, 0, rfl⟩
    case round =>
      obtain ⟨k, U, hk, rfl, rfl, bU, hs, q, rfl⟩ := hrel
      by_cases hlt : k < n
      · obtain ⟨b, o, rfl, hb, hc⟩ := hx.cells (by omega)
        obtain ⟨b', o', rfl, hb', hc'⟩ := hy.cells (by omega)
        have c1 := hc k hlt
        have c2 := hc' k hlt
        have l1 : k < xs.length := by have := HL.out.1; omega
        have l2 : k < ys.length := by have := HL.out.2; omega
        have HT := take_same_succ xs ys k l1 l2
        have bX := hx.bytes.at k l1
        have bY := hy.bytes.at k l2
        obtain ⟨X, hX⟩ : ∃ X, xs.getD k 0 = X := ⟨_, rfl⟩
        obtain ⟨Y, hY⟩ : ∃ Y, ys.getD k 0 = Y := ⟨_, rfl⟩
        rw [hX] at c1 HT bX
        rw [hY] at c2 HT bY
        have hO := orxor_bd U X Y bU bX bY
        have HO : Hid _ := hO.1
        have HI : Hid (bits .or .u8 U (bits .xor .u8 X Y) = 0 ↔ xs.take (k + 1) = ys.take (k + 1)) := by
          show _ ↔ _
          rw [hO.2, hs, HT]
        have i1 : (0 : Int) ≤ (k : Int) := by omega
        have i2 : (k : Int) < (n : Int) := by omega
        clear hX hY hc hc' hx hy hs HT hb hb' hO l1 l2
        go_wp2
        go_quiet (fail)
        go_wp2
        go_roundw
        case rel => exact ⟨k + 1, _, by omega, by go_num, rfl, HO.out, HI.out, _, rfl⟩
        case measure => simp [intOf]; omega
      · have HE : Hid ((U == 0) = decide (xs = ys)) := by
          show _ = _
          have e1 : xs.take k = xs := List.take_of_length_le (by have := HL.out.1; omega)
          have e2 : ys.take k = ys := List.take_of_length_le (by have := HL.out.2; omega)
          rw [e1, e2] at hs
          rw [Bool.eq_iff_iff]; simp [hs]
        have wU : Word U := ⟨by omega, by omega⟩
        clear hs
        go_wp2_with (go_at_call 43; refine (zero_any _ wU _).mono ?_; rintro e w2 ⟨rfl, hw2⟩; have hw3 := hw2.symm; subst hw3)
        go_ret
        exact ⟨ret_int (by rw [HE.out]), _, rfl⟩
  · have h : ((n : Int) != (n' : Int)) = true := by simp; omega
    have HN : Hid (decide (xs = ys) = false) := by
      show _ = _
      apply decide_eq_false
      intro h
      exact hne (by rw [← hx.len, ← hy.len, h])
    go_enter Try.func28, Try.ntmps28
    go_wp2
    go_ret
    exact ⟨ret_int (by rw [HN.out, mk_false]), 0, rfl⟩
set_option maxRecDepth 20000 in
set_option maxHeartbeats 1000000 in
theorem check_any (key tag : List Int) (hkl : key.length = 32) (hkb : Bytes key) (htl : tag.length = 16) (htb : Bytes tag) (ao : Option Addr) (n c : Nat) (pss : List (List Int)) (w : World) (hx : SeenP w ao n pss) (hn : n ≤ 140737488355328) :
    Calls Try.prog 15 #[.agg (u8s key).toArray, .agg (u8s tag).toArray, .slice ao n c] w fun e w' => e = .returned (.bool (decide (tagB key pss.flatten = tag))) ∧ Below w.heap.size w w' := by
  have HK : Hid (key.length = 32 ∧ Bytes key ∧ tag.length = 16 ∧ Bytes tag) := ⟨hkl, hkb, htl, htb⟩
  have HX : Hid (SeenP w ao n pss) := hx
  obtain ⟨B, hB⟩ : ∃ z, tagB key pss.flatten = z := ⟨_, rfl⟩
  have HB : Hid (tagB key pss.flatten = B ∧ B.length = 16 ∧ Bytes B) := ⟨hB, by rw [← hB]; exact tagB_length _ _, by rw [← hB]; exact tagB_bytes _ _⟩
  obtain ⟨d, hd⟩ : ∃ d, decide (B = tag) = d := ⟨_, rfl⟩
  have HD : Hid (decide (B = tag) = d) := hd
  have hmk : (mk d != 0) = d := by cases d <;> rfl
  rw [hB, hd]
  clear hd hkl hkb htl htb hx hB
  go_enter Try.func15, Try.ntmps15
  go_wp2_with (first | (refine wpList_box_new rfl 27 _ rfl (u8s key) rfl ?_; intro w1 b1 s1 l1) | (refine wpList_box_new rfl 46 _ rfl (u8s tag) rfl ?_; intro w2 b2 s2 l2) | (refine wpList_load_blk rfl 27 _ rfl _ rfl (u8s key) _ (b1.later l2 (by omega)) Try.underlying27 rfl (by rw [u8s_length, HK.out.1]; exact sizeKey) ?_) | (go_at_call 14; refine (tsum_any key HK.out.1 HK.out.2.1 ao n c pss _ (HX.out.later (below_chain l1 l2 (by omega)) (Nat.le_refl _)) hn).mono ?_; rintro e w3 ⟨rfl, l3⟩; rw [HB.out.1]) | (refine wpList_alloc_new rfl 46 rfl 16 _ zeroTag ?_; intro w4 b4 s4 l4) | (refine wpList_store_blk rfl 46 46 _ _ rfl _ rfl _ (u8s B) rfl b4 (by rw [u8s_length, HB.out.2.1]; rfl) (by rw [u8s_length, HB.out.2.1]; exact sizeTag) (u8s_one _) ?_; intro w5 b5 s5 k5))
  have q3 := l3.size
  obtain ⟨G, hG⟩ : ∃ G, w3.heap.size = G := ⟨_, rfl⟩
  try simp only [Act.put, List.setIfInBounds_toArray, List.set_cons_zero, List.set_cons_succ]
  rw [hG] at b5 k5 ⊢
  have HG : Hid (Blk w5 G 46 (u8s B) ∧ Blk w5 (w.heap.size + 1) 46 (u8s tag) ∧ Below w.heap.size w w5) := by
    rw [s1] at b2
    exact ⟨b5, ((b2.later l3 (by omega)).later l4 (by omega)).kept k5 (by omega), below_kept (below_chain (below_chain (below_chain l1 l2 (by omega)) l3 (by omega)) l4 (by omega)) k5 (by omega) (fun j hj => by omega)⟩
  clear b1 s1 l1 b2 s2 l2 l3 b4 s4 l4 b5 s5 k5 hG q3
  refine region_inv [.val (.slice (some ⟨G, 0, none⟩) 16 16), .val (.slice (some ⟨w.heap.size + 1, 0, none⟩) 16 16), .val (.int .u64 (mk d)), .val (.bool d)] (by kernel_rfl) (by kernel_rfl) (by kernel_rfl) ?_ ?_
  · refine Steps'.cons ?_ (Steps'.cons ?_ (Steps'.cons ?_ (Steps'.cons ?_ (Steps'.one _ _ _ _ _ _ _))))
    · intro ax wx hb hs hd
      have h7 : ax.tmps.getD 7 undef = (.pointer (some ⟨G, 0, none⟩)) := hs 7 (by kernel_rfl)
      refine Does.value _ ?_ rfl
      go_simp
    · intro ax wx hb hs hd
      have h4 : ax.tmps.getD 4 undef = (.pointer (some ⟨w.heap.size + 1, 0, none⟩)) := hs 4 (by kernel_rfl)
      refine Does.value _ ?_ rfl
      go_simp
    · intro ax wx hb hs hd
      have h11 : ax.tmps.getD 11 undef = (.slice (some ⟨G, 0, none⟩) 16 16) := hd 0 11 rfl (by kernel_rfl) (by decide)
      have h12 : ax.tmps.getD 12 undef = (.slice (some ⟨w.heap.size + 1, 0, none⟩) 16 16) := hd 1 12 rfl (by kernel_rfl) (by decide)
      refine Does.call 28 #[(.slice (some ⟨G, 0, none⟩) 16 16), (.slice (some ⟨w.heap.size + 1, 0, none⟩) 16 16)] (by go_simp) ?_
      have q1 := seen_blk (Blk.later HG.out.1 hb (Blk.lt HG.out.1)) HB.out.2.2 (by have := HB.out.2.1; omega)
      have q2 := seen_blk (Blk.later HG.out.2.1 hb (Blk.lt HG.out.2.1)) HK.out.2.2.2 (by have := HK.out.2.2.1; omega)
      rw [HB.out.2.1] at q1
      rw [HK.out.2.2.1] at q2
      refine (same_any _ _ 16 16 16 16 B tag wx q1 q2).mono ?_
      rintro e w' ⟨rfl, q, rfl⟩
      exact ⟨_, rfl, by rw [HD.out]; rfl, below_dn (Below.refl _ _) q⟩
    · intro ax wx hb hs hd
      have h13 : ax.tmps.getD 13 undef = (.int .u64 (mk d)) := hd 2 13 rfl (by kernel_rfl) (by decide)
      refine Does.value _ ?_ rfl
      go_simp
  · intro wx hb
    refine @Ends.val _ _ _ _ _ _ _ _ _ (.slice (some ⟨G, 0, none⟩) 16 16) rfl ?_
    refine @Ends.val _ _ _ _ _ _ _ _ _ (.slice (some ⟨w.heap.size + 1, 0, none⟩) 16 16) rfl ?_
    refine @Ends.val _ _ _ _ _ _ _ _ _ (.int .u64 (mk d)) rfl ?_
    refine @Ends.val _ _ _ _ _ _ _ _ _ (.bool d) rfl ?_
    refine @Ends.one _ _ _ _ _ _ _ ?_
    simp only [Act.put, List.setIfInBounds_toArray, List.set_cons_zero, List.set_cons_succ]
    refine last_assign (.tmp 14) rfl (some 6) rfl _ rfl ?_
    simp only [Act.put, List.setIfInBounds_toArray, List.set_cons_zero, List.set_cons_succ]
    have XB : Hid (Below w.heap.size w wx) := below_chain HG.out.2.2 hb HG.out.2.2.size
    clear hb
    go_wp2_with fail
    go_ret
    exact ⟨rfl, XB.out⟩
end Go.Proofs.Ytlaegbabpiepeaa
