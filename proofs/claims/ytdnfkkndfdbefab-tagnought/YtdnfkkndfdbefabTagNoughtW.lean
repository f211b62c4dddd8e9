/- Layer tag: where r is 0 the code is s: the walk. -/
import Derived.Test.YtdnfkkndfdbefabTIsS
import Derived.Test.YtdnfkkndfdbefabTMinus
namespace Go.Proofs.Ytdnfkkndfdbefab
open Go.RowKit Go.Joins
set_option linter.unusedVariables false
set_option linter.unusedSimpArgs false

theorem and_digits (a b A B : Nat) (ha : a < 256) (hb : b < 256) : (a + 256 * A) &&& (b + 256 * B) = (a &&& b) + 256 * (A &&& B) := by
  have h1 : ((a + 256 * A) &&& (b + 256 * B)) % 2 ^ 8 = (a &&& b) := by
    rw [Nat.and_mod_two_pow, show (a + 256 * A) % 2 ^ 8 = a by omega, show (b + 256 * B) % 2 ^ 8 = b by omega]
  have h2 : ((a + 256 * A) &&& (b + 256 * B)) / 2 ^ 8 = (A &&& B) := by
    rw [Nat.and_div_two_pow, show (a + 256 * A) / 2 ^ 8 = A by omega, show (b + 256 * B) / 2 ^ 8 = B by omega]
  omega
theorem le_and (l c : List Int) (h1 : Bytes l) (h2 : Bytes c) (hz : ∀ i, i < l.length → (l.getD i 0).toNat &&& (c.getD i 0).toNat = 0) (hl : l.length = c.length) : (le l).toNat &&& (le c).toNat = 0 := by
  induction l generalizing c with
  | nil => simp [le]
  | cons x l ih =>
    cases c with
    | nil => simp at hl
    | cons y c =>
      have bx := h1 x (by simp)
      have by' := h2 y (by simp)
      have bl := (le_bd l (fun z hz => h1 z (by simp [hz]))).1
      have bc := (le_bd c (fun z hz => h2 z (by simp [hz]))).1
      have e1 : (le (x :: l)).toNat = x.toNat + 256 * (le l).toNat := by rw [le]; omega
      have e2 : (le (y :: c)).toNat = y.toNat + 256 * (le c).toNat := by rw [le]; omega
      rw [e1, e2, and_digits _ _ _ _ (by omega) (by omega), ih c (fun z hz => h1 z (by simp [hz])) (fun z hz => h2 z (by simp [hz])) (fun i hi => by simpa using hz (i + 1) (by simpa using hi)) (by simpa using hl)]
      have := hz 0 (by simp)
      simpa using this
/-- The bits that the statement leaves of byte i. -/
def freeB (i : Nat) : Int := if i % 4 = 3 then 240 else if i % 4 = 0 ∧ 0 < i then 3 else 0
def cutK (key : List Int) (k : Nat) : List Int := (List.range 32).map (fun i => if i < k then bits .and .u8 (key.getD i 0) (freeB i) else key.getD i 0)
theorem cutK_length (key : List Int) (k : Nat) : (cutK key k).length = 32 := by simp [cutK]
theorem cutK_at (key : List Int) (k i : Nat) (hi : i < 32) : (cutK key k).getD i 0 = if i < k then bits .and .u8 (key.getD i 0) (freeB i) else key.getD i 0 := by simp [cutK, List.getD, hi]
theorem cutK_zero (key : List Int) (h : key.length = 32) : cutK key 0 = key := by
  apply List.ext_getElem
  · rw [cutK_length, h]
  · intro i h1 h2
    simp [cutK, List.getD, h2]
theorem cutK_succ (key : List Int) (k : Nat) (hk : k < 32) : (cutK key k).set k (bits .and .u8 (key.getD k 0) (freeB k)) = cutK key (k + 1) := by
  apply List.ext_getElem
  · simp [cutK]
  · intro i h1 h2
    have hi : i < 32 := by simpa [cutK] using h2
    by_cases e : k = i
    · subst e; simp [cutK]
    · simp only [cutK, List.getElem_set, e, if_false, List.getElem_map, List.getElem_range]
      by_cases h3 : i < k
      · rw [if_pos h3, if_pos (by omega)]
      · rw [if_neg h3, if_neg (by omega)]
theorem freeB_bd (i : Nat) : 0 ≤ freeB i ∧ freeB i < 256 := by unfold freeB; split; decide; split <;> decide
theorem cutK_bytes (key : List Int) (k : Nat) (hl : key.length = 32) (h : Bytes key) : Bytes (cutK key k) := by
  intro z hz
  obtain ⟨i, hi, hzi⟩ := List.mem_iff_getElem.1 hz
  have hi' : i < 32 := by simpa [cutK] using hi
  have e := cutK_at key k i hi'
  rw [List.getD, List.getElem?_eq_getElem hi, Option.getD_some, hzi] at e
  rw [e]
  have hb := h.at i (by omega)
  split
  · have hf := freeB_bd i
    rw [u8_and _ _ hb.1 hb.2 hf.1 hf.2]
    have : (key.getD i 0).toNat &&& (freeB i).toNat ≤ (key.getD i 0).toNat := Nat.and_le_left
    omega
  · exact hb
theorem and3_zero (x f c : Nat) (h : f &&& c = 0) : (x &&& f) &&& c = 0 := by rw [Nat.and_assoc, h, Nat.and_zero]
theorem cut_zero (key : List Int) (hl : key.length = 32) (h : Bytes key) (o : Nat) (c : List Int) (hc : Bytes c) (hcl : c.length = 8) (ho : o + 8 ≤ 16) (hf : ∀ i, i < 8 → (freeB (o + i)).toNat &&& (c.getD i 0).toNat = 0) : (le (((cutK key 16).drop o).take 8)).toNat &&& (le c).toNat = 0 := by
  have hl2 : (((cutK key 16).drop o).take 8).length = 8 := by rw [List.length_take, List.length_drop, cutK_length]; omega
  refine le_and _ c (bytes_take (bytes_drop (cutK_bytes key 16 hl h) _) _) hc (fun i hi => ?_) (by omega)
  have hi8 : i < 8 := by omega
  have e : (((cutK key 16).drop o).take 8).getD i 0 = (cutK key 16).getD (o + i) 0 := by simp [List.getD, List.getElem?_take, hi8]
  rw [e, cutK_at _ _ _ (by omega), if_pos (by omega)]
  have hb := h.at (o + i) (by omega)
  have hfb := freeB_bd (o + i)
  rw [u8_and _ _ hb.1 hb.2 hfb.1 hfb.2, Int.toNat_natCast]
  exact and3_zero _ _ _ (hf i hi8)
theorem cut_r (key : List Int) (hl : key.length = 32) (h : Bytes key) : rOf (cutK key 16) = 0 := by
  have hb := cutK_bytes key 16 hl h
  have h1 := cut_zero key hl h 0 [255, 255, 255, 15, 252, 255, 255, 15] (by intro z hz; simp at hz; omega) rfl (by decide) (by decide)
  have h2 := cut_zero key hl h 8 [252, 255, 255, 15, 252, 255, 255, 15] (by intro z hz; simp at hz; omega) rfl (by decide) (by decide)
  rw [List.drop_zero] at h1
  have b1 := le8_bd ((cutK key 16).take 8) (bytes_take hb _) (by rw [List.length_take]; omega)
  have b2 := le8_bd (((cutK key 16).drop 8).take 8) (bytes_take (bytes_drop hb _) _) (by rw [List.length_take]; omega)
  rw [rOf, rLow, rHigh, u64_and _ _ b1.1 b1.2 (by decide) (by decide), u64_and _ _ b2.1 b2.2 (by decide) (by decide)]
  have e1 : ((1152921487695413247 : Int)).toNat = (le [255, 255, 255, 15, 252, 255, 255, 15]).toNat := by decide
  have e2 : ((1152921487695413244 : Int)).toNat = (le [252, 255, 255, 15, 252, 255, 255, 15]).toNat := by decide
  rw [e1, e2, h1, h2]; rfl
theorem acc_nought (m : List Int) : ∀ k, accK 0 m k = 0
  | 0 => rfl
  | k + 1 => by rw [accK, step5, Int.mul_zero]; rfl
theorem tag_nought (K m : List Int) (hl : K.length = 32) (hb : Bytes K) (hr : rOf K = 0) : tagB K m = (K.drop 16).take 16 := by
  have hE : accE 0 m = 0 := by
    unfold accE acc
    rw [acc_nought]
    split
    · rw [step5, Int.mul_zero]; rfl
    · rfl
  have hs := sOf_bd K hb
  have h16 : ((K.drop 16).take 16).length = 16 := by rw [List.length_take, List.length_drop]; omega
  have e : codeN (rOf K) (sOf K) m = sOf K := by
    rw [hr, codeN, hE]
    show ((0 : Int) % 1361129467683753853853498429727072845819 % 340282366920938463463374607431768211456 + sOf K) % 340282366920938463463374607431768211456 = sOf K
    omega
  rw [tagB, codeB, e, sOf]
  have := leB_le ((K.drop 16).take 16) (bytes_take (bytes_drop hb _) _)
  rwa [h16] at this
set_option maxRecDepth 20000 in
set_option maxHeartbeats 4000000 in
theorem nought_walk (key : List Int) (ao : Option Addr) (n c : Nat) (m : List Int) (w : World) (hk : key.length = 32) (hkb : Bytes key) (hx : Seen w ao n m) :
    Calls Try.prog 3 #[.agg (u8s key).toArray, .slice ao n c] w fun e w' => e = .returned (.bool true) ∧ Below w.heap.size w w' := by
  have HK : Hid (key.length = 32 ∧ Bytes key ∧ Seen w ao n m) := ⟨hk, hkb, hx⟩
  clear hk hkb hx
  go_enter Try.func3, Try.ntmps3
  go_wp2_with (refine wpList_box_new rfl 23 (.tmp 0) rfl (u8s key) rfl ?_; intro w1 b1 s1 l1)
  have HB : Hid (Blk w1 w.heap.size 23 (u8s key) ∧ Below w.heap.size w w1) := ⟨b1, l1⟩
  clear b1 s1 l1
  go_loopw [5] (fun i wr => ∃ k : Nat, k ≤ 16 ∧ i = .int .i64 k ∧ Blk wr w.heap.size 23 (u8s (cutK key k)) ∧ Kept (fun x => x = w.heap.size) w1 wr) (fun i _ => 16 - (intOf i).toNat)
  case atStart => exact ⟨0, by omega, rfl, by rw [cutK_zero key HK.out.1]; exact HB.out.1, Kept.refl _ _⟩
  case round =>
    obtain ⟨k, hk, rfl, hblk, hkp⟩ := hrel
    by_cases hlt : k < 16
    · have cg := u8s_cell hblk k (by rw [cutK_length]; omega)
      rw [cutK_at _ _ _ (by omega), if_neg (by omega)] at cg
      have fg := hblk.frozen k
      have hfr := cutK_succ key k (by omega)
      have HQ : Hid (Blk wr w.heap.size 23 (u8s (cutK key k)) ∧ Kept (fun x => x = w.heap.size) w1 wr ∧ (cutK key k).set k (bits .and .u8 (key.getD k 0) (freeB k)) = cutK key (k + 1)) := ⟨hblk, hkp, hfr⟩
      obtain ⟨X, hX⟩ : ∃ X, key.getD k 0 = X := ⟨_, rfl⟩
      rw [hX] at cg HQ
      have i1 : (k : Int) < 16 := by omega
      have i3 : (0 : Int) ≤ (k : Int) := by omega
      clear hblk hkp hX hfr
      have fin : ∀ C, freeB k = C → (∃ k_1 : Nat, k_1 ≤ 16 ∧ Value.int IntKind.i64 ((k : Int) + 1) = Value.int IntKind.i64 k_1 ∧ Blk (wr.setCell ⟨w.heap.size, k, none⟩ (.int .u8 (bits .and .u8 X C))) w.heap.size 23 (u8s (cutK key k_1)) ∧ Kept (fun x => x = w.heap.size) w1 (wr.setCell ⟨w.heap.size, k, none⟩ (.int .u8 (bits .and .u8 X C)))) ∧ 16 - (intOf (Value.int IntKind.i64 ((k : Int) + 1))).toNat < 16 - (intOf (Value.int IntKind.i64 (k : Int))).toNat := fun C hC => by
        have R := HQ.out.1.set k (.int .u8 (bits .and .u8 X (freeB k)))
        rw [u8s_set, HQ.out.2.2, hC] at R
        exact ⟨⟨k + 1, by omega, by go_num, R, HQ.out.2.1.setCell rfl _⟩, by simp [intOf]; omega⟩
      have HFIN : Hid (∀ C, freeB k = C → (∃ k_1 : Nat, k_1 ≤ 16 ∧ Value.int IntKind.i64 ((k : Int) + 1) = Value.int IntKind.i64 k_1 ∧ Blk (wr.setCell ⟨w.heap.size, k, none⟩ (.int .u8 (bits .and .u8 X C))) w.heap.size 23 (u8s (cutK key k_1)) ∧ Kept (fun x => x = w.heap.size) w1 (wr.setCell ⟨w.heap.size, k, none⟩ (.int .u8 (bits .and .u8 X C)))) ∧ 16 - (intOf (Value.int IntKind.i64 ((k : Int) + 1))).toNat < 16 - (intOf (Value.int IntKind.i64 (k : Int))).toNat) := fin
      clear fin
      by_cases h3 : k % 4 = 3
      · have t3 : (k : Int) % 4 = 3 := by omega
        go_wp2_with fail
        exact HFIN.out 240 (by unfold freeB; rw [if_pos h3])
      · have t3 : ¬ (k : Int) % 4 = 3 := by omega
        by_cases h0 : k % 4 = 0
        · have t0 : (k : Int) % 4 = 0 := by omega
          by_cases hp : 0 < k
          · have tp : (0 : Int) < (k : Int) := by omega
            go_wp2_with fail
            exact HFIN.out 3 (by unfold freeB; rw [if_neg h3, if_pos ⟨h0, hp⟩])
          · have tp : ¬ (0 : Int) < (k : Int) := by omega
            go_wp2_with fail
            exact HFIN.out 0 (by unfold freeB; rw [if_neg h3, if_neg (fun h => hp h.2)])
        · have t0 : ¬ (k : Int) % 4 = 0 := by omega
          go_wp2_with fail
          exact HFIN.out 0 (by unfold freeB; rw [if_neg h3, if_neg (fun h => h0 h.1)])
    · obtain rfl : k = 16 := by omega
      obtain ⟨O, hO⟩ : ∃ z, cutK key 16 = z := ⟨_, rfl⟩
      rw [hO] at hblk
      have HO : Hid (O.length = 32 ∧ Bytes O ∧ tagB O m = (O.drop 16).take 16) := by
        rw [← hO]
        exact ⟨cutK_length _ _, cutK_bytes _ _ HK.out.1 HK.out.2.1, tag_nought _ m (cutK_length _ _) (cutK_bytes _ _ HK.out.1 HK.out.2.1) (cut_r key HK.out.1 HK.out.2.1)⟩
      have X0 : Hid (Blk wr w.heap.size 23 (u8s O) ∧ Below w.heap.size w wr ∧ Seen wr ao n m) := by
        have B := below_kept HB.out.2 hkp HB.out.2.size (fun j hj => by omega)
        exact ⟨hblk, B, HK.out.2.2.later B (Nat.le_refl _)⟩
      obtain ⟨A, hA⟩ : ∃ z, (O.drop 16).take 16 = z := ⟨_, rfl⟩
      have HA : Hid (tagB O m = A ∧ (O.drop 16).take 16 = A ∧ A.length = 16) := by
        rw [← hA]
        exact ⟨HO.out.2.2, rfl, by rw [List.length_take, List.length_drop, HO.out.1]; rfl⟩
      have hq : ∀ W, (Op.equalIn 10000 26 (.agg (u8s A).toArray) (.agg (u8s A).toArray)).run Try.prog W = .ok true W := equal_self 9998 A HA.out.2.2
      have HU : Hid ((Try.prog.info? 23).map (·.size) = some (u8s O).length) := by show _ = _; rw [u8s_length, HO.out.1]; exact sizeKey
      clear hblk hkp hO hA
      go_wp2_with fail
      try simp only [Act.put, List.setIfInBounds_toArray, List.set_cons_zero, List.set_cons_succ]
      refine region_invG [.val (.agg (u8s O).toArray), .val (.slice ao n c), .any (isS m) (isS_later _), .any (isP 1 [m]) (isP_later _ _), .val (.agg (u8s A).toArray), .val (.agg (u8s O).toArray), .val (.agg (u8s A).toArray), .val (.bool true), .val (.bool true), .val (.bool true), .val (.bool true)] (by kernel_rfl) (by kernel_rfl) (by repeat (first | exact trivial | (refine ⟨by first | trivial | rfl, ?_⟩))) (by kernel_rfl) ?_ ?_
      · refine Steps'.cons ?_ (Steps'.cons ?_ (Steps'.cons ?_ (Steps'.cons ?_ (Steps'.cons ?_ (Steps'.cons ?_ (Steps'.cons ?_ (Steps'.cons ?_ (Steps'.cons ?_ (Steps'.cons ?_ (Steps'.cons ?_ (Steps'.one _ _ _ _ _ _ _)))))))))))
        · intro ax wx hb hs hd
          have h2 : ax.tmps.getD 2 undef = (.pointer (some ⟨w.heap.size, 0, none⟩)) := hs 2 (by kernel_rfl)
          exact Does.load 23 (.tmp 2) rfl w.heap.size 0 h2 (u8s O) _ ((Blk.later X0.out.1 hb (Blk.lt X0.out.1)).whole) Try.underlying23 rfl HU.out
        · intro ax wx hb hs hd
          have h1 : ax.tmps.getD 1 undef = (.slice ao n c) := hs 1 (by kernel_rfl)
          refine Does.value (.slice ao n c) ?_ rfl
          go_simp
        · intro ax wx hb hs hd
          have h29 : ax.tmps.getD 29 undef = (.slice ao n c) := hd 1 29 rfl (by kernel_rfl) (by decide)
          refine Does.call 6 #[.slice ao n c] (by go_simp) ?_
          exact copyB_is ao n c m wx (X0.out.2.2.later hb (Nat.le_refl _))
        · intro ax wx hb hs hd
          obtain ⟨vo, n1, c1, h30, s1, l1⟩ : isS m (ax.tmps.getD 30 undef) wx := hd 2 30 rfl (by kernel_rfl) (by decide)
          exact Does.rows1 _ rfl vo n1 c1 m (by simp only [List.map_toArray, List.map_cons, List.map_nil, Act.eval, h30]) s1 l1
        · intro ax wx hb hs hd
          have h28 : ax.tmps.getD 28 undef = (.agg (u8s O).toArray) := hd 0 28 rfl (by kernel_rfl) (by decide)
          obtain ⟨b, cc, h31, s2⟩ : isP 1 [m] (ax.tmps.getD 31 undef) wx := hd 3 31 rfl (by kernel_rfl) (by decide)
          refine Does.call 5 #[(.agg (u8s O).toArray), .slice (some ⟨b, 0, none⟩) 1 cc] (by go_simp) ?_
          have q := tsum_any O HO.out.1 HO.out.2.1 _ 1 cc _ wx s2 (by decide)
          rw [show ([m] : List (List Int)).flatten = m by simp, HA.out.1] at q
          refine q.mono ?_
          rintro e w' ⟨rfl, l⟩
          exact ⟨_, rfl, rfl, l⟩
        · intro ax wx hb hs hd
          have h2 : ax.tmps.getD 2 undef = (.pointer (some ⟨w.heap.size, 0, none⟩)) := hs 2 (by kernel_rfl)
          exact Does.load 23 (.tmp 2) rfl w.heap.size 0 h2 (u8s O) _ ((Blk.later X0.out.1 hb (Blk.lt X0.out.1)).whole) Try.underlying23 rfl HU.out
        · intro ax wx hb hs hd
          have h33 : ax.tmps.getD 33 undef = (.agg (u8s O).toArray) := hd 5 33 rfl (by kernel_rfl) (by decide)
          refine Does.call 7 #[(.agg (u8s O).toArray)] (by go_simp) ?_
          have q := second_any O HO.out.1 wx
          rw [HA.out.2.1] at q
          refine q.mono ?_
          rintro e w' ⟨rfl, l⟩
          exact ⟨_, rfl, rfl, l⟩
        · intro ax wx hb hs hd
          have h32 : ax.tmps.getD 32 undef = (.agg (u8s A).toArray) := hd 4 32 rfl (by kernel_rfl) (by decide)
          have h34 : ax.tmps.getD 34 undef = (.agg (u8s A).toArray) := hd 6 34 rfl (by kernel_rfl) (by decide)
          refine Does.value _ ?_ rfl
          go_simp
        · intro ax wx hb hs hd
          have h35 : ax.tmps.getD 35 undef = (.bool true) := hd 7 35 rfl (by kernel_rfl) (by decide)
          refine Does.value (.bool true) ?_ rfl
          go_simp
        · intro ax wx hb hs hd
          refine Does.call 8 #[] (by go_simp) ?_
          refine (works_any wx).mono ?_
          rintro e w' ⟨rfl, l⟩
          exact ⟨_, rfl, rfl, l⟩
        · intro ax wx hb hs hd
          have h36 : ax.tmps.getD 36 undef = (.bool true) := hd 8 36 rfl (by kernel_rfl) (by decide)
          have h37 : ax.tmps.getD 37 undef = (.bool true) := hd 9 37 rfl (by kernel_rfl) (by decide)
          refine Does.value _ ?_ rfl
          go_simp
      · intro wx hb
        refine @Ends.val _ _ _ _ _ _ _ _ _ (.agg (u8s O).toArray) rfl ?_
        refine @Ends.val _ _ _ _ _ _ _ _ _ (.slice ao n c) rfl ?_
        refine @Ends.any _ _ _ _ _ _ _ _ _ (isS m) (isS_later _) rfl ?_
        intro v2 p2
        refine @Ends.any _ _ _ _ _ _ _ _ _ (isP 1 [m]) (isP_later _ _) rfl ?_
        intro v3 p3
        refine @Ends.val _ _ _ _ _ _ _ _ _ (.agg (u8s A).toArray) rfl ?_
        refine @Ends.val _ _ _ _ _ _ _ _ _ (.agg (u8s O).toArray) rfl ?_
        refine @Ends.val _ _ _ _ _ _ _ _ _ (.agg (u8s A).toArray) rfl ?_
        refine @Ends.val _ _ _ _ _ _ _ _ _ (.bool true) rfl ?_
        refine @Ends.val _ _ _ _ _ _ _ _ _ (.bool true) rfl ?_
        refine @Ends.val _ _ _ _ _ _ _ _ _ (.bool true) rfl ?_
        refine @Ends.val _ _ _ _ _ _ _ _ _ (.bool true) rfl ?_
        refine @Ends.one _ _ _ _ _ _ _ ?_
        simp only [Act.put, List.setIfInBounds_toArray, List.set_cons_zero, List.set_cons_succ]
        refine last_assign (.tmp 38) rfl (some 4) rfl _ rfl ?_
        simp only [Act.put, List.setIfInBounds_toArray, List.set_cons_zero, List.set_cons_succ]
        have XB : Hid (Below w.heap.size w wx) := below_chain X0.out.2.1 hb X0.out.2.1.size
        clear hb
        go_wp2_with fail
        go_ret
        exact ⟨rfl, XB.out⟩
end Go.Proofs.Ytdnfkkndfdbefab
