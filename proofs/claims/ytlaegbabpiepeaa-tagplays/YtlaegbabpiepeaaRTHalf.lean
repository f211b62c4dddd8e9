/- The document's half of a key, by value. -/
import Derived.Test.YtlaegbabpiepeaaRTFold
import Derived.Test.YtlaegbabpiepeaaTNew
namespace Go.Proofs.Ytlaegbabpiepeaa
open Go.RowKit
set_option linter.unusedVariables false
set_option linter.unusedSimpArgs false

def andB (x y : Int) : Int := ((x.toNat &&& y.toNat : Nat) : Int)
theorem andB_bd (x y : Int) (hy : 0 ≤ y ∧ y < 256) : 0 ≤ andB x y ∧ andB x y < 256 := by
  have : x.toNat &&& y.toNat ≤ y.toNat := Nat.and_le_right
  unfold andB; omega
theorem and_split (a b c d : Nat) (ha : a < 256) (hc : c < 256) : (a + 256 * b) &&& (c + 256 * d) = (a &&& c) + 256 * (b &&& d) := by
  have e1 : a + 256 * b = 2 ^ 8 * b + a := by omega
  have e2 : c + 256 * d = 2 ^ 8 * d + c := by omega
  have h3 : a &&& c < 2 ^ 8 := Nat.lt_of_le_of_lt Nat.and_le_left (by omega)
  have e3 : (a &&& c) + 256 * (b &&& d) = 2 ^ 8 * (b &&& d) + (a &&& c) := by omega
  rw [e1, e2, e3]
  apply Nat.eq_of_testBit_eq
  intro j
  rw [Nat.testBit_and, Nat.testBit_two_pow_mul_add _ (by omega), Nat.testBit_two_pow_mul_add _ (by omega), Nat.testBit_two_pow_mul_add _ h3]
  split
  · rw [Nat.testBit_and]
  · rw [Nat.testBit_and]
theorem le_and : ∀ (xs ys : List Int), Bytes xs → Bytes ys → xs.length = ys.length → andB (le xs) (le ys) = le (List.zipWith andB xs ys)
  | [], [], _, _, _ => rfl
  | x :: xs, y :: ys, hx, hy, hl => by
    have h1 := hx x (by simp)
    have h2 := hy y (by simp)
    have b1 : Bytes xs := fun z hz => hx z (by simp [hz])
    have b2 : Bytes ys := fun z hz => hy z (by simp [hz])
    have ih := le_and xs ys b1 b2 (by simpa using hl)
    have n1 := le_nonneg (bytes_nn b1)
    have n2 := le_nonneg (bytes_nn b2)
    rw [List.zipWith_cons_cons, le, le, le, ← ih]
    obtain ⟨a, rfl⟩ := Int.eq_ofNat_of_zero_le h1.1
    obtain ⟨c, rfl⟩ := Int.eq_ofNat_of_zero_le h2.1
    obtain ⟨b, hb⟩ := Int.eq_ofNat_of_zero_le n1
    obtain ⟨d, hd⟩ := Int.eq_ofNat_of_zero_le n2
    rw [hb, hd]
    unfold andB
    rw [show ((a : Int) + 256 * (b : Int)).toNat = a + 256 * b by omega, show ((c : Int) + 256 * (d : Int)).toNat = c + 256 * d by omega, and_split a b c d (by omega) (by omega)]
    simp only [Int.toNat_natCast]
    omega
def maskR : List Int := [255, 255, 255, 15, 252, 255, 255, 15, 252, 255, 255, 15, 252, 255, 255, 15]
theorem maskR_bytes : Bytes maskR := by unfold Bytes maskR; decide
def hR (key : List Int) : List Int := List.zipWith andB (key.take 16) maskR
theorem hR_length (key : List Int) (hk : key.length = 32) : (hR key).length = 16 := by simp [hR, maskR, hk]
theorem hR_at (key : List Int) (hk : key.length = 32) (k : Nat) (h : k < 16) : (hR key).getD k 0 = andB (key.getD k 0) (maskR.getD k 0) := by
  have h2 : k < maskR.length := h
  have h3 : k < (key.take 16).length := by rw [List.length_take, hk]; exact h
  simp [hR, List.getD, List.getElem?_zipWith, List.getElem?_take, h, show k < key.length by omega, h2]
theorem hR_bytes (key : List Int) (hk : key.length = 32) : Bytes (hR key) := by
  intro z hz
  obtain ⟨i, hi, rfl⟩ := List.getElem_of_mem hz
  have h16 : i < 16 := by rw [← hR_length key hk]; exact hi
  have e := hR_at key hk i h16
  have e2 : (hR key).getD i 0 = (hR key)[i] := by simp [List.getD, hi]
  rw [← e2, e]
  exact andB_bd _ _ (maskR_bytes.at i h16)
theorem hR_le (key : List Int) (hk : key.length = 32) (hb : Bytes key) : le (hR key) = rOf key := by
  have e : hR key = List.zipWith andB (key.take 8) (maskR.take 8) ++ List.zipWith andB ((key.drop 8).take 8) (maskR.drop 8) := by
    have e1 : key.take 16 = key.take 8 ++ (key.drop 8).take 8 := by
      have := (List.take_append_drop 8 (key.take 16)).symm
      rwa [List.take_take, List.drop_take] at this
    rw [hR, e1]
    conv => lhs; rw [← List.take_append_drop 8 maskR]
    rw [List.zipWith_append (by rw [List.length_take, hk]; rfl)]
  have l1 : (key.take 8).length = 8 := by rw [List.length_take, hk]; rfl
  have l2 : ((key.drop 8).take 8).length = 8 := by rw [List.length_take, List.length_drop, hk]; rfl
  have b1 := le8_bd (key.take 8) (bytes_take hb _) (by omega)
  have b2 := le8_bd ((key.drop 8).take 8) (bytes_take (bytes_drop hb _) _) (by omega)
  have m1 : le (maskR.take 8) = 1152921487695413247 := by decide
  have m2 : le (maskR.drop 8) = 1152921487695413244 := by decide
  rw [e, le_app, ← le_and _ _ (bytes_take hb _) (bytes_take maskR_bytes _) (by rw [l1]; rfl), ← le_and _ _ (bytes_take (bytes_drop hb _) _) (bytes_drop maskR_bytes _) (by rw [l2]; rfl), m1, m2]
  rw [List.length_zipWith, l1, rOf, rLow, rHigh, u64_and _ _ b1.1 b1.2 (by decide) (by decide), u64_and _ _ b2.1 b2.2 (by decide) (by decide)]
  rfl
theorem and15 : ∀ x : Nat, x < 256 → x &&& 15 = x % 16 := fun x _ => Nat.and_two_pow_sub_one_eq_mod x 4
theorem and255 : ∀ x : Nat, x < 256 → x &&& 255 = x := fun x h => by rw [show (255 : Nat) = 2 ^ 8 - 1 from rfl, Nat.and_two_pow_sub_one_eq_mod]; omega
theorem and252 : ∀ x : Nat, x < 256 → x &&& 252 = x / 4 * 4 := by decide +kernel
theorem mask_3 : ∀ k : Nat, k < 16 → k % 4 = 3 → maskR.getD k 0 = 15 := by decide
theorem mask_0 : ∀ k : Nat, k < 16 → k % 4 = 0 → 0 < k → maskR.getD k 0 = 252 := by decide
theorem mask_12 : ∀ k : Nat, k < 16 → k % 4 = 1 ∨ k % 4 = 2 ∨ k = 0 → maskR.getD k 0 = 255 := by decide
theorem andB15 (x : Int) (h : 0 ≤ x ∧ x < 256) : andB x 15 = x % 16 := by
  unfold andB
  rw [show ((15 : Int).toNat) = 15 from rfl, and15 _ (by omega)]; omega
theorem andB255 (x : Int) (h : 0 ≤ x ∧ x < 256) : andB x 255 = x := by
  unfold andB
  rw [show ((255 : Int).toNat) = 255 from rfl, and255 _ (by omega)]; omega
theorem andB252 (x : Int) (h : 0 ≤ x ∧ x < 256) : andB x 252 = x / 4 * 4 := by
  unfold andB
  rw [show ((252 : Int).toNat) = 252 from rfl, and252 _ (by omega)]; omega
/-- A number more, as part of a list that is known. -/
theorem ownN_next {w wr w1 : World} {v v' : Value} {zs : List Int} {z : Int} {k : Nat} (hk : k < zs.length) (hz : zs.getD k 0 = z)
    (hb : Below w.heap.size w wr) (hown : wr.ownsRow w.heap.size 3 1 v k (i64s (zs.take k)))
    (hown' : w1.ownsRow w.heap.size 3 1 v' (k + 1) (i64s (zs.take k) ++ [.int .i64 z])) (hg : (wr.alloc (.cells #[.int .i64 z] 3)).grownBy w1 v.ownBlock) :
    w1.ownsRow w.heap.size 3 1 v' (k + 1) (i64s (zs.take (k + 1))) ∧ Below w.heap.size w w1 := by
  have hl : (zs.take k).length = k := by rw [List.length_take]; omega
  have R := ownN_more (zs := zs.take k) (z := z) hb (by rw [hl]; exact hown) (by rw [hl]; exact hown') hg
  have e : zs.take k ++ [z] = zs.take (k + 1) := by rw [List.take_succ_eq_append_getElem hk, ← hz]; simp [List.getD, hk]
  rw [e, List.length_take, Nat.min_eq_left (by omega)] at R
  exact R
set_option maxHeartbeats 2000000 in
set_option maxRecDepth 20000 in
theorem half_r (key : List Int) (hk : key.length = 32) (hkb : Bytes key) (w : World) :
    Calls Try.prog 23 #[.agg (u8s key).toArray, .bool false] w fun e w' => ∃ v, e = .returned v ∧ isN (hR key) v w' ∧ Below w.heap.size w w' := by
  have HK0 : Hid (key.length = 32 ∧ Bytes key ∧ (hR key).length = 16 ∧ Bytes (hR key)) := ⟨hk, hkb, hR_length key hk, hR_bytes key hk⟩
  obtain ⟨i0, hi, hz0, hz1, hz2⟩ := info_parts info_int
  clear hk hkb
  go_enter Try.func23, Try.ntmps23
  go_wp2_with (first | (refine wpList_box_new rfl 27 _ rfl (u8s key) rfl ?_; intro w1 b1 s1 l1))
  have HB : Hid (Blk w1 w.heap.size 27 (u8s key) ∧ Below w.heap.size w w1 ∧ w1.heap.size = w.heap.size + 1) := ⟨b1, l1, s1⟩
  clear b1 s1 l1
  go_loopw [5, 6] (fun v i wr => ∃ k : Nat, k ≤ 16 ∧ i = .int .i64 k ∧ wr.ownsRow w1.heap.size 3 1 v k (i64s ((hR key).take k)) ∧ Below w1.heap.size w1 wr) (fun _ i _ => 16 - (intOf i).toNat)
  case atStart => exact ⟨0, Nat.zero_le _, rfl, World.ownsRow_nil _ _ _ _, Below.refl _ _⟩
  case round =>
    obtain ⟨k, hk, rfl, hown, hbel⟩ := hrel
    by_cases hlt : k < 16
    · have hsz := hbel.size
      have i1 : (0 : Int) ≤ (k : Int) := by omega
      have i2 : (k : Int) < 16 := by omega
      have c1 : wr.cell? ⟨w.heap.size, k, none⟩ = some (.int .u8 (key.getD k 0)) := u8s_cell (HB.out.1.later hbel HB.out.1.lt) k (by rw [HK0.out.1]; omega)
      have bD := HK0.out.2.1.at k (by rw [HK0.out.1]; omega)
      have hat := hR_at key HK0.out.1 k hlt
      obtain ⟨D, hD⟩ : ∃ D, key.getD k 0 = D := ⟨_, rfl⟩
      rw [hD] at c1 bD hat
      have v1 : IntKind.i64.wrap D = D := by rw [IntKind.wrap_i64]; omega
      obtain ⟨R, hR'⟩ : ∃ R, k % 4 = R := ⟨_, rfl⟩
      have n1 : (k : Int).tmod 4 = (R : Int) := by rw [Int.tmod_eq_emod_of_nonneg (by omega)]; omega
      have n2 : (k : Int) % 4 = (R : Int) := by omega
      have q16 : D.tmod 16 = D % 16 := Int.tmod_eq_emod_of_nonneg bD.1
      have q4 : D.tdiv 4 = D / 4 := Int.tdiv_eq_ediv_of_nonneg bD.1
      have v2 : IntKind.i64.wrap (D / 4 * 4) = D / 4 * 4 := by rw [IntKind.wrap_i64]; omega
      clear hD
      rcases (by omega : R = 3 ∨ (R = 0 ∧ 0 < k) ∨ (R = 0 ∧ k = 0) ∨ R = 1 ∨ R = 2) with rfl | ⟨rfl, h0⟩ | ⟨rfl, rfl⟩ | rfl | rfl
      · rw [mask_3 k hlt hR', andB15 D bD] at hat
        have HK : Hid (k < (hR key).length ∧ (hR key).getD k 0 = (D % 16)) := ⟨by rw [HK0.out.2.2.1]; exact hlt, hat⟩
        have n5 : (k : Int).tmod 4 = 3 := n1
        clear hat hR'
        go_wp2_with (at_builtin; refine wpList_append_own _ rfl _ _ 66 rfl w1.heap.size 3 i0 (.int .i64 0) 1 8 Try.underlying66 hi hz0 hz1 hz2 rfl (by decide) _ _ _ rfl (hown.alloc _) ⟨wr.heap.size, 0, none⟩ 1 1 [.int .i64 (D % 16)] rfl rfl ?c1 ?c2 ?c3 ?c4 ?c5 ?_)
        try case c1 => exact one_new _ _ _
        case c2 => first | rfl | (intro u hu; simp at hu; subst hu; rfl)
        case c3 => unfold maxLen; omega
        case c4 => omega
        case c5 => first | omega | (simp; omega)
        · intro v' w2 hown' hgrow _
          have R := ownN_next (w := w1) HK.out.1 HK.out.2 hbel hown hown' hgrow
          clear hown' hgrow hown hbel c1
          go_wp2_with fail
          exact ⟨⟨k + 1, by omega, by go_num, R.1, R.2⟩, by simp [intOf]; omega⟩
      · rw [mask_0 k hlt hR' h0, andB252 D bD] at hat
        have HK : Hid (k < (hR key).length ∧ (hR key).getD k 0 = (D / 4 * 4)) := ⟨by rw [HK0.out.2.2.1]; exact hlt, hat⟩
        have n5 : (k : Int).tmod 4 = 0 := n1
        have i3 : (0 : Int) < (k : Int) := by omega
        clear hat hR'
        go_wp2_with (at_builtin; refine wpList_append_own _ rfl _ _ 66 rfl w1.heap.size 3 i0 (.int .i64 0) 1 8 Try.underlying66 hi hz0 hz1 hz2 rfl (by decide) _ _ _ rfl (hown.alloc _) ⟨wr.heap.size, 0, none⟩ 1 1 [.int .i64 (D / 4 * 4)] rfl rfl ?c1 ?c2 ?c3 ?c4 ?c5 ?_)
        try case c1 => exact one_new _ _ _
        case c2 => first | rfl | (intro u hu; simp at hu; subst hu; rfl)
        case c3 => unfold maxLen; omega
        case c4 => omega
        case c5 => first | omega | (simp; omega)
        · intro v' w2 hown' hgrow _
          have R := ownN_next (w := w1) HK.out.1 HK.out.2 hbel hown hown' hgrow
          clear hown' hgrow hown hbel c1
          go_wp2_with fail
          exact ⟨⟨k + 1, by omega, by go_num, R.1, R.2⟩, by simp [intOf]; omega⟩
      · rw [mask_12 0 hlt (.inr (.inr rfl)), andB255 D bD] at hat
        have HK : Hid (0 < (hR key).length ∧ (hR key).getD 0 0 = D) := ⟨by rw [HK0.out.2.2.1]; exact hlt, hat⟩
        clear hat hR'
        go_wp2_with (at_builtin; refine wpList_append_own _ rfl _ _ 66 rfl w1.heap.size 3 i0 (.int .i64 0) 1 8 Try.underlying66 hi hz0 hz1 hz2 rfl (by decide) _ _ _ rfl (hown.alloc _) ⟨wr.heap.size, 0, none⟩ 1 1 [.int .i64 D] rfl rfl ?c1 ?c2 ?c3 ?c4 ?c5 ?_)
        try case c1 => exact one_new _ _ _
        case c2 => first | rfl | (intro u hu; simp at hu; subst hu; rfl)
        case c3 => unfold maxLen; omega
        case c4 => omega
        case c5 => first | omega | (simp; omega)
        · intro v' w2 hown' hgrow _
          have R := ownN_next (w := w1) HK.out.1 HK.out.2 hbel hown hown' hgrow
          clear hown' hgrow hown hbel c1
          go_wp2_with fail
          exact ⟨⟨0 + 1, by omega, by go_num, R.1, R.2⟩, by simp [intOf]⟩
      · rw [mask_12 k hlt (.inl hR'), andB255 D bD] at hat
        have HK : Hid (k < (hR key).length ∧ (hR key).getD k 0 = D) := ⟨by rw [HK0.out.2.2.1]; exact hlt, hat⟩
        have n5 : (k : Int).tmod 4 = 1 := n1
        clear hat hR'
        go_wp2_with (at_builtin; refine wpList_append_own _ rfl _ _ 66 rfl w1.heap.size 3 i0 (.int .i64 0) 1 8 Try.underlying66 hi hz0 hz1 hz2 rfl (by decide) _ _ _ rfl (hown.alloc _) ⟨wr.heap.size, 0, none⟩ 1 1 [.int .i64 D] rfl rfl ?c1 ?c2 ?c3 ?c4 ?c5 ?_)
        try case c1 => exact one_new _ _ _
        case c2 => first | rfl | (intro u hu; simp at hu; subst hu; rfl)
        case c3 => unfold maxLen; omega
        case c4 => omega
        case c5 => first | omega | (simp; omega)
        · intro v' w2 hown' hgrow _
          have R := ownN_next (w := w1) HK.out.1 HK.out.2 hbel hown hown' hgrow
          clear hown' hgrow hown hbel c1
          go_wp2_with fail
          exact ⟨⟨k + 1, by omega, by go_num, R.1, R.2⟩, by simp [intOf]; omega⟩
      · rw [mask_12 k hlt (.inr (.inl hR')), andB255 D bD] at hat
        have HK : Hid (k < (hR key).length ∧ (hR key).getD k 0 = D) := ⟨by rw [HK0.out.2.2.1]; exact hlt, hat⟩
        have n5 : (k : Int).tmod 4 = 2 := n1
        clear hat hR'
        go_wp2_with (at_builtin; refine wpList_append_own _ rfl _ _ 66 rfl w1.heap.size 3 i0 (.int .i64 0) 1 8 Try.underlying66 hi hz0 hz1 hz2 rfl (by decide) _ _ _ rfl (hown.alloc _) ⟨wr.heap.size, 0, none⟩ 1 1 [.int .i64 D] rfl rfl ?c1 ?c2 ?c3 ?c4 ?c5 ?_)
        try case c1 => exact one_new _ _ _
        case c2 => first | rfl | (intro u hu; simp at hu; subst hu; rfl)
        case c3 => unfold maxLen; omega
        case c4 => omega
        case c5 => first | omega | (simp; omega)
        · intro v' w2 hown' hgrow _
          have R := ownN_next (w := w1) HK.out.1 HK.out.2 hbel hown hown' hgrow
          clear hown' hgrow hown hbel c1
          go_wp2_with fail
          exact ⟨⟨k + 1, by omega, by go_num, R.1, R.2⟩, by simp [intOf]; omega⟩
    · obtain rfl : k = 16 := by omega
      rw [List.take_of_length_le (by rw [HK0.out.2.2.1]; exact Nat.le_refl _)] at hown
      have HO : Hid (isN (hR key) u5 wr ∧ Below w.heap.size w wr) := ⟨isN_own HK0.out.2.2.1 (by decide) (small_of_bytes HK0.out.2.2.2) hown, below_chain HB.out.2.1 hbel HB.out.2.1.size⟩
      clear hown hbel
      go_wp2_with fail
      go_ret
      exact ⟨_, rfl, HO.out⟩
set_option maxHeartbeats 2000000 in
set_option maxRecDepth 20000 in
theorem half_s (key : List Int) (hk : key.length = 32) (hkb : Bytes key) (w : World) :
    Calls Try.prog 23 #[.agg (u8s key).toArray, .bool true] w fun e w' => ∃ v, e = .returned v ∧ isN ((key.drop 16).take 16) v w' ∧ Below w.heap.size w w' := by
  have HK0 : Hid (key.length = 32 ∧ Bytes key ∧ ((key.drop 16).take 16).length = 16 ∧ Bytes ((key.drop 16).take 16)) := ⟨hk, hkb, by rw [List.length_take, List.length_drop, hk]; rfl, bytes_take (bytes_drop hkb _) _⟩
  obtain ⟨i0, hi, hz0, hz1, hz2⟩ := info_parts info_int
  clear hk hkb
  go_enter Try.func23, Try.ntmps23
  go_wp2_with (first | (refine wpList_box_new rfl 27 _ rfl (u8s key) rfl ?_; intro w1 b1 s1 l1))
  have HB : Hid (Blk w1 w.heap.size 27 (u8s key) ∧ Below w.heap.size w w1 ∧ w1.heap.size = w.heap.size + 1) := ⟨b1, l1, s1⟩
  clear b1 s1 l1
  go_loopw [5, 6] (fun v i wr => ∃ k : Nat, k ≤ 16 ∧ i = .int .i64 k ∧ wr.ownsRow w1.heap.size 3 1 v k (i64s (((key.drop 16).take 16).take k)) ∧ Below w1.heap.size w1 wr) (fun _ i _ => 16 - (intOf i).toNat)
  case atStart => exact ⟨0, Nat.zero_le _, rfl, World.ownsRow_nil _ _ _ _, Below.refl _ _⟩
  case round =>
    obtain ⟨k, hk, rfl, hown, hbel⟩ := hrel
    by_cases hlt : k < 16
    · have hsz := hbel.size
      have i1 : (0 : Int) ≤ (k : Int) := by omega
      have i2 : (k : Int) < 16 := by omega
      have c0 : wr.cell? ⟨w.heap.size, k, none⟩ = some (.int .u8 (key.getD k 0)) := u8s_cell (HB.out.1.later hbel HB.out.1.lt) k (by rw [HK0.out.1]; omega)
      have c1 : wr.cell? ⟨w.heap.size, 16 + k, none⟩ = some (.int .u8 (key.getD (16 + k) 0)) := u8s_cell (HB.out.1.later hbel HB.out.1.lt) (16 + k) (by rw [HK0.out.1]; omega)
      have bC := HK0.out.2.1.at k (by rw [HK0.out.1]; omega)
      have bD := HK0.out.2.1.at (16 + k) (by rw [HK0.out.1]; omega)
      obtain ⟨C, hC⟩ : ∃ C, key.getD k 0 = C := ⟨_, rfl⟩
      have HK : Hid (k < ((key.drop 16).take 16).length ∧ ((key.drop 16).take 16).getD k 0 = key.getD (16 + k) 0) := ⟨by rw [HK0.out.2.2.1]; exact hlt, by simp [List.getD, List.getElem?_take, hlt, List.getElem?_drop]⟩
      obtain ⟨D, hD⟩ : ∃ D, key.getD (16 + k) 0 = D := ⟨_, rfl⟩
      rw [hC] at c0 bC
      rw [hD] at c1 bD HK
      have v0 : IntKind.i64.wrap C = C := by rw [IntKind.wrap_i64]; omega
      have v1 : IntKind.i64.wrap D = D := by rw [IntKind.wrap_i64]; omega
      have i3 : (16 : Int) + (k : Int) < 32 := by omega
      have i4 : (0 : Int) ≤ 16 + (k : Int) := by omega
      clear hD hC
      go_wp2_with (at_builtin; refine wpList_append_own _ rfl _ _ 66 rfl w1.heap.size 3 i0 (.int .i64 0) 1 8 Try.underlying66 hi hz0 hz1 hz2 rfl (by decide) _ _ _ rfl (hown.alloc _) ⟨wr.heap.size, 0, none⟩ 1 1 [.int .i64 D] rfl rfl ?c1 ?c2 ?c3 ?c4 ?c5 ?_)
      try case c1 => exact one_new _ _ _
      case c2 => first | rfl | (intro u hu; simp at hu; subst hu; rfl)
      case c3 => unfold maxLen; omega
      case c4 => omega
      case c5 => first | omega | (simp; omega)
      · intro v' w2 hown' hgrow _
        have R := ownN_next (w := w1) HK.out.1 HK.out.2 hbel hown hown' hgrow
        clear hown' hgrow hown hbel c1
        go_wp2_with fail
        exact ⟨⟨k + 1, by omega, by go_num, R.1, R.2⟩, by simp [intOf]; omega⟩
    · obtain rfl : k = 16 := by omega
      rw [List.take_of_length_le (by rw [HK0.out.2.2.1]; exact Nat.le_refl _)] at hown
      have HO : Hid (isN ((key.drop 16).take 16) u5 wr ∧ Below w.heap.size w wr) := ⟨isN_own HK0.out.2.2.1 (by decide) (small_of_bytes HK0.out.2.2.2) hown, below_chain HB.out.2.1 hbel HB.out.2.1.size⟩
      clear hown hbel
      go_wp2_with fail
      go_ret
      exact ⟨_, rfl, HO.out⟩
end Go.Proofs.Ytlaegbabpiepeaa
