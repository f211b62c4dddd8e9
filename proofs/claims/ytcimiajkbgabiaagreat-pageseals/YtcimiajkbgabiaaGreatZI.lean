/- Joined texts: RTFold RTHalf RTSum RLTag RLText. -/
import Derived.Test.YtcimiajkbgabiaaGreatZH
import Derived.Test.YtcimiajkbgabiaaGreatZD
import Derived.Test.YtcimiajkbgabiaaGreatZG
import Derived.Test.YtcimiajkbgabiaaGreatZE
import Derived.Test.YtcimiajkbgabiaaGreatZF
namespace Go.Proofs.YtcimiajkbgabiaaGreat
open Go.RowKit
set_option linter.unusedVariables false
set_option linter.unusedSimpArgs false

/-- The numbers of a slice, read. -/
def rdN (w : World) : Value → List Int
  | .slice (some a) n _ => (List.range n).map fun i => match w.cell? (a.add i) with
    | some (.int _ z) => z
    | _ => 0
  | _ => []
theorem rdN_is {w : World} {ao : Option Addr} {n c : Nat} {zs : List Int} (h : SeenN w ao n zs) : rdN w (.slice ao n c) = zs := by
  rcases Nat.eq_zero_or_pos n with rfl | h0
  · have e : zs = [] := List.length_eq_zero_iff.1 h.len
    subst e
    cases ao <;> rfl
  · obtain ⟨b, o, rfl, _, hc⟩ := h.cells h0
    apply List.ext_getElem
    · simp [rdN, h.len]
    · intro i h1 h2
      have hi : i < n := by rw [← h.len]; exact h2
      simp only [rdN, List.getElem_map, List.getElem_range]
      rw [show (⟨b, o, none⟩ : Addr).add i = ⟨b, o + i, none⟩ from Addr.add_mid b o i, hc i hi]
      simp [List.getD, h2]
theorem five_new (w : World) : SeenN (w.alloc (.cells #[.int .i64 5] 3)) (some ⟨w.heap.size, 0, none⟩) 1 [5] := by
  have h : RowN (w.alloc (.cells #[.int .i64 5] 3)) w.heap.size 1 [5] := ⟨[], heap_alloc_new w _, rfl⟩
  exact h.seen (by decide) (fun d hd => by simp at hd; subst hd; decide)
theorem b5n : Bytes [5] := fun z hz => by simp at hz; subst hz; decide
theorem le5 : le [5] = 5 := rfl
set_option maxHeartbeats 4000000 in
set_option maxRecDepth 20000 in
theorem fold_any (ao : Option Addr) (n c : Nat) (ds : List Int) (w : World) (hx : SeenN w ao n ds) (hb : Bytes ds) (hn : n ≤ 90) :
    Calls Tryz.prog 93 #[.slice ao n c] w fun e w' => ∃ v, e = .returned v ∧ ∃ es, isN es v w' ∧ Bytes es ∧ le es = le ds % prime ∧ es.length ≤ 17 ∧ Below w.heap.size w w' := by
  have HX : Hid (SeenN w ao n ds ∧ Bytes ds ∧ ds.length = n) := ⟨hx, hb, hx.len⟩
  clear hx hb
  go_enter Tryz.func93, Tryz.ntmps93
  go_wp2_with fail
  refine (part_high ao n c ds w HX.out.1 HX.out.2.1).mono ?_
  rintro e w1 ⟨v, rfl, hv, l1⟩
  have H1 : Hid (isN (highL (ds.drop 16)) v w1 ∧ Below w.heap.size w w1 ∧ SeenN w1 ao n ds) := ⟨hv, l1, HX.out.1.later l1 (Nat.le_refl _)⟩
  clear hv l1
  go_wp2_with fail
  go_loopw [0, 3] (fun v0 v3 wr => ∃ (es : List Int) (a0 a3 : Option Addr) (n0 c0 n3 c3 : Nat), v0 = .slice a0 n0 c0 ∧ v3 = .slice a3 n3 c3 ∧ SeenN wr a0 n0 es ∧ SeenN wr a3 n3 (highL (es.drop 16)) ∧ Bytes es ∧ le es % prime = le ds % prime ∧ n0 ≤ 90 ∧ Below w.heap.size w wr) (fun v0 _ wr => (le (rdN wr v0)).toNat)
  case atStart =>
    obtain ⟨a3, n3, c3, rfl, s3⟩ := H1.out.1
    exact ⟨ds, ao, a3, n, c, n3, c3, rfl, rfl, H1.out.2.2, s3, HX.out.2.1, rfl, hn, H1.out.2.1⟩
  case round =>
    obtain ⟨es, a0, a3, n0, c0, n3, c3, rfl, rfl, s0, s3, hbe, hmod, hn0, hbel⟩ := hrel
    have hhb : Bytes (highL (es.drop 16)) := highL_bytes _ (bytes_drop hbe _)
    have hhl := high_le es hbe
    have hlo := lowL_le es hbe
    have hnn := le_nonneg (bytes_nn hbe)
    have hn3 : n3 = n0 - 16 := by rw [← s3.len, highL_length, List.length_drop, s0.len]
    have HR : Hid (rdN wr (.slice a0 n0 c0) = es) := rdN_is s0
    have HS : Hid (SeenN wr a0 n0 es ∧ SeenN wr a3 n3 (highL (es.drop 16)) ∧ Bytes es ∧ le es % prime = le ds % prime ∧ Below w.heap.size w wr ∧ Bytes (highL (es.drop 16)) ∧ n3 = n0 - 16) := ⟨s0, s3, hbe, hmod, hbel, hhb, hn3⟩
    obtain ⟨V, hV⟩ : ∃ V, le es = V := ⟨_, rfl⟩
    obtain ⟨U, hU⟩ : ∃ U, le (highL (es.drop 16)) = U := ⟨_, rfl⟩
    have HU : Hid (le es = V ∧ le (highL (es.drop 16)) = U ∧ le (lowL es) = V % 1361129467683753853853498429727072845824 ∧ U = V / 1361129467683753853853498429727072845824 ∧ 0 ≤ V) := ⟨hV, hU, by rw [hlo, hV], by rw [← hU, hhl, hV], by rw [← hV]; exact hnn⟩
    have hno := nought_any a3 n3 c3 _ wr s3 hhb
    rw [hU] at hno
    clear s0 s3 hbe hmod hbel hhb hhl hlo hnn hV hU hn3
    by_cases h0 : U = 0
    · rw [show decide (U = 0) = true from decide_eq_true h0] at hno
      go_wp2_with fail
      refine hno.mono ?_
      rintro e w' ⟨rfl, rfl⟩
      clear hno
      go_wp2_with fail
      have s5 := five_new wr
      have l5 : Below wr.heap.size wr (wr.alloc (.cells #[.int .i64 5] 3)) := (Below.refl _ _).alloc (Nat.le_refl _) _
      obtain ⟨w5, hw5⟩ : ∃ W, wr.alloc (.cells #[.int .i64 5] 3) = W := ⟨_, rfl⟩
      rw [hw5] at s5 l5 ⊢
      refine (add_any a0 (some ⟨wr.heap.size, 0, none⟩) n0 1 c0 1 es [5] w5 (HS.out.1.later l5 (Nat.le_refl _)) s5 HS.out.2.2.1 b5n (by omega) (by decide)).mono ?_
      rintro e w6 ⟨v6, rfl, ms, hms⟩
      obtain ⟨a6, n6, c6, rfl, s6⟩ := hms.1
      have H6 : Hid (SeenN w6 a6 n6 ms ∧ Bytes ms ∧ le ms = V + 5 ∧ Below w.heap.size w w6 ∧ SeenN w6 a0 n0 es) := by
        obtain ⟨_, h2, h3, _, _, _, h7⟩ := hms
        exact ⟨s6, h2, by rw [h3, HU.out.1, le5], below_chain (below_chain HS.out.2.2.2.2.1 l5 HS.out.2.2.2.2.1.size) h7 (Nat.le_trans HS.out.2.2.2.2.1.size l5.size), (HS.out.1.later l5 (Nat.le_refl _)).later h7 (Nat.le_refl _)⟩
      clear hms s6 s5 l5 hw5
      go_wp2_with fail
      refine (part_high a6 n6 c6 ms w6 H6.out.1 H6.out.2.1).mono ?_
      rintro e w7 ⟨v7, rfl, hv7, l7⟩
      obtain ⟨a7, n7, c7, rfl, s7⟩ := hv7
      have H7 : Hid (SeenN w7 a6 n6 ms ∧ Below w.heap.size w w7 ∧ SeenN w7 a0 n0 es) := ⟨H6.out.1.later l7 (Nat.le_refl _), below_chain H6.out.2.2.2.1 l7 H6.out.2.2.2.1.size, H6.out.2.2.2.2.later l7 (Nat.le_refl _)⟩
      have hn7 := nought_any a7 n7 c7 _ w7 s7 (highL_bytes _ (bytes_drop H6.out.2.1 _))
      rw [high_le ms H6.out.2.1, H6.out.2.2.1] at hn7
      have hV0 := HU.out.2.2.2.2
      have hV1 : V < 1361129467683753853853498429727072845824 := by have := HU.out.2.2.2.1; omega
      have hlm := last_mod V hV0 hV1
      clear l7 s7
      by_cases hbig : 1361129467683753853853498429727072845824 ≤ V + 5
      · rw [show decide ((V + 5) / 1361129467683753853853498429727072845824 = 0) = false from decide_eq_false (by omega)] at hn7
        rw [if_pos hbig] at hlm
        have HM : Hid (V % prime = (V + 5) % 1361129467683753853853498429727072845824) := hlm
        clear hlm hbig h0
        go_wp2_with fail
        refine hn7.mono ?_
        rintro e w' ⟨rfl, rfl⟩
        clear hn7
        go_wp2_with fail
        refine (part_low a6 n6 c6 ms w7 H7.out.1 H6.out.2.1).mono ?_
        rintro e w8 ⟨v8, rfl, hv8, l8⟩
        have H8 : Hid (isN (lowL ms) v8 w8 ∧ Below w.heap.size w w8) := ⟨hv8, below_chain H7.out.2.1 l8 H7.out.2.1.size⟩
        clear hv8 l8
        go_wp2_with fail
        go_ret
        exact ⟨_, rfl, lowL ms, H8.out.1, lowL_bytes _ H6.out.2.1, by rw [lowL_le _ H6.out.2.1, H6.out.2.2.1, ← HM.out, ← HS.out.2.2.2.1, HU.out.1], lowL_length _, H8.out.2⟩
      · rw [show decide ((V + 5) / 1361129467683753853853498429727072845824 = 0) = true from decide_eq_true (by omega)] at hn7
        rw [if_neg hbig] at hlm
        have HM : Hid (V % prime = V ∧ V % 1361129467683753853853498429727072845824 = V) := ⟨hlm, by omega⟩
        clear hlm hbig h0
        go_wp2_with fail
        refine hn7.mono ?_
        rintro e w' ⟨rfl, rfl⟩
        clear hn7
        go_wp2_with fail
        refine (part_low a0 n0 c0 es w7 H7.out.2.2 HS.out.2.2.1).mono ?_
        rintro e w8 ⟨v8, rfl, hv8, l8⟩
        have H8 : Hid (isN (lowL es) v8 w8 ∧ Below w.heap.size w w8) := ⟨hv8, below_chain H7.out.2.1 l8 H7.out.2.1.size⟩
        clear hv8 l8
        go_wp2_with fail
        go_ret
        exact ⟨_, rfl, lowL es, H8.out.1, lowL_bytes _ HS.out.2.2.1, by rw [HU.out.2.2.1, HM.out.2, ← HS.out.2.2.2.1, HU.out.1, HM.out.1], lowL_length _, H8.out.2⟩
    · rw [show decide (U = 0) = false from decide_eq_false h0] at hno
      have HZ : Hid (U ≠ 0) := h0
      clear h0
      go_wp2_with fail
      refine hno.mono ?_
      rintro e w' ⟨rfl, rfl⟩
      clear hno
      go_wp2_with fail
      refine (part_low a0 n0 c0 es wr HS.out.1 HS.out.2.2.1).mono ?_
      rintro e w5 ⟨v5, rfl, hv5, l5⟩
      obtain ⟨a5, n5, c5, rfl, s5⟩ := hv5
      have hn5 : n5 ≤ 17 := by rw [← s5.len]; exact lowL_length _
      have H5 : Hid (SeenN w5 a5 n5 (lowL es) ∧ Below w.heap.size w w5 ∧ SeenN w5 a3 n3 (highL (es.drop 16))) := ⟨s5, below_chain HS.out.2.2.2.2.1 l5 HS.out.2.2.2.2.1.size, HS.out.2.1.later l5 (Nat.le_refl _)⟩
      clear s5 l5
      go_wp2_with fail
      have s6 := five_new w5
      have l6 : Below w5.heap.size w5 (w5.alloc (.cells #[.int .i64 5] 3)) := (Below.refl _ _).alloc (Nat.le_refl _) _
      obtain ⟨w6, hw6⟩ : ∃ W, w5.alloc (.cells #[.int .i64 5] 3) = W := ⟨_, rfl⟩
      rw [hw6] at s6 l6 ⊢
      refine (mul_any a3 (some ⟨w5.heap.size, 0, none⟩) n3 1 c3 1 _ [5] w6 (H5.out.2.2.later l6 (Nat.le_refl _)) s6 HS.out.2.2.2.2.2.1 b5n (by have := HS.out.2.2.2.2.2.2; omega) (by decide)).mono ?_
      rintro e w7 ⟨v7, rfl, ps, hps⟩
      obtain ⟨a7, n7, c7, rfl, s7⟩ := hps.1
      have hn7 : n7 ≤ n3 + 7 := by have := hps.2.2.2.2.1; rw [s7.len] at this; omega
      have H7 : Hid (SeenN w7 a7 n7 ps ∧ Bytes ps ∧ le ps = U * 5 ∧ Below w.heap.size w w7 ∧ SeenN w7 a5 n5 (lowL es)) := by
        obtain ⟨_, h2, h3, _, _, h6⟩ := hps
        exact ⟨s7, h2, by rw [h3, HU.out.2.1, le5], below_chain (below_chain H5.out.2.1 l6 H5.out.2.1.size) h6 (Nat.le_trans H5.out.2.1.size l6.size), (H5.out.1.later l6 (Nat.le_refl _)).later h6 (Nat.le_refl _)⟩
      clear hps s7 s6 l6 hw6
      go_wp2_with fail
      refine (add_any a5 a7 n5 n7 c5 c7 (lowL es) ps w7 H7.out.2.2.2.2 H7.out.1 (lowL_bytes _ HS.out.2.2.1) H7.out.2.1 (by omega) (by have := HS.out.2.2.2.2.2.2; omega)).mono ?_
      rintro e w8 ⟨v8, rfl, qs, hqs⟩
      obtain ⟨a8, n8, c8, rfl, s8⟩ := hqs.1
      have hn8 : n8 ≤ 90 := by
        have h := hqs.2.2.2.2.2.1
        rw [s8.len] at h
        have h2 := HS.out.2.2.2.2.2.2
        have h3 : Nat.max n5 n7 ≤ 84 := Nat.max_le.2 ⟨by omega, by omega⟩
        omega
      have H8 : Hid (SeenN w8 a8 n8 qs ∧ Bytes qs ∧ le qs = V % 1361129467683753853853498429727072845824 + U * 5 ∧ Below w.heap.size w w8) := by
        obtain ⟨_, h2, h3, _, _, _, h7⟩ := hqs
        exact ⟨s8, h2, by rw [h3, HU.out.2.2.1, H7.out.2.2.1], below_chain H7.out.2.2.2.1 h7 H7.out.2.2.2.1.size⟩
      clear hqs s8
      go_wp2_with fail
      refine (part_high a8 n8 c8 qs w8 H8.out.1 H8.out.2.1).mono ?_
      rintro e w9 ⟨v9, rfl, hv9, l9⟩
      obtain ⟨a9, n9, c9, rfl, s9⟩ := hv9
      have H9 : Hid (SeenN w9 a8 n8 qs ∧ SeenN w9 a9 n9 (highL (qs.drop 16)) ∧ Below w.heap.size w w9) := ⟨H8.out.1.later l9 (Nat.le_refl _), s9, below_chain H8.out.2.2.2 l9 H8.out.2.2.2.size⟩
      clear l9 s9
      go_wp2_with fail
      have hU1 := HU.out.2.2.2.1
      have hV0 := HU.out.2.2.2.2
      have hz := HZ.out
      refine ⟨⟨qs, a8, a9, n8, c8, n9, c9, rfl, rfl, H9.out.1, H9.out.2.1, H8.out.2.1, ?_, hn8, H9.out.2.2⟩, ?_⟩
      · rw [H8.out.2.2.1, ← HS.out.2.2.2.1, HU.out.1, hU1]
        unfold prime; omega
      · show (le (rdN w9 (.slice a8 n8 c8))).toNat < (le (rdN wr (.slice a0 n0 c0))).toNat
        rw [rdN_is H9.out.1, HR.out, H8.out.2.2.1, HU.out.1]
        omega
end Go.Proofs.YtcimiajkbgabiaaGreat

namespace Go.Proofs.YtcimiajkbgabiaaGreat
open Go.RowKit
set_option linter.unusedVariables false
set_option linter.unusedSimpArgs false

def andB (x y : Int) : Int := ((x.toNat &&& y.toNat : Nat) : Int)
theorem andB_bd (x y : Int) (hy : 0 ≤ y ∧ y < 256) : 0 ≤ andB x y ∧ andB x y < 256 := by
  have : x.toNat &&& y.toNat ≤ y.toNat := Nat.and_le_right
  unfold andB; omega
theorem and_split (a b c d : Nat) (ha : a < 256) (hc : c < 256) : (a + 256 * b) &&& (c + 256 * d) = (a &&& c) + 256 * (b &&& d) := by
  have e1 : a + 256 * b = 2 ^ 8 * b + a := by omega
  have e2 : c + 256 * d = 2 ^ 8 * d + c := by omega
  have h3 : a &&& c < 2 ^ 8 := Nat.lt_of_le_of_lt Nat.and_le_left (by omega)
  have e3 : (a &&& c) + 256 * (b &&& d) = 2 ^ 8 * (b &&& d) + (a &&& c) := by omega
  rw [e1, e2, e3]
  apply Nat.eq_of_testBit_eq
  intro j
  rw [Nat.testBit_and, Nat.testBit_two_pow_mul_add _ (by omega), Nat.testBit_two_pow_mul_add _ (by omega), Nat.testBit_two_pow_mul_add _ h3]
  split
  · rw [Nat.testBit_and]
  · rw [Nat.testBit_and]
theorem le_and : ∀ (xs ys : List Int), Bytes xs → Bytes ys → xs.length = ys.length → andB (le xs) (le ys) = le (List.zipWith andB xs ys)
  | [], [], _, _, _ => rfl
  | x :: xs, y :: ys, hx, hy, hl => by
    have h1 := hx x (by simp)
    have h2 := hy y (by simp)
    have b1 : Bytes xs := fun z hz => hx z (by simp [hz])
    have b2 : Bytes ys := fun z hz => hy z (by simp [hz])
    have ih := le_and xs ys b1 b2 (by simpa using hl)
    have n1 := le_nonneg (bytes_nn b1)
    have n2 := le_nonneg (bytes_nn b2)
    rw [List.zipWith_cons_cons, le, le, le, ← ih]
    obtain ⟨a, rfl⟩ := Int.eq_ofNat_of_zero_le h1.1
    obtain ⟨c, rfl⟩ := Int.eq_ofNat_of_zero_le h2.1
    obtain ⟨b, hb⟩ := Int.eq_ofNat_of_zero_le n1
    obtain ⟨d, hd⟩ := Int.eq_ofNat_of_zero_le n2
    rw [hb, hd]
    unfold andB
    rw [show ((a : Int) + 256 * (b : Int)).toNat = a + 256 * b by omega, show ((c : Int) + 256 * (d : Int)).toNat = c + 256 * d by omega, and_split a b c d (by omega) (by omega)]
    simp only [Int.toNat_natCast]
    omega
def maskR : List Int := [255, 255, 255, 15, 252, 255, 255, 15, 252, 255, 255, 15, 252, 255, 255, 15]
theorem maskR_bytes : Bytes maskR := by unfold Bytes maskR; decide
def hR (key : List Int) : List Int := List.zipWith andB (key.take 16) maskR
theorem hR_length (key : List Int) (hk : key.length = 32) : (hR key).length = 16 := by simp [hR, maskR, hk]
theorem hR_at (key : List Int) (hk : key.length = 32) (k : Nat) (h : k < 16) : (hR key).getD k 0 = andB (key.getD k 0) (maskR.getD k 0) := by
  have h2 : k < maskR.length := h
  have h3 : k < (key.take 16).length := by rw [List.length_take, hk]; exact h
  simp [hR, List.getD, List.getElem?_zipWith, List.getElem?_take, h, show k < key.length by omega, h2]
theorem hR_bytes (key : List Int) (hk : key.length = 32) : Bytes (hR key) := by
  intro z hz
  obtain ⟨i, hi, rfl⟩ := List.getElem_of_mem hz
  have h16 : i < 16 := by rw [← hR_length key hk]; exact hi
  have e := hR_at key hk i h16
  have e2 : (hR key).getD i 0 = (hR key)[i] := by simp [List.getD, hi]
  rw [← e2, e]
  exact andB_bd _ _ (maskR_bytes.at i h16)
theorem hR_le (key : List Int) (hk : key.length = 32) (hb : Bytes key) : le (hR key) = rOf key := by
  have e : hR key = List.zipWith andB (key.take 8) (maskR.take 8) ++ List.zipWith andB ((key.drop 8).take 8) (maskR.drop 8) := by
    have e1 : key.take 16 = key.take 8 ++ (key.drop 8).take 8 := by
      have := (List.take_append_drop 8 (key.take 16)).symm
      rwa [List.take_take, List.drop_take] at this
    rw [hR, e1]
    conv => lhs; rw [← List.take_append_drop 8 maskR]
    rw [List.zipWith_append (by rw [List.length_take, hk]; rfl)]
  have l1 : (key.take 8).length = 8 := by rw [List.length_take, hk]; rfl
  have l2 : ((key.drop 8).take 8).length = 8 := by rw [List.length_take, List.length_drop, hk]; rfl
  have b1 := le8_bd (key.take 8) (bytes_take hb _) (by omega)
  have b2 := le8_bd ((key.drop 8).take 8) (bytes_take (bytes_drop hb _) _) (by omega)
  have m1 : le (maskR.take 8) = 1152921487695413247 := by decide
  have m2 : le (maskR.drop 8) = 1152921487695413244 := by decide
  rw [e, le_app, ← le_and _ _ (bytes_take hb _) (bytes_take maskR_bytes _) (by rw [l1]; rfl), ← le_and _ _ (bytes_take (bytes_drop hb _) _) (bytes_drop maskR_bytes _) (by rw [l2]; rfl), m1, m2]
  rw [List.length_zipWith, l1, rOf, rLow, rHigh, u64_and _ _ b1.1 b1.2 (by decide) (by decide), u64_and _ _ b2.1 b2.2 (by decide) (by decide)]
  rfl
theorem and15 : ∀ x : Nat, x < 256 → x &&& 15 = x % 16 := fun x _ => Nat.and_two_pow_sub_one_eq_mod x 4
theorem and255 : ∀ x : Nat, x < 256 → x &&& 255 = x := fun x h => by rw [show (255 : Nat) = 2 ^ 8 - 1 from rfl, Nat.and_two_pow_sub_one_eq_mod]; omega
theorem and252 : ∀ x : Nat, x < 256 → x &&& 252 = x / 4 * 4 := by decide +kernel
theorem mask_3 : ∀ k : Nat, k < 16 → k % 4 = 3 → maskR.getD k 0 = 15 := by decide
theorem mask_0 : ∀ k : Nat, k < 16 → k % 4 = 0 → 0 < k → maskR.getD k 0 = 252 := by decide
theorem mask_12 : ∀ k : Nat, k < 16 → k % 4 = 1 ∨ k % 4 = 2 ∨ k = 0 → maskR.getD k 0 = 255 := by decide
theorem andB15 (x : Int) (h : 0 ≤ x ∧ x < 256) : andB x 15 = x % 16 := by
  unfold andB
  rw [show ((15 : Int).toNat) = 15 from rfl, and15 _ (by omega)]; omega
theorem andB255 (x : Int) (h : 0 ≤ x ∧ x < 256) : andB x 255 = x := by
  unfold andB
  rw [show ((255 : Int).toNat) = 255 from rfl, and255 _ (by omega)]; omega
theorem andB252 (x : Int) (h : 0 ≤ x ∧ x < 256) : andB x 252 = x / 4 * 4 := by
  unfold andB
  rw [show ((252 : Int).toNat) = 252 from rfl, and252 _ (by omega)]; omega
/-- A number more, as part of a list that is known. -/
theorem ownN_next {w wr w1 : World} {v v' : Value} {zs : List Int} {z : Int} {k : Nat} (hk : k < zs.length) (hz : zs.getD k 0 = z)
    (hb : Below w.heap.size w wr) (hown : wr.ownsRow w.heap.size 3 1 v k (i64s (zs.take k)))
    (hown' : w1.ownsRow w.heap.size 3 1 v' (k + 1) (i64s (zs.take k) ++ [.int .i64 z])) (hg : (wr.alloc (.cells #[.int .i64 z] 3)).grownBy w1 v.ownBlock) :
    w1.ownsRow w.heap.size 3 1 v' (k + 1) (i64s (zs.take (k + 1))) ∧ Below w.heap.size w w1 := by
  have hl : (zs.take k).length = k := by rw [List.length_take]; omega
  have R := ownN_more (zs := zs.take k) (z := z) hb (by rw [hl]; exact hown) (by rw [hl]; exact hown') hg
  have e : zs.take k ++ [z] = zs.take (k + 1) := by rw [List.take_succ_eq_append_getElem hk, ← hz]; simp [List.getD, hk]
  rw [e, List.length_take, Nat.min_eq_left (by omega)] at R
  exact R
set_option maxHeartbeats 2000000 in
set_option maxRecDepth 20000 in
theorem half_r (key : List Int) (hk : key.length = 32) (hkb : Bytes key) (w : World) :
    Calls Tryz.prog 92 #[.agg (u8s key).toArray, .bool false] w fun e w' => ∃ v, e = .returned v ∧ isN (hR key) v w' ∧ Below w.heap.size w w' := by
  have HK0 : Hid (key.length = 32 ∧ Bytes key ∧ (hR key).length = 16 ∧ Bytes (hR key)) := ⟨hk, hkb, hR_length key hk, hR_bytes key hk⟩
  obtain ⟨i0, hi, hz0, hz1, hz2⟩ := info_parts info_int
  clear hk hkb
  go_enter Tryz.func92, Tryz.ntmps92
  go_wp2_with (first | (refine wpList_box_new rfl 23 _ rfl (u8s key) rfl ?_; intro w1 b1 s1 l1))
  have HB : Hid (Blk w1 w.heap.size 23 (u8s key) ∧ Below w.heap.size w w1 ∧ w1.heap.size = w.heap.size + 1) := ⟨b1, l1, s1⟩
  clear b1 s1 l1
  go_loopw [5, 6] (fun v i wr => ∃ k : Nat, k ≤ 16 ∧ i = .int .i64 k ∧ wr.ownsRow w1.heap.size 3 1 v k (i64s ((hR key).take k)) ∧ Below w1.heap.size w1 wr) (fun _ i _ => 16 - (intOf i).toNat)
  case atStart => exact ⟨0, Nat.zero_le _, rfl, World.ownsRow_nil _ _ _ _, Below.refl _ _⟩
  case round =>
    obtain ⟨k, hk, rfl, hown, hbel⟩ := hrel
    by_cases hlt : k < 16
    · have hsz := hbel.size
      have i1 : (0 : Int) ≤ (k : Int) := by omega
      have i2 : (k : Int) < 16 := by omega
      have c1 : wr.cell? ⟨w.heap.size, k, none⟩ = some (.int .u8 (key.getD k 0)) := u8s_cell (HB.out.1.later hbel HB.out.1.lt) k (by rw [HK0.out.1]; omega)
      have bD := HK0.out.2.1.at k (by rw [HK0.out.1]; omega)
      have hat := hR_at key HK0.out.1 k hlt
      obtain ⟨D, hD⟩ : ∃ D, key.getD k 0 = D := ⟨_, rfl⟩
      rw [hD] at c1 bD hat
      have v1 : IntKind.i64.wrap D = D := by rw [IntKind.wrap_i64]; omega
      obtain ⟨R, hR'⟩ : ∃ R, k % 4 = R := ⟨_, rfl⟩
      have n1 : (k : Int).tmod 4 = (R : Int) := by rw [Int.tmod_eq_emod_of_nonneg (by omega)]; omega
      have n2 : (k : Int) % 4 = (R : Int) := by omega
      have q16 : D.tmod 16 = D % 16 := Int.tmod_eq_emod_of_nonneg bD.1
      have q4 : D.tdiv 4 = D / 4 := Int.tdiv_eq_ediv_of_nonneg bD.1
      have v2 : IntKind.i64.wrap (D / 4 * 4) = D / 4 * 4 := by rw [IntKind.wrap_i64]; omega
      clear hD
      rcases (by omega : R = 3 ∨ (R = 0 ∧ 0 < k) ∨ (R = 0 ∧ k = 0) ∨ R = 1 ∨ R = 2) with rfl | ⟨rfl, h0⟩ | ⟨rfl, rfl⟩ | rfl | rfl
      · rw [mask_3 k hlt hR', andB15 D bD] at hat
        have HK : Hid (k < (hR key).length ∧ (hR key).getD k 0 = (D % 16)) := ⟨by rw [HK0.out.2.2.1]; exact hlt, hat⟩
        have n5 : (k : Int).tmod 4 = 3 := n1
        clear hat hR'
        go_wp2_with (at_builtin; refine wpList_append_own _ rfl _ _ 135 rfl w1.heap.size 3 i0 (.int .i64 0) 1 8 Tryz.underlying135 hi hz0 hz1 hz2 rfl (by decide) _ _ _ rfl (hown.alloc _) ⟨wr.heap.size, 0, none⟩ 1 1 [.int .i64 (D % 16)] rfl rfl ?c1 ?c2 ?c3 ?c4 ?c5 ?_)
        try case c1 => exact one_new _ _ _
        case c2 => first | rfl | (intro u hu; simp at hu; subst hu; rfl)
        case c3 => unfold maxLen; omega
        case c4 => omega
        case c5 => first | omega | (simp; omega)
        · intro v' w2 hown' hgrow _
          have R := ownN_next (w := w1) HK.out.1 HK.out.2 hbel hown hown' hgrow
          clear hown' hgrow hown hbel c1
          go_wp2_with fail
          exact ⟨⟨k + 1, by omega, by go_num, R.1, R.2⟩, by simp [intOf]; omega⟩
      · rw [mask_0 k hlt hR' h0, andB252 D bD] at hat
        have HK : Hid (k < (hR key).length ∧ (hR key).getD k 0 = (D / 4 * 4)) := ⟨by rw [HK0.out.2.2.1]; exact hlt, hat⟩
        have n5 : (k : Int).tmod 4 = 0 := n1
        have i3 : (0 : Int) < (k : Int) := by omega
        clear hat hR'
        go_wp2_with (at_builtin; refine wpList_append_own _ rfl _ _ 135 rfl w1.heap.size 3 i0 (.int .i64 0) 1 8 Tryz.underlying135 hi hz0 hz1 hz2 rfl (by decide) _ _ _ rfl (hown.alloc _) ⟨wr.heap.size, 0, none⟩ 1 1 [.int .i64 (D / 4 * 4)] rfl rfl ?c1 ?c2 ?c3 ?c4 ?c5 ?_)
        try case c1 => exact one_new _ _ _
        case c2 => first | rfl | (intro u hu; simp at hu; subst hu; rfl)
        case c3 => unfold maxLen; omega
        case c4 => omega
        case c5 => first | omega | (simp; omega)
        · intro v' w2 hown' hgrow _
          have R := ownN_next (w := w1) HK.out.1 HK.out.2 hbel hown hown' hgrow
          clear hown' hgrow hown hbel c1
          go_wp2_with fail
          exact ⟨⟨k + 1, by omega, by go_num, R.1, R.2⟩, by simp [intOf]; omega⟩
      · rw [mask_12 0 hlt (.inr (.inr rfl)), andB255 D bD] at hat
        have HK : Hid (0 < (hR key).length ∧ (hR key).getD 0 0 = D) := ⟨by rw [HK0.out.2.2.1]; exact hlt, hat⟩
        clear hat hR'
        go_wp2_with (at_builtin; refine wpList_append_own _ rfl _ _ 135 rfl w1.heap.size 3 i0 (.int .i64 0) 1 8 Tryz.underlying135 hi hz0 hz1 hz2 rfl (by decide) _ _ _ rfl (hown.alloc _) ⟨wr.heap.size, 0, none⟩ 1 1 [.int .i64 D] rfl rfl ?c1 ?c2 ?c3 ?c4 ?c5 ?_)
        try case c1 => exact one_new _ _ _
        case c2 => first | rfl | (intro u hu; simp at hu; subst hu; rfl)
        case c3 => unfold maxLen; omega
        case c4 => omega
        case c5 => first | omega | (simp; omega)
        · intro v' w2 hown' hgrow _
          have R := ownN_next (w := w1) HK.out.1 HK.out.2 hbel hown hown' hgrow
          clear hown' hgrow hown hbel c1
          go_wp2_with fail
          exact ⟨⟨0 + 1, by omega, by go_num, R.1, R.2⟩, by simp [intOf]⟩
      · rw [mask_12 k hlt (.inl hR'), andB255 D bD] at hat
        have HK : Hid (k < (hR key).length ∧ (hR key).getD k 0 = D) := ⟨by rw [HK0.out.2.2.1]; exact hlt, hat⟩
        have n5 : (k : Int).tmod 4 = 1 := n1
        clear hat hR'
        go_wp2_with (at_builtin; refine wpList_append_own _ rfl _ _ 135 rfl w1.heap.size 3 i0 (.int .i64 0) 1 8 Tryz.underlying135 hi hz0 hz1 hz2 rfl (by decide) _ _ _ rfl (hown.alloc _) ⟨wr.heap.size, 0, none⟩ 1 1 [.int .i64 D] rfl rfl ?c1 ?c2 ?c3 ?c4 ?c5 ?_)
        try case c1 => exact one_new _ _ _
        case c2 => first | rfl | (intro u hu; simp at hu; subst hu; rfl)
        case c3 => unfold maxLen; omega
        case c4 => omega
        case c5 => first | omega | (simp; omega)
        · intro v' w2 hown' hgrow _
          have R := ownN_next (w := w1) HK.out.1 HK.out.2 hbel hown hown' hgrow
          clear hown' hgrow hown hbel c1
          go_wp2_with fail
          exact ⟨⟨k + 1, by omega, by go_num, R.1, R.2⟩, by simp [intOf]; omega⟩
      · rw [mask_12 k hlt (.inr (.inl hR')), andB255 D bD] at hat
        have HK : Hid (k < (hR key).length ∧ (hR key).getD k 0 = D) := ⟨by rw [HK0.out.2.2.1]; exact hlt, hat⟩
        have n5 : (k : Int).tmod 4 = 2 := n1
        clear hat hR'
        go_wp2_with (at_builtin; refine wpList_append_own _ rfl _ _ 135 rfl w1.heap.size 3 i0 (.int .i64 0) 1 8 Tryz.underlying135 hi hz0 hz1 hz2 rfl (by decide) _ _ _ rfl (hown.alloc _) ⟨wr.heap.size, 0, none⟩ 1 1 [.int .i64 D] rfl rfl ?c1 ?c2 ?c3 ?c4 ?c5 ?_)
        try case c1 => exact one_new _ _ _
        case c2 => first | rfl | (intro u hu; simp at hu; subst hu; rfl)
        case c3 => unfold maxLen; omega
        case c4 => omega
        case c5 => first | omega | (simp; omega)
        · intro v' w2 hown' hgrow _
          have R := ownN_next (w := w1) HK.out.1 HK.out.2 hbel hown hown' hgrow
          clear hown' hgrow hown hbel c1
          go_wp2_with fail
          exact ⟨⟨k + 1, by omega, by go_num, R.1, R.2⟩, by simp [intOf]; omega⟩
    · obtain rfl : k = 16 := by omega
      rw [List.take_of_length_le (by rw [HK0.out.2.2.1]; exact Nat.le_refl _)] at hown
      have HO : Hid (isN (hR key) u5 wr ∧ Below w.heap.size w wr) := ⟨isN_own HK0.out.2.2.1 (by decide) (small_of_bytes HK0.out.2.2.2) hown, below_chain HB.out.2.1 hbel HB.out.2.1.size⟩
      clear hown hbel
      go_wp2_with fail
      go_ret
      exact ⟨_, rfl, HO.out⟩
set_option maxHeartbeats 2000000 in
set_option maxRecDepth 20000 in
theorem half_s (key : List Int) (hk : key.length = 32) (hkb : Bytes key) (w : World) :
    Calls Tryz.prog 92 #[.agg (u8s key).toArray, .bool true] w fun e w' => ∃ v, e = .returned v ∧ isN ((key.drop 16).take 16) v w' ∧ Below w.heap.size w w' := by
  have HK0 : Hid (key.length = 32 ∧ Bytes key ∧ ((key.drop 16).take 16).length = 16 ∧ Bytes ((key.drop 16).take 16)) := ⟨hk, hkb, by rw [List.length_take, List.length_drop, hk]; rfl, bytes_take (bytes_drop hkb _) _⟩
  obtain ⟨i0, hi, hz0, hz1, hz2⟩ := info_parts info_int
  clear hk hkb
  go_enter Tryz.func92, Tryz.ntmps92
  go_wp2_with (first | (refine wpList_box_new rfl 23 _ rfl (u8s key) rfl ?_; intro w1 b1 s1 l1))
  have HB : Hid (Blk w1 w.heap.size 23 (u8s key) ∧ Below w.heap.size w w1 ∧ w1.heap.size = w.heap.size + 1) := ⟨b1, l1, s1⟩
  clear b1 s1 l1
  go_loopw [5, 6] (fun v i wr => ∃ k : Nat, k ≤ 16 ∧ i = .int .i64 k ∧ wr.ownsRow w1.heap.size 3 1 v k (i64s (((key.drop 16).take 16).take k)) ∧ Below w1.heap.size w1 wr) (fun _ i _ => 16 - (intOf i).toNat)
  case atStart => exact ⟨0, Nat.zero_le _, rfl, World.ownsRow_nil _ _ _ _, Below.refl _ _⟩
  case round =>
    obtain ⟨k, hk, rfl, hown, hbel⟩ := hrel
    by_cases hlt : k < 16
    · have hsz := hbel.size
      have i1 : (0 : Int) ≤ (k : Int) := by omega
      have i2 : (k : Int) < 16 := by omega
      have c0 : wr.cell? ⟨w.heap.size, k, none⟩ = some (.int .u8 (key.getD k 0)) := u8s_cell (HB.out.1.later hbel HB.out.1.lt) k (by rw [HK0.out.1]; omega)
      have c1 : wr.cell? ⟨w.heap.size, 16 + k, none⟩ = some (.int .u8 (key.getD (16 + k) 0)) := u8s_cell (HB.out.1.later hbel HB.out.1.lt) (16 + k) (by rw [HK0.out.1]; omega)
      have bC := HK0.out.2.1.at k (by rw [HK0.out.1]; omega)
      have bD := HK0.out.2.1.at (16 + k) (by rw [HK0.out.1]; omega)
      obtain ⟨C, hC⟩ : ∃ C, key.getD k 0 = C := ⟨_, rfl⟩
      have HK : Hid (k < ((key.drop 16).take 16).length ∧ ((key.drop 16).take 16).getD k 0 = key.getD (16 + k) 0) := ⟨by rw [HK0.out.2.2.1]; exact hlt, by simp [List.getD, List.getElem?_take, hlt, List.getElem?_drop]⟩
      obtain ⟨D, hD⟩ : ∃ D, key.getD (16 + k) 0 = D := ⟨_, rfl⟩
      rw [hC] at c0 bC
      rw [hD] at c1 bD HK
      have v0 : IntKind.i64.wrap C = C := by rw [IntKind.wrap_i64]; omega
      have v1 : IntKind.i64.wrap D = D := by rw [IntKind.wrap_i64]; omega
      have i3 : (16 : Int) + (k : Int) < 32 := by omega
      have i4 : (0 : Int) ≤ 16 + (k : Int) := by omega
      clear hD hC
      go_wp2_with (at_builtin; refine wpList_append_own _ rfl _ _ 135 rfl w1.heap.size 3 i0 (.int .i64 0) 1 8 Tryz.underlying135 hi hz0 hz1 hz2 rfl (by decide) _ _ _ rfl (hown.alloc _) ⟨wr.heap.size, 0, none⟩ 1 1 [.int .i64 D] rfl rfl ?c1 ?c2 ?c3 ?c4 ?c5 ?_)
      try case c1 => exact one_new _ _ _
      case c2 => first | rfl | (intro u hu; simp at hu; subst hu; rfl)
      case c3 => unfold maxLen; omega
      case c4 => omega
      case c5 => first | omega | (simp; omega)
      · intro v' w2 hown' hgrow _
        have R := ownN_next (w := w1) HK.out.1 HK.out.2 hbel hown hown' hgrow
        clear hown' hgrow hown hbel c1
        go_wp2_with fail
        exact ⟨⟨k + 1, by omega, by go_num, R.1, R.2⟩, by simp [intOf]; omega⟩
    · obtain rfl : k = 16 := by omega
      rw [List.take_of_length_le (by rw [HK0.out.2.2.1]; exact Nat.le_refl _)] at hown
      have HO : Hid (isN ((key.drop 16).take 16) u5 wr ∧ Below w.heap.size w wr) := ⟨isN_own HK0.out.2.2.1 (by decide) (small_of_bytes HK0.out.2.2.2) hown, below_chain HB.out.2.1 hbel HB.out.2.1.size⟩
      clear hown hbel
      go_wp2_with fail
      go_ret
      exact ⟨_, rfl, HO.out⟩
end Go.Proofs.YtcimiajkbgabiaaGreat

namespace Go.Proofs.YtcimiajkbgabiaaGreat
open Go.RowKit
set_option linter.unusedVariables false
set_option linter.unusedSimpArgs false

theorem zero_new (w : World) : SeenN (w.alloc (.cells #[.int .i64 0] 3)) (some ⟨w.heap.size, 0, none⟩) 1 [0] := by
  have h : RowN (w.alloc (.cells #[.int .i64 0] 3)) w.heap.size 1 [0] := ⟨[], heap_alloc_new w _, rfl⟩
  exact h.seen (by decide) (fun d hd => by simp at hd; subst hd; decide)
theorem b0n : Bytes [0] := fun z hz => by simp at hz; subst hz; decide
def chunkL (m : List Int) (k : Nat) : List Int := (m.drop (16 * k)).take 16
theorem chunk_at (m : List Int) (k j : Nat) (hj : j < 16) : (chunkL m k).getD j 0 = m.getD (16 * k + j) 0 := by
  simp [chunkL, List.getD, List.getElem?_take, hj, List.getElem?_drop]
theorem chunk_length (m : List Int) (k : Nat) : (chunkL m k).length = Nat.min 16 (m.length - 16 * k) := by simp [chunkL]
theorem chunk_bytes {m : List Int} (h : Bytes m) (k : Nat) : Bytes (chunkL m k) := bytes_take (bytes_drop h _) _
theorem docK_succ (r : Int) (m : List Int) (k : Nat) : docK r m (k + 1) = ((docK r m k + (le (chunkL m k ++ [1]))) * r) % prime := by
  rw [docK, le_app, le_one, Int.mul_one]; rfl
theorem bytes_one {c : List Int} (h : Bytes c) : Bytes (c ++ [1]) := bytes_app h (fun z hz => by simp at hz; subst hz; decide)
set_option maxHeartbeats 4000000 in
set_option maxRecDepth 20000 in
theorem rtsum_any (key : List Int) (hk : key.length = 32) (hkb : Bytes key) (ao : Option Addr) (n c : Nat) (m : List Int) (w : World) (hx : Seen w ao n m) :
    Calls Tryz.prog 71 #[.agg (u8s key).toArray, .slice ao n c] w fun e w' => e = .returned (.agg (u8s (tagB key m)).toArray) ∧ Below w.heap.size w w' := by
  have HX : Hid (Seen w ao n m ∧ m.length = n ∧ Bytes m) := ⟨hx, hx.len, hx.bytes⟩
  have HK : Hid (key.length = 32 ∧ Bytes key) := ⟨hk, hkb⟩
  have ht := hx.top
  obtain ⟨i0, hi, hz0, hz1, hz2⟩ := info_parts info_int
  obtain ⟨T, hT⟩ : ∃ T, tagB key m = T := ⟨_, rfl⟩
  have HT : Hid (tagB key m = T) := hT
  rw [hT]
  clear hx hk hkb hT
  go_enter Tryz.func71, Tryz.ntmps71
  go_wp2_with (first | (refine wpList_box_new rfl 23 _ rfl (u8s key) rfl ?_; intro w1 b1 s1 l1) | (refine wpList_alloc_new rfl 65 rfl 16 _ zeroTag ?_; intro w2 b2 s2 l2) | (refine wpList_load_blk rfl 23 _ rfl _ rfl (u8s key) _ (b1.later l2 (by omega)) Tryz.underlying23 rfl (by rw [u8s_length, HK.out.1]; exact tsizeKey) ?_))
  have H2 : Hid (Blk w2 w.heap.size 23 (u8s key) ∧ Blk w2 (w.heap.size + 1) 65 (u8s (zs0 16)) ∧ Below w.heap.size w w2) := by
    rw [s1] at b2
    exact ⟨b1.later l2 (by omega), b2, below_chain l1 l2 (by omega)⟩
  clear b1 s1 l1 b2 s2 l2
  refine (half_r key HK.out.1 HK.out.2 w2).mono ?_
  rintro e w3 ⟨vr, rfl, hvr, l3⟩
  obtain ⟨ar, nr, cr, rfl, sr⟩ := hvr
  have hnr : nr = 16 := by rw [← sr.len, hR_length key HK.out.1]
  subst hnr
  have H3 : Hid (Blk w3 w.heap.size 23 (u8s key) ∧ Blk w3 (w.heap.size + 1) 65 (u8s (zs0 16)) ∧ Below w.heap.size w w3 ∧ SeenN w3 ar 16 (hR key)) := ⟨H2.out.1.later l3 H2.out.1.lt, H2.out.2.1.later l3 H2.out.2.1.lt, below_chain H2.out.2.2 l3 H2.out.2.2.size, sr⟩
  clear sr l3 H2
  go_wp2_with fail
  have s4 := zero_new w3
  have l4 : Below w3.heap.size w3 (w3.alloc (.cells #[.int .i64 0] 3)) := (Below.refl _ _).alloc (Nat.le_refl _) _
  obtain ⟨w4, hw4⟩ : ∃ W, w3.alloc (.cells #[.int .i64 0] 3) = W := ⟨_, rfl⟩
  rw [hw4] at s4 l4 ⊢
  have H4 : Hid (Blk w4 w.heap.size 23 (u8s key) ∧ Blk w4 (w.heap.size + 1) 65 (u8s (zs0 16)) ∧ Below w.heap.size w w4 ∧ SeenN w4 ar 16 (hR key) ∧ SeenN w4 (some ⟨w3.heap.size, 0, none⟩) 1 [0]) := ⟨H3.out.1.later l4 H3.out.1.lt, H3.out.2.1.later l4 H3.out.2.1.lt, below_chain H3.out.2.2.1 l4 H3.out.2.2.1.size, H3.out.2.2.2.later l4 (Nat.le_refl _), s4⟩
  clear s4 l4 hw4 H3
  go_loopw [6, 7] (fun v i wr => ∃ (k : Nat) (es : List Int) (ae : Option Addr) (ne ce : Nat), 16 * k < n + 16 ∧ i = .int .i64 (16 * (k : Int)) ∧ v = .slice ae ne ce ∧ SeenN wr ae ne es ∧ Bytes es ∧ ne ≤ 17 ∧ le es = docK (rOf key) m k ∧ Below w4.heap.size w4 wr) (fun _ i _ => n + 16 - (intOf i).toNat)
  case atStart => exact ⟨0, [0], _, 1, 1, by omega, rfl, rfl, H4.out.2.2.2.2, b0n, by decide, rfl, Below.refl _ _⟩
  case round =>
    obtain ⟨k, es, ae, ne, ce, hk, rfl, rfl, se, hbe, hne, hle, hbel⟩ := hrel
    have HE : Hid (SeenN wr ae ne es ∧ Bytes es ∧ le es = docK (rOf key) m k ∧ Below w4.heap.size w4 wr) := ⟨se, hbe, hle, hbel⟩
    clear se hbe hle hbel
    by_cases hlt : 16 * k < n
    · have HC : Hid ((chunkL m k).length = Nat.min 16 (n - 16 * k) ∧ Bytes (chunkL m k)) := ⟨by rw [chunk_length, HX.out.2.1], chunk_bytes HX.out.2.2 k⟩
      obtain ⟨Lc, HLc⟩ : ∃ Lc, Hid ((chunkL m k).length = Lc) := ⟨_, rfl⟩
      have hLc1 : Lc ≤ 16 := by rw [← HLc.out, HC.out.1]; exact Nat.min_le_left _ _
      have hLc2 : 16 * k + Lc ≤ n := by
        have : Lc ≤ n - 16 * k := by rw [← HLc.out, HC.out.1]; exact Nat.min_le_right _ _
        omega
      have hLc3 : Lc < 16 → 16 * k + Lc = n := by
        intro h
        have e : Lc = min 16 (n - 16 * k) := by rw [← HLc.out]; exact HC.out.1
        omega
      have i1 : 16 * (k : Int) < (n : Int) := by omega
      obtain ⟨w5, hw5⟩ : ∃ W, W = wr := ⟨_, rfl⟩
      subst hw5
      go_wp2_with fail
      go_loopw [8, 9] (fun v i wr => ∃ j : Nat, j ≤ Lc ∧ i = .int .i64 (16 * (k : Int) + (j : Int)) ∧ wr.ownsRow w5.heap.size 3 1 v j (i64s ((chunkL m k).take j)) ∧ Below w5.heap.size w5 wr) (fun _ i _ => 16 * k + 16 - (intOf i).toNat)
      case atStart => exact ⟨0, Nat.zero_le _, by simp, World.ownsRow_nil _ _ _ _, Below.refl _ _⟩
      case round =>
        obtain ⟨j, hj, rfl, hown, hbel⟩ := hrel
        have hsz := hbel.size
        by_cases hjl : j < Lc
        · have i2 : 16 * (k : Int) + (j : Int) < (n : Int) := by omega
          have i3 : 16 * (k : Int) + (j : Int) < 16 * (k : Int) + 16 := by omega
          have i4 : (0 : Int) ≤ 16 * (k : Int) + (j : Int) := by omega
          obtain ⟨b, o, rfl, hb, hc⟩ := HX.out.1.cells (by omega)
          have L5 := below_chain (below_chain H4.out.2.2.1 HE.out.2.2.2 H4.out.2.2.1.size) hbel (Nat.le_trans H4.out.2.2.1.size HE.out.2.2.2.size)
          have c1 := (L5.cell (p := ⟨b, o + (16 * k + j), none⟩) hb).trans (hc (16 * k + j) (by omega))
          have bD := HX.out.2.2.at (16 * k + j) (by rw [HX.out.2.1]; omega)
          have HN : Hid (j < (chunkL m k).length ∧ (chunkL m k).getD j 0 = m.getD (16 * k + j) 0) := ⟨by rw [HLc.out]; exact hjl, chunk_at m k j (by omega)⟩
          obtain ⟨D, hD⟩ : ∃ D, m.getD (16 * k + j) 0 = D := ⟨_, rfl⟩
          rw [hD] at c1 bD HN
          have v1 : IntKind.i64.wrap D = D := by rw [IntKind.wrap_i64]; omega
          have a1 : ((16 * k + j : Nat) : Int) = 16 * (k : Int) + (j : Int) := by omega
          have a2 : (16 * (k : Int) + (j : Int)).toNat = 16 * k + j := by omega
          clear hc hD L5
          go_wp2_with (at_builtin; refine wpList_append_own _ rfl _ _ 135 rfl w5.heap.size 3 i0 (.int .i64 0) 1 8 Tryz.underlying135 hi hz0 hz1 hz2 rfl (by decide) _ _ _ rfl (hown.alloc _) ⟨wr.heap.size, 0, none⟩ 1 1 [.int .i64 D] rfl rfl ?c1 ?c2 ?c3 ?c4 ?c5 ?_)
          try case c1 => exact one_new _ _ _
          case c2 => first | rfl | (intro u hu; simp at hu; subst hu; rfl)
          case c3 => unfold maxLen; omega
          case c4 => omega
          case c5 => first | omega | (simp; omega)
          · intro v' w6 hown' hgrow _
            have R := ownN_next (w := w5) HN.out.1 HN.out.2 hbel hown hown' hgrow
            clear hown' hgrow hown hbel c1 a1 a2
            go_wp2_with fail
            exact ⟨⟨j + 1, by omega, by go_num, R.1, R.2⟩, by simp [intOf]; omega⟩
        · obtain rfl : Lc = j := by omega
          rw [List.take_of_length_le (by rw [HLc.out]; exact Nat.le_refl _)] at hown
          have hstop : ¬ (16 * (k : Int) + (Lc : Int) < (n : Int)) ∨ (16 * (k : Int) + (Lc : Int) < (n : Int) ∧ ¬ (16 * (k : Int) + (Lc : Int) < 16 * (k : Int) + 16)) := by
            rcases Nat.lt_or_ge Lc 16 with h | h
            · left; have := hLc3 h; omega
            · by_cases h2 : 16 * (k : Int) + (Lc : Int) < (n : Int)
              · right; exact ⟨h2, by omega⟩
              · left; exact h2
          have hrest : ∀ (v' : Value) (w6 : World), w6.ownsRow w5.heap.size 3 1 v' (Lc + 1) (i64s (chunkL m k) ++ [.int .i64 1]) → (wr.alloc (.cells #[.int .i64 1] 3)).grownBy w6 u8.ownBlock → ∃ a6 c6, v' = .slice a6 (Lc + 1) c6 ∧ SeenN w6 a6 (Lc + 1) (chunkL m k ++ [1]) ∧ Below w5.heap.size w5 w6 := by
            intro v' w6 hown' hgrow
            have hown2 := hown
            have hown3 := hown'
            have R := ownN_more (w := w5) (zs := chunkL m k) (z := 1) hbel (by rw [HLc.out]; exact hown2) (by rw [HLc.out]; exact hown3) hgrow
            have hl : (chunkL m k ++ [1]).length = Lc + 1 := by rw [List.length_append, HLc.out]; rfl
            rw [hl] at R
            obtain ⟨a6, n6, c6, rfl, s6⟩ := isN_own hl (by omega) (small_of_bytes (bytes_one HC.out.2)) R.1
            obtain rfl : Lc + 1 = n6 := by rw [← hl, s6.len]
            exact ⟨a6, c6, rfl, s6, R.2⟩
          rcases hstop with h1 | ⟨h1, h2⟩
          all_goals
            go_wp2_with (at_builtin; refine wpList_append_own _ rfl _ _ 135 rfl w5.heap.size 3 i0 (.int .i64 0) 1 8 Tryz.underlying135 hi hz0 hz1 hz2 rfl (by decide) _ _ _ rfl (hown.alloc _) ⟨wr.heap.size, 0, none⟩ 1 1 [.int .i64 1] rfl rfl ?c1 ?c2 ?c3 ?c4 ?c5 ?_)
            try case c1 => exact one_new _ _ _
            case c2 => first | rfl | (intro u hu; simp at hu; subst hu; rfl)
            case c3 => unfold maxLen; omega
            case c4 => omega
            case c5 => first | omega | (simp; omega)
            · intro v' w6 hown' hgrow _
              obtain ⟨a6, c6, rfl, s6, l6⟩ := hrest v' w6 hown' hgrow
              have H6 : Hid (SeenN w6 a6 (Lc + 1) (chunkL m k ++ [1]) ∧ Below w4.heap.size w4 w6 ∧ SeenN w6 ae ne es ∧ SeenN w6 ar 16 (hR key)) := ⟨s6, below_chain HE.out.2.2.2 l6 HE.out.2.2.2.size, HE.out.1.later l6 (Nat.le_refl _), (H4.out.2.2.2.1.later HE.out.2.2.2 (Nat.le_refl _)).later l6 (Nat.le_refl _)⟩
              clear hown' hgrow hown hbel hrest s6 l6
              go_wp2_with fail
              refine (add_any ae a6 ne (Lc + 1) ce c6 es _ w6 H6.out.2.2.1 H6.out.1 HE.out.2.1 (bytes_one HC.out.2) (by omega) (by omega)).mono ?_
              rintro e w7 ⟨v7, rfl, p1, h7⟩
              obtain ⟨a7, n7, c7, rfl, s7⟩ := h7.1
              have hn7 : n7 ≤ 23 := by
                have h := h7.2.2.2.2.2.1
                rw [s7.len] at h
                have h3 : Nat.max ne (Lc + 1) ≤ 17 := Nat.max_le.2 ⟨by omega, by omega⟩
                omega
              have H7 : Hid (SeenN w7 a7 n7 p1 ∧ Bytes p1 ∧ le p1 = docK (rOf key) m k + le (chunkL m k ++ [1]) ∧ Below w4.heap.size w4 w7 ∧ SeenN w7 ar 16 (hR key)) := by
                obtain ⟨_, g2, g3, _, _, _, g7⟩ := h7
                exact ⟨s7, g2, by rw [g3, HE.out.2.2.1], below_chain H6.out.2.1 g7 H6.out.2.1.size, H6.out.2.2.2.later g7 (Nat.le_refl _)⟩
              clear h7 s7
              go_wp2_with fail
              refine (mul_any a7 ar n7 16 c7 cr p1 (hR key) w7 H7.out.1 H7.out.2.2.2.2 H7.out.2.1 (hR_bytes key HK.out.1) (by omega) (by decide)).mono ?_
              rintro e w8 ⟨v8, rfl, p2, h8⟩
              obtain ⟨a8, n8, c8, rfl, s8⟩ := h8.1
              have hn8 : n8 ≤ 45 := by have h := h8.2.2.2.2.1; rw [s8.len] at h; omega
              have H8 : Hid (SeenN w8 a8 n8 p2 ∧ Bytes p2 ∧ le p2 = (docK (rOf key) m k + le (chunkL m k ++ [1])) * rOf key ∧ Below w4.heap.size w4 w8) := by
                obtain ⟨_, g2, g3, _, _, g6⟩ := h8
                exact ⟨s8, g2, by rw [g3, H7.out.2.2.1, hR_le key HK.out.1 HK.out.2], below_chain H7.out.2.2.2.1 g6 H7.out.2.2.2.1.size⟩
              clear h8 s8
              go_wp2_with fail
              refine (fold_any a8 n8 c8 p2 w8 H8.out.1 H8.out.2.1 (by omega)).mono ?_
              rintro e w9 ⟨v9, rfl, p3, h9⟩
              obtain ⟨a9, n9, c9, rfl, s9⟩ := h9.1
              have hn9 : n9 ≤ 17 := by have h := h9.2.2.2.1; rwa [s9.len] at h
              have H9 : Hid (SeenN w9 a9 n9 p3 ∧ Bytes p3 ∧ le p3 = docK (rOf key) m (k + 1) ∧ Below w4.heap.size w4 w9) := by
                obtain ⟨_, g2, g3, _, g5⟩ := h9
                exact ⟨s9, g2, by rw [g3, H8.out.2.2.1, docK_succ], below_chain H8.out.2.2.2 g5 H8.out.2.2.2.size⟩
              clear h9 s9
              go_wp2_with fail
              exact ⟨⟨k + 1, p3, a9, n9, c9, by omega, by go_num, rfl, H9.out.1, H9.out.2.1, hn9, H9.out.2.2.1, H9.out.2.2.2⟩, by simp [intOf]; omega⟩
    · have i1 : ¬ 16 * (k : Int) < (n : Int) := by omega
      have hkk : (n + 15) / 16 = k := by omega
      have HF : Hid (tagB key m = leB 16 (le es + sOf key)) := by
        show _ = _
        rw [tagB, code_doc, HX.out.2.1, hkk, HE.out.2.2.1]
      have H5 : Hid (Blk wr w.heap.size 23 (u8s key) ∧ Blk wr (w.heap.size + 1) 65 (u8s (zs0 16)) ∧ Below w.heap.size w wr ∧ SeenN wr ae ne es) := ⟨H4.out.1.later HE.out.2.2.2 H4.out.1.lt, H4.out.2.1.later HE.out.2.2.2 H4.out.2.1.lt, below_chain H4.out.2.2.1 HE.out.2.2.2 H4.out.2.2.1.size, HE.out.1⟩
      clear hkk
      go_wp2_with (first | (refine wpList_load_blk rfl 23 _ rfl _ rfl (u8s key) _ H5.out.1 Tryz.underlying23 rfl (by rw [u8s_length, HK.out.1]; exact tsizeKey) ?_))
      refine (half_s key HK.out.1 HK.out.2 wr).mono ?_
      rintro e w6 ⟨v6, rfl, hv6, l6⟩
      obtain ⟨a6, n6, c6, rfl, s6⟩ := hv6
      have hl6 : ((key.drop 16).take 16).length = 16 := by rw [List.length_take, List.length_drop, HK.out.1]; rfl
      obtain rfl : 16 = n6 := by rw [← hl6, s6.len]
      have H6 : Hid (SeenN w6 a6 16 ((key.drop 16).take 16) ∧ SeenN w6 ae ne es ∧ Below w.heap.size w w6 ∧ Blk w6 (w.heap.size + 1) 65 (u8s (zs0 16))) := ⟨s6, H5.out.2.2.2.later l6 (Nat.le_refl _), below_chain H5.out.2.2.1 l6 H5.out.2.2.1.size, H5.out.2.1.later l6 H5.out.2.1.lt⟩
      clear s6 l6 hl6
      go_wp2_with fail
      refine (add_any ae a6 ne 16 ce c6 es _ w6 H6.out.2.1 H6.out.1 HE.out.2.1 (bytes_take (bytes_drop HK.out.2 _) _) (by omega) (by decide)).mono ?_
      rintro e w7 ⟨v7, rfl, p1, h7⟩
      obtain ⟨a7, n7, c7, rfl, s7⟩ := h7.1
      have hn7 : 16 ≤ n7 := by have h := h7.2.2.2.2.1; rwa [s7.len] at h
      have ht7 := s7.top
      have hT := HT.out
      have H7 : Hid (SeenN w7 a7 n7 p1 ∧ Bytes p1 ∧ tagB key m = T ∧ p1.take 16 = T ∧ T.length = 16 ∧ Below w.heap.size w w7 ∧ Blk w7 (w.heap.size + 1) 65 (u8s (zs0 16)) ∧ p1.length = n7) := by
        obtain ⟨_, g2, g3, _, _, _, g7⟩ := h7
        refine ⟨s7, g2, hT, ?_, by rw [← hT, tagB_length], below_chain H6.out.2.2.1 g7 H6.out.2.2.1.size, H6.out.2.2.2.later g7 H6.out.2.2.2.lt, s7.len⟩
        rw [digits16 p1 g2 (by rw [s7.len]; exact hn7), g3, ← hT, HF.out]; rfl
      clear h7 s7 hT
      go_wp2_with (first | (refine wpList_alloc_new rfl 65 rfl 16 _ zeroTag ?_; intro w8 b8 s8 l8))
      have H8 : Hid (Blk w8 w7.heap.size 65 (u8s (zs0 16)) ∧ SeenN w8 a7 n7 p1 ∧ Below w.heap.size w w8 ∧ Blk w8 (w.heap.size + 1) 65 (u8s (zs0 16)) ∧ w.heap.size + 1 < w7.heap.size ∧ w8.heap.size = w7.heap.size + 1) := ⟨b8, H7.out.1.later l8 (Nat.le_refl _), below_chain H7.out.2.2.2.2.2.1 l8 H7.out.2.2.2.2.2.1.size, H7.out.2.2.2.2.2.2.1.later l8 H7.out.2.2.2.2.2.2.1.lt, H7.out.2.2.2.2.2.2.1.lt, s8⟩
      clear b8 s8 l8
      obtain ⟨G, HG⟩ : ∃ G, Hid (w7.heap.size = G) := ⟨_, rfl⟩
      rw [HG.out] at H8 ⊢
      go_loopw [12] (fun i wr => ∃ j : Nat, j ≤ 16 ∧ i = .int .i64 j ∧ Blk wr G 65 (u8s (T.take j ++ zs0 (16 - j))) ∧ Kept (fun b => b = G) w8 wr) (fun i _ => 16 - (intOf i).toNat)
      case atStart => exact ⟨0, Nat.zero_le _, rfl, H8.out.1, Kept.refl _ _⟩
      case round =>
        obtain ⟨j, hj, rfl, hbk, hkp⟩ := hrel
        by_cases hjl : j < 16
        · obtain ⟨b, o, rfl, hb, hc⟩ := H8.out.2.1.cells (by omega)
          have hbG : b ≠ G := by
            obtain ⟨b', o', e', hlt', _⟩ := H7.out.1.cells (by omega)
            simp only [Option.some.injEq, Addr.mk.injEq, and_true] at e'
            have := HG.out
            omega
          have c1 := (hkp.cell (p := ⟨b, o + j, none⟩) hb hbG).trans (hc j (by omega))
          have bD := H7.out.2.1.at j (by rw [H7.out.2.2.2.2.2.2.2]; omega)
          have eT : T.getD j 0 = p1.getD j 0 := by rw [← H7.out.2.2.2.1]; simp [List.getD, List.getElem?_take, hjl]
          have hlen : (T.take j ++ zs0 (16 - j) : List Int).length = 16 := by rw [List.length_append, List.length_take, H7.out.2.2.2.2.1, zs0_length]; omega
          have cg := u8s_cell hbk j (by rw [hlen]; exact hjl)
          have fg := hbk.frozen j
          have hset : (T.take j ++ zs0 (16 - j) : List Int).set j (p1.getD j 0) = T.take (j + 1) ++ zs0 (16 - (j + 1)) := by
            have h := take_next T j (by rw [H7.out.2.2.2.2.1]; exact hjl) (16 - (j + 1))
            rw [show 16 - (j + 1) + 1 = 16 - j by omega, eT] at h
            exact h
          obtain ⟨D, hD⟩ : ∃ D, p1.getD j 0 = D := ⟨_, rfl⟩
          obtain ⟨Z, hZ⟩ : ∃ Z, (T.take j ++ zs0 (16 - j) : List Int).getD j 0 = Z := ⟨_, rfl⟩
          rw [hD] at c1 bD hset
          rw [hZ] at cg
          have HQ : Hid (Blk (wr.setCell ⟨G, j, none⟩ (.int .u8 D)) G 65 (u8s (T.take (j + 1) ++ zs0 (16 - (j + 1)))) ∧ Kept (fun b => b = G) w8 (wr.setCell ⟨G, j, none⟩ (.int .u8 D))) := by
            have R := hbk.set j (.int .u8 D)
            rw [u8s_set, hset] at R
            exact ⟨R, hkp.setCell rfl _⟩
          have v1 : IntKind.u8.wrap D = D := by simp only [IntKind.wrap, IntKind.bits, IntKind.signed]; simp; omega
          have i2 : (j : Int) < 16 := by omega
          have i3 : (0 : Int) ≤ (j : Int) := by omega
          have i4 : (j : Int) < (n7 : Int) := by omega
          clear hc hD hZ hset eT hbk hkp hlen
          go_wp2_with fail
          exact ⟨⟨j + 1, by omega, by go_num, HQ.out.1, HQ.out.2⟩, by simp [intOf]; omega⟩
        · obtain rfl : j = 16 := by omega
          have e1 : T.take 16 ++ zs0 (16 - 16) = T := by rw [List.take_of_length_le (by rw [H7.out.2.2.2.2.1]; exact Nat.le_refl _)]; simp [zs0]
          rw [e1] at hbk
          have HQ : Hid (Blk wr G 65 (u8s T) ∧ Blk wr (w.heap.size + 1) 65 (u8s (zs0 16)) ∧ Below w.heap.size w wr ∧ T.length = 16) := by
            have := H8.out.2.2.2.2.1
            exact ⟨hbk, H8.out.2.2.2.1.kept hkp (by omega), below_kept H8.out.2.2.1 hkp H8.out.2.2.1.size (fun j hj => by omega), H7.out.2.2.2.2.1⟩
          clear hbk hkp e1
          rw [show ((16 : Nat) : Int) = 16 from rfl]
          go_wp2_with (first | (refine wpList_load_blk rfl 65 _ rfl _ rfl (u8s T) _ HQ.out.1 Tryz.underlying65 rfl (by rw [u8s_length, HQ.out.2.2.2]; exact sizeTag) ?_) | (refine wpList_store_blk rfl 65 65 _ _ rfl _ rfl _ (u8s T) rfl HQ.out.2.1 (by rw [u8s_length, u8s_length, HQ.out.2.2.2]; rfl) (by rw [u8s_length, HQ.out.2.2.2]; exact sizeTag) (u8s_one _) ?_; intro w9 b9 s9 k9))
          exact ret_blk rfl (w.heap.size + 1) (u8s T) _ rfl b9 Tryz.underlying65 rfl (by rw [u8s_length, HQ.out.2.2.2]; exact sizeTag) rfl ⟨rfl, below_kept HQ.out.2.2.1 k9 HQ.out.2.2.1.size (fun j hj => by omega)⟩
end Go.Proofs.YtcimiajkbgabiaaGreat

namespace Go.Proofs.YtcimiajkbgabiaaGreat
open Go.RowKit
set_option linter.unusedVariables false
set_option linter.unusedSimpArgs false

theorem zeroKeyR : (Tryz.prog.info? 23).map (fun i => (i.zero, i.size)) = some (some (.agg (u8s (zs0 32)).toArray), 32) := by kernel_rfl
theorem blkAllR {w : World} {g : Nat} {t : TypeId} {vs : List Value} (h : Blk w g t vs) : w.rangeAt g 0 vs := fun j v hv => by rw [Nat.zero_add, h.cell]; exact hv
theorem Does.rows3 {base : Nat} {ρ : Operand → Value} {o : Oper} {w : World} (parts : Array (Nat × Operand)) (ho : o.op = .buildSlice 37 3 parts) (s1 s2 s3 : Option Addr) (n1 n2 n3 c1 c2 c3 : Nat) (z1 z2 z3 : List Int) (hp : (parts.map fun (i, x) => (i, ρ x)) = #[(0, .slice s1 n1 c1), (1, .slice s2 n2 c2), (2, .slice s3 n3 c3)])
    (h1 : Seen w s1 n1 z1 ∧ n1 ≤ c1) (h2 : Seen w s2 n2 z2 ∧ n2 ≤ c2) (h3 : Seen w s3 n3 z3 ∧ n3 ≤ c3) : Does base (.any (isP 3 [z1, z2, z3]) (isP_later _ _)) ρ o w := by
  refine Does.run (.slice (some ⟨w.heap.size, 0, none⟩) 3 3) (w' := w.alloc (.cells #[.slice s1 n1 c1, .slice s2 n2 c2, .slice s3 n3 c3] 28)) ?_ ⟨_, _, rfl, ?_⟩ ((Below.refl _ _).alloc (Nat.le_refl _) _)
  · unfold execOp
    simp only [ho, hp, Sem.run_bind, bs3, Sem.run_pure, Result.andThen_ok]
  · exact seenPn w [(s1, n1, c1, z1), (s2, n2, c2, z2), (s3, n3, c3, z3)] (by
      intro x hx
      simp only [List.mem_cons, List.not_mem_nil, or_false] at hx
      rcases hx with rfl | rfl | rfl
      · exact h1
      · exact h2
      · exact h3)
theorem vouched3 (ms zs : List Int) : ([ms ++ fillL ms.length, zs ++ fillL zs.length, ends8 ms.length zs.length] : List (List Int)).flatten = vouched ms zs := by simp [vouched]
theorem filled_is (ao : Option Addr) (n c : Nat) (zs : List Int) (hn : n + 16 ≤ 140737488355328) (w : World) (hx : Seen w ao n zs) : Calls Tryz.prog 72 #[.slice ao n c] w fun e w' => ∃ v, e = .returned v ∧ isS (zs ++ fillL n) v w' ∧ Below w.heap.size w w' := by
  refine (filled_any ao n c zs hn w hx).mono ?_
  rintro e w' ⟨v, rfl, o, l⟩
  have hl : (zs ++ fillL n).length = n + fillN n := by rw [List.length_append, hx.len, fillL_length]
  rw [← hl] at o
  obtain ⟨xA, cA, rfl, sA, qA, _⟩ := own_data (bytes_app hx.bytes (fillL_bytes n)) (by rw [hl]; have := fillN_lt n; omega) o
  exact ⟨_, rfl, ⟨xA, _, cA, rfl, sA, qA⟩, l⟩
theorem ends8_length (a b : Nat) : (ends8 a b).length = 16 := by simp [ends8, leB_length]
theorem ends8_bytes (a b : Nat) : Bytes (ends8 a b) := bytes_app (leB_bytes _ _) (leB_bytes _ _)
set_option maxRecDepth 20000 in
set_option maxHeartbeats 4000000 in
theorem rtag_any (key nonce : List Int) (n c m d : Nat) (ao bo : Option Addr) (ms zs : List Int) (hk : key.length = 32) (hno : nonce.length = 12) (hkb : Bytes key) (hnb : Bytes nonce) (w : World) (hx : Seen w ao n ms) (hy : Seen w bo m zs) (hc : n ≤ c) (hd : m ≤ d) (hn : n ≤ 2097152) (hm : m ≤ 2097152) :
    Calls Tryz.prog 54 #[.agg (u8s key).toArray, .agg (u8s nonce).toArray, .slice ao n c, .slice bo m d] w fun e w' => ∃ v, e = .returned v ∧ w'.ownsRow w.heap.size 5 1 v 16 ((codeL key nonce ms zs).map (Value.int .u8)) ∧ Below w.heap.size w w' := by
  obtain ⟨i0, hi, hz0, hz1, hz2⟩ := info_parts info_byte
  have HX : Hid (Seen w ao n ms ∧ Seen w bo m zs ∧ n ≤ c ∧ m ≤ d) := ⟨hx, hy, hc, hd⟩
  have HS : Hid (key.length = 32 ∧ nonce.length = 12 ∧ Bytes key ∧ Bytes nonce) := ⟨hk, hno, hkb, hnb⟩
  have e1 : ms.length = n := hx.len
  have e2 : zs.length = m := hy.len
  obtain ⟨B, hB⟩ : ∃ B, blkB key 0 nonce = B := ⟨_, rfl⟩
  obtain ⟨TK, hTK⟩ : ∃ T, tagKey key nonce = T := ⟨_, rfl⟩
  obtain ⟨CL, hCL⟩ : ∃ C, codeL key nonce ms zs = C := ⟨_, rfl⟩
  obtain ⟨V, hV⟩ : ∃ V, ([ms ++ fillL n, zs ++ fillL m, ends8 n m] : List (List Int)).flatten = V := ⟨_, rfl⟩
  have HB : Hid (blkB key 0 nonce = B ∧ B.length = 64 ∧ B.take 32 = TK ∧ TK.length = 32 ∧ Bytes TK ∧ CL.length = 16 ∧ Bytes CL ∧ tagB TK V = CL ∧ Bytes B) := by
    refine ⟨hB, by rw [← hB, blkB_length], by rw [← hTK, tagKey, hB], by rw [← hTK, tagKey_length], by rw [← hTK]; exact tagKey_bytes _ _, by rw [← hCL, codeL_length], by rw [← hCL]; exact codeL_bytes _ _ _ _, ?_, by rw [← hB]; exact blkB_bytes _ _ _⟩
    rw [← hCL, codeL, hTK, ← vouched3, e1, e2, hV]
  have HV : Hid (([ms ++ fillL n, zs ++ fillL m, ends8 n m] : List (List Int)).flatten = V ∧ V.length ≤ 35184372088832 ∧ Bytes V) := by
    refine ⟨hV, ?_, ?_⟩
    · rw [← hV]; have := fillN_lt n; have := fillN_lt m; simp [fillL_length, ends8_length, e1, e2]; omega
    · rw [← hV]; simp only [List.flatten_cons, List.flatten_nil, List.append_nil]; exact bytes_app (bytes_app hx.bytes (fillL_bytes _)) (bytes_app (bytes_app hy.bytes (fillL_bytes _)) (ends8_bytes _ _))
  rw [hCL]
  clear hx hy hk hno hkb hnb hB hTK hCL e1 e2 hc hd hV
  have v1 : IntKind.u64.wrap (n : Int) = (n : Int) := by simp only [IntKind.wrap, IntKind.bits, IntKind.signed]; simp; omega
  have v2 : IntKind.u64.wrap (m : Int) = (m : Int) := by simp only [IntKind.wrap, IntKind.bits, IntKind.signed]; simp; omega
  go_enter Tryz.func54, Tryz.ntmps54
  go_wp2_with (first | (refine wpList_box_new rfl 23 _ rfl (u8s key) rfl ?_; intro w1 b1 s1 l1) | (refine wpList_box_new rfl 45 _ rfl (u8s nonce) rfl ?_; intro w2 b2 s2 l2) | (refine wpList_load_blk rfl 23 _ rfl _ rfl (u8s key) _ (by first | exact b1.later l2 (by omega)) Tryz.underlying23 rfl (by rw [u8s_length, HS.out.1]; exact sizeKey) ?_) | (refine wpList_load_blk rfl 45 _ rfl _ rfl (u8s nonce) _ (by first | exact b2 | (rw [← s1]; exact b2)) Tryz.underlying45 rfl (by rw [u8s_length, HS.out.2.1]; exact sizeNonce) ?_) | (go_at_call 70; refine (rblock_any key 0 nonce HS.out.1 HS.out.2.1 HS.out.2.2.1 HS.out.2.2.2 ⟨by decide, by decide⟩ _).mono ?_; rintro e w4 ⟨rfl, l4⟩; rw [HB.out.1]) | (refine wpList_alloc_new rfl 87 rfl 64 _ zero64b ?_; intro w5 b5 s5 l5) | (refine wpList_store_blk rfl 87 87 _ _ rfl _ rfl _ (u8s B) rfl b5 (by rw [u8s_length, u8s_length, HB.out.2.1]; rfl) (by rw [u8s_length, HB.out.2.1]; exact sizeA64b) (u8s_one _) ?_; intro w6 b6 s6 k6) | (refine wpList_alloc_new rfl 23 rfl 32 _ zeroKeyR ?_; intro w7 b7 s7 l7))
  have q4 := l4.size
  obtain ⟨G, hG⟩ : ∃ G, w4.heap.size = G := ⟨_, rfl⟩
  obtain ⟨GK, hGK⟩ : ∃ K, G + 1 = K := ⟨_, rfl⟩
  have e7 : w6.heap.size = GK := by omega
  try simp only [Act.put, List.setIfInBounds_toArray, List.set_cons_zero, List.set_cons_succ]
  rw [hG] at b6 k6 ⊢
  rw [e7] at b7
  rw [hGK]
  have H7 : Hid (Blk w7 G 87 (u8s B) ∧ Blk w7 GK 23 (u8s (zs0 32)) ∧ Below w.heap.size w w7 ∧ G < GK ∧ w.heap.size ≤ G) := by
    have L5 := below_chain (below_chain (below_chain l1 l2 (by omega)) l4 (by omega)) l5 (by omega)
    exact ⟨b6.later l7 (by omega), b7, below_chain (below_kept L5 k6 L5.size (fun j hj => by omega)) l7 (by omega), by omega, by omega⟩
  clear b1 s1 l1 b2 s2 l2 l4 b5 s5 l5 b6 s6 k6 hG q4 b7 s7 l7 hGK e7
  go_loopw [11] (fun i wr => ∃ j : Nat, j ≤ 32 ∧ i = .int .i64 j ∧ Blk wr GK 23 (u8s (B.take j ++ zs0 (32 - j))) ∧ Kept (fun b => b = GK) w7 wr) (fun i _ => 32 - (intOf i).toNat)
  case atStart => exact ⟨0, Nat.zero_le _, rfl, H7.out.2.1, Kept.refl _ _⟩
  case round =>
    obtain ⟨j, hj, rfl, hbk, hkp⟩ := hrel
    by_cases hjl : j < 32
    · have hGG := H7.out.2.2.2.1
      have c1 := u8s_cell (H7.out.1.kept hkp (by omega)) j (by rw [HB.out.2.1]; omega)
      have hlen : (B.take j ++ zs0 (32 - j) : List Int).length = 32 := by rw [List.length_append, List.length_take, HB.out.2.1, zs0_length]; omega
      have cg := u8s_cell hbk j (by rw [hlen]; exact hjl)
      have fg := hbk.frozen j
      have hset : (B.take j ++ zs0 (32 - j) : List Int).set j (B.getD j 0) = B.take (j + 1) ++ zs0 (32 - (j + 1)) := by
        have h := take_next B j (by rw [HB.out.2.1]; omega) (32 - (j + 1))
        rw [show 32 - (j + 1) + 1 = 32 - j by omega] at h
        exact h
      obtain ⟨D, hD⟩ : ∃ D, B.getD j 0 = D := ⟨_, rfl⟩
      obtain ⟨Z, hZ⟩ : ∃ Z, (B.take j ++ zs0 (32 - j) : List Int).getD j 0 = Z := ⟨_, rfl⟩
      rw [hD] at c1 hset
      rw [hZ] at cg
      have HQ : Hid (Blk (wr.setCell ⟨GK, j, none⟩ (.int .u8 D)) GK 23 (u8s (B.take (j + 1) ++ zs0 (32 - (j + 1)))) ∧ Kept (fun b => b = GK) w7 (wr.setCell ⟨GK, j, none⟩ (.int .u8 D))) := by
        have R := hbk.set j (.int .u8 D)
        rw [u8s_set, hset] at R
        exact ⟨R, hkp.setCell rfl _⟩
      have i2 : (j : Int) < 32 := by omega
      have i4 : (j : Int) < 64 := by omega
      have i3 : (0 : Int) ≤ (j : Int) := by omega
      clear hD hZ hset hbk hkp hlen
      go_wp2_with fail
      exact ⟨⟨j + 1, by omega, by go_num, HQ.out.1, HQ.out.2⟩, by simp [intOf]; omega⟩
    · obtain rfl : 32 = j := by omega
      have J : Hid (Blk wr GK 23 (u8s TK) ∧ Below w.heap.size w wr) := by
        refine ⟨?_, below_kept H7.out.2.2.1 hkp H7.out.2.2.1.size (fun j hj => by have := H7.out.2.2.2; omega)⟩
        have e : B.take 32 ++ zs0 (32 - 32) = TK := by rw [HB.out.2.2.1]; simp [zs0]
        rw [← e]; exact hbk
      clear hbk hkp H7
      have i2 : ¬ ((32 : Nat) : Int) < 32 := by omega
      go_wp2_with fail
      refine (rlit_any (n : Int) (by omega) 8 (by decide) wr).mono ?_
      rintro e w8 ⟨v8, rfl, o8, l8⟩
      obtain ⟨p8, c8, rfl, d8, hc8, _⟩ := isO_seen (n := 8) o8 (leB_length _ _) (leB_bytes _ _) (by decide)
      have H8 : Hid (Blk w8 GK 23 (u8s TK) ∧ Below w.heap.size w w8 ∧ Seen w8 p8 8 (leB 8 (n : Int)) ∧ 8 ≤ c8) := ⟨J.out.1.later l8 J.out.1.lt, below_chain J.out.2 l8 J.out.2.size, d8, hc8⟩
      clear o8 d8 l8 hc8 J
      go_wp2_with fail
      refine (rlit_any (m : Int) (by omega) 8 (by decide) w8).mono ?_
      rintro e w9 ⟨v9, rfl, o9, l9⟩
      obtain ⟨p9, c9, rfl, d9, hc9, _⟩ := isO_seen (n := 8) o9 (leB_length _ _) (leB_bytes _ _) (by decide)
      have H9 : Hid (Blk w9 GK 23 (u8s TK) ∧ Below w.heap.size w w9 ∧ Seen w9 p8 8 (leB 8 (n : Int)) ∧ 8 ≤ c8 ∧ Seen w9 p9 8 (leB 8 (m : Int)) ∧ 8 ≤ c9) := ⟨H8.out.1.later l9 H8.out.1.lt, below_chain H8.out.2.1 l9 H8.out.2.1.size, H8.out.2.2.1.later l9 (Nat.le_refl _), H8.out.2.2.2, d9, hc9⟩
      clear o9 d9 l9 hc9 H8
      go_wp2_with fail
      refine (two_any p8 p9 8 8 c8 c9 _ _ w9 H9.out.2.2.1 H9.out.2.2.2.2.1 H9.out.2.2.2.1 H9.out.2.2.2.2.2 (by decide)).mono ?_
      rintro e wA ⟨vA, rfl, oA, lA⟩
      obtain ⟨pA, cA, rfl, dA, hcA, _⟩ := isO_seen (n := 16) (zs := ends8 n m) (by have e := ends8_length n m; rw [ends8] at e ⊢; rw [e] at oA; exact oA) (ends8_length _ _) (ends8_bytes _ _) (by decide)
      have HA : Hid (Blk wA GK 23 (u8s TK) ∧ Below w.heap.size w wA ∧ Seen wA pA 16 (ends8 n m) ∧ 16 ≤ cA) := ⟨H9.out.1.later lA H9.out.1.lt, below_chain H9.out.2.1 lA H9.out.2.1.size, dA, hcA⟩
      clear oA dA lA hcA H9
      go_wp2_with fail
      try simp only [Act.put, List.setIfInBounds_toArray, List.set_cons_zero, List.set_cons_succ]
      refine region_inv [.val (.agg (u8s TK).toArray), .val (.slice ao n c), .any (isS (ms ++ fillL n)) (isS_later _), .val (.slice bo m d), .any (isS (zs ++ fillL m)) (isS_later _), .val (.slice pA 16 cA), .any (isP 3 [ms ++ fillL n, zs ++ fillL m, ends8 n m]) (isP_later _ _), .any (isS V) (isS_later _), .val (.agg (u8s CL).toArray), .blk 65 (u8s (zs0 16))] (by kernel_rfl) (by kernel_rfl) (by kernel_rfl) ?_ ?_
      · refine Steps'.cons ?_ (Steps'.cons ?_ (Steps'.cons ?_ (Steps'.cons ?_ (Steps'.cons ?_ (Steps'.cons ?_ (Steps'.cons ?_ (Steps'.cons ?_ (Steps'.cons ?_ (Steps'.cons ?_ (Steps'.one _ _ _ _ _ _ _))))))))))
        · intro ax wx hb hs hd
          have h10 : ax.tmps.getD 10 undef = (.pointer (some ⟨GK, 0, none⟩)) := hs 10 (by kernel_rfl)
          exact Does.load 23 (.tmp 10) rfl GK 0 h10 (u8s TK) _ (blkAllR (HA.out.1.later hb HA.out.1.lt)) Tryz.underlying23 rfl (by rw [u8s_length, HB.out.2.2.2.1]; exact sizeKey)
        · intro ax wx hb hs hd
          have h2 : ax.tmps.getD 2 undef = (.slice ao n c) := hs 2 (by kernel_rfl)
          refine Does.value (.slice ao n c) ?_ rfl
          go_simp
        · intro ax wx hb hs hd
          have h38 : ax.tmps.getD 38 undef = (.slice ao n c) := hd 1 38 rfl (by kernel_rfl) (by decide)
          refine Does.call 72 #[(.slice ao n c)] (by go_simp) ?_
          exact filled_is _ _ _ _ (by omega) wx (HX.out.1.later (below_chain HA.out.2.1 hb HA.out.2.1.size) (Nat.le_refl _))
        · intro ax wx hb hs hd
          have h3 : ax.tmps.getD 3 undef = (.slice bo m d) := hs 3 (by kernel_rfl)
          refine Does.value (.slice bo m d) ?_ rfl
          go_simp
        · intro ax wx hb hs hd
          have h40 : ax.tmps.getD 40 undef = (.slice bo m d) := hd 3 40 rfl (by kernel_rfl) (by decide)
          refine Does.call 72 #[(.slice bo m d)] (by go_simp) ?_
          exact filled_is _ _ _ _ (by omega) wx (HX.out.2.1.later (below_chain HA.out.2.1 hb HA.out.2.1.size) (Nat.le_refl _))
        · intro ax wx hb hs hd
          have h12 : ax.tmps.getD 12 undef = (.slice pA 16 cA) := hs 12 (by kernel_rfl)
          refine Does.value (.slice pA 16 cA) ?_ rfl
          go_simp
        · intro ax wx hb hs hd
          have h42 : ax.tmps.getD 42 undef = (.slice pA 16 cA) := hd 5 42 rfl (by kernel_rfl) (by decide)
          obtain ⟨x1, n1, c1, h39, s39, q39⟩ : isS (ms ++ fillL n) (ax.tmps.getD 39 undef) wx := hd 2 39 rfl (by kernel_rfl) (by decide)
          obtain ⟨x2, n2, c2, h41, s41, q41⟩ : isS (zs ++ fillL m) (ax.tmps.getD 41 undef) wx := hd 4 41 rfl (by kernel_rfl) (by decide)
          exact Does.rows3 _ rfl _ _ _ _ _ _ _ _ _ _ _ _ (by simp only [List.map_toArray, List.map_cons, List.map_nil, Act.eval, h39, h41, h42]) ⟨s39, q39⟩ ⟨s41, q41⟩ ⟨HA.out.2.2.1.later hb (Nat.le_refl _), HA.out.2.2.2⟩
        · intro ax wx hb hs hd
          obtain ⟨b, c', h43, s43⟩ : isP 3 [ms ++ fillL n, zs ++ fillL m, ends8 n m] (ax.tmps.getD 43 undef) wx := hd 6 43 rfl (by kernel_rfl) (by decide)
          refine Does.call 37 #[.slice (some ⟨b, 0, none⟩) 3 c'] (by go_simp) ?_
          have q := join_any _ 3 c' _ wx s43 (by decide) (by rw [HV.out.1]; exact HV.out.2.1)
          rw [HV.out.1] at q
          refine q.mono ?_
          rintro e w' ⟨v, rfl, o, l⟩
          obtain ⟨xA, cB, rfl, sB, qB, _⟩ := own_data HV.out.2.2 (by have := HV.out.2.1; omega) o
          exact ⟨_, rfl, ⟨xA, _, cB, rfl, sB, qB⟩, l⟩
        · intro ax wx hb hs hd
          have h37 : ax.tmps.getD 37 undef = (.agg (u8s TK).toArray) := hd 0 37 rfl (by kernel_rfl) (by decide)
          obtain ⟨x, n', c', h44, s44, _⟩ : isS V (ax.tmps.getD 44 undef) wx := hd 7 44 rfl (by kernel_rfl) (by decide)
          refine Does.call 71 #[(.agg (u8s TK).toArray), .slice x n' c'] (by go_simp) ?_
          have q := rtsum_any TK HB.out.2.2.2.1 HB.out.2.2.2.2.1 x n' c' V wx s44
          rw [HB.out.2.2.2.2.2.2.2.1] at q
          refine q.mono ?_
          rintro e w' ⟨rfl, l⟩
          exact ⟨_, rfl, rfl, l⟩
        · intro ax wx hb hs hd
          exact Does.alloc 65 rfl 16 _ zeroTag hb.size
      · intro wx hb
        refine @Ends.val _ _ _ _ _ _ _ _ _ (.agg (u8s TK).toArray) rfl ?_
        refine @Ends.val _ _ _ _ _ _ _ _ _ (.slice ao n c) rfl ?_
        refine @Ends.any _ _ _ _ _ _ _ _ _ (isS (ms ++ fillL n)) (isS_later _) rfl ?_
        intro v2 p2
        refine @Ends.val _ _ _ _ _ _ _ _ _ (.slice bo m d) rfl ?_
        refine @Ends.any _ _ _ _ _ _ _ _ _ (isS (zs ++ fillL m)) (isS_later _) rfl ?_
        intro v4 p4
        refine @Ends.val _ _ _ _ _ _ _ _ _ (.slice pA 16 cA) rfl ?_
        refine @Ends.any _ _ _ _ _ _ _ _ _ (isP 3 [ms ++ fillL n, zs ++ fillL m, ends8 n m]) (isP_later _ _) rfl ?_
        intro v6 p6
        refine @Ends.any _ _ _ _ _ _ _ _ _ (isS V) (isS_later _) rfl ?_
        intro v7 p7
        refine @Ends.val _ _ _ _ _ _ _ _ _ (.agg (u8s CL).toArray) rfl ?_
        refine @Ends.blk _ _ _ _ _ _ _ _ _ 65 (u8s (zs0 16)) rfl ?_
        intro g9 hg9 bg9
        refine @Ends.one _ _ _ _ _ _ _ ?_
        simp only [Act.put, List.setIfInBounds_toArray, List.set_cons_zero, List.set_cons_succ]
        refine last_store 65 (.tmp 13) (.tmp 45) rfl rfl g9 rfl 65 _ (u8s CL) rfl bg9 (by rw [u8s_length, HB.out.2.2.2.2.2.1]; rfl) (by rw [u8s_length, HB.out.2.2.2.2.2.1]; exact sizeTag) (u8s_one _) ?_
        intro wB bB sB kB
        have H10 : Hid (Below w.heap.size w wB ∧ Blk wB g9 65 (u8s CL) ∧ g9 < wB.heap.size) := ⟨below_chain HA.out.2.1 (below_kept hb kB hb.size (fun j hj => by omega)) HA.out.2.1.size, bB, bB.lt⟩
        clear hb hg9 bg9 bB sB kB HA
        go_wp2_with fail
        go_loopw [14, 15] (fun v i wr => ∃ k : Nat, k ≤ 16 ∧ i = .int .i64 k ∧ wr.ownsRow wB.heap.size 5 1 v k ((CL.map (Value.int .u8)).take k) ∧ Below wB.heap.size wB wr) (fun _ i _ => 16 - (intOf i).toNat)
        case atStart => exact ⟨0, Nat.zero_le _, rfl, World.ownsRow_nil _ _ _ _, Below.refl _ _⟩
        case round =>
          obtain ⟨k, hk, rfl, hown, hbel⟩ := hrel
          have hsz := hbel.size
          by_cases hlt : k < 16
          · obtain ⟨D, HD⟩ : ∃ D, Hid (CL.getD k 0 = D) := ⟨_, rfl⟩
            have cD := u8s_cell (H10.out.2.1.later hbel H10.out.2.2) k (by rw [HB.out.2.2.2.2.2.1]; exact hlt)
            rw [HD.out] at cD
            have i1 : (k : Int) < 16 := by omega
            have i3 : (0 : Int) ≤ (k : Int) := by omega
            go_wp2_with (at_builtin; refine wpList_append_own _ rfl _ _ 28 rfl wB.heap.size 5 i0 (.int .u8 0) 1 1 Tryz.underlying28 hi hz0 hz1 hz2 rfl (by decide) _ _ _ rfl (hown.alloc _) ⟨wr.heap.size, 0, none⟩ 1 1 [.int .u8 D] rfl rfl ?c1 ?c2 ?c3 ?c4 ?c5 ?_)
            try case c1 => exact one_new _ _ _
            case c2 => first | rfl | (intro u hu; simp at hu; subst hu; rfl)
            case c3 => unfold maxLen; omega
            case c4 => omega
            case c5 => first | omega | (simp; omega)
            · intro v' w2 hown' hgrow _
              have R := step_own hbel hown (by rw [HB.out.2.2.2.2.2.1]; exact hlt) HD.out hown' hgrow
              clear hown' hgrow hown hbel cD
              go_wp2_with fail
              exact ⟨⟨k + 1, by omega, by go_num, R.1, R.2⟩, by simp [intOf]; omega⟩
          · obtain rfl : 16 = k := by omega
            have HO : Hid (wr.ownsRow w.heap.size 5 1 u14 16 (CL.map (Value.int .u8)) ∧ Below w.heap.size w wr) := ⟨by have h := hown; rw [List.take_of_length_le (by simp [HB.out.2.2.2.2.2.1])] at h; exact ownsRow_base h H10.out.1.size, below_chain H10.out.1 hbel H10.out.1.size⟩
            have i1 : ¬ ((16 : Nat) : Int) < 16 := by omega
            clear hown hbel
            go_wp2_with fail
            go_ret
            exact ⟨_, rfl, HO.out⟩
set_option maxRecDepth 20000 in
set_option maxHeartbeats 1000000 in
theorem rbox_any (key nonce : List Int) (n c m d : Nat) (ao bo : Option Addr) (ms zs : List Int) (hk : key.length = 32) (hno : nonce.length = 12) (hkb : Bytes key) (hnb : Bytes nonce) (w : World) (hx : Seen w ao n ms) (hy : Seen w bo m zs) (hc : n ≤ c) (hn : n ≤ 1048576) (hm : m ≤ 1048576) :
    Calls Tryz.prog 36 #[.agg (u8s key).toArray, .agg (u8s nonce).toArray, .slice ao n c, .slice bo m d] w fun e w' => ∃ v, e = .returned v ∧ w'.ownsRow w.heap.size 5 1 v (m + 16) ((boxL key nonce ms zs).map (Value.int .u8)) ∧ Below w.heap.size w w' := by
  have HX : Hid (Seen w ao n ms ∧ Seen w bo m zs ∧ n ≤ c) := ⟨hx, hy, hc⟩
  have HS : Hid (key.length = 32 ∧ nonce.length = 12 ∧ Bytes key ∧ Bytes nonce) := ⟨hk, hno, hkb, hnb⟩
  have HC : Hid ((coverL key nonce zs).length = m ∧ Bytes (coverL key nonce zs)) := ⟨by rw [coverL_length, hy.len], coverL_bytes _ _ hy.bytes⟩
  clear hx hy hk hno hkb hnb hc
  go_enter Tryz.func36, Tryz.ntmps36
  go_wp2_with (first | (refine wpList_box_new rfl 23 _ rfl (u8s key) rfl ?_; intro w1 b1 s1 l1) | (refine wpList_box_new rfl 45 _ rfl (u8s nonce) rfl ?_; intro w2 b2 s2 l2; rw [s1] at b2; have K2 : Hid (Blk w2 w.heap.size 23 (u8s key) ∧ Blk w2 (w.heap.size + 1) 45 (u8s nonce) ∧ Below w.heap.size w w2) := ⟨b1.later l2 (by omega), b2, below_chain l1 l2 (by omega)⟩; clear b1 b2) | (refine wpList_load_blk rfl 23 _ rfl _ rfl (u8s key) _ K2.out.1 Tryz.underlying23 rfl (by rw [u8s_length, HS.out.1]; exact sizeKey) ?_) | (refine wpList_load_blk rfl 45 _ rfl _ rfl (u8s nonce) _ K2.out.2.1 Tryz.underlying45 rfl (by rw [u8s_length, HS.out.2.1]; exact sizeNonce) ?_))
  clear s1 l1 s2 l2
  refine (rxor_any key nonce 1 m d bo zs HS.out.1 HS.out.2.1 HS.out.2.2.1 HS.out.2.2.2 (by decide) (by omega) w2 (HX.out.2.1.later K2.out.2.2 (Nat.le_refl _))).mono ?_
  rintro e w3 ⟨v3, rfl, o3, l3⟩
  obtain ⟨p3, c3, rfl, d3, hc3, _⟩ := isO_seen (n := m) (zs := coverL key nonce zs) o3 HC.out.1 HC.out.2 (by omega)
  have K3 : Hid (Blk w3 w.heap.size 23 (u8s key) ∧ Blk w3 (w.heap.size + 1) 45 (u8s nonce) ∧ Below w.heap.size w w3 ∧ Seen w3 p3 m (coverL key nonce zs) ∧ m ≤ c3) := ⟨K2.out.1.later l3 K2.out.1.lt, K2.out.2.1.later l3 K2.out.2.1.lt, below_chain K2.out.2.2 l3 K2.out.2.2.size, d3, hc3⟩
  clear o3 l3 d3 hc3 K2
  go_wp2_with (first | (refine wpList_load_blk rfl 23 _ rfl _ rfl (u8s key) _ K3.out.1 Tryz.underlying23 rfl (by rw [u8s_length, HS.out.1]; exact sizeKey) ?_) | (refine wpList_load_blk rfl 45 _ rfl _ rfl (u8s nonce) _ K3.out.2.1 Tryz.underlying45 rfl (by rw [u8s_length, HS.out.2.1]; exact sizeNonce) ?_))
  refine (rtag_any key nonce n c m c3 ao p3 ms (coverL key nonce zs) HS.out.1 HS.out.2.1 HS.out.2.2.1 HS.out.2.2.2 w3 (HX.out.1.later K3.out.2.2.1 (Nat.le_refl _)) K3.out.2.2.2.1 HX.out.2.2 K3.out.2.2.2.2 (by omega) (by omega)).mono ?_
  rintro e w4 ⟨v4, rfl, o4, l4⟩
  obtain ⟨p4, c4, rfl, d4, hc4, _⟩ := isO_seen (n := 16) o4 (codeL_length _ _ _ _) (codeL_bytes _ _ _ _) (by decide)
  have K4 : Hid (Below w.heap.size w w4 ∧ Seen w4 p3 m (coverL key nonce zs) ∧ m ≤ c3 ∧ Seen w4 p4 16 (codeL key nonce ms (coverL key nonce zs)) ∧ 16 ≤ c4) := ⟨below_chain K3.out.2.2.1 l4 K3.out.2.2.1.size, K3.out.2.2.2.1.later l4 (Nat.le_refl _), K3.out.2.2.2.2, d4, hc4⟩
  clear o4 l4 d4 hc4 K3
  go_wp2_with fail
  refine (two_any p3 p4 m 16 c3 c4 _ _ w4 K4.out.2.1 K4.out.2.2.2.1 K4.out.2.2.1 K4.out.2.2.2.2 (by omega)).mono ?_
  rintro e w5 ⟨v5, rfl, o5, l5⟩
  have K5 : Hid (w5.ownsRow w.heap.size 5 1 v5 (m + 16) ((boxL key nonce ms zs).map (Value.int .u8)) ∧ Below w.heap.size w w5) := by
    refine ⟨?_, below_chain K4.out.1 l5 K4.out.1.size⟩
    rw [List.length_append, HC.out.1, codeL_length] at o5
    exact ownsRow_base o5 K4.out.1.size
  clear o5 l5 K4
  go_wp2_with fail
  go_ret
  exact ⟨_, rfl, K5.out⟩
set_option maxRecDepth 20000 in
set_option maxHeartbeats 1000000 in
theorem rseal_bad (key nonce : List Int) (n c m d : Nat) (ao bo : Option Addr) (hb : 1048576 < n ∨ 1048576 < m) (w : World) :
    Calls Tryz.prog 18 #[.agg (u8s key).toArray, .agg (u8s nonce).toArray, .slice ao n c, .slice bo m d] w fun e w' => e = .returned (.tuple #[.slice none 0 0, .int .i64 3]) ∧ Below w.heap.size w w' := by
  have e : lngE n m = 3 := by rw [lngE, if_neg (by omega)]
  clear hb
  go_enter Tryz.func18, Tryz.ntmps18
  go_wp2_with (first | (refine wpList_box_new rfl 23 _ rfl (u8s key) rfl ?_; intro w1 b1 s1 l1) | (refine wpList_box_new rfl 45 _ rfl (u8s nonce) rfl ?_; intro w2 b2 s2 l2) | (go_at_call 35; refine (rlong_any ao bo n m c d _).mono ?_; rintro e' w' ⟨rfl, rfl⟩; rw [e]))
  go_ret2
  exact ⟨rfl, below_chain l1 l2 (by omega)⟩
set_option maxRecDepth 20000 in
set_option maxHeartbeats 1000000 in
theorem rseal_any (key nonce : List Int) (n c m d : Nat) (ao bo : Option Addr) (ms zs : List Int) (hk : key.length = 32) (hno : nonce.length = 12) (hkb : Bytes key) (hnb : Bytes nonce) (w : World) (hx : Seen w ao n ms) (hy : Seen w bo m zs) (hc : n ≤ c) (hn : n ≤ 1048576) (hm : m ≤ 1048576) :
    Calls Tryz.prog 18 #[.agg (u8s key).toArray, .agg (u8s nonce).toArray, .slice ao n c, .slice bo m d] w fun e w' => ∃ v, e = .returned (.tuple #[v, .int .i64 0]) ∧ w'.ownsRow w.heap.size 5 1 v (m + 16) ((boxL key nonce ms zs).map (Value.int .u8)) ∧ Below w.heap.size w w' := by
  have HX : Hid (Seen w ao n ms ∧ Seen w bo m zs ∧ n ≤ c) := ⟨hx, hy, hc⟩
  have HS : Hid (key.length = 32 ∧ nonce.length = 12 ∧ Bytes key ∧ Bytes nonce) := ⟨hk, hno, hkb, hnb⟩
  have e : lngE n m = 0 := by rw [lngE, if_pos ⟨hn, hm⟩]
  clear hx hy hk hno hkb hnb hc
  go_enter Tryz.func18, Tryz.ntmps18
  go_wp2_with (first | (refine wpList_box_new rfl 23 _ rfl (u8s key) rfl ?_; intro w1 b1 s1 l1) | (refine wpList_box_new rfl 45 _ rfl (u8s nonce) rfl ?_; intro w2 b2 s2 l2; rw [s1] at b2; have K2 : Hid (Blk w2 w.heap.size 23 (u8s key) ∧ Blk w2 (w.heap.size + 1) 45 (u8s nonce) ∧ Below w.heap.size w w2) := ⟨b1.later l2 (by omega), b2, below_chain l1 l2 (by omega)⟩; clear b1 b2) | (go_at_call 35; refine (rlong_any ao bo n m c d _).mono ?_; rintro e' w' ⟨rfl, rfl⟩; rw [e]) | (refine wpList_load_blk rfl 23 _ rfl _ rfl (u8s key) _ K2.out.1 Tryz.underlying23 rfl (by rw [u8s_length, HS.out.1]; exact sizeKey) ?_) | (refine wpList_load_blk rfl 45 _ rfl _ rfl (u8s nonce) _ K2.out.2.1 Tryz.underlying45 rfl (by rw [u8s_length, HS.out.2.1]; exact sizeNonce) ?_))
  clear s1 l1 s2 l2
  refine (rbox_any key nonce n c m d ao bo ms zs HS.out.1 HS.out.2.1 HS.out.2.2.1 HS.out.2.2.2 w2 (HX.out.1.later K2.out.2.2 (Nat.le_refl _)) (HX.out.2.1.later K2.out.2.2 (Nat.le_refl _)) HX.out.2.2 hn hm).mono ?_
  rintro e w3 ⟨v3, rfl, o3, l3⟩
  have K3 : Hid (w3.ownsRow w.heap.size 5 1 v3 (m + 16) ((boxL key nonce ms zs).map (Value.int .u8)) ∧ Below w.heap.size w w3) := ⟨ownsRow_base o3 K2.out.2.2.size, below_chain K2.out.2.2 l3 K2.out.2.2.size⟩
  clear o3 l3 K2
  go_wp2_with fail
  go_ret2
  exact ⟨_, rfl, K3.out⟩
end Go.Proofs.YtcimiajkbgabiaaGreat

namespace Go.Proofs.YtcimiajkbgabiaaGreat
open Go.RowKit
set_option linter.unusedVariables false
set_option linter.unusedSimpArgs false

set_option maxRecDepth 20000 in
set_option maxHeartbeats 1000000 in
theorem rwrong_any (ao bo : Option Addr) (n m c d : Nat) (w : World) : Calls Tryz.prog 44 #[.slice ao n c, .slice bo m d] w fun e w' => e = .returned (.int .i64 (boxE n m)) ∧ w = w' := by
  by_cases h1 : m < 16
  · have e : boxE n m = 4 := by rw [boxE, if_pos h1]
    have i1 : (m : Int) < 16 := by omega
    rw [e]
    clear e
    go_enter Tryz.func44, Tryz.ntmps44
    go_wp2_with fail
    go_ret
    exact ⟨rfl, rfl⟩
  · have i1 : ¬ (m : Int) < 16 := by omega
    by_cases h2 : 1048576 < n
    · have e : boxE n m = 3 := by rw [boxE, if_neg h1, if_pos (.inl h2)]
      have i2 : (1048576 : Int) < (n : Int) := by omega
      rw [e]
      clear e
      go_enter Tryz.func44, Tryz.ntmps44
      go_wp2_with fail
      go_ret
      exact ⟨rfl, rfl⟩
    · have i2 : ¬ (1048576 : Int) < (n : Int) := by omega
      by_cases h3 : 1048592 < m
      · have e : boxE n m = 3 := by rw [boxE, if_neg h1, if_pos (.inr h3)]
        have i3 : (1048592 : Int) < (m : Int) := by omega
        rw [e]
        clear e
        go_enter Tryz.func44, Tryz.ntmps44
        go_wp2_with fail
        go_ret
        exact ⟨rfl, rfl⟩
      · have e : boxE n m = 0 := by rw [boxE, if_neg h1, if_neg (by omega)]
        have i3 : ¬ (1048592 : Int) < (m : Int) := by omega
        rw [e]
        clear e
        go_enter Tryz.func44, Tryz.ntmps44
        go_wp2_with fail
        go_ret
        exact ⟨rfl, rfl⟩
set_option maxRecDepth 20000 in
set_option maxHeartbeats 4000000 in
theorem rtext_any (key nonce : List Int) (n c M d : Nat) (ao bo : Option Addr) (ms zs : List Int) (hk : key.length = 32) (hno : nonce.length = 12) (hkb : Bytes key) (hnb : Bytes nonce) (hm : M + 16 ≤ 1048592) (hn : n ≤ 1048576) (w : World) (hx : Seen w ao n ms) (hy : Seen w bo (M + 16) zs) (hc : n ≤ c) (hd : M + 16 ≤ d) :
    Calls Tryz.prog 45 #[.agg (u8s key).toArray, .agg (u8s nonce).toArray, .slice ao n c, .slice bo (M + 16) d] w fun e w' => (opensL key nonce ms zs = false ∧ e = .returned (.tuple #[.slice none 0 0, .bool false]) ∨ opensL key nonce ms zs = true ∧ ∃ v, e = .returned (.tuple #[v, .bool true]) ∧ isO w.heap.size M (textL key nonce zs) v w') ∧ Below w.heap.size w w' := by
  have HS : Hid (key.length = 32 ∧ nonce.length = 12 ∧ Bytes key ∧ Bytes nonce ∧ n ≤ c) := ⟨hk, hno, hkb, hnb, hc⟩
  have SX : Hid (∀ W, Below w.heap.size w W → Seen W ao n ms ∧ Seen W (subA bo 0 d) M (zs.take M) ∧ Seen W (subA bo M d) 16 (zs.drop M)) := fun W hW => by
    have y := hy.later hW (Nat.le_refl _)
    have a := y.sub 0 M d (Nat.zero_le _) (by omega) hd
    have b := y.sub M (M + 16) d (by omega) (Nat.le_refl _) hd
    simp only [Nat.sub_zero, List.drop_zero] at a
    rw [Nat.add_sub_cancel_left, List.take_of_length_le (by rw [List.length_drop, y.len]; omega)] at b
    exact ⟨hx.later hW (Nat.le_refl _), a, b⟩
  have hsh : ∀ W, (Instr.sliceAt 28 (.slice bo (M + 16) d) none (some (.int .i64 (M : Int))) none).run Tryz.prog W = .ok (.slice (subA bo 0 d) M d) W := fun W => sl_h bo (M + 16) d M (by omega) W
  have hsl : ∀ W, (Instr.sliceAt 28 (.slice bo (M + 16) d) (some (.int .i64 (M : Int))) none none).run Tryz.prog W = .ok (.slice (subA bo M d) 16 (d - M)) W := fun W => by
    have q := sl_l bo (M + 16) d M (by omega) W
    rwa [Nat.add_sub_cancel_left] at q
  obtain ⟨CL, hCL⟩ : ∃ C, codeL key nonce ms (zs.take M) = C := ⟨_, rfl⟩
  obtain ⟨OB, hOB⟩ : ∃ O, opensL key nonce ms zs = O := ⟨_, rfl⟩
  have HO : Hid (codeL key nonce ms (zs.take M) = CL ∧ decide (zs.drop M = CL) = OB ∧ CL.length = 16 ∧ Bytes CL ∧ textL key nonce zs = over key nonce 64 (zs.take M)) := by
    refine ⟨hCL, ?_, by rw [← hCL, codeL_length], by rw [← hCL]; exact codeL_bytes _ _ _ _, ?_⟩
    · rw [← hOB, opensL, hy.len, Nat.add_sub_cancel, hCL]; exact decide_eq_decide.2 eq_comm
    · rw [textL, hy.len, Nat.add_sub_cancel, coverL]
  rw [hOB]
  have a2 : (M : Int) + 16 - 16 = (M : Int) := by omega
  have i0 : ¬ (M : Int) < 0 := by omega
  have uK : (Tryz.prog.info? 23).map (·.size) = some (u8s key).length := by rw [u8s_length, hk]; exact sizeKey
  have uN : (Tryz.prog.info? 45).map (·.size) = some (u8s nonce).length := by rw [u8s_length, hno]; exact sizeNonce
  clear hx hy hk hno hkb hnb hc hCL hOB
  go_enter Tryz.func45, Tryz.ntmps45
  go_wp2_with (first | (refine wpList_box_new rfl 23 _ rfl (u8s key) rfl ?_; intro w1 b1 s1 l1) | (refine wpList_box_new rfl 45 _ rfl (u8s nonce) rfl ?_; intro w2 b2 s2 l2; rw [s1] at b2; have H2 : Hid (Blk w2 w.heap.size 23 (u8s key) ∧ Blk w2 (w.heap.size + 1) 45 (u8s nonce) ∧ Below w.heap.size w w2) := ⟨b1.later l2 (by omega), b2, below_chain l1 l2 (by omega)⟩; clear b1 b2))
  clear s1 l1 s2 l2
  try simp only [Act.put, List.setIfInBounds_toArray, List.set_cons_zero, List.set_cons_succ]
  have RS : Hid (∀ W, Below w2.heap.size w2 W → W.rangeAt w.heap.size 0 (u8s key) ∧ W.rangeAt (w.heap.size + 1) 0 (u8s nonce)) := fun W hW => ⟨blkAllR (H2.out.1.later hW H2.out.1.lt), blkAllR (H2.out.2.1.later hW H2.out.2.1.lt)⟩
  refine wp_region_noPanic (wp_region_held_drew (S := fun W => W.rangeAt w.heap.size 0 (u8s key) ∧ W.rangeAt (w.heap.size + 1) 0 (u8s nonce)) (by kernel_rfl) (RS.out _ (below_dn (Below.refl _ _) 1)) (fun hH => ?_))
  refine hTake 0 (some 14) (.int .i64 (M : Int)) rfl rfl (by kernel_rfl) (by kernel_rfl) (by kernel_rfl) (fun _ _ _ h => h) (by rfl) (fun W' _ => by rfl) hH ?_
  simp only [Act.put, List.setIfInBounds_toArray, List.set_cons_zero, List.set_cons_succ]
  refine hTake 1 (some 15) (.bool false) rfl rfl (by kernel_rfl) (by kernel_rfl) (by kernel_rfl) (fun _ _ _ h => h) (by rfl) (fun W' _ => by go_simp) hH ?_
  simp only [Act.put, List.setIfInBounds_toArray, List.set_cons_zero, List.set_cons_succ]
  refine hTake 2 (some 16) (.bool false) rfl rfl (by kernel_rfl) (by kernel_rfl) (by kernel_rfl) (fun _ _ _ h => h) (by rfl) (fun W' _ => by rfl) hH ?_
  simp only [Act.put, List.setIfInBounds_toArray, List.set_cons_zero, List.set_cons_succ]
  refine hTake 3 (some 17) (.slice bo (M + 16) d) rfl rfl (by kernel_rfl) (by kernel_rfl) (by kernel_rfl) (fun _ _ _ h => h) (by rfl) (fun W' _ => by rfl) hH ?_
  simp only [Act.put, List.setIfInBounds_toArray, List.set_cons_zero, List.set_cons_succ]
  refine hTake 4 (some 18) (.int .i64 (M : Int)) rfl rfl (by kernel_rfl) (by kernel_rfl) (by kernel_rfl) (fun _ _ _ h => h) (by rfl) (fun W' _ => by rfl) hH ?_
  simp only [Act.put, List.setIfInBounds_toArray, List.set_cons_zero, List.set_cons_succ]
  refine hTake 5 (some 19) (.slice (subA bo M d) 16 (d - M)) rfl rfl (by kernel_rfl) (by kernel_rfl) (by kernel_rfl) (fun _ _ _ h => h) (by rfl) (fun W' _ => by (have q1 := hsl W'; go_simp)) hH ?_
  simp only [Act.put, List.setIfInBounds_toArray, List.set_cons_zero, List.set_cons_succ]
  refine hLoad 6 (some 20) (u8s key) rfl rfl (by kernel_rfl) (by kernel_rfl) (by kernel_rfl) (fun _ _ _ h => h) (by rfl) 23 (.tmp 4) rfl w.heap.size 0 rfl _ (fun _ h => h.1) Tryz.underlying23 rfl uK hH ?_
  simp only [Act.put, List.setIfInBounds_toArray, List.set_cons_zero, List.set_cons_succ]
  refine hLoad 7 (some 21) (u8s nonce) rfl rfl (by kernel_rfl) (by kernel_rfl) (by kernel_rfl) (fun _ _ _ h => h) (by rfl) 45 (.tmp 5) rfl (w.heap.size + 1) 0 rfl _ (fun _ h => h.2) Tryz.underlying45 rfl uN hH ?_
  simp only [Act.put, List.setIfInBounds_toArray, List.set_cons_zero, List.set_cons_succ]
  refine hTake 8 (some 22) (.slice ao n c) rfl rfl (by kernel_rfl) (by kernel_rfl) (by kernel_rfl) (fun _ _ _ h => h) (by rfl) (fun W' _ => by rfl) hH ?_
  simp only [Act.put, List.setIfInBounds_toArray, List.set_cons_zero, List.set_cons_succ]
  refine hTake 9 (some 23) (.slice bo (M + 16) d) rfl rfl (by kernel_rfl) (by kernel_rfl) (by kernel_rfl) (fun _ _ _ h => h) (by rfl) (fun W' _ => by rfl) hH ?_
  simp only [Act.put, List.setIfInBounds_toArray, List.set_cons_zero, List.set_cons_succ]
  refine hTake 10 (some 24) (.int .i64 (M : Int)) rfl rfl (by kernel_rfl) (by kernel_rfl) (by kernel_rfl) (fun _ _ _ h => h) (by rfl) (fun W' _ => by rfl) hH ?_
  simp only [Act.put, List.setIfInBounds_toArray, List.set_cons_zero, List.set_cons_succ]
  refine hTake 11 (some 25) (.slice (subA bo 0 d) M d) rfl rfl (by kernel_rfl) (by kernel_rfl) (by kernel_rfl) (fun _ _ _ h => h) (by rfl) (fun W' _ => by (have q1 := hsh W'; go_simp)) hH ?_
  simp only [Act.put, List.setIfInBounds_toArray, List.set_cons_zero, List.set_cons_succ]
  refine wpAnyH_ready (rs := [12]) (by kernel_rfl) (by simp) (AllReadyH.cons rfl (fun K hK => ?_) AllReadyH.nil)
  rw [if_pos (by rfl)]
  go_simp
  go_wp2_with (go_at_call 54; refine (rtag_any key nonce n c M d ao (subA bo 0 d) ms _ HS.out.1 HS.out.2.1 HS.out.2.2.1 HS.out.2.2.2.1 w2.drew (SX.out _ (below_dn H2.out.2.2 1)).1 (SX.out _ (below_dn H2.out.2.2 1)).2.1 HS.out.2.2.2.2 (by omega) (by omega) (by omega)).mono ?_; rintro e wA ⟨vA, rfl, oA, lA⟩; rw [HO.out.1] at oA; obtain ⟨xA, cA, rfl, sA, _⟩ := isO_seen (n := 16) oA HO.out.2.2.1 HO.out.2.2.2.1 (by decide); have GA : Hid (Below w2.heap.size w2 wA ∧ Seen wA xA 16 CL) := ⟨below_chain (below_dn (Below.refl w2.heap.size w2) 1) lA (Nat.le_refl _), sA⟩; clear oA lA sA)
  refine hK.out _ _ (RS.out _ (GA.out.1)) (fun hH => ?_)
  clear hK K
  refine wpAnyH_ready (rs := [13]) (by kernel_rfl) (by simp) (AllReadyH.cons rfl (fun K hK => ?_) AllReadyH.nil)
  rw [if_pos (by rfl)]
  go_simp
  go_wp2_with (go_at_call 8; refine (reqb_any (subA bo M d) xA 16 16 (d - M) cA _ _ _ (SX.out _ (below_chain H2.out.2.2 GA.out.1 H2.out.2.2.size)).2.2 GA.out.2).mono ?_; rintro e wC ⟨rfl, qC, rfl⟩; rw [HO.out.2.1])
  refine hK.out _ _ (RS.out _ (below_dn GA.out.1 qC)) (fun hH => ?_)
  clear hK K
  refine hTake 14 (some 28) (.bool (!OB)) rfl rfl (by kernel_rfl) (by kernel_rfl) (by kernel_rfl) (fun _ _ _ h => h) (by rfl) (fun W' _ => by go_simp) hH ?_
  simp only [Act.put, List.setIfInBounds_toArray, List.set_cons_zero, List.set_cons_succ]
  refine hTake 15 (some 29) (.bool (!OB)) rfl rfl (by kernel_rfl) (by kernel_rfl) (by kernel_rfl) (fun _ _ _ h => h) (by rfl) (fun W' _ => by go_simp) hH ?_
  simp only [Act.put, List.setIfInBounds_toArray, List.set_cons_zero, List.set_cons_succ]
  refine wpAnyH_done (by kernel_rfl) (NoPanic.normal ?_) _
  have H3 : Hid (Blk (wA.drewN qC) w.heap.size 23 (u8s key) ∧ Blk (wA.drewN qC) (w.heap.size + 1) 45 (u8s nonce) ∧ Below w.heap.size w (wA.drewN qC)) := ⟨(H2.out.1.later GA.out.1 H2.out.1.lt).drewN qC, (H2.out.2.1.later GA.out.1 H2.out.2.1.lt).drewN qC, below_dn (below_chain H2.out.2.2 GA.out.1 H2.out.2.2.size) qC⟩
  obtain ⟨w3, hw3⟩ : ∃ x, wA.drewN qC = x := ⟨_, rfl⟩
  rw [hw3] at H3 ⊢
  clear hw3 hH GA RS
  cases OB
  · go_wp2_with fail
    go_ret2
    exact ⟨rfl, H3.out.2.2⟩
  · simp only [Bool.not_true]
    go_wp2_with fail
    try simp only [Act.put, List.setIfInBounds_toArray, List.set_cons_zero, List.set_cons_succ]
    refine region_inv [.val (.agg (u8s key).toArray), .val (.agg (u8s nonce).toArray), .val (.slice bo (M + 16) d), .val (.int .i64 (M : Int)), .val (.slice (subA bo 0 d) M d), .any (isO w.heap.size M (textL key nonce zs)) (isO_later _ _ _), .any (isO w.heap.size M (textL key nonce zs)) (isO_later _ _ _)] (by kernel_rfl) (by kernel_rfl) (by kernel_rfl) ?_ ?_
    · refine Steps'.cons ?_ (Steps'.cons ?_ (Steps'.cons ?_ (Steps'.cons ?_ (Steps'.cons ?_ (Steps'.cons ?_ (Steps'.cons ?_ (Steps'.one _ _ _ _ _ _ _)))))))
      · intro ax wz hb hs hd
        have h4 : ax.tmps.getD 4 undef = (.pointer (some ⟨w.heap.size, 0, none⟩)) := hs 4 (by kernel_rfl)
        exact Does.load 23 (.tmp 4) rfl w.heap.size 0 h4 (u8s key) _ (blkAllR (H3.out.1.later hb H3.out.1.lt)) Tryz.underlying23 rfl uK
      · intro ax wz hb hs hd
        have h5 : ax.tmps.getD 5 undef = (.pointer (some ⟨(w.heap.size + 1), 0, none⟩)) := hs 5 (by kernel_rfl)
        exact Does.load 45 (.tmp 5) rfl (w.heap.size + 1) 0 h5 (u8s nonce) _ (blkAllR (H3.out.2.1.later hb H3.out.2.1.lt)) Tryz.underlying45 rfl uN
      · intro ax wz hb hs hd
        have h3 : ax.tmps.getD 3 undef = (.slice bo (M + 16) d) := hs 3 (by kernel_rfl)
        refine Does.value (.slice bo (M + 16) d) ?_ rfl
        go_simp
      · intro ax wz hb hs hd
        have h10 : ax.tmps.getD 10 undef = (.int .i64 (M : Int)) := hs 10 (by kernel_rfl)
        refine Does.value (.int .i64 (M : Int)) ?_ rfl
        go_simp
      · intro ax wz hb hs hd
        have h32 : ax.tmps.getD 32 undef = (.slice bo (M + 16) d) := hd 2 32 rfl (by kernel_rfl) (by decide)
        have h33 : ax.tmps.getD 33 undef = (.int .i64 (M : Int)) := hd 3 33 rfl (by kernel_rfl) (by decide)
        have q1 := hsh wz
        refine Does.value (.slice (subA bo 0 d) M d) ?_ rfl
        go_simp
      · intro ax wz hb hs hd
        have h30 : ax.tmps.getD 30 undef = (.agg (u8s key).toArray) := hd 0 30 rfl (by kernel_rfl) (by decide)
        have h31 : ax.tmps.getD 31 undef = (.agg (u8s nonce).toArray) := hd 1 31 rfl (by kernel_rfl) (by decide)
        have h34 : ax.tmps.getD 34 undef = (.slice (subA bo 0 d) M d) := hd 4 34 rfl (by kernel_rfl) (by decide)
        refine Does.call 53 #[(.agg (u8s key).toArray), (.agg (u8s nonce).toArray), (Value.int IntKind.u32 1), (.slice (subA bo 0 d) M d)] (by go_simp) ?_
        have L := below_chain H3.out.2.2 hb H3.out.2.2.size
        have q := rxor_any key nonce 1 M d (subA bo 0 d) _ HS.out.1 HS.out.2.1 HS.out.2.2.1 HS.out.2.2.2.1 (by decide) (by omega) wz (SX.out wz L).2.1
        rw [show (64 * 1 : Nat) = 64 from rfl, ← HO.out.2.2.2.2] at q
        refine q.mono ?_
        rintro e w' ⟨v, rfl, o, l⟩
        exact ⟨_, rfl, ownsRow_base o L.size, l⟩
      · intro ax wz hb hs hd
        have h35 : isO w.heap.size M (textL key nonce zs) (ax.tmps.getD 35 undef) wz := hd 5 35 rfl (by kernel_rfl) (by decide)
        refine Does.value (ax.tmps.getD 35 undef) ?_ h35
        go_simp
    · intro wz hb
      refine @Ends.val _ _ _ _ _ _ _ _ _ (.agg (u8s key).toArray) rfl ?_
      refine @Ends.val _ _ _ _ _ _ _ _ _ (.agg (u8s nonce).toArray) rfl ?_
      refine @Ends.val _ _ _ _ _ _ _ _ _ (.slice bo (M + 16) d) rfl ?_
      refine @Ends.val _ _ _ _ _ _ _ _ _ (.int .i64 (M : Int)) rfl ?_
      refine @Ends.val _ _ _ _ _ _ _ _ _ (.slice (subA bo 0 d) M d) rfl ?_
      refine @Ends.any _ _ _ _ _ _ _ _ _ (isO w.heap.size M (textL key nonce zs)) (isO_later _ _ _) rfl ?_
      intro v5 p5
      refine @Ends.any _ _ _ _ _ _ _ _ _ (isO w.heap.size M (textL key nonce zs)) (isO_later _ _ _) rfl ?_
      intro v6 p6
      refine @Ends.one _ _ _ _ _ _ _ ?_
      simp only [Act.put, List.setIfInBounds_toArray, List.set_cons_zero, List.set_cons_succ]
      refine last_assign (.const (.bool true)) rfl (some 9) rfl _ rfl ?_
      simp only [Act.put, List.setIfInBounds_toArray, List.set_cons_zero, List.set_cons_succ]
      have H4 : Hid (isO w.heap.size M (textL key nonce zs) v6 wz ∧ Below w.heap.size w wz) := ⟨p6, below_chain H3.out.2.2 hb H3.out.2.2.size⟩
      clear hb p5 p6
      go_wp2_with fail
      go_ret2
      exact ⟨⟨_, rfl, H4.out.1⟩, H4.out.2⟩
end Go.Proofs.YtcimiajkbgabiaaGreat
