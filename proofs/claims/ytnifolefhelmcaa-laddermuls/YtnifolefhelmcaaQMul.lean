/- The document's numbers of ladder: times. -/
import Derived.Test.YtnifolefhelmcaaQSum
import Derived.Test.YtnifolefhelmcaaFRing
namespace Go.Proofs.Ytnifolefhelmcaa
open Go.RowKit
set_option linter.unusedVariables false
set_option linter.unusedSimpArgs false

theorem zero31 : (Try.prog.info? 157).map (fun i => (i.zero, i.size)) = some (some (.agg (i64s (List.replicate 31 0)).toArray), 31) := by kernel_rfl
theorem qvd_app : ∀ (x y : List Int), vd (x ++ y) = vd x + 65536 ^ x.length * vd y
  | [], y => by simp [vd]
  | z :: x, y => by
    rw [List.cons_append, vd, vd, qvd_app x y, List.length_cons, Int.pow_succ', Int.mul_add, Int.mul_assoc, Int.add_assoc]
theorem qvd_set : ∀ (l : List Int) (j : Nat) (d : Int), j < l.length → vd (l.set j (l.getD j 0 + d)) = vd l + 65536 ^ j * d
  | z :: l, 0, d, _ => by simp [vd]; omega
  | z :: l, j + 1, d, h => by
    have ih := qvd_set l j d (by simpa using h)
    simp only [List.set_cons_succ, List.getD_cons_succ, vd, ih, Int.pow_succ]
    rw [Int.mul_add, ← Int.add_assoc, Int.mul_comm (65536 ^ j) 65536, Int.mul_assoc]
theorem qvd_take (l : List Int) (k : Nat) (hk : k < l.length) : vd (l.take (k + 1)) = vd (l.take k) + 65536 ^ k * l.getD k 0 := by
  rw [take_succ_getD l k hk, qvd_app, List.length_take, Nat.min_eq_left (by omega)]
  simp [vd]
theorem vd_zero : ∀ n, vd (List.replicate n 0) = 0
  | 0 => rfl
  | n + 1 => by rw [List.replicate_succ, vd, vd_zero n]; rfl
theorem vd_abs : ∀ (l : List Int) (A B : Int), 0 ≤ A → 0 ≤ B → (∀ z ∈ l, -A ≤ z ∧ z ≤ B) → -(A * (65536 ^ l.length - 1)) ≤ 65535 * vd l ∧ 65535 * vd l ≤ B * (65536 ^ l.length - 1)
  | [], A, B, _, _, _ => by simp [vd]
  | z :: l, A, B, hA, hB, h => by
    have ih := vd_abs l A B hA hB (fun y hy => h y (by simp [hy]))
    have hz := h z (by simp)
    rw [vd, List.length_cons, Int.pow_succ']
    generalize (65536 : Int) ^ l.length = P at *
    rw [Int.mul_sub, Int.mul_sub, Int.mul_one, Int.mul_one] at ih
    rw [Int.mul_sub, Int.mul_sub, Int.mul_one, Int.mul_one, Int.mul_left_comm A 65536 P, Int.mul_left_comm B 65536 P]
    omega
/-- What carry makes of a value. -/
def fV (V : Int) : Int := V % 115792089237316195423570985008687907853269984665640564039457584007913129639936 + 38 * (V / 115792089237316195423570985008687907853269984665640564039457584007913129639936)
theorem vd_carL (V : Int) : vd (carL V) = fV V := by
  unfold carL fV
  have h := qvd_set (ldD 16 V) 0 (38 * (V / 115792089237316195423570985008687907853269984665640564039457584007913129639936)) (by rw [ldD_length]; decide)
  rw [car_zero, vd_ldD] at h
  rw [h, show (65536 : Int) ^ 16 = 115792089237316195423570985008687907853269984665640564039457584007913129639936 by decide, Int.pow_zero, Int.one_mul]
theorem fV_mod (V : Int) : fV V % PR = V % PR := by
  unfold fV PR
  omega
theorem carL_bd (V : Int) (q : Int) (hq : -q ≤ V / 115792089237316195423570985008687907853269984665640564039457584007913129639936 ∧ V / 115792089237316195423570985008687907853269984665640564039457584007913129639936 ≤ q) (h0 : 0 ≤ q) : ∀ z ∈ carL V, -(38 * q) ≤ z ∧ z ≤ 65535 + 38 * q := by
  intro z hz
  rcases List.mem_or_eq_of_mem_set hz with h | h
  · have := ldD_bd 16 V z h; omega
  · omega
/-- A number in digits as times leaves them; as sums have them. -/
structure Nd (l : List Int) (x : Int) : Prop where
  len : l.length = 16
  lim : ∀ z ∈ l, -64 ≤ z ∧ z ≤ 65600
  num : vd l % PR = x
structure Nw (l : List Int) (x : Int) : Prop where
  dg : Dg 262144 l
  num : vd l % PR = x
theorem Nd.w {l : List Int} {x : Int} (h : Nd l x) : Nw l x := ⟨⟨h.len, fun z hz => by have := h.lim z hz; omega⟩, h.num⟩
theorem Nd.big {l : List Int} {x : Int} (h : Nd l x) : Dg 1099511627776 l := ⟨h.len, fun z hz => by have := h.lim z hz; omega⟩
theorem nplus {l m : List Int} {x y : Int} (h : Nd l x) (k : Nd m y) : Nw (List.zipWith (fun a b => a + b) l m) ((x + y) % PR) := by
  refine ⟨⟨by simp [h.len, k.len], zip_all _ (fun z => -64 ≤ z ∧ z ≤ 65600) (fun z => -64 ≤ z ∧ z ≤ 65600) _ (fun a b ha hb => by omega) l m h.lim k.lim⟩, ?_⟩
  rw [vd_plus l m (by rw [h.len, k.len]), ← h.num, ← k.num, pa_l, pa_r]
theorem nminus {l m : List Int} {x y : Int} (h : Nd l x) (k : Nd m y) : Nw (List.zipWith (fun a b => a - b) l m) ((x - y) % PR) := by
  refine ⟨⟨by simp [h.len, k.len], zip_all _ (fun z => -64 ≤ z ∧ z ≤ 65600) (fun z => -64 ≤ z ∧ z ≤ 65600) _ (fun a b ha hb => by omega) l m h.lim k.lim⟩, ?_⟩
  rw [vd_minus l m (by rw [h.len, k.len]), ← h.num, ← k.num, ps_l, ps_r]
/-- Twice carried. -/
theorem nd_two (F : List Int) (hF : Dg 1125899906842624 F) : Dg 1152921504606846976 F ∧ Dg 1152921504606846976 (carL (vd F)) ∧ Nd (carL (vd (carL (vd F)))) (vd F % PR) := by
  have h1 := vd_abs F 1125899906842624 1125899906842624 (by decide) (by decide) hF.2
  rw [hF.1, show (65536 : Int) ^ 16 = 115792089237316195423570985008687907853269984665640564039457584007913129639936 by decide] at h1
  refine ⟨⟨hF.1, fun z hz => by have := hF.2 z hz; omega⟩, ⟨carL_length _, fun z hz => ?_⟩, carL_length _, fun z hz => ?_, ?_⟩
  · have := carL_bd (vd F) 34359738368 (by omega) (by decide) z hz; omega
  · have := carL_bd (vd (carL (vd F))) 1 (by rw [vd_carL]; unfold fV; omega) (by decide) z hz; omega
  · rw [vd_carL, fV_mod, vd_carL, fV_mod]
/-- The upper digits brought down. -/
def dnL (T : List Int) : List Int := List.zipWith (fun a b => a + 38 * b) (T.take 16) (T.drop 16 ++ [0])
theorem vd_dn : ∀ (l m : List Int), l.length = m.length → vd (List.zipWith (fun a b => a + 38 * b) l m) = vd l + 38 * vd m
  | [], [], _ => rfl
  | a :: l, b :: m, h => by simp only [List.zipWith_cons_cons, vd, vd_dn l m (by simpa using h)]; omega
theorem dn_num (T : List Int) (hT : T.length = 31) : vd (dnL T) % PR = vd T % PR := by
  unfold dnL
  rw [vd_dn _ _ (by simp [hT]), qvd_app]
  have h : vd T = vd (T.take 16) + 65536 ^ 16 * vd (T.drop 16) := by
    have := qvd_app (T.take 16) (T.drop 16)
    rw [List.take_append_drop, List.length_take, hT] at this
    exact this
  rw [h, show (65536 : Int) ^ 16 = 115792089237316195423570985008687907853269984665640564039457584007913129639936 by decide]
  have : vd [0] = 0 := rfl
  rw [this, Int.mul_zero, Int.add_zero]
  unfold PR
  omega
theorem dn_length (T : List Int) (hT : T.length = 31) : (dnL T).length = 16 := by simp [dnL, hT]
theorem dn_at (T : List Int) (hT : T.length = 31) (k : Nat) (hk : k < 15) : (dnL T).getD k 0 = T.getD k 0 + 38 * T.getD (k + 16) 0 := by
  unfold dnL
  simp only [List.getD]
  rw [List.getElem?_zipWith, List.getElem?_take_of_lt (by omega), List.getElem?_append_left (by simp [hT]; omega), List.getElem?_drop, List.getElem?_eq_getElem (show k < T.length by omega), List.getElem?_eq_getElem (show 16 + k < T.length by omega), List.getElem?_eq_getElem (show k + 16 < T.length by omega)]
  simp [Nat.add_comm]
theorem dn_last (T : List Int) (hT : T.length = 31) : (dnL T).getD 15 0 = T.getD 15 0 := by
  unfold dnL
  simp only [List.getD]
  rw [List.getElem?_zipWith, List.getElem?_take_of_lt (by omega), List.getElem?_append_right (by simp [hT]), List.getElem?_eq_getElem (show 15 < T.length by omega)]
  simp [hT]
theorem dn_bd (T : List Int) (hT : T.length = 31) (h : ∀ z ∈ T, -17592186044416 ≤ z ∧ z ≤ 17592186044416) : Dg 1125899906842624 (dnL T) := by
  refine ⟨dn_length T hT, zip_all _ (fun z => -17592186044416 ≤ z ∧ z ≤ 17592186044416) (fun z => -17592186044416 ≤ z ∧ z ≤ 17592186044416) _ (fun a b ha hb => by omega) _ _ (fun z hz => h z (List.mem_of_mem_take hz)) (fun z hz => ?_)⟩
  rcases List.mem_append.1 hz with q | q
  · exact h z (List.mem_of_mem_drop q)
  · rw [List.mem_singleton] at q; omega
end Go.Proofs.Ytnifolefhelmcaa
