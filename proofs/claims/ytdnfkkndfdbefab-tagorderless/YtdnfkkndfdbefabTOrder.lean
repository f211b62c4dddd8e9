/- Layer tag, plain mathematics: under r = 1 the order of whole chunks does not matter. -/
import Derived.Test.YtdnfkkndfdbefabTSum
namespace Go.Proofs.Ytdnfkkndfdbefab
open Go.RowKit
set_option linter.unusedVariables false
set_option linter.unusedSimpArgs false

def sumTo (f : Nat → Int) : Nat → Int
  | 0 => 0
  | k + 1 => sumTo f k + f k
theorem sumTo_congr (f g : Nat → Int) : ∀ n, (∀ i, i < n → f i = g i) → sumTo f n = sumTo g n
  | 0, _ => rfl
  | n + 1, h => by rw [sumTo, sumTo, sumTo_congr f g n (fun i hi => h i (by omega)), h n (by omega)]
theorem sumTo_upd (f : Nat → Int) (X : Nat) (v : Int) : ∀ n, sumTo (fun j => if j = X then v else f j) n = sumTo f n + (if X < n then v - f X else 0)
  | 0 => by simp [sumTo]
  | n + 1 => by
    rw [sumTo, sumTo, sumTo_upd f X v n]
    by_cases h1 : n = X
    · subst h1; simp; omega
    · by_cases h2 : X < n
      · rw [if_pos h2, if_neg h1, if_pos (by omega)]; omega
      · rw [if_neg h2, if_neg h1, if_neg (by omega)]; omega
theorem sumTo_swap (f g : Nat → Int) (n X Y : Nat) (hX : X < n) (hY : Y < n) (hgX : g X = f Y) (hgY : g Y = f X) (ho : ∀ j, j < n → j ≠ X → j ≠ Y → g j = f j) : sumTo g n = sumTo f n := by
  by_cases hXY : X = Y
  · subst hXY
    exact sumTo_congr g f n (fun i hi => by
      by_cases h : i = X
      · subst h; exact hgX
      · exact ho i hi h h)
  · have e : sumTo g n = sumTo (fun j => if j = Y then f X else (fun k => if k = X then f Y else f k) j) n := sumTo_congr _ _ n (fun i hi => by
      by_cases h1 : i = Y
      · subst h1; simp [hgY]
      · by_cases h2 : i = X
        · subst h2; simp [h1, hgX]
        · simp [h1, h2, ho i hi h2 h1])
    rw [e, sumTo_upd, sumTo_upd, if_pos hX, if_pos hY]
    have : (if Y = X then f Y else f Y) = f Y := by split <;> rfl
    simp only [Ne.symm hXY, if_false]
    omega
/-- The number of chunk j. -/
def chunkN (m : List Int) (j : Nat) : Int := le ((m.drop (16 * j)).take 16) + 340282366920938463463374607431768211456
theorem acc_one (m : List Int) : ∀ k, accK 1 m k % 1361129467683753853853498429727072845819 = sumTo (chunkN m) k % 1361129467683753853853498429727072845819
  | 0 => rfl
  | k + 1 => by
    have h := acc_one m k
    have h2 := fold5_mod ((accK 1 m k + chunkN m k) * 1)
    rw [accK, sumTo]
    show fold5 ((accK 1 m k + chunkN m k) * 1) % 1361129467683753853853498429727072845819 = _
    have h3 : fold5 ((accK 1 m k + chunkN m k) * 1) % 1361129467683753853853498429727072845819 = ((accK 1 m k + chunkN m k) * 1) % 1361129467683753853853498429727072845819 := h2
    rw [h3, Int.mul_one]
    omega
theorem code_one (s : Int) (a b : List Int) (n : Nat) (ha : a.length = 16 * n) (hb : b.length = 16 * n) (h : sumTo (chunkN a) n = sumTo (chunkN b) n) : codeB 1 s a = codeB 1 s b := by
  have e : ∀ m : List Int, m.length = 16 * n → accE 1 m % 1361129467683753853853498429727072845819 = sumTo (chunkN m) n % 1361129467683753853853498429727072845819 := fun m hm => by
    rw [accE, if_neg (by omega), acc, show m.length / 16 = n by omega]
    exact acc_one m n
  have ea := e a ha
  have eb := e b hb
  rw [codeB, codeB, codeN, codeN]
  show leB 16 ((accE 1 a % 1361129467683753853853498429727072845819 % _ + s) % _) = leB 16 ((accE 1 b % 1361129467683753853853498429727072845819 % _ + s) % _)
  rw [ea, eb, h]
/-- Two chunks, of which j bytes have changed places. -/
def swapB (a : List Int) (x y j i : Nat) : Int := if x ≤ i ∧ i < x + j then a.getD (y + (i - x)) 0 else if y ≤ i ∧ i < y + j then a.getD (x + (i - y)) 0 else a.getD i 0
def swapL (a : List Int) (x y j : Nat) : List Int := (List.range a.length).map (swapB a x y j)
theorem swapL_length (a : List Int) (x y j : Nat) : (swapL a x y j).length = a.length := by simp [swapL]
theorem swapL_at (a : List Int) (x y j i : Nat) (hi : i < a.length) : (swapL a x y j).getD i 0 = swapB a x y j i := by simp [swapL, List.getD, hi]
theorem swapL_zero (a : List Int) (x y : Nat) : swapL a x y 0 = a := by
  apply List.ext_getElem
  · simp [swapL]
  · intro i h1 h2
    have e1 : ¬ (x ≤ i ∧ i < x + 0) := by omega
    have e2 : ¬ (y ≤ i ∧ i < y + 0) := by omega
    simp only [swapL, List.getElem_map, List.getElem_range, swapB, if_neg e1, if_neg e2]
    simp [List.getD, h2]
theorem swapB_bytes (a : List Int) (hb : Bytes a) (x y j i : Nat) : 0 ≤ swapB a x y j i ∧ swapB a x y j i < 256 := by
  have g : ∀ k, 0 ≤ a.getD k 0 ∧ a.getD k 0 < 256 := fun k => by
    by_cases hk : k < a.length
    · exact hb.at k hk
    · simp [List.getD, List.getElem?_eq_none (by omega : a.length ≤ k)]
  unfold swapB
  split
  · exact g _
  · split <;> exact g _
theorem swapL_bytes (a : List Int) (hb : Bytes a) (x y j : Nat) : Bytes (swapL a x y j) := fun z hz => by
  obtain ⟨i, _, rfl⟩ := List.mem_map.1 hz
  exact swapB_bytes a hb x y j i
/-- Chunks: x and y are multiples of 16. -/
theorem swapL_succ (a : List Int) (X Y j : Nat) (hj : j < 16) (hx : 16 * X + j < a.length) (hy : 16 * Y + j < a.length) :
    ((swapL a (16 * X) (16 * Y) j).set (16 * X + j) (a.getD (16 * Y + j) 0)).set (16 * Y + j) (a.getD (16 * X + j) 0) = swapL a (16 * X) (16 * Y) (j + 1) := by
  apply List.ext_getElem
  · simp [swapL]
  · intro i h1 h2
    have hi : i < a.length := by simpa [swapL] using h2
    simp only [List.getElem_set]
    by_cases e1 : 16 * Y + j = i
    · subst e1
      rw [if_pos rfl]
      simp only [swapL, List.getElem_map, List.getElem_range, swapB]
      by_cases e2 : X = Y
      · subst e2
        rw [if_pos (by omega)]
        congr 1; omega
      · rw [if_neg (by omega), if_pos (by omega)]
        congr 1; omega
    · rw [if_neg e1]
      by_cases e2 : 16 * X + j = i
      · subst e2
        rw [if_pos rfl]
        simp only [swapL, List.getElem_map, List.getElem_range, swapB]
        rw [if_pos (by omega)]
        congr 1; omega
      · rw [if_neg e2]
        simp only [swapL, List.getElem_map, List.getElem_range, swapB]
        by_cases c1 : 16 * X ≤ i ∧ i < 16 * X + j
        · rw [if_pos c1, if_pos (by omega)]
        · rw [if_neg c1]
          have n1 : ¬ (16 * X ≤ i ∧ i < 16 * X + (j + 1)) := by omega
          by_cases c2 : 16 * Y ≤ i ∧ i < 16 * Y + j
          · have n2 : 16 * Y ≤ i ∧ i < 16 * Y + (j + 1) := by omega
            rw [if_pos c2, if_neg n1, if_pos n2]
          · have n2 : ¬ (16 * Y ≤ i ∧ i < 16 * Y + (j + 1)) := by omega
            rw [if_neg c2, if_neg n1, if_neg n2]
theorem chunk_ext (a b : List Int) (j k : Nat) (n : Nat) (ha : a.length = 16 * n) (hb : b.length = 16 * n) (hj : j < n) (hk : k < n) (h : ∀ i, i < 16 → a.getD (16 * j + i) 0 = b.getD (16 * k + i) 0) : chunkN a j = chunkN b k := by
  have e : (a.drop (16 * j)).take 16 = (b.drop (16 * k)).take 16 := by
    apply List.ext_getElem
    · simp only [List.length_take, List.length_drop]; omega
    · intro i h1 h2
      have hi : i < 16 := by rw [List.length_take] at h1; omega
      have := h i hi
      have l1 : 16 * j + i < a.length := by omega
      have l2 : 16 * k + i < b.length := by omega
      simp only [List.getD, List.getElem?_eq_getElem l1, List.getElem?_eq_getElem l2, Option.getD_some] at this
      simpa using this
  rw [chunkN, chunkN, e]
theorem swap_sum (a : List Int) (n X Y : Nat) (ha : a.length = 16 * n) (hX : X < n) (hY : Y < n) : sumTo (chunkN a) n = sumTo (chunkN (swapL a (16 * X) (16 * Y) 16)) n := by
  have hl : (swapL a (16 * X) (16 * Y) 16).length = 16 * n := by rw [swapL_length, ha]
  refine (sumTo_swap (chunkN a) (chunkN (swapL a (16 * X) (16 * Y) 16)) n X Y hX hY ?_ ?_ ?_).symm
  · refine chunk_ext _ _ X Y n hl ha hX hY (fun i hi => ?_)
    rw [swapL_at _ _ _ _ _ (by omega), swapB, if_pos (by omega)]
    congr 1; omega
  · refine chunk_ext _ _ Y X n hl ha hY hX (fun i hi => ?_)
    rw [swapL_at _ _ _ _ _ (by omega), swapB]
    by_cases e : X = Y
    · subst e; rw [if_pos (by omega)]; congr 1; omega
    · rw [if_neg (by omega), if_pos (by omega)]; congr 1; omega
  · intro j hj h1 h2
    refine chunk_ext _ _ j j n hl ha hj hj (fun i hi => ?_)
    rw [swapL_at _ _ _ _ _ (by omega), swapB, if_neg (by omega), if_neg (by omega)]
/-- The key of the statement. -/
def oneKey (S : List Int) : List Int := (1 :: zs0 15) ++ S
theorem oneKey_r (S : List Int) : rOf (oneKey S) = 1 := by
  have h1 : (oneKey S).take 8 = 1 :: zs0 7 := by simp [oneKey, zs0, List.replicate]
  have h2 : ((oneKey S).drop 8).take 8 = zs0 8 := by simp [oneKey, zs0, List.replicate]
  rw [rOf, rLow, rHigh, h1, h2]
  decide +kernel
theorem order_tag (S a : List Int) (n X Y : Nat) (ha : a.length = 16 * n) (hX : X < n) (hY : Y < n) : tagB (oneKey S) a = tagB (oneKey S) (swapL a (16 * X) (16 * Y) 16) := by
  rw [tagB, tagB, oneKey_r]
  exact code_one _ _ _ n ha (by rw [swapL_length, ha]) (swap_sum a n X Y ha hX hY)
end Go.Proofs.Ytdnfkkndfdbefab
