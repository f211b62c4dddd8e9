/- The document's code of bytes, plain: numbers by their digits to the base 256; the accumulator modulo the prime, chunk by chunk. -/
import Derived.Test.YtlaegbabpiepeaaTMath
namespace Go.Proofs.Ytlaegbabpiepeaa
open Go.RowKit
set_option linter.unusedVariables false
set_option linter.unusedSimpArgs false

theorem le_nil : le [] = 0 := rfl
theorem le_one (x : Int) : le [x] = x := by simp [le]
theorem le_nonneg {ds : List Int} (h : ∀ d ∈ ds, 0 ≤ d) : 0 ≤ le ds := by
  induction ds with
  | nil => exact Int.le_refl _
  | cons d ds ih =>
    have := h d (by simp)
    have := ih (fun y hy => h y (by simp [hy]))
    simp only [le]; omega
theorem le_rep0 (n : Nat) : le (List.replicate n 0) = 0 := by
  induction n with
  | zero => rfl
  | succ n ih => rw [List.replicate_succ, le, ih]; rfl
theorem le_drop' (ds : List Int) (i : Nat) : le (ds.drop i) = ds.getD i 0 + 256 * le (ds.drop (i + 1)) := by
  by_cases h : i < ds.length
  · exact le_drop ds i h
  · rw [List.drop_eq_nil_of_le (by omega), List.drop_eq_nil_of_le (by omega)]
    simp [le, List.getD, show ds.length ≤ i by omega]
theorem le_take_succ (ds : List Int) (i : Nat) (hi : i < ds.length) : le (ds.take (i + 1)) = le (ds.take i) + 256 ^ i * ds.getD i 0 := by
  rw [List.take_succ_eq_append_getElem hi, le_app, le_one, List.length_take, Nat.min_eq_left (by omega)]
  simp [List.getD, hi]
theorem le_set (ds : List Int) (i : Nat) (x : Int) (hi : i < ds.length) : le (ds.set i (ds.getD i 0 + x)) = le ds + 256 ^ i * x := by
  induction ds generalizing i with
  | nil => simp at hi
  | cons d ds ih =>
    cases i with
    | zero => simp [le]; omega
    | succ i =>
      rw [List.set_cons_succ, List.getD_cons_succ, le, le, ih i (by simpa using hi), Int.pow_succ, Int.mul_comm (256 ^ i) 256, Int.mul_assoc, Int.mul_add]
      omega
theorem le_zero {ds : List Int} (h : ∀ d ∈ ds, 0 ≤ d) : le ds = 0 ↔ ∀ d ∈ ds, d = 0 := by
  induction ds with
  | nil => simp [le]
  | cons d ds ih =>
    have h1 := h d (by simp)
    have h2 := le_nonneg (ds := ds) (fun y hy => h y (by simp [hy]))
    have ih := ih (fun y hy => h y (by simp [hy]))
    simp only [le, List.mem_cons, forall_eq_or_imp]
    constructor
    · intro e
      exact ⟨by omega, ih.1 (by omega)⟩
    · rintro ⟨rfl, e⟩
      rw [ih.2 e]; rfl
/-- Carries handed on: behind i digits. -/
def CleanI (ds out : List Int) (c : Int) (i : Nat) : Prop := out.length = i ∧ Bytes out ∧ 0 ≤ c ∧ le out + 256 ^ i * (c + le (ds.drop i)) = le ds
theorem clean_zero (ds : List Int) : CleanI ds [] 0 0 := ⟨rfl, (fun z hz => by cases hz), Int.le_refl _, by simp [le]⟩
theorem clean_step {ds out : List Int} {c c1 : Int} {i : Nat} (h : CleanI ds out c i) (hc : c1 = c + ds.getD i 0) (h0 : 0 ≤ c1) : CleanI ds (out ++ [c1 % 256]) (c1 / 256) (i + 1) := by
  obtain ⟨h1, h2, h3, h4⟩ := h
  refine ⟨by simp [h1], bytes_app h2 (fun z hz => ?_), by omega, ?_⟩
  · simp at hz; subst hz; omega
  · rw [le_app, le_one, h1, Int.pow_succ, Int.mul_assoc, Int.add_assoc, ← Int.mul_add]
    rw [le_drop' ds i] at h4
    rw [← h4]
    congr 2
    omega
theorem clean_end {ds out : List Int} {i : Nat} (h : CleanI ds out 0 i) (hi : ds.length ≤ i) : le out = le ds := by
  have := h.2.2.2
  rw [List.drop_eq_nil_of_le hi, le_nil] at this
  simpa using this
theorem pow40 (t : Nat) (h : 6 ≤ t) : (1099511627776 : Int) / 256 ^ t = 0 := by
  obtain ⟨u, rfl⟩ : ∃ u, t = 6 + u := ⟨t - 6, by omega⟩
  have hp : (0 : Int) < 256 ^ u := Int.pow_pos (by decide)
  apply Int.ediv_eq_zero_of_lt (by decide)
  rw [Int.pow_add]
  have e : (256 : Int) ^ 6 = 281474976710656 := by decide
  rw [e]
  have : (281474976710656 : Int) * 1 ≤ 281474976710656 * 256 ^ u := Int.mul_le_mul_of_nonneg_left (by omega) (by decide)
  omega
theorem div40 (c : Int) (t : Nat) (h : c ≤ 1099511627776 / 256 ^ t) : c / 256 ≤ 1099511627776 / 256 ^ (t + 1) := by
  rw [Int.pow_succ, ← Int.ediv_ediv_of_nonneg (Int.le_of_lt (Int.pow_pos (by decide)))]
  exact Int.ediv_le_ediv (by decide) h
/-- What stands below the bit 130. -/
def lowL (ds : List Int) : List Int := ds.take 16 ++ (if 16 < ds.length then [ds.getD 16 0 % 4] else [])
/-- What stands from the bit 2 on. -/
def highL : List Int → List Int
  | [] => []
  | x :: t => (x / 4 + t.getD 0 0 % 4 * 64) :: highL t
theorem highL_length (ds : List Int) : (highL ds).length = ds.length := by
  induction ds with
  | nil => rfl
  | cons d ds ih => simp [highL, ih]
theorem highL_bytes (ds : List Int) (h : Bytes ds) : Bytes (highL ds) := by
  induction ds with
  | nil => intro z hz; cases hz
  | cons d ds ih =>
    intro z hz
    have hd := h d (by simp)
    simp only [highL, List.mem_cons] at hz
    rcases hz with rfl | hz
    · generalize ds.getD 0 0 = y
      omega
    · exact ih (fun y hy => h y (by simp [hy])) z hz
theorem highL_snoc (xs : List Int) (y : Int) (hx : 0 < xs.length) : highL (xs ++ [y]) = (highL xs).set (xs.length - 1) ((highL xs).getD (xs.length - 1) 0 + y % 4 * 64) ++ [y / 4] := by
  induction xs with
  | nil => simp at hx
  | cons x t ih =>
    cases t with
    | nil => simp [highL]
    | cons z t =>
      have := ih (by simp)
      rw [List.cons_append, highL, this]
      simp only [List.length_cons, Nat.add_sub_cancel, highL, List.cons_append, List.getD_cons_zero, List.set_cons_succ, List.getD_cons_succ]
theorem highL_le (ds : List Int) (h : Bytes ds) : le (highL ds) = le ds / 4 := by
  induction ds with
  | nil => rfl
  | cons d ds ih =>
    have hd := h d (by simp)
    rw [highL, le, le, ih (fun y hy => h y (by simp [hy]))]
    cases ds with
    | nil => simp [le]
    | cons y t =>
      rw [List.getD_cons_zero, le]
      generalize le t = L
      omega
theorem le_parts (ds : List Int) (h : Bytes ds) : ∃ A T : Int, le ds = A + 340282366920938463463374607431768211456 * T ∧ 0 ≤ A ∧ A < 340282366920938463463374607431768211456 ∧ A = le (ds.take 16) ∧ T = le (ds.drop 16) ∧ (ds.length ≤ 16 → T = 0) := by
  have b := le16_bd (ds.take 16) (bytes_take h _) (by rw [List.length_take]; omega)
  refine ⟨_, _, ?_, b.1, b.2, rfl, rfl, fun hl => by rw [List.drop_eq_nil_of_le hl]; rfl⟩
  by_cases hl : ds.length ≤ 16
  · rw [List.drop_eq_nil_of_le hl, List.take_of_length_le hl, le_nil]; omega
  · conv => lhs; rw [← List.take_append_drop 16 ds, le_app]
    rw [List.length_take, Nat.min_eq_left (by omega)]; rfl
theorem lowL_le (ds : List Int) (h : Bytes ds) : le (lowL ds) = le ds % 1361129467683753853853498429727072845824 := by
  obtain ⟨A, T, e, h0, h1, eA, eT, hT⟩ := le_parts ds h
  unfold lowL
  split
  · next hl =>
    rw [le_app, List.length_take, Nat.min_eq_left (by omega), le_one, ← eA, e]
    rw [le_drop' ds 16] at eT
    have hq : (256 : Int) ^ 16 = 340282366920938463463374607431768211456 := by decide
    rw [hq, eT]
    generalize le (ds.drop (16 + 1)) = L
    generalize ds.getD 16 0 = x
    omega
  · next hl =>
    rw [List.append_nil, ← eA, e, hT (by omega)]; omega
theorem lowL_bytes (ds : List Int) (h : Bytes ds) : Bytes (lowL ds) := by
  unfold lowL
  refine bytes_app (bytes_take h _) ?_
  split
  · intro z hz; simp at hz; subst hz
    generalize ds[16]?.getD 0 = x
    omega
  · intro z hz; cases hz
theorem lowL_length (ds : List Int) : (lowL ds).length ≤ 17 := by
  unfold lowL
  split <;> simp <;> omega
theorem high_le (ds : List Int) (h : Bytes ds) : le (highL (ds.drop 16)) = le ds / 1361129467683753853853498429727072845824 := by
  obtain ⟨A, T, e, h0, h1, eA, eT, hT⟩ := le_parts ds h
  rw [highL_le _ (bytes_drop h _), ← eT, e]; omega
/-- The accumulator, modulo the prime. -/
def docK (r : Int) (m : List Int) : Nat → Int
  | 0 => 0
  | k + 1 => ((docK r m k + (le ((m.drop (16 * k)).take 16) + 256 ^ ((m.drop (16 * k)).take 16).length)) * r) % prime
theorem step_mod (r a b c : Int) (h : a % prime = b) : step5 r a c % prime = ((b + c) * r) % prime := by
  rw [step5, fold5_mod, ← h, Int.mul_emod, Int.add_emod]
  conv => rhs; rw [Int.mul_emod, Int.add_emod, Int.emod_emod_of_dvd _ (Int.dvd_refl _)]
theorem accK_doc (r : Int) (m : List Int) : ∀ k, 16 * k ≤ m.length → accK r m k % prime = docK r m k
  | 0, _ => rfl
  | k + 1, h => by
    have hl : ((m.drop (16 * k)).take 16).length = 16 := by rw [List.length_take, List.length_drop]; omega
    rw [accK, docK, step_mod r _ _ _ (accK_doc r m k (by omega)), hl]
    rfl
theorem lastB_le (m : List Int) : le (lastB m) = le (rest16 m) + 256 ^ (rest16 m).length := by
  rw [lastB, le_app, le, zs0, le_rep0]; simp
theorem accE_doc (r : Int) (m : List Int) : accE r m % prime = docK r m ((m.length + 15) / 16) := by
  unfold accE
  split
  · next h =>
    have e : (m.length + 15) / 16 = m.length / 16 + 1 := by omega
    have e2 : (m.drop (16 * (m.length / 16))).take 16 = rest16 m := by
      rw [List.take_of_length_le (by rw [List.length_drop]; omega)]; rfl
    rw [e, docK, e2, step_mod r (acc r m) _ _ (accK_doc r m (m.length / 16) (by omega)), lastB_le]
  · next h =>
    have e : (m.length + 15) / 16 = m.length / 16 := by omega
    rw [e]; exact accK_doc r m _ (by omega)
theorem docK_bd (r : Int) (m : List Int) (k : Nat) : 0 ≤ docK r m k ∧ docK r m k < prime := by
  cases k with
  | zero => rw [docK]; decide
  | succ k => rw [docK]; exact ⟨Int.emod_nonneg _ (by decide), Int.emod_lt_of_pos _ (by decide)⟩
theorem code_doc (r s : Int) (m : List Int) : codeB r s m = leB 16 (docK r m ((m.length + 15) / 16) + s) := by
  have e : ∀ v : Int, leB 16 (v % 340282366920938463463374607431768211456) = leB 16 v := fun v => by
    have h1 := leB_split 16 0 v
    simpa [leB] using h1
  rw [codeB, codeN, accE_doc, e]
  have e2 : ∀ a : Int, leB 16 (a % 340282366920938463463374607431768211456 + s) = leB 16 (a + s) := fun a => by
    rw [← e (a % 340282366920938463463374607431768211456 + s), ← e (a + s)]
    congr 1
    omega
  exact e2 _
/-- The first digits of a sum are the bytes of its number. -/
theorem digits16 (ds : List Int) (h : Bytes ds) (hl : 16 ≤ ds.length) : ds.take 16 = leB 16 (le ds) := by
  have h1 := leB_le (ds.take 16) (bytes_take h _)
  rw [List.length_take, Nat.min_eq_left hl] at h1
  obtain ⟨A, T, e, h0, h2, eA, eT, hT⟩ := le_parts ds h
  have e1 : ∀ v : Int, leB 16 (v % 340282366920938463463374607431768211456) = leB 16 v := fun v => by
    have h1 := leB_split 16 0 v
    simpa [leB] using h1
  rw [← h1, ← eA, ← e1 (le ds), e]
  congr 1
  omega
/-- A number below 2^130, taken modulo the prime. -/
theorem last_mod (v : Int) (h0 : 0 ≤ v) (h1 : v < 1361129467683753853853498429727072845824) : v % prime = if 1361129467683753853853498429727072845824 ≤ v + 5 then (v + 5) % 1361129467683753853853498429727072845824 else v := by
  unfold prime; split <;> omega
end Go.Proofs.Ytlaegbabpiepeaa
