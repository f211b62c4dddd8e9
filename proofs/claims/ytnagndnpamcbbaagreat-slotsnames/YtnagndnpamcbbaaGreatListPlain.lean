/- Plain mathematics of lists for layer mask: which list stands before another. Nothing of the dump. -/
import Derived.Test.YtnagndnpamcbbaaGreatPlain
namespace Go.Proofs.YtnagndnpamcbbaaGreat

/-- The list xs stands before ys. -/
def bef : List Int → List Int → Bool
  | [], [] => false
  | [], _ :: _ => true
  | _ :: _, [] => false
  | x :: xs, y :: ys => if x = y then bef xs ys else decide (x < y)
theorem bef_self (xs : List Int) : bef xs xs = false := by
  induction xs with
  | nil => rfl
  | cons x xs ih => simp [bef, ih]
theorem bef_drop (xs ys : List Int) (k : Nat) (hx : k < xs.length) (hy : k < ys.length) :
    bef (xs.drop k) (ys.drop k) = if xs.getD k 0 = ys.getD k 0 then bef (xs.drop (k + 1)) (ys.drop (k + 1)) else decide (xs.getD k 0 < ys.getD k 0) := by
  rw [List.drop_eq_getElem_cons hx, List.drop_eq_getElem_cons hy]
  simp [bef, List.getD, hx, hy]
theorem bef_end (xs ys : List Int) (k : Nat) (hk : k = min xs.length ys.length) : bef (xs.drop k) (ys.drop k) = decide (xs.length < ys.length) := by
  rcases Nat.lt_trichotomy xs.length ys.length with h | h | h
  · have e : xs.drop k = [] := List.drop_eq_nil_of_le (by omega)
    have hk' : k < ys.length := by omega
    rw [e, List.drop_eq_getElem_cons hk']; simp [bef, h]
  · have e : xs.drop k = [] := List.drop_eq_nil_of_le (by omega)
    have e' : ys.drop k = [] := List.drop_eq_nil_of_le (by omega)
    rw [e, e']; simp [bef, h]
  · have e : ys.drop k = [] := List.drop_eq_nil_of_le (by omega)
    have hk' : k < xs.length := by omega
    rw [e, List.drop_eq_getElem_cons hk']; simp [bef]; omega
/-- Just one of three. -/
theorem bef_three (xs ys : List Int) : (bef xs ys = true ∧ bef ys xs = false ∧ xs ≠ ys) ∨ (bef xs ys = false ∧ bef ys xs = true ∧ xs ≠ ys) ∨ (bef xs ys = false ∧ bef ys xs = false ∧ xs = ys) := by
  induction xs generalizing ys with
  | nil => cases ys <;> simp [bef]
  | cons x xs ih =>
    cases ys with
    | nil => simp [bef]
    | cons y ys =>
      by_cases h : x = y
      · subst h
        have := ih ys
        simpa [bef] using this
      · have h' : ¬ y = x := fun e => h e.symm
        simp only [bef, if_neg h, if_neg h']
        rcases Int.lt_or_gt_of_ne h with hlt | hlt
        · left; simp [hlt, h]; omega
        · right; left; simp [hlt, h]; omega
theorem bef_trans (xs ys zs : List Int) (h1 : bef xs ys = true) (h2 : bef ys zs = true) : bef xs zs = true := by
  induction xs generalizing ys zs with
  | nil =>
    cases ys with
    | nil => simp [bef] at h1
    | cons y ys => cases zs with
      | nil => simp [bef] at h2
      | cons z zs => simp [bef]
  | cons x xs ih =>
    cases ys with
    | nil => simp [bef] at h1
    | cons y ys => cases zs with
      | nil => simp [bef] at h2
      | cons z zs =>
        simp only [bef] at h1 h2 ⊢
        by_cases e1 : x = y
        · subst e1
          rw [if_pos rfl] at h1
          by_cases e2 : x = z
          · subst e2; rw [if_pos rfl] at h2 ⊢; exact ih _ _ h1 h2
          · rw [if_neg e2] at h2 ⊢; exact h2
        · rw [if_neg e1] at h1
          by_cases e2 : y = z
          · subst e2; rw [if_neg e1]; exact h1
          · rw [if_neg e2] at h2
            simp only [decide_eq_true_eq] at h1 h2
            rw [if_neg (by omega)]; simp; omega
theorem mtake_same_succ (xs ys : List Int) (k : Nat) (hx : k < xs.length) (hy : k < ys.length) : (xs.take (k + 1) = ys.take (k + 1)) ↔ (xs.take k = ys.take k ∧ xs.getD k 0 = ys.getD k 0) := by
  rw [List.take_succ_eq_append_getElem hx, List.take_succ_eq_append_getElem hy]
  have e1 : xs.getD k 0 = xs[k] := by simp [List.getD, hx]
  have e2 : ys.getD k 0 = ys[k] := by simp [List.getD, hy]
  rw [e1, e2]
  constructor
  · intro h
    have := List.append_inj h (by simp; omega)
    simpa using this
  · rintro ⟨h1, h2⟩; rw [h1, h2]
theorem bef_of_take (xs ys : List Int) (k : Nat) (hx : k ≤ xs.length) (hy : k ≤ ys.length) (h : xs.take k = ys.take k) : bef xs ys = bef (xs.drop k) (ys.drop k) := by
  induction k with
  | zero => simp
  | succ k ih =>
    obtain ⟨h1, h2⟩ := (mtake_same_succ xs ys k (by omega) (by omega)).1 h
    rw [ih (by omega) (by omega) h1, bef_drop xs ys k (by omega) (by omega), if_pos h2]
theorem orxor_bd (u x y : Int) (hu : 0 ≤ u ∧ u < 256) (hx : 0 ≤ x ∧ x < 256) (hy : 0 ≤ y ∧ y < 256) :
    (0 ≤ bits .or .u8 u (bits .xor .u8 x y) ∧ bits .or .u8 u (bits .xor .u8 x y) < 256) ∧ (bits .or .u8 u (bits .xor .u8 x y) = 0 ↔ (u = 0 ∧ x = y)) := by
  have h1 : x.toNat ^^^ y.toNat < 2 ^ 8 := Nat.xor_lt_two_pow (by omega) (by omega)
  rw [u8_xor x y hx.1 hx.2 hy.1 hy.2, u8_or u _ hu.1 hu.2 (by omega) (by omega)]
  have h2 : u.toNat ||| ((x.toNat ^^^ y.toNat : Nat) : Int).toNat < 2 ^ 8 := Nat.or_lt_two_pow (by omega) (by omega)
  refine ⟨by omega, ?_⟩
  rw [Int.toNat_natCast]
  constructor
  · intro h
    have h3 : u.toNat ≤ u.toNat ||| (x.toNat ^^^ y.toNat) := Nat.left_le_or
    have h4 : (x.toNat ^^^ y.toNat) ≤ u.toNat ||| (x.toNat ^^^ y.toNat) := Nat.right_le_or
    have h5 : x.toNat ^^^ y.toNat = 0 := by omega
    have e : x.toNat = y.toNat := by
      have := congrArg (· ^^^ y.toNat) h5
      simpa [Nat.xor_assoc] using this
    omega
  · rintro ⟨rfl, rfl⟩; simp
end Go.Proofs.YtnagndnpamcbbaaGreat
