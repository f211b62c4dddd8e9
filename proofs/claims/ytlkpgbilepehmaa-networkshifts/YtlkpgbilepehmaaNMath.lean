/- Layer network: the bitonic sorter sorts: mathematics alone. -/
import Derived.Test.YtlkpgbilepehmaaNBit
namespace Go.Proofs.Ytlkpgbilepehmaa
set_option linter.unusedVariables false
/-! ### Rows of noughts and ones -/
/-- One row of gates over a vector of noughts and ones: the lesser to the low place. -/
def rowOp (f e : Nat) (v : Nat → Bool) (i : Nat) : Bool :=
  if i / 2 ^ e % 2 = 0 then (if i / 2 ^ f % 2 = 0 then v i && v (i + 2 ^ e) else v i || v (i + 2 ^ e))
  else (if i / 2 ^ f % 2 = 0 then v (i - 2 ^ e) || v i else v (i - 2 ^ e) && v i)
/-- Rows n - 1 down to 0. -/
def mg (f : Nat) : Nat → (Nat → Bool) → Nat → Bool
  | 0, v => v
  | n + 1, v => mg f n (rowOp f n v)
def srt : Nat → (Nat → Bool) → Nat → Bool
  | 0, v => v
  | f + 1, v => mg (f + 1) (f + 1) (srt f v)
def Bito (v : Nat → Bool) (s n : Nat) : Prop := ∃ (a b : Nat) (c : Bool), ∀ r, r < n → v (s + r) = (c != decide (a ≤ r ∧ r < b))
def Asc (v : Nat → Bool) (s n : Nat) : Prop := ∃ x, x ≤ n ∧ ∀ r, r < n → v (s + r) = decide (x ≤ r)
def Dsc (v : Nat → Bool) (s n : Nat) : Prop := ∃ x, x ≤ n ∧ ∀ r, r < n → v (s + r) = decide (r < x)
def Cst (b : Bool) (v : Nat → Bool) (s n : Nat) : Prop := ∀ r, r < n → v (s + r) = b

theorem clean (v : Nat → Bool) (s M : Nat) (h : Bito v s (M + M)) (u o : Nat → Bool) (t1 t2 : Nat)
    (hu : ∀ r, r < M → u (t1 + r) = (v (s + r) && v (s + (M + r)))) (ho : ∀ r, r < M → o (t2 + r) = (v (s + r) || v (s + (M + r)))) :
    Bito u t1 M ∧ Bito o t2 M ∧ (Cst false u t1 M ∨ Cst true o t2 M) := by
  obtain ⟨a, b0, c, hv0⟩ := h
  obtain ⟨b, hb⟩ : ∃ b, b = min b0 (M + M) := ⟨_, rfl⟩
  have hv : ∀ r, r < M + M → v (s + r) = (c != decide (a ≤ r ∧ r < b)) := fun r hr => by
    rw [hv0 r hr]; congr 1; rw [decide_eq_decide]; omega
  have hb2 : b ≤ M + M := by omega
  clear hb hv0
  have key : ∀ (U O : Nat → Bool), (∀ r, r < M → U r = (decide (a ≤ r ∧ r < b) && decide (a ≤ M + r ∧ M + r < b))) → (∀ r, r < M → O r = (decide (a ≤ r ∧ r < b) || decide (a ≤ M + r ∧ M + r < b))) →
      (∃ a1 b1 c1, ∀ r, r < M → U r = (c1 != decide (a1 ≤ r ∧ r < b1))) ∧ (∃ a1 b1 c1, ∀ r, r < M → O r = (c1 != decide (a1 ≤ r ∧ r < b1))) ∧ ((∀ r, r < M → U r = false) ∨ (∀ r, r < M → O r = true)) := by
    intro U O hU hO
    refine ⟨⟨a, b - M, false, fun r hr => ?_⟩, ?_, ?_⟩
    · rw [hU r hr]; simp only [Bool.false_bne, ← Bool.decide_and, decide_eq_decide]; omega
    · by_cases h1 : M ≤ a
      · refine ⟨a - M, b - M, false, fun r hr => ?_⟩
        rw [hO r hr]; simp only [Bool.false_bne, ← Bool.decide_or, decide_eq_decide]; omega
      · by_cases h2 : b ≤ M
        · refine ⟨a, b, false, fun r hr => ?_⟩
          rw [hO r hr]; simp only [Bool.false_bne, ← Bool.decide_or, decide_eq_decide]; omega
        · refine ⟨b - M, a, true, fun r hr => ?_⟩
          rw [hO r hr]; simp only [Bool.true_bne, ← Bool.decide_or, ← decide_not, decide_eq_decide]; omega
    · by_cases h1 : a + M ≤ b
      · right; intro r hr; rw [hO r hr]; simp only [← Bool.decide_or, decide_eq_true_eq]; omega
      · left; intro r hr; rw [hU r hr]; simp only [← Bool.decide_and, decide_eq_false_iff_not]; omega
  cases c with
  | false =>
    obtain ⟨k1, k2, k3⟩ := key (fun r => u (t1 + r)) (fun r => o (t2 + r)) (fun r hr => by show u (t1 + r) = _; rw [hu r hr, hv r (by omega), hv (M + r) (by omega)]; simp) (fun r hr => by show o (t2 + r) = _; rw [ho r hr, hv r (by omega), hv (M + r) (by omega)]; simp)
    exact ⟨k1, k2, k3⟩
  | true =>
    obtain ⟨⟨a1, b1, c1, k1⟩, ⟨a2, b2, c2, k2⟩, k3⟩ := key (fun r => !o (t2 + r)) (fun r => !u (t1 + r)) (fun r hr => by show (!o (t2 + r)) = _; rw [ho r hr, hv r (by omega), hv (M + r) (by omega)]; simp) (fun r hr => by show (!u (t1 + r)) = _; rw [hu r hr, hv r (by omega), hv (M + r) (by omega)]; simp)
    refine ⟨⟨a2, b2, !c2, fun r hr => ?_⟩, ⟨a1, b1, !c1, fun r hr => ?_⟩, ?_⟩
    · have := k2 r hr; cases c2 <;> cases hh : decide (a2 ≤ r ∧ r < b2) <;> rw [hh] at this <;> simpa using this
    · have := k1 r hr; cases c1 <;> cases hh : decide (a1 ≤ r ∧ r < b1) <;> rw [hh] at this <;> simpa using this
    · rcases k3 with k3 | k3
      · right; intro r hr; simpa using k3 r hr
      · left; intro r hr; simpa using k3 r hr

theorem row_low (f e : Nat) (v : Nat → Bool) (q r : Nat) (hr : r < 2 ^ e) : rowOp f e v (q * (2 ^ e + 2 ^ e) + r) =
    if (q * (2 ^ e + 2 ^ e) + r) / 2 ^ f % 2 = 0 then v (q * (2 ^ e + 2 ^ e) + r) && v (q * (2 ^ e + 2 ^ e) + (2 ^ e + r)) else v (q * (2 ^ e + 2 ^ e) + r) || v (q * (2 ^ e + 2 ^ e) + (2 ^ e + r)) := by
  rw [rowOp, if_pos (low_bit q _ r hr), Nat.add_assoc, Nat.add_comm r (2 ^ e)]
theorem row_high (f e : Nat) (v : Nat → Bool) (q r : Nat) (hr : r < 2 ^ e) : rowOp f e v (q * (2 ^ e + 2 ^ e) + (2 ^ e + r)) =
    if (q * (2 ^ e + 2 ^ e) + (2 ^ e + r)) / 2 ^ f % 2 = 0 then v (q * (2 ^ e + 2 ^ e) + r) || v (q * (2 ^ e + 2 ^ e) + (2 ^ e + r)) else v (q * (2 ^ e + 2 ^ e) + r) && v (q * (2 ^ e + 2 ^ e) + (2 ^ e + r)) := by
  have e1 : q * (2 ^ e + 2 ^ e) + (2 ^ e + r) - 2 ^ e = q * (2 ^ e + 2 ^ e) + r := by omega
  rw [rowOp, if_neg (by rw [high_bit q _ r hr]; decide), e1]

theorem pow_dbl (n : Nat) : 2 ^ (n + 1) = 2 ^ n + 2 ^ n := by rw [Nat.pow_succ]; omega
theorem dbl_mul (q n : Nat) : q * (2 ^ n + 2 ^ n) = 2 * q * 2 ^ n := by rw [← Nat.two_mul, ← Nat.mul_assoc, Nat.mul_comm q 2]
theorem dbl_mul1 (q n : Nat) : q * (2 ^ n + 2 ^ n) + 2 ^ n = (2 * q + 1) * 2 ^ n := by rw [dbl_mul, Nat.add_mul, Nat.one_mul]

theorem mg_cst (f n : Nat) (b : Bool) : ∀ (v : Nat → Bool) (q : Nat), Cst b v (q * 2 ^ n) (2 ^ n) → Cst b (mg f n v) (q * 2 ^ n) (2 ^ n) := by
  induction n with
  | zero => intro v q h; exact h
  | succ n ih =>
    intro v q h
    rw [pow_dbl] at h ⊢
    have e1 : ∀ r, r < 2 ^ n → rowOp f n v (q * (2 ^ n + 2 ^ n) + r) = b := fun r hr => by
      rw [row_low f n v q r hr, h r (by omega), h (2 ^ n + r) (by omega)]; simp
    have e2 : ∀ r, r < 2 ^ n → rowOp f n v (q * (2 ^ n + 2 ^ n) + (2 ^ n + r)) = b := fun r hr => by
      rw [row_high f n v q r hr, h r (by omega), h (2 ^ n + r) (by omega)]; simp
    have k1 := ih (rowOp f n v) (2 * q) (fun r hr => by rw [← dbl_mul]; exact e1 r hr)
    have k2 := ih (rowOp f n v) (2 * q + 1) (fun r hr => by rw [← dbl_mul1, Nat.add_assoc]; exact e2 r hr)
    intro r hr
    show mg f n (rowOp f n v) _ = b
    rcases Nat.lt_or_ge r (2 ^ n) with h1 | h1
    · have := k1 r h1; rwa [← dbl_mul] at this
    · have := k2 (r - 2 ^ n) (by omega)
      rw [← dbl_mul1, Nat.add_assoc] at this
      rwa [show 2 ^ n + (r - 2 ^ n) = r by omega] at this

theorem mg_sorts (f n : Nat) : ∀ (v : Nat → Bool) (q d : Nat), (∀ r, r < 2 ^ n → (q * 2 ^ n + r) / 2 ^ f % 2 = d) → Bito v (q * 2 ^ n) (2 ^ n) →
    (d = 0 → Asc (mg f n v) (q * 2 ^ n) (2 ^ n)) ∧ (d ≠ 0 → Dsc (mg f n v) (q * 2 ^ n) (2 ^ n)) := by
  induction n with
  | zero =>
    intro v q d _ _
    constructor
    · intro _
      cases hv : v (q * 2 ^ 0)
      · exact ⟨1, by simp, fun r hr => by have : r = 0 := by simp at hr; omega
                                          subst this; simpa [mg] using hv⟩
      · exact ⟨0, by simp, fun r hr => by have : r = 0 := by simp at hr; omega
                                          subst this; simpa [mg] using hv⟩
    · intro _
      cases hv : v (q * 2 ^ 0)
      · exact ⟨0, by simp, fun r hr => by have : r = 0 := by simp at hr; omega
                                          subst this; simpa [mg] using hv⟩
      · exact ⟨1, by simp, fun r hr => by have : r = 0 := by simp at hr; omega
                                          subst this; simpa [mg] using hv⟩
  | succ n ih =>
    intro v q d hd hb
    rw [pow_dbl] at hd hb ⊢
    have d1 : ∀ r, r < 2 ^ n → (q * (2 ^ n + 2 ^ n) + r) / 2 ^ f % 2 = d := fun r hr => hd r (by omega)
    have d2 : ∀ r, r < 2 ^ n → (q * (2 ^ n + 2 ^ n) + (2 ^ n + r)) / 2 ^ f % 2 = d := fun r hr => hd (2 ^ n + r) (by omega)
    have D1 : ∀ r, r < 2 ^ n → (2 * q * 2 ^ n + r) / 2 ^ f % 2 = d := fun r hr => by rw [← dbl_mul]; exact d1 r hr
    have D2 : ∀ r, r < 2 ^ n → ((2 * q + 1) * 2 ^ n + r) / 2 ^ f % 2 = d := fun r hr => by rw [← dbl_mul1, Nat.add_assoc]; exact d2 r hr
    have join : ∀ r, 2 ^ n ≤ r → r < 2 ^ n + 2 ^ n → mg f (n + 1) v (q * (2 ^ n + 2 ^ n) + r) = mg f n (rowOp f n v) ((2 * q + 1) * 2 ^ n + (r - 2 ^ n)) := fun r h1 h2 => by
      show mg f n (rowOp f n v) _ = _
      rw [← dbl_mul1, Nat.add_assoc, show 2 ^ n + (r - 2 ^ n) = r by omega]
    have join0 : ∀ r, mg f (n + 1) v (q * (2 ^ n + 2 ^ n) + r) = mg f n (rowOp f n v) (2 * q * 2 ^ n + r) := fun r => by
      show mg f n (rowOp f n v) _ = _
      rw [← dbl_mul]
    constructor
    · intro hd0
      obtain ⟨b1, b2, hc⟩ := clean v _ _ hb (rowOp f n v) (rowOp f n v) (2 * q * 2 ^ n) ((2 * q + 1) * 2 ^ n)
        (fun r hr => by rw [← dbl_mul, row_low f n v q r hr, if_pos (by rw [d1 r hr]; exact hd0)])
        (fun r hr => by rw [← dbl_mul1, Nat.add_assoc, row_high f n v q r hr, if_pos (by rw [d2 r hr]; exact hd0)])
      obtain ⟨x1, hx1, k1⟩ := (ih (rowOp f n v) (2 * q) d D1 b1).1 hd0
      obtain ⟨x2, hx2, k2⟩ := (ih (rowOp f n v) (2 * q + 1) d D2 b2).1 hd0
      rcases hc with hc | hc
      · have hc := mg_cst f n false _ _ hc
        refine ⟨2 ^ n + x2, by omega, fun r hr => ?_⟩
        rcases Nat.lt_or_ge r (2 ^ n) with h1 | h1
        · rw [join0, hc r h1]; symm; rw [decide_eq_false_iff_not]; omega
        · rw [join r h1 hr, k2 _ (by omega), decide_eq_decide]; omega
      · have hc := mg_cst f n true _ _ hc
        refine ⟨x1, by omega, fun r hr => ?_⟩
        rcases Nat.lt_or_ge r (2 ^ n) with h1 | h1
        · rw [join0, k1 r h1]
        · rw [join r h1 hr, hc _ (by omega)]; symm; rw [decide_eq_true_eq]; omega
    · intro hd0
      obtain ⟨b1, b2, hc⟩ := clean v _ _ hb (rowOp f n v) (rowOp f n v) ((2 * q + 1) * 2 ^ n) (2 * q * 2 ^ n)
        (fun r hr => by rw [← dbl_mul1, Nat.add_assoc, row_high f n v q r hr, if_neg (by rw [d2 r hr]; exact hd0)])
        (fun r hr => by rw [← dbl_mul, row_low f n v q r hr, if_neg (by rw [d1 r hr]; exact hd0)])
      obtain ⟨x1, hx1, k1⟩ := (ih (rowOp f n v) (2 * q) d D1 b2).2 hd0
      obtain ⟨x2, hx2, k2⟩ := (ih (rowOp f n v) (2 * q + 1) d D2 b1).2 hd0
      rcases hc with hc | hc
      · have hc := mg_cst f n false _ _ hc
        refine ⟨x1, by omega, fun r hr => ?_⟩
        rcases Nat.lt_or_ge r (2 ^ n) with h1 | h1
        · rw [join0, k1 r h1]
        · rw [join r h1 hr, hc _ (by omega)]; symm; rw [decide_eq_false_iff_not]; omega
      · have hc := mg_cst f n true _ _ hc
        refine ⟨2 ^ n + x2, by omega, fun r hr => ?_⟩
        rcases Nat.lt_or_ge r (2 ^ n) with h1 | h1
        · rw [join0, hc r h1]; symm; rw [decide_eq_true_eq]; omega
        · rw [join r h1 hr, k2 _ (by omega), decide_eq_decide]; omega

theorem bit_top (q n r : Nat) (hr : r < 2 ^ n) : (q * 2 ^ n + r) / 2 ^ n % 2 = q % 2 := by
  rw [Nat.add_comm, Nat.mul_comm, Nat.add_mul_div_left _ _ (Nat.pow_pos (by decide)), Nat.div_eq_of_lt hr, Nat.zero_add]

theorem srt_sorts (v : Nat → Bool) : ∀ (f q : Nat), (q % 2 = 0 → Asc (srt f v) (q * 2 ^ f) (2 ^ f)) ∧ (q % 2 ≠ 0 → Dsc (srt f v) (q * 2 ^ f) (2 ^ f)) := by
  intro f
  induction f with
  | zero => intro q; exact mg_sorts 0 0 v q (q % 2) (fun r hr => by simp at hr; subst hr; simp) ⟨0, if v (q * 2 ^ 0) then 1 else 0, false, fun r hr => by simp at hr; subst hr; cases h : v (q * 2 ^ 0) <;> simp_all⟩
  | succ f ih =>
    intro q
    refine mg_sorts (f + 1) (f + 1) (srt f v) q (q % 2) (fun r hr => bit_top q _ r hr) ?_
    obtain ⟨x, hx, k1⟩ := (ih (2 * q)).1 (by omega)
    obtain ⟨y, hy, k2⟩ := (ih (2 * q + 1)).2 (by omega)
    rw [pow_dbl]
    refine ⟨x, 2 ^ f + y, false, fun r hr => ?_⟩
    rw [Bool.false_bne]
    rcases Nat.lt_or_ge r (2 ^ f) with h1 | h1
    · rw [dbl_mul, k1 r h1, decide_eq_decide]; omega
    · have e1 : q * (2 ^ f + 2 ^ f) + r = (2 * q + 1) * 2 ^ f + (r - 2 ^ f) := by rw [← dbl_mul1]; omega
      rw [e1, k2 _ (by omega), decide_eq_decide]; omega

/-! ### Lists that the gates go through -/
set_option linter.unusedSectionVars false
variable {α : Type} [Inhabited α]
def tradeA (l : List α) (i j : Nat) : List α := (l.set i (l.getD j default)).set j (l.getD i default)
def gstep (lt : α → α → Bool) (l : List α) (g : Int × Int) : List α := if lt (l.getD g.2.toNat default) (l.getD g.1.toNat default) then tradeA l g.1.toNat g.2.toNat else l
def gfold (lt : α → α → Bool) (l : List α) (gs : List (Int × Int)) : List α := gs.foldl (gstep lt) l
theorem tradeA_length (l : List α) (i j : Nat) : (tradeA l i j).length = l.length := by simp [tradeA]
theorem gstep_length (lt : α → α → Bool) (l : List α) (g : Int × Int) : (gstep lt l g).length = l.length := by
  unfold gstep; split
  · exact tradeA_length _ _ _
  · rfl
theorem gfold_length (lt : α → α → Bool) (gs : List (Int × Int)) : ∀ l, (gfold lt l gs).length = l.length := by
  induction gs with
  | nil => intro l; rfl
  | cons g gs ih => intro l; exact (ih _).trans (gstep_length lt l g)
theorem gfold_snoc (lt : α → α → Bool) (l : List α) (gs : List (Int × Int)) (g : Int × Int) : gfold lt l (gs ++ [g]) = gstep lt (gfold lt l gs) g := by simp [gfold]
theorem gfold_append (lt : α → α → Bool) (l : List α) (a b : List (Int × Int)) : gfold lt l (a ++ b) = gfold lt (gfold lt l a) b := by simp [gfold]
theorem tradeA_perm (l : List α) (i j : Nat) (hi : i < l.length) (hj : j < l.length) : (tradeA l i j).Perm l := by
  have e1 : l.getD j default = l[j] := by simp [hj]
  have e2 : l.getD i default = l[i] := by simp [hi]
  rw [tradeA, e1, e2]
  exact List.set_set_perm hi hj
theorem getD_set (l : List α) (i k : Nat) (x d : α) (hi : i < l.length) : (l.set i x).getD k d = if k = i then x else l.getD k d := by
  rw [List.getD_eq_getElem?_getD, List.getD_eq_getElem?_getD, List.getElem?_set]
  by_cases h : i = k
  · subst h; simp [hi]
  · rw [if_neg h, if_neg (fun e => h e.symm)]
theorem tradeA_get (l : List α) (i j k : Nat) (hi : i < l.length) (hj : j < l.length) : (tradeA l i j).getD k default = if k = j then l.getD i default else if k = i then l.getD j default else l.getD k default := by
  unfold tradeA
  rw [getD_set _ j k _ _ (by simpa using hj), getD_set _ i k _ _ hi]

/-- An order: not both ways; not being ahead goes on. -/
structure Odr (lt : α → α → Bool) : Prop where
  asym : ∀ a b, lt a b = true → lt b a = false
  tr : ∀ a b c, lt a b = false → lt b c = false → lt a c = false
theorem Odr.irr {lt : α → α → Bool} (h : Odr lt) (a : α) : lt a a = false := by
  cases hc : lt a a with
  | false => rfl
  | true => exact (h.asym a a hc ▸ hc).symm
def Up (lt : α → α → Bool) (p : α → Bool) : Prop := ∀ a b, p a = true → lt b a = false → p b = true
theorem up_of {lt : α → α → Bool} (h : Odr lt) (x : α) : Up lt (fun y => !lt y x) := fun a b ha hb => by
  have ha : lt a x = false := by simpa using ha
  show (!lt b x) = true
  rw [h.tr b a x hb ha]; rfl
/-- A gate, seen as noughts and ones: the lesser at the low place. -/
theorem gstep_get {lt : α → α → Bool} (ho : Odr lt) {p : α → Bool} (hp : Up lt p) (l : List α) (lo hi k : Nat) (hlo : lo < l.length) (hhi : hi < l.length) (hne : lo ≠ hi) :
    p ((gstep lt l ((lo : Int), (hi : Int))).getD k default) = if k = lo then p (l.getD lo default) && p (l.getD hi default) else if k = hi then p (l.getD lo default) || p (l.getD hi default) else p (l.getD k default) := by
  unfold gstep
  simp only [Int.toNat_natCast]
  obtain ⟨a, ha⟩ : ∃ a, l.getD lo default = a := ⟨_, rfl⟩
  obtain ⟨b, hb⟩ : ∃ b, l.getD hi default = b := ⟨_, rfl⟩
  rw [ha, hb]
  cases hc : lt b a with
  | true =>
    have h1 : p b = true → p a = true := fun h => hp b a h (ho.asym b a hc)
    rw [if_pos rfl, tradeA_get l lo hi k hlo hhi, ha, hb]
    by_cases k1 : k = lo
    · rw [if_neg (by omega), if_pos k1, if_pos k1]
      cases h2 : p b
      · simp
      · rw [h1 h2]; rfl
    · by_cases k2 : k = hi
      · rw [if_pos k2, if_neg k1, if_pos k2]
        cases h2 : p b
        · simp
        · rw [h1 h2]; rfl
      · rw [if_neg k2, if_neg k1, if_neg k1, if_neg k2]
  | false =>
    have h1 : p a = true → p b = true := fun h => hp a b h hc
    rw [if_neg (by simp)]
    by_cases k1 : k = lo
    · rw [if_pos k1, k1, ha]
      cases h2 : p a
      · simp
      · rw [h1 h2]; rfl
    · by_cases k2 : k = hi
      · rw [if_neg k1, if_pos k2, k2, hb]
        cases h2 : p a
        · simp
        · rw [h1 h2]; rfl
      · rw [if_neg k1, if_neg k2]

theorem in_range (L e m : Nat) (he : e < L) (hm : m < 2 ^ L) (hb : m / 2 ^ e % 2 = 0) : m + 2 ^ e < 2 ^ L := by
  have e1 : 2 ^ L = 2 ^ e * (2 * 2 ^ (L - e - 1)) := by rw [← Nat.pow_succ', ← Nat.pow_add]; congr 1; omega
  obtain ⟨C, hC⟩ : ∃ C, 2 ^ (L - e - 1) = C := ⟨_, rfl⟩
  rw [hC] at e1
  have hp : 0 < 2 ^ e := Nat.pow_pos (by decide)
  obtain ⟨M, hM⟩ : ∃ M, 2 ^ e = M := ⟨_, rfl⟩
  rw [hM] at e1 hp hb ⊢
  rw [e1] at hm ⊢
  have h1 : m / M < 2 * C := Nat.div_lt_of_lt_mul hm
  have h2 : m / M + 2 ≤ 2 * C := by omega
  have h3 : m < M * (m / M) + M := by have := Nat.mod_lt m hp; have := Nat.div_add_mod m M; omega
  have h4 : M * (m / M + 2) ≤ M * (2 * C) := Nat.mul_le_mul_left _ h2
  rw [Nat.mul_add] at h4
  omega
/-- The lower place of a place's gate. -/
def loOf (e i : Nat) : Nat := if i / 2 ^ e % 2 = 0 then i else i - 2 ^ e
theorem add_bit (e m : Nat) (hb : m / 2 ^ e % 2 = 0) : (m + 2 ^ e) / 2 ^ e % 2 = 1 := by
  rw [Nat.add_div_right _ (Nat.pow_pos (by decide))]; omega
theorem other_bit (e f m : Nat) (hef : e < f) (hb : m / 2 ^ e % 2 = 0) : (m + 2 ^ e) / 2 ^ f % 2 = m / 2 ^ f % 2 := by
  have e1 : 2 ^ f = 2 ^ e * (2 * 2 ^ (f - e - 1)) := by rw [← Nat.pow_succ', ← Nat.pow_add]; congr 1; omega
  rw [e1, ← Nat.div_div_eq_div_mul, ← Nat.div_div_eq_div_mul, ← Nat.div_div_eq_div_mul, ← Nat.div_div_eq_div_mul, Nat.add_div_right _ (Nat.pow_pos (by decide))]
  have : (m / 2 ^ e + 1) / 2 = m / 2 ^ e / 2 := by omega
  rw [this]
theorem loOf_high {e i : Nat} (h : i / 2 ^ e % 2 ≠ 0) : 2 ^ e ≤ i ∧ (i - 2 ^ e) / 2 ^ e % 2 = 0 := by
  have hp : 0 < 2 ^ e := Nat.pow_pos (by decide)
  have h1 : 2 ^ e ≤ i := by
    rcases Nat.lt_or_ge i (2 ^ e) with h2 | h2
    · rw [Nat.div_eq_of_lt h2] at h; omega
    · exact h2
  refine ⟨h1, ?_⟩
  have : i = (i - 2 ^ e) + 2 ^ e := by omega
  rw [this, Nat.add_div_right _ hp] at h
  omega
/-- The first m places' gates of a row, seen as noughts and ones. -/
theorem row_get {lt : α → α → Bool} (ho : Odr lt) {p : α → Bool} (hp : Up lt p) (f e L : Nat) (hef : e < f) (he : e < L) (l : List α) (hl : l.length = 2 ^ L) :
    ∀ m, m ≤ 2 ^ L → ∀ i, i < 2 ^ L → p ((gfold lt l (rowN f e m)).getD i default) = if loOf e i < m then rowOp f e (fun k => p (l.getD k default)) i else p (l.getD i default) := by
  intro m
  induction m with
  | zero => intro _ i _; rfl
  | succ m ih =>
    intro hm i hi
    have IH := ih (by omega)
    rw [rowN]
    by_cases hb : m / 2 ^ e % 2 = 0
    · rw [if_pos hb, gfold_snoc]
      have hr := in_range L e m he (by omega) hb
      have hlen := gfold_length lt (rowN f e m) l
      have hp2 : 0 < 2 ^ e := Nat.pow_pos (by decide)
      have m1 : p ((gfold lt l (rowN f e m)).getD m default) = p (l.getD m default) := by
        rw [IH m (by omega), if_neg]; unfold loOf; rw [if_pos hb]; omega
      have m2 : p ((gfold lt l (rowN f e m)).getD (m + 2 ^ e) default) = p (l.getD (m + 2 ^ e) default) := by
        rw [IH _ hr, if_neg]; unfold loOf; rw [if_neg (by rw [add_bit e m hb]; decide)]; omega
      have rest : i ≠ m → i ≠ m + 2 ^ e → p ((gfold lt l (rowN f e m)).getD i default) = if loOf e i < m + 1 then rowOp f e (fun k => p (l.getD k default)) i else p (l.getD i default) := fun h1 h2 => by
        rw [IH i hi]
        have : loOf e i ≠ m := by
          unfold loOf
          split
          · exact h1
          · rename_i h3
            have := (loOf_high h3).1
            omega
        by_cases h5 : loOf e i < m
        · rw [if_pos h5, if_pos (by omega)]
        · rw [if_neg h5, if_neg (by omega)]
      by_cases hd : m / 2 ^ f % 2 = 0
      · have hg : gateN f e m = ((m : Int), ((m + 2 ^ e : Nat) : Int)) := by unfold gateN; rw [if_pos hd]
        rw [hg, gstep_get ho hp _ m (m + 2 ^ e) i (by omega) (by omega) (by omega), m1, m2]
        by_cases h1 : i = m
        · subst h1
          rw [if_pos rfl, if_pos (by unfold loOf; rw [if_pos hb]; omega), rowOp, if_pos hb, if_pos hd]
        · rw [if_neg h1]
          by_cases h2 : i = m + 2 ^ e
          · subst h2
            have hbb := add_bit e m hb
            rw [if_pos rfl, if_pos (by unfold loOf; rw [if_neg (by omega)]; omega), rowOp, if_neg (by omega), if_pos (by rw [other_bit e f m hef hb]; exact hd), Nat.add_sub_cancel]
          · rw [if_neg h2]; exact rest h1 h2
      · have hg : gateN f e m = (((m + 2 ^ e : Nat) : Int), (m : Int)) := by unfold gateN; rw [if_neg hd]
        rw [hg, gstep_get ho hp _ (m + 2 ^ e) m i (by omega) (by omega) (by omega), m1, m2]
        by_cases h1 : i = m
        · subst h1
          rw [if_neg (by omega), if_pos rfl, if_pos (by unfold loOf; rw [if_pos hb]; omega), rowOp, if_pos hb, if_neg hd, Bool.or_comm]
        · by_cases h2 : i = m + 2 ^ e
          · subst h2
            have hbb := add_bit e m hb
            rw [if_pos rfl, if_pos (by unfold loOf; rw [if_neg (by omega)]; omega), rowOp, if_neg (by omega), if_neg (by rw [other_bit e f m hef hb]; exact hd), Nat.add_sub_cancel, Bool.and_comm]
          · rw [if_neg h2, if_neg h1]; exact rest h1 h2
    · rw [if_neg hb, IH i hi]
      have : loOf e i ≠ m := by
        unfold loOf
        split
        · rename_i h3; intro h4; subst h4; exact hb h3
        · rename_i h3; intro h4; have := (loOf_high h3).2; rw [h4] at this; exact hb this
      by_cases h5 : loOf e i < m
      · rw [if_pos h5, if_pos (by omega)]
      · rw [if_neg h5, if_neg (by omega)]
theorem rowOp_in (f e L : Nat) (he : e < L) (v u : Nat → Bool) (h : ∀ i, i < 2 ^ L → v i = u i) (i : Nat) (hi : i < 2 ^ L) : rowOp f e v i = rowOp f e u i := by
  unfold rowOp
  by_cases hb : i / 2 ^ e % 2 = 0
  · rw [if_pos hb, if_pos hb, h i hi, h _ (in_range L e i he hi hb)]
  · rw [if_neg hb, if_neg hb, h i hi, h (i - 2 ^ e) (Nat.lt_of_le_of_lt (Nat.sub_le _ _) hi)]
theorem mg_in (f L : Nat) (n : Nat) (hn : n ≤ L) : ∀ (v u : Nat → Bool), (∀ i, i < 2 ^ L → v i = u i) → ∀ i, i < 2 ^ L → mg f n v i = mg f n u i := by
  induction n with
  | zero => intro v u h i hi; exact h i hi
  | succ n ih => intro v u h i hi; exact ih (by omega) _ _ (fun k hk => rowOp_in f n L (by omega) v u h k hk) i hi
/-- The rows of f, from row n - 1 down. -/
def dnF (f : Nat) : Nat → List Stp
  | 0 => []
  | n + 1 => stp f (f - n) :: dnF f n
theorem dnF_eq (f n : Nat) (hn : n ≤ f + 1) : dnF f n = (List.range n).map (fun i => stp f (f + 1 - n + i)) := by
  induction n with
  | zero => rfl
  | succ n ih =>
    rw [dnF, ih (by omega), List.range_succ_eq_map, List.map_cons, List.map_map]
    congr 1
    · congr 1; omega
    · apply List.map_congr_left
      intro i _
      show stp f _ = stp f _
      congr 1; simp only [Nat.succ_eq_add_one]; omega
theorem stepsF_dn (f : Nat) : stepsF f = dnF f (f + 1) := by
  rw [dnF_eq f (f + 1) (by omega), stepsF]
  apply List.map_congr_left
  intro i _
  congr 1; omega
theorem gts_cons (N : Nat) (x : Stp) (l : List Stp) : gts N (x :: l) = rowN x.1.val x.2.val N ++ gts N l := by unfold gts; simp
theorem gts_app (N : Nat) (a b : List Stp) : gts N (a ++ b) = gts N a ++ gts N b := by unfold gts; simp
theorem dn_get {lt : α → α → Bool} (ho : Odr lt) {p : α → Bool} (hp : Up lt p) (f L : Nat) (hf : f < L) (hL : L ≤ 16) (n : Nat) (hn : n ≤ f + 1) :
    ∀ (l : List α), l.length = 2 ^ L → ∀ i, i < 2 ^ L → p ((gfold lt l (gts (2 ^ L) (dnF f n))).getD i default) = mg (f + 1) n (fun k => p (l.getD k default)) i := by
  induction n with
  | zero => intro l _ i _; rfl
  | succ n ih =>
    intro l hl i hi
    rw [dnF, gts_cons, gfold_append, stp_fst f _ (by omega), stp_snd f _ (by omega), show f - (f - n) = n by omega]
    rw [ih (by omega) _ ((gfold_length lt _ l).trans hl) i hi, mg]
    refine mg_in (f + 1) L n (by omega) _ _ (fun k hk => ?_) i hi
    rw [row_get ho hp (f + 1) n L (by omega) (by omega) l hl (2 ^ L) (Nat.le_refl _) k hk, if_pos]
    unfold loOf; split
    · exact hk
    · exact Nat.lt_of_le_of_lt (Nat.sub_le _ _) hk
theorem all_get {lt : α → α → Bool} (ho : Odr lt) {p : α → Bool} (hp : Up lt p) (L : Nat) (hL : L ≤ 16) (f : Nat) (hf : f ≤ L) :
    ∀ (l : List α), l.length = 2 ^ L → ∀ i, i < 2 ^ L → p ((gfold lt l (gts (2 ^ L) (stepsK f))).getD i default) = srt f (fun k => p (l.getD k default)) i := by
  induction f with
  | zero => intro l _ i _; rfl
  | succ f ih =>
    intro l hl i hi
    rw [stepsK, gts_app, gfold_append, stepsF_dn, dn_get ho hp f L (by omega) hL (f + 1) (by omega) _ ((gfold_length lt _ l).trans hl) i hi, srt]
    exact mg_in (f + 1) L (f + 1) (by omega) _ _ (fun k hk => ih (by omega) l hl k hk) i hi
/-- THE THEOREM: what the gates leave rises. -/
theorem gates_sort {lt : α → α → Bool} (ho : Odr lt) (L : Nat) (hL : L ≤ 16) (l : List α) (hl : l.length = 2 ^ L) (i j : Nat) (hij : i ≤ j) (hj : j < 2 ^ L) :
    lt ((gfold lt l (gatesL L)).getD j default) ((gfold lt l (gatesL L)).getD i default) = false := by
  obtain ⟨x, hx⟩ : ∃ x, (gfold lt l (gatesL L)).getD i default = x := ⟨_, rfl⟩
  have hg := fun k hk => all_get ho (up_of ho x) L hL L (Nat.le_refl _) l hl k hk
  obtain ⟨t, ht, hs⟩ := (srt_sorts (fun k => !lt (l.getD k default) x) L 0).1 rfl
  simp only [Nat.zero_mul, Nat.zero_add] at hs
  have h1 := hg i (by omega)
  rw [hs i (by omega)] at h1
  have h2 := hg j hj
  rw [hs j hj] at h2
  rw [show gts (2 ^ L) (stepsK L) = gatesL L from rfl] at h1 h2
  rw [hx] at h1 ⊢
  rw [ho.irr x] at h1
  have h3 : t ≤ i := by simpa using h1.symm
  rw [decide_eq_true (by omega : t ≤ j)] at h2
  simpa using h2
theorem gate_in (f e L m : Nat) (he : e < L) : ∀ g, g ∈ rowN f e m → m ≤ 2 ^ L → ∃ a b : Nat, g = ((a : Int), (b : Int)) ∧ a < 2 ^ L ∧ b < 2 ^ L ∧ a ≠ b := by
  induction m with
  | zero => intro g hg _; simp [rowN] at hg
  | succ m ih =>
    intro g hg hm
    rw [rowN] at hg
    split at hg
    · rename_i hb
      rcases List.mem_append.1 hg with h | h
      · exact ih g h (by omega)
      · have hr := in_range L e m he (by omega) hb
        have hp2 : 0 < 2 ^ e := Nat.pow_pos (by decide)
        have : g = gateN f e m := by simpa using h
        rw [this, gateN]
        split
        · exact ⟨m, m + 2 ^ e, rfl, by omega, hr, by omega⟩
        · exact ⟨m + 2 ^ e, m, rfl, hr, by omega, by omega⟩
    · exact ih g hg (by omega)
/-- Every gate's places are places. -/
theorem gates_in (L : Nat) (hL : L ≤ 16) (g : Int × Int) (hg : g ∈ gatesL L) : ∃ a b : Nat, g = ((a : Int), (b : Int)) ∧ a < 2 ^ L ∧ b < 2 ^ L ∧ a ≠ b := by
  unfold gatesL gts at hg
  obtain ⟨x, hx, hg⟩ := List.mem_flatMap.1 hg
  exact gate_in _ _ L _ (step_low L L (Nat.le_refl _) hL x hx) g hg (Nat.le_refl _)
theorem gfold_perm (lt : α → α → Bool) (N : Nat) (gs : List (Int × Int)) (hg : ∀ g, g ∈ gs → ∃ a b : Nat, g = ((a : Int), (b : Int)) ∧ a < N ∧ b < N ∧ a ≠ b) : ∀ l : List α, l.length = N → (gfold lt l gs).Perm l := by
  induction gs with
  | nil => intro l _; exact List.Perm.refl _
  | cons g gs ih =>
    intro l hl
    obtain ⟨a, b, rfl, ha, hb, _⟩ := hg g (by simp)
    have e1 : gfold lt l (((a : Int), (b : Int)) :: gs) = gfold lt (gstep lt l ((a : Int), (b : Int))) gs := rfl
    rw [e1]
    refine (ih (fun g h => hg g (by simp [h])) _ ((gstep_length lt l _).trans hl)).trans ?_
    unfold gstep
    split
    · exact tradeA_perm l _ _ (by simpa [hl] using ha) (by simpa [hl] using hb)
    · exact List.Perm.refl _
theorem gates_perm (lt : α → α → Bool) (L : Nat) (hL : L ≤ 16) (l : List α) (hl : l.length = 2 ^ L) : (gfold lt l (gatesL L)).Perm l := gfold_perm lt _ _ (gates_in L hL) l hl
end Go.Proofs.Ytlkpgbilepehmaa
