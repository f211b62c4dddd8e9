/- Layer network: hops bring together what is live: mathematics alone. -/
import Derived.Test.YtlkpgbilepehmaaNHop
namespace Go.Proofs.Ytlkpgbilepehmaa
set_option linter.unusedVariables false
/-! ### Hops that bring together what is live: mathematics -/
section
variable (live : Nat → Bool)
/-- How many dead ones stand ahead of place i. -/
def dd : Nat → Nat
  | 0 => 0
  | i + 1 => dd i + if live i then 0 else 1
/-- How far the one from place i has to go. -/
def wayO (i : Nat) : Nat := if live i then dd live i else 0
theorem dd_le (i : Nat) : dd live i ≤ i := by
  induction i with
  | zero => exact Nat.le_refl _
  | succ i ih => rw [dd]; split <;> omega
theorem dd_step (i k : Nat) : dd live i ≤ dd live (i + k) ∧ dd live (i + k) ≤ dd live i + k := by
  induction k with
  | zero => exact ⟨Nat.le_refl _, Nat.le_refl _⟩
  | succ k ih => rw [← Nat.add_assoc, dd]; split <;> omega
theorem dd_live (i j : Nat) (h : live i = true) (hij : i < j) : dd live i ≤ dd live j ∧ dd live j + i + 1 ≤ dd live i + j := by
  have h1 := dd_step live (i + 1) (j - i - 1)
  have h2 : dd live (i + 1) = dd live i := by rw [dd, if_pos h]; rfl
  rw [show i + 1 + (j - i - 1) = j by omega, h2] at h1
  omega
/-- Where the live one from place i stands behind the hops of the lower e bits. -/
def posE (e i : Nat) : Nat := i - dd live i % 2 ^ e
theorem mod_add_le (a d M : Nat) : (a + d) % M ≤ a % M + d := by
  rw [Nat.add_mod]
  exact Nat.le_trans (Nat.mod_le _ _) (Nat.add_le_add_left (Nat.mod_le _ _) _)
theorem posE_lt (e i j : Nat) (hi : live i = true) (hij : i < j) : posE live e i < posE live e j := by
  obtain ⟨h1, h2⟩ := dd_live live i j hi hij
  have h3 := mod_add_le (dd live i) (dd live j - dd live i) (2 ^ e)
  rw [show dd live i + (dd live j - dd live i) = dd live j by omega] at h3
  have h4 := dd_le live i
  have h5 := dd_le live j
  have h6 := Nat.mod_le (dd live i) (2 ^ e)
  have h7 := Nat.mod_le (dd live j) (2 ^ e)
  unfold posE
  omega
theorem mod_succ (D e : Nat) : D % 2 ^ (e + 1) = D % 2 ^ e + 2 ^ e * (D / 2 ^ e % 2) := by
  rw [Nat.pow_succ, Nat.mod_mul]
theorem posE_bit (e i : Nat) (h : dd live i / 2 ^ e % 2 = 1) : posE live (e + 1) i + 2 ^ e = posE live e i := by
  have h1 := mod_succ (dd live i) e
  rw [h, Nat.mul_one] at h1
  have h2 := dd_le live i
  have h3 := Nat.mod_le (dd live i) (2 ^ (e + 1))
  unfold posE
  omega
theorem posE_nobit (e i : Nat) (h : dd live i / 2 ^ e % 2 = 0) : posE live (e + 1) i = posE live e i := by
  have h1 := mod_succ (dd live i) e
  rw [h, Nat.mul_zero] at h1
  unfold posE
  omega
theorem posE_le (e i : Nat) : posE live (e + 1) i ≤ posE live e i := by
  rcases Nat.mod_two_eq_zero_or_one (dd live i / 2 ^ e) with h | h
  · rw [posE_nobit live e i h]; exact Nat.le_refl _
  · exact Nat.le.intro (posE_bit live e i h)
/-- In the midst of bit e: the places below f are done. -/
def posF (e f i : Nat) : Nat := if posE live e i < f then posE live (e + 1) i else posE live e i
/-- A hop over what stands where. -/
def hopP (e f : Nat) (P : Nat → Nat) (q : Nat) : Nat := if wayO live (P f) / 2 ^ e % 2 = 1 then (if q = f then P (f - 2 ^ e) else if q = f - 2 ^ e then P f else P q) else P q
structure InvP (n : Nat) (pos : Nat → Nat) (P : Nat → Nat) : Prop where
  at_ : ∀ i, i < n → live i = true → P (pos i) = i
  in_ : ∀ q, q < n → P q < n
  inj : ∀ q r, q < n → r < n → P q = P r → q = r
theorem posF_le (e f i : Nat) : posF live e f i ≤ i := by
  have h1 : posE live e i ≤ i := Nat.sub_le _ _
  have h2 := posE_le live e i
  unfold posF; split <;> omega
theorem hop_inv (n e f : Nat) (hf : 2 ^ e ≤ f) (hfn : f < n) (P : Nat → Nat) (h : InvP live n (posF live e f) P) : InvP live n (posF live e (f + 1)) (hopP live e f P) := by
  have hp : 0 < 2 ^ e := Nat.pow_pos (by decide)
  by_cases hw : wayO live (P f) / 2 ^ e % 2 = 1
  · have hl : live (P f) = true := by
      cases hh : live (P f) with
      | true => rfl
      | false => unfold wayO at hw; rw [hh] at hw; simp at hw
    have hd : dd live (P f) / 2 ^ e % 2 = 1 := by unfold wayO at hw; rwa [if_pos hl] at hw
    have hi0 := h.in_ f hfn
    have hat := h.at_ (P f) hi0 hl
    have hle := posF_le live e f (P f)
    have hpf : posF live e f (P f) = f := h.inj _ _ (by omega) hfn hat
    have hpe : posE live e (P f) = f := by
      unfold posF at hpf
      split at hpf
      · have := posE_le live e (P f); omega
      · exact hpf
    have hbit := posE_bit live e (P f) hd
    have hto : posE live (e + 1) (P f) = f - 2 ^ e := by omega
    have hopq : ∀ q, hopP live e f P q = if q = f then P (f - 2 ^ e) else if q = f - 2 ^ e then P f else P q := fun q => by unfold hopP; rw [if_pos hw]
    refine ⟨fun i hi hli => ?_, fun q hq => ?_, fun q r hq hr hqr => ?_⟩
    · by_cases hii : i = P f
      · have : posF live e (f + 1) i = f - 2 ^ e := by unfold posF; rw [hii, hpe, if_pos (by omega), hto]
        rw [this, hopq, if_neg (by omega), if_pos rfl, hii]
      · have hcur := h.at_ i hi hli
        have hne : posE live e i ≠ f := fun e1 => by
          have : posF live e f i = f := by unfold posF; rw [if_neg (by omega)]; exact e1
          rw [this] at hcur; exact hii hcur.symm
        have hsame : posF live e (f + 1) i = posF live e f i := by
          unfold posF
          by_cases h1 : posE live e i < f
          · rw [if_pos h1, if_pos (by omega)]
          · rw [if_neg h1, if_neg (by omega)]
        have hq1 : posF live e f i ≠ f := fun e1 => by rw [e1] at hcur; exact hii hcur.symm
        have hq2 : posF live e f i ≠ f - 2 ^ e := by
          intro e1
          rcases Nat.lt_or_ge i (P f) with h1 | h1
          · have h2 := posE_lt live e i (P f) hli h1
            have h3 := posE_lt live (e + 1) i (P f) hli h1
            unfold posF at e1
            rw [if_pos (by omega)] at e1
            omega
          · have h2 := posE_lt live e (P f) i hl (by omega)
            unfold posF at e1
            rw [if_neg (by omega)] at e1
            omega
        rw [hsame, hopq, if_neg hq1, if_neg hq2]
        exact hcur
    · rw [hopq]
      split
      · exact h.in_ _ (by omega)
      · split
        · exact h.in_ _ hfn
        · exact h.in_ _ hq
    · rw [hopq, hopq] at hqr
      by_cases q1 : q = f
      · by_cases r1 : r = f
        · omega
        · rw [if_pos q1, if_neg r1] at hqr
          by_cases r2 : r = f - 2 ^ e
          · rw [if_pos r2] at hqr
            have := h.inj _ _ (by omega) hfn hqr; omega
          · rw [if_neg r2] at hqr
            have := h.inj _ _ (by omega) hr hqr; omega
      · rw [if_neg q1] at hqr
        by_cases q2 : q = f - 2 ^ e
        · rw [if_pos q2] at hqr
          by_cases r1 : r = f
          · rw [if_pos r1] at hqr
            have := h.inj _ _ hfn (by omega) hqr; omega
          · rw [if_neg r1] at hqr
            by_cases r2 : r = f - 2 ^ e
            · omega
            · rw [if_neg r2] at hqr
              have := h.inj _ _ hfn hr hqr; omega
        · rw [if_neg q2] at hqr
          by_cases r1 : r = f
          · rw [if_pos r1] at hqr
            have := h.inj _ _ hq (by omega) hqr; omega
          · rw [if_neg r1] at hqr
            by_cases r2 : r = f - 2 ^ e
            · rw [if_pos r2] at hqr
              have := h.inj _ _ hq hfn hqr; omega
            · rw [if_neg r2] at hqr
              exact h.inj _ _ hq hr hqr
  · have hopq : hopP live e f P = P := by funext q; unfold hopP; rw [if_neg hw]
    rw [hopq]
    refine ⟨fun i hi hli => ?_, h.in_, h.inj⟩
    have hcur := h.at_ i hi hli
    by_cases he : posE live e i = f
    · have h1 : posF live e f i = f := by unfold posF; rw [if_neg (by omega)]; exact he
      rw [h1] at hcur
      have h2 : dd live i / 2 ^ e % 2 = 0 := by
        rw [hcur] at hw
        unfold wayO at hw
        rw [if_pos hli] at hw
        omega
      have h3 : posF live e (f + 1) i = f := by unfold posF; rw [if_pos (by omega), posE_nobit live e i h2]; exact he
      rw [h3]; exact hcur
    · have hsame : posF live e (f + 1) i = posF live e f i := by
        unfold posF
        by_cases h1 : posE live e i < f
        · rw [if_pos h1, if_pos (by omega)]
        · rw [if_neg h1, if_neg (by omega)]
      rw [hsame]; exact hcur
theorem inv_start (n e : Nat) (P : Nat → Nat) (h : InvP live n (posE live e) P) : InvP live n (posF live e (2 ^ e)) P := by
  refine ⟨fun i hi hli => ?_, h.in_, h.inj⟩
  have : posF live e (2 ^ e) i = posE live e i := by
    unfold posF
    split
    · rename_i h1
      rcases Nat.mod_two_eq_zero_or_one (dd live i / 2 ^ e) with h2 | h2
      · exact posE_nobit live e i h2
      · have := posE_bit live e i h2; omega
    · rfl
  rw [this]; exact h.at_ i hi hli
theorem inv_end (n e f : Nat) (hf : n ≤ f) (P : Nat → Nat) (h : InvP live n (posF live e f) P) : InvP live n (posE live (e + 1)) P := by
  refine ⟨fun i hi hli => ?_, h.in_, h.inj⟩
  have h0 : posE live e i ≤ i := Nat.sub_le _ _
  have : posF live e f i = posE live (e + 1) i := by unfold posF; rw [if_pos (by omega)]
  rw [← this]; exact h.at_ i hi hli
/-- All hops of bit e. -/
def bitP (e : Nat) : Nat → (Nat → Nat) → Nat → Nat
  | 0, P => P
  | k + 1, P => hopP live e (2 ^ e + k) (bitP e k P)
theorem bit_inv (n e k : Nat) (hk : 2 ^ e + k ≤ n) (P : Nat → Nat) (h : InvP live n (posE live e) P) : InvP live n (posF live e (2 ^ e + k)) (bitP live e k P) := by
  induction k with
  | zero => exact inv_start live n e P h
  | succ k ih => exact hop_inv live n e (2 ^ e + k) (by omega) (by omega) _ (ih (by omega))
theorem bit_all (n e : Nat) (P : Nat → Nat) (h : InvP live n (posE live e) P) : InvP live n (posE live (e + 1)) (bitP live e (n - 2 ^ e) P) := by
  by_cases hn : 2 ^ e ≤ n
  · have := bit_inv live n e (n - 2 ^ e) (by omega) P h
    exact inv_end live n e _ (by omega) _ this
  · have h0 : n - 2 ^ e = 0 := by omega
    rw [h0]
    have := inv_start live n e P h
    exact inv_end live n e _ (by omega) _ this
def allP (n : Nat) : Nat → (Nat → Nat) → Nat → Nat
  | 0, P => P
  | e + 1, P => bitP live e (n - 2 ^ e) (allP n e P)
theorem all_inv (n e : Nat) : InvP live n (posE live e) (allP live n e id) := by
  induction e with
  | zero => exact ⟨fun i hi hli => by simp [allP, posE, Nat.mod_one], fun q hq => hq, fun q r _ _ h => h⟩
  | succ e ih => exact bit_all live n e _ ih
/-- How many live ones stand ahead of place i. -/
def rk (i : Nat) : Nat := i - dd live i
/-- THE THEOREM: behind all hops the live one from place i stands at place rk i. -/
theorem shift_at (n E : Nat) (hn : n ≤ 2 ^ E) (i : Nat) (hi : i < n) (hl : live i = true) : allP live n E id (rk live i) = i := by
  have h := (all_inv live n E).at_ i hi hl
  have h1 := dd_le live i
  have : posE live E i = rk live i := by unfold posE rk; rw [Nat.mod_eq_of_lt (by omega)]
  rwa [this] at h
theorem rk_lt (i j : Nat) (h : live i = true) (hij : i < j) : rk live i < rk live j := by
  have h1 := dd_live live i j h hij
  have h2 := dd_le live i
  have h3 := dd_le live j
  unfold rk
  omega
theorem rk_le (i j : Nat) (hij : i ≤ j) : rk live i ≤ rk live j := by
  have h1 := dd_step live i (j - i)
  rw [show i + (j - i) = j by omega] at h1
  have h2 := dd_le live i
  unfold rk
  omega
theorem rk_succ (i : Nat) : rk live (i + 1) = rk live i + if live i then 1 else 0 := by
  have h1 := dd_le live i
  unfold rk
  rw [dd]
  split <;> omega
/-- Each place below the number of live ones holds a live one. -/
theorem rk_onto (n : Nat) : ∀ q, q < rk live n → ∃ i, i < n ∧ live i = true ∧ rk live i = q := by
  induction n with
  | zero => intro q hq; simp [rk] at hq
  | succ n ih =>
    intro q hq
    rw [rk_succ] at hq
    by_cases h : q < rk live n
    · obtain ⟨i, h1, h2, h3⟩ := ih q h
      exact ⟨i, by omega, h2, h3⟩
    · cases hl : live n with
      | true => rw [hl] at hq; exact ⟨n, by omega, hl, by simp at hq; omega⟩
      | false => rw [hl] at hq; simp at hq; omega
/-- What stands behind all hops: live ones first, in their order; dead ones behind them. -/
theorem shift_live (n E : Nat) (hn : n ≤ 2 ^ E) (q : Nat) (hq : q < n) : live (allP live n E id q) = decide (q < rk live n) := by
  by_cases h : q < rk live n
  · obtain ⟨i, h1, h2, h3⟩ := rk_onto live n q h
    rw [← h3, shift_at live n E hn i h1 h2, h2]
    simp; exact h3 ▸ h
  · rw [decide_eq_false h]
    cases hl : live (allP live n E id q) with
    | false => rfl
    | true =>
      exfalso
      have hv := all_inv live n E
      have hin := hv.in_ q hq
      have ha := shift_at live n E hn _ hin hl
      have hr : rk live (allP live n E id q) < n := by unfold rk; omega
      have := hv.inj _ _ hr hq ha
      have h2 := rk_lt live _ n hl hin
      omega
theorem shift_order (n E : Nat) (hn : n ≤ 2 ^ E) (q : Nat) (hq : q + 1 < rk live n) : allP live n E id q < allP live n E id (q + 1) := by
  obtain ⟨i, h1, h2, h3⟩ := rk_onto live n q (by omega)
  obtain ⟨j, h4, h5, h6⟩ := rk_onto live n (q + 1) hq
  rw [← h6, shift_at live n E hn j h4 h5, ← h3, shift_at live n E hn i h1 h2]
  rcases Nat.lt_or_ge i j with h | h
  · exact h
  · have := rk_le live j i h; omega
end
end Go.Proofs.Ytlkpgbilepehmaa
