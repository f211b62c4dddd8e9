/- Pure mathematics: the order of a number modulo 2^255 - 19: Fermat's theorem at that prime, by a chain of primes (each has an element of full order). -/
import Derived.Test.YtnifolefhelmcaaFRing
namespace Go.Proofs.Ytnifolefhelmcaa.FT
set_option linter.unusedVariables false
/-- powers modulo m, by bits of the exponent -/
def pm (m : Nat) : Nat → Nat → Nat → Nat
  | 0, _, _ => 1 % m
  | f + 1, a, n => let r := pm m f (a * a % m) (n / 2); if n % 2 = 1 then r * a % m else r
theorem pm_eq (m : Nat) : ∀ f a n, n < 2 ^ f → pm m f a n = a ^ n % m
  | 0, a, n, h => by
      have : n = 0 := by simp at h; exact h
      subst this; rfl
  | f + 1, a, n, h => by
      have ih := pm_eq m f (a * a % m) (n / 2) (by rw [Nat.pow_succ] at h; omega)
      have e : (a * a % m) ^ (n / 2) % m = a ^ (2 * (n / 2)) % m := by
        rw [← Nat.pow_mod, Nat.pow_mul, Nat.pow_two]
      show (if n % 2 = 1 then pm m f (a * a % m) (n / 2) * a % m else pm m f (a * a % m) (n / 2)) = _
      rw [ih, e]
      split
      · rename_i h1
        have : a ^ n = a ^ (2 * (n / 2)) * a := by rw [← Nat.pow_succ]; congr 1; omega
        rw [this, Nat.mod_mul_mod]
      · have : 2 * (n / 2) = n := by omega
        rw [this]

/-- Fermat's theorem at m -/
def Cyc (m : Nat) : Prop := 1 < m ∧ ∀ x, 0 < x → x < m → x ^ (m - 1) % m = 1
/-- no divisor but 1 and itself -/
def Irr (q : Nat) : Prop := 1 < q ∧ ∀ d, d ∣ q → d = 1 ∨ d = q

theorem Cyc.pow {m : Nat} (h : Cyc m) (x : Nat) (hx : x % m ≠ 0) : x ^ (m - 1) % m = 1 := by
  rw [Nat.pow_mod]; exact h.2 _ (by omega) (Nat.mod_lt _ (by have := h.1; omega))
theorem Cyc.euclid {m : Nat} (h : Cyc m) (x y : Nat) (hxy : (x * y) % m = 0) : x % m = 0 ∨ y % m = 0 := by
  by_cases hx : x % m = 0
  · exact .inl hx
  · right
    have e := h.pow x hx
    have h1 := h.1
    have e2 : x ^ (m - 1) = x ^ (m - 2) * x := by rw [← Nat.pow_succ]; congr 1; omega
    have e3 : (x ^ (m - 1) * y) % m = y % m := by rw [Nat.mul_mod, e, Nat.one_mul, Nat.mod_mod]
    rw [← e3, e2, Nat.mul_assoc, Nat.mul_mod, hxy, Nat.mul_zero, Nat.zero_mod]
theorem Cyc.irr {m : Nat} (h : Cyc m) : Irr m := by
  refine ⟨h.1, fun d hd => ?_⟩
  obtain ⟨e, he⟩ := hd
  have h1 := h.1
  have hm : (d * e) % m = 0 := by rw [← he, Nat.mod_self]
  have hd0 : 0 < d := Nat.pos_of_ne_zero (fun h => by subst h; simp at he; omega)
  have he0 : 0 < e := Nat.pos_of_ne_zero (fun h => by subst h; simp at he; omega)
  rcases h.euclid d e hm with h2 | h2
  · right
    have hle : m ≤ d := Nat.le_of_dvd hd0 (Nat.dvd_of_mod_eq_zero h2)
    have : d ≤ m := by rw [he]; exact Nat.le_mul_of_pos_right _ he0
    omega
  · left
    have hle : m ≤ e := Nat.le_of_dvd he0 (Nat.dvd_of_mod_eq_zero h2)
    have h3 : d * e ≤ 1 * e := by omega
    have := Nat.le_of_mul_le_mul_right h3 he0
    omega

/-- no more pigeons than holes -/
theorem holes : ∀ (n : Nat) (f : Nat → Nat), (∀ i, i ≤ n → f i < n) → ∃ i j, i < j ∧ j ≤ n ∧ f i = f j
  | 0, f, h => absurd (h 0 (Nat.le_refl 0)) (Nat.not_lt_zero _)
  | n + 1, f, h => by
      by_cases hc : ∃ i, i ≤ n ∧ f i = f (n + 1)
      · obtain ⟨i, hi, e⟩ := hc; exact ⟨i, n + 1, by omega, Nat.le_refl _, e⟩
      · have hne : ∀ i, i ≤ n → f i ≠ f (n + 1) := fun i hi e => hc ⟨i, hi, e⟩
        obtain ⟨i, j, hij, hj, e⟩ := holes n (fun i => if f (n + 1) < f i then f i - 1 else f i) (fun i hi => by
          have h1 := h i (by omega); have h2 := h (n + 1) (Nat.le_refl _); have h3 := hne i hi
          show (if f (n + 1) < f i then f i - 1 else f i) < n
          split <;> omega)
        refine ⟨i, j, hij, by omega, ?_⟩
        have h1 := hne i (by omega); have h2 := hne j hj
        revert e
        show (if f (n + 1) < f i then f i - 1 else f i) = (if f (n + 1) < f j then f j - 1 else f j) → _
        split <;> split <;> intro e <;> omega

/-- the product of a row -/
def prod : List Nat → Nat
  | [] => 1
  | q :: l => q * prod l
theorem some_divides : ∀ (l : List Nat) (k : Nat), (∀ q, q ∈ l → Irr q) → 1 < k → k ∣ prod l → ∃ q, q ∈ l ∧ q ∣ k
  | [], k, _, hk, hd => absurd (Nat.le_of_dvd (by decide) hd) (by show ¬ k ≤ 1; omega)
  | q :: l, k, hq, hk, hd => by
      by_cases h : q ∣ k
      · exact ⟨q, List.mem_cons_self .., h⟩
      · have hg : Nat.gcd k q = 1 := by
          rcases (hq q (List.mem_cons_self ..)).2 _ (Nat.gcd_dvd_right k q) with e | e
          · exact e
          · exact absurd (e ▸ Nat.gcd_dvd_left k q) h
        obtain ⟨r, hr, hrk⟩ := some_divides l k (fun r hr => hq r (List.mem_cons_of_mem _ hr)) hk (Nat.Coprime.dvd_of_dvd_mul_left hg hd)
        exact ⟨r, List.mem_cons_of_mem _ hr, hrk⟩

/-- Lucas: an element of full order -/
theorem lucas (m g : Nat) (l : List Nat) (hm : 2 < m) (hl : prod l = m - 1) (hi : ∀ q, q ∈ l → Irr q) (h1 : g ^ (m - 1) % m = 1) (hn : ∀ q, q ∈ l → g ^ ((m - 1) / q) % m ≠ 1) : Cyc m := by
  -- powers of an exponent with value one
  have one_mul : ∀ a k, g ^ a % m = 1 → g ^ (a * k) % m = 1 := fun a k h => by
    rw [Nat.pow_mul, Nat.pow_mod, h, Nat.one_pow]; exact Nat.mod_eq_of_lt (by omega)
  have one_add : ∀ a b, g ^ a % m = 1 → g ^ (a + b) % m = g ^ b % m := fun a b h => by
    rw [Nat.pow_add, Nat.mul_mod, h, Nat.one_mul, Nat.mod_mod]
  -- the values with value one are closed under gcd
  have key : ∀ d, 0 < d → d < m - 1 → g ^ d % m ≠ 1 := by
    intro d hd hdm e
    -- strong induction: the least such d divides m - 1
    have : ∃ o, 0 < o ∧ o < m - 1 ∧ g ^ o % m = 1 ∧ ∀ k, 0 < k → k < o → g ^ k % m ≠ 1 := by
      induction d using Nat.strongRecOn with
      | ind d ih =>
        by_cases h : ∃ k, 0 < k ∧ k < d ∧ g ^ k % m = 1
        · obtain ⟨k, k0, kd, ke⟩ := h
          exact ih k kd k0 (by omega) ke
        · exact ⟨d, hd, hdm, e, fun k k0 kd ke => h ⟨k, k0, kd, ke⟩⟩
    obtain ⟨o, o0, om, oe, ol⟩ := this
    have hr : (m - 1) % o = 0 := by
      by_cases h : (m - 1) % o = 0
      · exact h
      · refine absurd ?_ (ol ((m - 1) % o) (by omega) (Nat.mod_lt _ o0))
        have e2 := one_add (o * ((m - 1) / o)) ((m - 1) % o) (one_mul o _ oe)
        rw [Nat.div_add_mod, h1] at e2
        exact e2.symm
    obtain ⟨k, hk⟩ := Nat.dvd_of_mod_eq_zero hr
    have hk1 : 1 < k := by
      rcases Nat.lt_or_ge 1 k with h | h
      · exact h
      · have : o * k ≤ o * 1 := Nat.mul_le_mul_left _ h
        omega
    obtain ⟨q, hq, c, hc⟩ := some_divides l k hi hk1 (by rw [hl, hk]; exact Nat.dvd_mul_left k o)
    refine hn q hq ?_
    have hq0 : 0 < q := by have := (hi q hq).1; omega
    have : (m - 1) / q = o * c := by
      rw [hk, hc, Nat.mul_comm q c, ← Nat.mul_assoc]; exact Nat.mul_div_cancel _ hq0
    rw [this]; exact one_mul o c oe
  refine ⟨by omega, fun x x0 xm => ?_⟩
  -- g has an inverse
  have inv : ∀ a b, (g * a) % m = (g * b) % m → a % m = b % m := fun a b h => by
    have e : ∀ c, (g ^ (m - 2) * (g * c)) % m = c % m := fun c => by
      rw [← Nat.mul_assoc, ← Nat.pow_succ, Nat.mul_mod]
      have : (m - 2).succ = m - 1 := by omega
      rw [this, h1, Nat.one_mul, Nat.mod_mod]
    rw [← e a, ← e b, Nat.mul_mod, h, ← Nat.mul_mod]
  have invn : ∀ k a b, (g ^ k * a) % m = (g ^ k * b) % m → a % m = b % m := fun k => by
    induction k with
    | zero => intro a b h; simpa using h
    | succ k ih => intro a b h; refine ih a b (inv _ _ ?_); rw [← Nat.mul_assoc, ← Nat.mul_assoc, Nat.mul_comm g (g ^ k), ← Nat.pow_succ]; exact h
  have inj : ∀ i j, i < j → j < m - 1 → g ^ i % m ≠ g ^ j % m := fun i j hij hj e => by
    refine key (j - i) (by omega) (by omega) ?_
    have h2 : (g ^ i * g ^ (j - i)) % m = (g ^ i * 1) % m := by rw [← Nat.pow_add, Nat.mul_one, e]; congr 2; omega
    have := invn i _ _ h2
    rw [this]; exact Nat.mod_eq_of_lt (by omega)
  have pos : ∀ i, 0 < g ^ i % m := fun i => by
    rcases Nat.eq_zero_or_pos (g ^ i % m) with h | h
    · exfalso
      have h2 : (g ^ i * 1) % m = (g ^ i * 0) % m := by rw [Nat.mul_one, h, Nat.mul_zero, Nat.zero_mod]
      have := invn i _ _ h2
      rw [Nat.mod_eq_of_lt (by omega : 1 < m), Nat.zero_mod] at this
      omega
    · exact h
  by_cases hx : ∃ i, i < m - 1 ∧ g ^ i % m = x
  · obtain ⟨i, hi2, e⟩ := hx
    rw [← e, ← Nat.pow_mod, ← Nat.pow_mul, Nat.mul_comm]
    exact one_mul _ _ h1
  · exfalso
    obtain ⟨i, j, hij, hj, e⟩ := holes (m - 1) (fun i => if i < m - 1 then g ^ i % m - 1 else x - 1) (fun i hi2 => by
      show (if i < m - 1 then g ^ i % m - 1 else x - 1) < m - 1
      have := pos i; have := Nat.mod_lt (g ^ i) (by omega : m > 0)
      split <;> omega)
    have pi := pos i; have pj := pos j
    revert e
    show (if i < m - 1 then g ^ i % m - 1 else x - 1) = (if j < m - 1 then g ^ j % m - 1 else x - 1) → False
    rw [if_pos (by omega : i < m - 1)]
    split
    · rename_i hj2; intro e; exact inj i j hij hj2 (by omega)
    · intro e; exact hx ⟨i, by omega, by omega⟩

/-- by trial -/
def noDiv (q : Nat) : Nat → Nat → Bool
  | 0, _ => true
  | f + 1, d => q % d != 0 && noDiv q f (d + 1)
theorem noDiv_ok (q : Nat) : ∀ f d, noDiv q f d = true → ∀ k, d ≤ k → k < d + f → q % k ≠ 0
  | 0, d, _, k, h1, h2 => by omega
  | f + 1, d, h, k, h1, h2 => by
      unfold noDiv at h
      rw [Bool.and_eq_true, bne_iff_ne] at h
      by_cases e : k = d
      · subst e; exact h.1
      · exact noDiv_ok q f (d + 1) h.2 k (by omega) (by omega)
theorem irr_small (q s : Nat) (hq : 1 < q) (hs : q < s * s) (h : noDiv q (s - 2) 2 = true) : Irr q := by
  refine ⟨hq, fun d hd => ?_⟩
  obtain ⟨e, he⟩ := hd
  have hd0 : 0 < d := Nat.pos_of_ne_zero (fun h => by subst h; simp at he; omega)
  have he0 : 0 < e := Nat.pos_of_ne_zero (fun h => by subst h; simp at he; omega)
  have lt : ∀ a b, q = a * b → 0 < a → 0 < b → a < s → a = 1 := fun a b hab ha hb has => by
    by_cases h1 : a = 1
    · exact h1
    · refine absurd ?_ (noDiv_ok q _ _ h a (by omega) (by omega))
      rw [hab]; exact Nat.mul_mod_right a b
  rcases Nat.lt_or_ge d s with h1 | h1
  · exact .inl (lt d e he hd0 he0 h1)
  · right
    have : e < s := by
      rcases Nat.lt_or_ge e s with h2 | h2
      · exact h2
      · have := Nat.mul_le_mul h1 h2; omega
    have := lt e d (by rw [Nat.mul_comm]; exact he) he0 hd0 this
    rw [he, this, Nat.mul_one]

theorem irr_of (m g : Nat) (l : List Nat) (f : Nat) (hm : 2 < m) (hl : prod l = m - 1) (hi : ∀ q, q ∈ l → Irr q) (hf : m - 1 < 2 ^ f) (h1 : pm m f g (m - 1) = 1) (hn : l.all (fun q => pm m f g ((m - 1) / q) != 1) = true) : Cyc m :=
  lucas m g l hm hl hi (by rw [← pm_eq m f _ _ hf]; exact h1) (fun q hq => by
    have h := List.all_eq_true.1 hn q hq
    rw [bne_iff_ne, pm_eq m f _ _ (Nat.lt_of_le_of_lt (Nat.div_le_self _ _) hf)] at h
    exact h)
theorem i2 : Irr 2 := irr_small 2 2 (by decide) (by decide +kernel) (by decide +kernel)
theorem i3 : Irr 3 := irr_small 3 2 (by decide) (by decide +kernel) (by decide +kernel)
theorem i5 : Irr 5 := irr_small 5 3 (by decide) (by decide +kernel) (by decide +kernel)
theorem i7 : Irr 7 := irr_small 7 3 (by decide) (by decide +kernel) (by decide +kernel)
theorem i13 : Irr 13 := irr_small 13 4 (by decide) (by decide +kernel) (by decide +kernel)
theorem i19 : Irr 19 := irr_small 19 5 (by decide) (by decide +kernel) (by decide +kernel)
theorem i31 : Irr 31 := irr_small 31 6 (by decide) (by decide +kernel) (by decide +kernel)
theorem i47 : Irr 47 := irr_small 47 7 (by decide) (by decide +kernel) (by decide +kernel)
theorem i103 : Irr 103 := irr_small 103 11 (by decide) (by decide +kernel) (by decide +kernel)
theorem i107 : Irr 107 := irr_small 107 11 (by decide) (by decide +kernel) (by decide +kernel)
theorem i127 : Irr 127 := irr_small 127 12 (by decide) (by decide +kernel) (by decide +kernel)
theorem i223 : Irr 223 := irr_small 223 15 (by decide) (by decide +kernel) (by decide +kernel)
theorem i353 : Irr 353 := irr_small 353 19 (by decide) (by decide +kernel) (by decide +kernel)
theorem i991 : Irr 991 := irr_small 991 32 (by decide) (by decide +kernel) (by decide +kernel)
theorem i2437 : Irr 2437 := irr_small 2437 50 (by decide) (by decide +kernel) (by decide +kernel)
theorem i4153 : Irr 4153 := irr_small 4153 65 (by decide) (by decide +kernel) (by decide +kernel)
theorem i57467 : Irr 57467 := irr_small 57467 240 (by decide) (by decide +kernel) (by decide +kernel)
theorem i65147 : Irr 65147 := irr_small 65147 256 (by decide) (by decide +kernel) (by decide +kernel)
theorem i75707 : Irr 75707 := irr_small 75707 276 (by decide) (by decide +kernel) (by decide +kernel)
theorem i132049 : Irr 132049 := irr_small 132049 364 (by decide) (by decide +kernel) (by decide +kernel)
theorem i430751 : Irr 430751 := irr_small 430751 657 (by decide) (by decide +kernel) (by decide +kernel)
theorem i569003 : Irr 569003 := irr_small 569003 755 (by decide) (by decide +kernel) (by decide +kernel)
theorem i1923133 : Irr 1923133 := irr_small 1923133 1387 (by decide) (by decide +kernel) (by decide +kernel)
theorem c8574133 : Cyc 8574133 := irr_of 8574133 2 [2, 2, 3, 7, 103, 991] 24 (by decide) (by decide +kernel) (fun q hq => by
  simp only [List.mem_cons, List.not_mem_nil, or_false] at hq
  rcases hq with rfl | rfl | rfl | rfl | rfl | rfl
  · exact i2
  · exact i2
  · exact i3
  · exact i7
  · exact i103
  · exact i991
  ) (by decide +kernel) (by decide +kernel) (by decide +kernel)
theorem c2773320623 : Cyc 2773320623 := irr_of 2773320623 5 [2, 2437, 569003] 32 (by decide) (by decide +kernel) (fun q hq => by
  simp only [List.mem_cons, List.not_mem_nil, or_false] at hq
  rcases hq with rfl | rfl | rfl
  · exact i2
  · exact i2437
  · exact i569003
  ) (by decide +kernel) (by decide +kernel) (by decide +kernel)
theorem c72106336199 : Cyc 72106336199 := irr_of 72106336199 7 [2, 13, 2773320623] 37 (by decide) (by decide +kernel) (fun q hq => by
  simp only [List.mem_cons, List.not_mem_nil, or_false] at hq
  rcases hq with rfl | rfl | rfl
  · exact i2
  · exact i13
  · exact c2773320623.irr
  ) (by decide +kernel) (by decide +kernel) (by decide +kernel)
theorem c1919519569386763 : Cyc 1919519569386763 := irr_of 1919519569386763 2 [2, 3, 7, 19, 47, 47, 127, 8574133] 51 (by decide) (by decide +kernel) (fun q hq => by
  simp only [List.mem_cons, List.not_mem_nil, or_false] at hq
  rcases hq with rfl | rfl | rfl | rfl | rfl | rfl | rfl | rfl
  · exact i2
  · exact i3
  · exact i7
  · exact i19
  · exact i47
  · exact i47
  · exact i127
  · exact c8574133.irr
  ) (by decide +kernel) (by decide +kernel) (by decide +kernel)
theorem c31757755568855353 : Cyc 31757755568855353 := irr_of 31757755568855353 10 [2, 2, 2, 3, 31, 107, 223, 4153, 430751] 55 (by decide) (by decide +kernel) (fun q hq => by
  simp only [List.mem_cons, List.not_mem_nil, or_false] at hq
  rcases hq with rfl | rfl | rfl | rfl | rfl | rfl | rfl | rfl | rfl
  · exact i2
  · exact i2
  · exact i2
  · exact i3
  · exact i31
  · exact i107
  · exact i223
  · exact i4153
  · exact i430751
  ) (by decide +kernel) (by decide +kernel) (by decide +kernel)
theorem c75445702479781427272750846543864801 : Cyc 75445702479781427272750846543864801 := irr_of 75445702479781427272750846543864801 7 [2, 2, 2, 2, 2, 3, 3, 5, 5, 75707, 72106336199, 1919519569386763] 116 (by decide) (by decide +kernel) (fun q hq => by
  simp only [List.mem_cons, List.not_mem_nil, or_false] at hq
  rcases hq with rfl | rfl | rfl | rfl | rfl | rfl | rfl | rfl | rfl | rfl | rfl | rfl
  · exact i2
  · exact i2
  · exact i2
  · exact i2
  · exact i2
  · exact i3
  · exact i3
  · exact i5
  · exact i5
  · exact i75707
  · exact c72106336199.irr
  · exact c1919519569386763.irr
  ) (by decide +kernel) (by decide +kernel) (by decide +kernel)
theorem c74058212732561358302231226437062788676166966415465897661863160754340907 : Cyc 74058212732561358302231226437062788676166966415465897661863160754340907 := irr_of 74058212732561358302231226437062788676166966415465897661863160754340907 2 [2, 3, 353, 57467, 132049, 1923133, 31757755568855353, 75445702479781427272750846543864801] 236 (by decide) (by decide +kernel) (fun q hq => by
  simp only [List.mem_cons, List.not_mem_nil, or_false] at hq
  rcases hq with rfl | rfl | rfl | rfl | rfl | rfl | rfl | rfl
  · exact i2
  · exact i3
  · exact i353
  · exact i57467
  · exact i132049
  · exact i1923133
  · exact c31757755568855353.irr
  · exact c75445702479781427272750846543864801.irr
  ) (by decide +kernel) (by decide +kernel) (by decide +kernel)
theorem c57896044618658097711785492504343953926634992332820282019728792003956564819949 : Cyc 57896044618658097711785492504343953926634992332820282019728792003956564819949 := irr_of 57896044618658097711785492504343953926634992332820282019728792003956564819949 2 [2, 2, 3, 65147, 74058212732561358302231226437062788676166966415465897661863160754340907] 255 (by decide) (by decide +kernel) (fun q hq => by
  simp only [List.mem_cons, List.not_mem_nil, or_false] at hq
  rcases hq with rfl | rfl | rfl | rfl | rfl
  · exact i2
  · exact i2
  · exact i3
  · exact i65147
  · exact c74058212732561358302231226437062788676166966415465897661863160754340907.irr
  ) (by decide +kernel) (by decide +kernel) (by decide +kernel)
end Go.Proofs.Ytnifolefhelmcaa.FT
