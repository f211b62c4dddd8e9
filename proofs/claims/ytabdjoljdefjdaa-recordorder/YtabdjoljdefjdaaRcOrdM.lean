/- Layer record: ByGroup and ByIndex are orders. -/
import Derived.Test.YtabdjoljdefjdaaRcLaw
namespace Go.Proofs.Ytabdjoljdefjdaa
open Go.RowKit
set_option linter.unusedVariables false
set_option linter.unusedSimpArgs false

def gB (x y : Hd) : Bool := lvB x && !lvB y || lvB x && lvB y && (bef x.group y.group || samB x y && lowB x y) || !lvB x && !lvB y && lowB x y
theorem byG_g (xs ys : List Int) : byG xs ys = (isR xs && isR ys && gB (hdV xs) (hdV ys)) := rfl
theorem low_self (x : Hd) : lowB x x = false := by simp [lowB]
theorem gB_self (x : Hd) : gB x x = false := by
  rw [gB, low_self, bef_self]
  cases lvB x <;> simp
theorem low_asym (x y : Hd) : (lowB x y && lowB y x) = false := by
  simp only [lowB]
  by_cases h : x.index < y.index
  · rw [decide_eq_false (by omega : ¬ y.index < x.index), Bool.and_false]
  · rw [decide_eq_false h, Bool.false_and]
theorem gB_asym (x y : Hd) : (gB x y && gB y x) = false := by
  have h := bef_three x.group y.group
  have l := low_asym x y
  have s : samB y x = samB x y := by
    simp only [samB]
    by_cases e : x.group = y.group
    · rw [decide_eq_true e, decide_eq_true e.symm]
    · rw [decide_eq_false e, decide_eq_false (fun k => e k.symm)]
  rw [gB, gB, s]
  cases lvB x <;> cases lvB y <;> simp only [Bool.not_true, Bool.not_false, Bool.true_and, Bool.false_and, Bool.and_true, Bool.and_false, Bool.or_false, Bool.false_or] <;> try exact l
  rcases h with ⟨h1, h2, h3⟩ | ⟨h1, h2, h3⟩ | ⟨h1, h2, h3⟩
  · have : samB x y = false := decide_eq_false h3
    rw [h1, h2, this]; rfl
  · have : samB x y = false := decide_eq_false h3
    rw [h1, h2, this]; rfl
  · rw [h1, h2]
    cases samB x y
    · rfl
    · simpa using l
theorem low_trans {x y z : Hd} (h1 : lowB x y = true) (h2 : lowB y z = true) : lowB x z = true := by
  simp only [lowB, decide_eq_true_eq] at h1 h2 ⊢
  omega
theorem gB_trans {x y z : Hd} (h1 : gB x y = true) (h2 : gB y z = true) : gB x z = true := by
  rw [gB] at h1 h2 ⊢
  cases hx : lvB x <;> cases hy : lvB y <;> cases hz : lvB z <;> rw [hx, hy] at h1 <;> rw [hy, hz] at h2 <;> simp only [Bool.not_true, Bool.not_false, Bool.true_and, Bool.false_and, Bool.and_true, Bool.and_false, Bool.or_false, Bool.false_or, Bool.or_true, Bool.false_eq_true, Bool.or_eq_true, Bool.and_eq_true] at h1 h2 ⊢
  · exact low_trans h1 h2
  · rcases h1 with h1 | ⟨h1, i1⟩ <;> rcases h2 with h2 | ⟨h2, i2⟩
    · exact .inl (bef_trans _ _ _ h1 h2)
    · have e : y.group = z.group := of_decide_eq_true h2
      rw [← e]; exact .inl h1
    · have e : x.group = y.group := of_decide_eq_true h1
      rw [e]; exact .inl h2
    · have e1 : x.group = y.group := of_decide_eq_true h1
      have e2 : y.group = z.group := of_decide_eq_true h2
      exact .inr ⟨decide_eq_true (e1.trans e2), low_trans i1 i2⟩
theorem gB_total {x y : Hd} (h : x.index ≠ y.index) : gB x y = !gB y x := by
  have hl : lowB x y = !lowB y x := by
    simp only [lowB]
    by_cases e : x.index < y.index
    · rw [decide_eq_true e, decide_eq_false (by omega : ¬ y.index < x.index)]; rfl
    · rw [decide_eq_false e, decide_eq_true (by omega : y.index < x.index)]; rfl
  have hb := bef_three x.group y.group
  have s : samB y x = samB x y := by
    simp only [samB]
    by_cases e : x.group = y.group
    · rw [decide_eq_true e, decide_eq_true e.symm]
    · rw [decide_eq_false e, decide_eq_false (fun k => e k.symm)]
  rw [gB, gB, s, hl]
  cases lvB x <;> cases lvB y <;> simp only [Bool.not_true, Bool.not_false, Bool.true_and, Bool.false_and, Bool.and_true, Bool.and_false, Bool.or_false, Bool.false_or]
  rcases hb with ⟨h1, h2, h3⟩ | ⟨h1, h2, h3⟩ | ⟨h1, h2, h3⟩
  · have : samB x y = false := decide_eq_false h3
    rw [h1, h2, this]; rfl
  · have : samB x y = false := decide_eq_false h3
    rw [h1, h2, this]; rfl
  · have : samB x y = true := decide_eq_true h3
    rw [h1, h2, this]; simp
theorem low_total {x y : Hd} (h : x.index ≠ y.index) : lowB x y = !lowB y x := by
  simp only [lowB]
  by_cases e : x.index < y.index
  · rw [decide_eq_true e, decide_eq_false (by omega : ¬ y.index < x.index)]; rfl
  · rw [decide_eq_false e, decide_eq_true (by omega : y.index < x.index)]; rfl
theorem between {x y z : Hd} (h1 : gB x y = true) (h2 : gB y z = true) (h3 : lvB x = true) (h4 : lvB z = true) (h5 : samB x z = true) : lvB y = true ∧ samB x y = true := by
  rw [gB] at h1 h2
  rw [h3] at h1
  rw [h4] at h2
  have e : x.group = z.group := of_decide_eq_true h5
  cases hy : lvB y
  · rw [hy] at h2; simp at h2
  · rw [hy] at h1 h2
    simp only [Bool.not_true, Bool.not_false, Bool.true_and, Bool.false_and, Bool.and_true, Bool.and_false, Bool.or_false, Bool.false_or, Bool.or_eq_true, Bool.and_eq_true] at h1 h2
    refine ⟨rfl, ?_⟩
    rcases h1 with h1 | ⟨h1, _⟩
    · exfalso
      have b := bef_three x.group y.group
      rcases h2 with h2 | ⟨h2, _⟩
      · rw [← e] at h2
        rcases b with ⟨_, b2, _⟩ | ⟨b1, _, _⟩ | ⟨b1, _, _⟩
        · rw [b2] at h2; cases h2
        · rw [b1] at h1; cases h1
        · rw [b1] at h1; cases h1
      · have e2 : y.group = z.group := of_decide_eq_true h2
        rw [e, e2, bef_self] at h1; cases h1
    · exact h1
theorem byG_order (a b c : List Int) : byG a a = false ∧ (byG a b && byG b a) = false ∧ ((byG a b && byG b c) = true → byG a c = true) := by
  refine ⟨by rw [byG_g, gB_self, Bool.and_false], ?_, ?_⟩
  · rw [byG_g, byG_g]
    have := gB_asym (hdV a) (hdV b)
    cases isR a <;> cases isR b <;> simp_all
  · intro h
    rw [byG_g, byG_g] at h
    rw [byG_g]
    simp only [Bool.and_eq_true] at h ⊢
    exact ⟨⟨h.1.1.1, h.2.1.2⟩, gB_trans h.1.2 h.2.2⟩
theorem byI_order (a b c : List Int) : byI a a = false ∧ (byI a b && byI b a) = false ∧ ((byI a b && byI b c) = true → byI a c = true) := by
  refine ⟨by rw [byI, low_self, Bool.and_false], ?_, ?_⟩
  · rw [byI, byI]
    have := low_asym (hdV a) (hdV b)
    cases isR a <;> cases isR b <;> simp_all
  · intro h
    rw [byI, byI] at h
    rw [byI]
    simp only [Bool.and_eq_true] at h ⊢
    exact ⟨⟨h.1.1.1, h.2.1.2⟩, low_trans h.1.2 h.2.2⟩
theorem togB_comm (a b : List Int) : togB a b = togB b a := by
  have s : samB (hdV b) (hdV a) = samB (hdV a) (hdV b) := by
    simp only [samB]
    by_cases e : (hdV a).group = (hdV b).group
    · rw [decide_eq_true e, decide_eq_true e.symm]
    · rw [decide_eq_false e, decide_eq_false (fun k => e k.symm)]
  rw [togB, togB, s]
  cases isR a <;> cases isR b <;> cases lvB (hdV a) <;> cases lvB (hdV b) <;> rfl
theorem tog_between (a b c : List Int) (h : (byG a b && byG b c && togB a c) = true) : togB a b = true := by
  rw [byG_g, byG_g, togB] at h
  simp only [Bool.and_eq_true] at h
  obtain ⟨⟨⟨⟨ra, rb⟩, g1⟩, ⟨_, rc⟩, g2⟩, ⟨⟨⟨_, _⟩, la⟩, lc⟩, s⟩ := h
  have := between g1 g2 la lc s
  rw [togB, ra, rb, la, this.1, this.2]; rfl
set_option maxRecDepth 20000 in
set_option maxHeartbeats 4000000 in
theorem order_any (p q r s : Bool) (h1 : (p && q) = false) (h2 : (p && r) = true → s = true) (w : World) :
    Calls Try.prog 32 #[.int .u64 (mk p), .int .u64 (mk q), .int .u64 (mk r), .int .u64 (mk s), .int .u64 (mk false)] w fun e w' => e = .returned (.bool true) ∧ w = w' := by
  have A1 := mk_and p q
  have A2 := mk_and p r
  cases p <;> cases q <;> cases r <;> cases s <;> first | (exfalso; simp at h1; done) | (exfalso; simp at h2; done) | (clear h1 h2; simp only [mk_true, mk_false, Bool.and_true, Bool.and_false, Bool.true_and, Bool.false_and] at A1 A2 ⊢; go_enter Try.func32, Try.ntmps32; go_wp2; go_ret; exact ⟨rfl, rfl⟩)
end Go.Proofs.Ytabdjoljdefjdaa
