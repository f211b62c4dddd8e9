/- Layer host: a host without faults: what told answers. -/
import Derived.Test.YtobcolpdkcppoaaHLast
namespace Go.Proofs.Ytobcolpdkcppoaa
open Go.RowKit
set_option linter.unusedVariables false
set_option linter.unusedSimpArgs false

/-- A host without faults behind these writes. -/
structure Hon (s : HSt) (pages size : Nat) (rs : List RS) : Prop where
  dn : s.down = false
  cm : ∀ k, s.coming k = []
  pg : s.pages = pages
  sz : s.size = size
  dp : s.depth = 0
  ld : ∀ p, p < pages → s.laid p = (lastO rs p).elim [] (fun z => [z])
theorem hon_new (pages size : Nat) : Hon (newS pages size []) pages size [] := ⟨rfl, fun _ => rfl, rfl, rfl, rfl, fun _ _ => rfl⟩
theorem Hon.pow {s : HSt} {pages size : Nat} {rs : List RS} (x : Hon s pages size rs) : s.pow = 0 := by unfold HSt.pow; rw [x.cm]; rfl
theorem Hon.opE {s : HSt} {pages size : Nat} {rs : List RS} (x : Hon s pages size rs) : s.opE = 0 := by
  unfold HSt.opE
  rw [if_neg]
  rw [x.dn, x.pow]; decide
theorem Hon.opS {s : HSt} {pages size : Nat} {rs : List RS} (x : Hon s pages size rs) (f : HSt → HSt) (t : Tc) : s.opS f t = (f s.next).logged t := by
  unfold HSt.opS
  rw [if_neg (by rw [x.dn]; simp), if_neg (by rw [x.pow]; decide)]
theorem Hon.next {s : HSt} {pages size : Nat} {rs : List RS} (x : Hon s pages size rs) : Hon s.next pages size rs :=
  ⟨by show decide (s.pow ≠ 0) = false; rw [x.pow]; rfl, fun k => by show (if k = s.ops then [] else s.coming k) = []; rw [x.cm]; split <;> rfl, x.pg, x.sz, x.dp, x.ld⟩
theorem Hon.logged {s : HSt} {pages size : Nat} {rs : List RS} (x : Hon s pages size rs) (t : Tc) : Hon (s.logged t) pages size rs := ⟨x.dn, x.cm, x.pg, x.sz, x.dp, x.ld⟩
theorem Hon.raise {s : HSt} {pages size : Nat} {rs : List RS} (x : Hon s pages size rs) (v : Int) : Hon (raiseF v s) pages size rs := ⟨x.dn, x.cm, x.pg, x.sz, x.dp, x.ld⟩
theorem Hon.up {s : HSt} {pages size : Nat} {rs : List RS} (x : Hon s pages size rs) : { s with down := false } = s := by
  have := x.dn
  cases s; simp at this; subst this; rfl
theorem Hon.wrote {s : HSt} {pages size : Nat} {rs : List RS} (x : Hon s pages size rs) (q : Nat) (hq : q < pages) (r : RS) (hp : r.s.p = q) : Hon (s.wrote q r.s.z) pages size (rs ++ [r]) := by
  refine ⟨x.dn, x.cm, x.pg, x.sz, x.dp, fun p hpp => ?_⟩
  show (if p = q then keepL s.depth (s.laid q) r.s.z else s.laid p) = _
  rw [lastO_snoc, hp]
  by_cases e : p = q
  · subst e
    rw [if_pos rfl, if_pos rfl, x.ld p hpp, x.dp]
    cases lastO rs p <;> rfl
  · rw [if_neg e, if_neg (fun h => e (by omega)), x.ld p hpp]
theorem Hon.ago {s : HSt} {pages size : Nat} {rs : List RS} (x : Hon s pages size rs) (q : Nat) (hq : q < pages) : agoL s q 0 = lastZ rs q size := by
  unfold agoL lastZ
  rw [x.ld q hq, x.sz]
  cases lastO rs q <;> rfl
theorem Hon.has {s : HSt} {pages size : Nat} {rs : List RS} (x : Hon s pages size rs) (p : Int) : hasP s p = decide (0 ≤ p ∧ p < pages) := by unfold hasP; rw [x.pg]
/-- What a step makes of it. -/
structure Stepped (s : HSt) (t : Stp1) (pages size : Nat) (rs rs' : List RS) (reg : Int) (lg : List Tc) (B : List Int) (V E : Int) : Prop where
  hon : Hon (tdS s t) pages size rs'
  ops : (tdS s t).ops = s.ops + lg.length
  reg : (tdS s t).reg = reg
  log : (tdS s t).log = s.log ++ lg
  b : tdB s t = B
  v : tdV s t = V
  e : tdE s t = E
section
variable {s : HSt} {t : Stp1} {pages size : Nat} {rs : List RS} (x : Hon s pages size rs)
include x
theorem st1T (hd : t.d = 1) (hp : 0 ≤ t.p ∧ t.p < pages) : Stepped s t pages size rs rs s.reg [⟨0, t.p, size, List.replicate 12 0⟩] (lastZ rs t.p size) 0 0 := by
  have hh : hasP s t.p = true := by rw [x.has]; simp; omega
  have eS : tdS s t = s.next.logged ⟨0, t.p, size, List.replicate 12 0⟩ := by rw [tdS, if_pos hd, if_pos hh, x.opS, x.sz]; rfl
  obtain ⟨q, hq⟩ : ∃ q : Nat, t.p = q := ⟨t.p.toNat, by omega⟩
  refine ⟨by rw [eS]; exact x.next.logged _, by rw [eS]; rfl, by rw [eS]; rfl, by rw [eS]; rfl, ?_, by rw [tdV, if_neg (by omega)], by rw [tdE, if_pos hd, if_pos hh, x.opE]⟩
  rw [tdB, if_pos hd, if_pos ⟨hh, x.opE⟩, hq, Int.toNat_natCast, x.cm]
  show agoL s q 0 = _
  exact x.ago q (by omega)
theorem st1F (hd : t.d = 1) (hp : ¬ (0 ≤ t.p ∧ t.p < pages)) : Stepped s t pages size rs rs s.reg [] [] 0 2 := by
  have hh : hasP s t.p = false := by rw [x.has]; simpa using hp
  have eS : tdS s t = s := by rw [tdS, if_pos hd, if_neg (by rw [hh]; simp)]
  exact ⟨by rw [eS]; exact x, by rw [eS]; rfl, by rw [eS], by rw [eS, List.append_nil], by rw [tdB, if_pos hd, if_neg (fun h => by rw [hh] at h; cases h.1)], by rw [tdV, if_neg (by omega)], by rw [tdE, if_pos hd, if_neg (by rw [hh]; simp)]⟩
theorem st7T (hd : t.d = 7) (hp : 0 ≤ t.p ∧ t.p < pages) : Stepped s t pages size rs rs s.reg [] (lastZ rs t.p size) 0 0 := by
  have hh : hasP s t.p = true := by rw [x.has]; simp; omega
  have eS : tdS s t = s := by rw [tdS, if_neg (by omega), if_neg (by omega), if_neg (by omega), if_neg (by omega), if_neg (by omega)]
  obtain ⟨q, hq⟩ : ∃ q : Nat, t.p = q := ⟨t.p.toNat, by omega⟩
  refine ⟨by rw [eS]; exact x, by rw [eS]; rfl, by rw [eS], by rw [eS, List.append_nil], ?_, by rw [tdV, if_neg (by omega)], by rw [tdE, if_neg (by omega), if_neg (by omega), if_neg (by omega), if_neg (by omega)]⟩
  rw [tdB, if_neg (by omega), if_pos hd, if_pos hh, hq, Int.toNat_natCast]
  exact x.ago q (by omega)
theorem st7F (hd : t.d = 7) (hp : ¬ (0 ≤ t.p ∧ t.p < pages)) : Stepped s t pages size rs rs s.reg [] [] 0 0 := by
  have hh : hasP s t.p = false := by rw [x.has]; simpa using hp
  have eS : tdS s t = s := by rw [tdS, if_neg (by omega), if_neg (by omega), if_neg (by omega), if_neg (by omega), if_neg (by omega)]
  exact ⟨by rw [eS]; exact x, by rw [eS]; rfl, by rw [eS], by rw [eS, List.append_nil], by rw [tdB, if_neg (by omega), if_pos hd, if_neg (by rw [hh]; simp)], by rw [tdV, if_neg (by omega)], by rw [tdE, if_neg (by omega), if_neg (by omega), if_neg (by omega), if_neg (by omega)]⟩
theorem st2a (hd : t.d = 2) (hp : ¬ (0 ≤ t.p ∧ t.p < pages)) : Stepped s t pages size rs rs s.reg [] [] 0 2 := by
  have hh : hasP s t.p = false := by rw [x.has]; simpa using hp
  have eS : tdS s t = s := by rw [tdS, if_neg (by omega), if_pos hd, wrS, if_pos (.inl hh)]
  exact ⟨by rw [eS]; exact x, by rw [eS]; rfl, by rw [eS], by rw [eS, List.append_nil], by rw [tdB, if_neg (by omega), if_neg (by omega)], by rw [tdV, if_neg (by omega)], by rw [tdE, if_neg (by omega), if_pos hd, wrE, if_pos hh]⟩
theorem st2b (hd : t.d = 2) (hp : 0 ≤ t.p ∧ t.p < pages) (hl : t.z.length ≠ size) : Stepped s t pages size rs rs s.reg [] [] 0 4 := by
  have hh : hasP s t.p = true := by rw [x.has]; simp; omega
  have eS : tdS s t = s := by rw [tdS, if_neg (by omega), if_pos hd, wrS, if_pos (.inr (by rw [x.sz]; exact hl))]
  exact ⟨by rw [eS]; exact x, by rw [eS]; rfl, by rw [eS], by rw [eS, List.append_nil], by rw [tdB, if_neg (by omega), if_neg (by omega)], by rw [tdV, if_neg (by omega)], by rw [tdE, if_neg (by omega), if_pos hd, wrE, if_neg (by rw [hh]; simp), if_pos (by rw [x.sz]; exact hl)]⟩
theorem st2c (hd : t.d = 2) (hp : 0 ≤ t.p ∧ t.p < pages) (hl : t.z.length = size) (a : Option Addr) (c : Nat) : Stepped s t pages size rs (rs ++ [⟨t, a, c⟩]) s.reg [⟨1, t.p, size, headL t.z⟩] [] 0 0 := by
  have hh : hasP s t.p = true := by rw [x.has]; simp; omega
  obtain ⟨q, hq⟩ : ∃ q : Nat, t.p = q := ⟨t.p.toNat, by omega⟩
  have eS : tdS s t = (s.next.wrote q t.z).logged ⟨1, t.p, size, headL t.z⟩ := by
    rw [tdS, if_neg (by omega), if_pos hd, wrS, if_neg (fun h => by
      rcases h with h | h
      · rw [hh] at h; cases h
      · exact h (by rw [x.sz]; exact hl)), x.opS, x.sz, hq, Int.toNat_natCast]
  refine ⟨by rw [eS]; exact (x.next.wrote q (by omega) ⟨t, a, c⟩ hq).logged _, by rw [eS]; rfl, by rw [eS]; rfl, by rw [eS]; rfl, by rw [tdB, if_neg (by omega), if_neg (by omega)], by rw [tdV, if_neg (by omega)], ?_⟩
  rw [tdE, if_neg (by omega), if_pos hd, wrE, if_neg (by rw [hh]; simp), if_neg (fun h => h (by rw [x.sz]; exact hl)), x.opE]
theorem st3 (hd : t.d = 3) : Stepped s t pages size rs rs s.reg [tcA 2] [] s.reg 0 := by
  have eS : tdS s t = s.next.logged (tcA 2) := by rw [tdS, if_neg (by omega), if_neg (by omega), if_pos hd, x.opS]; rfl
  exact ⟨by rw [eS]; exact x.next.logged _, by rw [eS]; rfl, by rw [eS]; rfl, by rw [eS]; rfl, by rw [tdB, if_neg (by omega), if_neg (by omega)], by rw [tdV, if_pos hd, x.opE, if_pos rfl], by rw [tdE, if_neg (by omega), if_neg (by omega), if_pos hd, x.opE]⟩
theorem st4 (hd : t.d = 4) : Stepped s t pages size rs rs (if s.reg < t.v then t.v else s.reg) [tcA 3] [] 0 (if t.v ≤ s.reg then 111 else 0) := by
  have eS : tdS s t = (raiseF t.v s.next).logged (tcA 3) := by rw [tdS, if_neg (by omega), if_neg (by omega), if_neg (by omega), if_pos hd, x.opS]
  refine ⟨by rw [eS]; exact (x.next.raise _).logged _, by rw [eS]; rfl, by rw [eS]; rfl, by rw [eS]; rfl, by rw [tdB, if_neg (by omega), if_neg (by omega)], by rw [tdV, if_neg (by omega)], ?_⟩
  rw [tdE, if_neg (by omega), if_neg (by omega), if_neg (by omega), if_pos hd, x.opE]
  by_cases h : t.v ≤ s.reg
  · rw [if_pos ⟨rfl, h⟩, if_pos h]
  · rw [if_neg (fun k => h k.2), if_neg h]
theorem stE (hd : t.d ≠ 1 ∧ t.d ≠ 2 ∧ t.d ≠ 3 ∧ t.d ≠ 4 ∧ t.d ≠ 7) : Stepped s t pages size rs rs s.reg [] [] 0 0 := by
  have eS : tdS s t = s := by
    rw [tdS, if_neg (by omega), if_neg (by omega), if_neg (by omega), if_neg (by omega)]
    split
    · exact x.up
    · rfl
  exact ⟨by rw [eS]; exact x, by rw [eS]; rfl, by rw [eS], by rw [eS, List.append_nil], by rw [tdB, if_neg (by omega), if_neg (by omega)], by rw [tdV, if_neg (by omega)], by rw [tdE, if_neg (by omega), if_neg (by omega), if_neg (by omega), if_neg (by omega)]⟩
end
end Go.Proofs.Ytobcolpdkcppoaa
