/- DigestPlays: one step with a pair, of whatever kind. -/
import Derived.Test.YtpphmodibbeomaaDoorDStepped3
import Derived.Test.YtpphmodibbeomaaDoorDStepped4
namespace Go.Proofs.YtpphmodibbeomaaDoor
open Go.RowKit
set_option linter.unusedVariables false
set_option linter.unusedSimpArgs false

theorem stepF_idle (k : Int) (st : Option (List Int)) (zs : List Int) (hk : ¬ k = 1 ∧ ¬ k = 2 ∧ ¬ k = 3 ∧ ¬ k = 5 ∧ ¬ k = 6 ∧ ¬ k = 7) : stepF k st [] = stepF k st zs := by simp [stepF, hk]
theorem stepped_all (k a b : Int) (bo : Option Addr) (c : Nat) (zs : List Int) (P h : Nat) (so : Option Addr) (pc : Nat) (st : Option (List Int)) (w : World) (hp : PairAt w P h so pc st) (hx : Seen w bo zs.length zs) (hc : zs.length ≤ c) (hz : zs.length ≤ 1048576) (hK : KTab w) (hP : 0 < P) (hne : P ≠ h) (hh : 0 < h) (hbh : ∀ b o, 0 < zs.length → bo = some ⟨b, o, none⟩ → b ≠ h) (hm : ∀ m, st = some m → m.length + zs.length ≤ 1048576) :
    Calls Tryd.prog 17 #[.pointer (some ⟨P, 0, none⟩), .agg (opV k a b bo zs.length c).toArray] w fun e w' => e = .returned (.bool true) ∧ Stepped w w' P h (stepF k st zs) := by
  by_cases h1 : k = 1
  · subst h1
    cases st with
    | none => exact stepped_1n a b bo c zs P h so pc w hp hx hc hz hK hP hne
    | some m => exact stepped_1s a b bo c zs P h so pc m w hp hx hc hz hK hP hne hbh hh (hm m rfl)
  by_cases h2 : k = 2
  · subst h2
    cases st with
    | none => exact stepped_2n a b bo c zs P h so pc w hp hx hc hz hK hP hne
    | some m => exact stepped_2s a b bo c zs P h so pc m w hp hx hc hz hK hP hne hh (hm m rfl)
  by_cases h3 : k = 3
  · subst h3
    cases st with
    | none => exact stepped_3n a b bo c zs P h so pc w hp hx hc hz hK hP hne
    | some m => exact stepped_3s a b bo c zs P h so pc m w hp hx hc hz hK hP hne hh (hm m rfl)
  by_cases h5 : k = 5
  · subst h5
    cases st with
    | none => exact stepped_5n a b bo c zs P h so pc w hp hx hc hz hK hP hne
    | some m => exact stepped_5s a b bo c zs P h so pc m w hp hx hc hz hK hP hne hh (hm m rfl)
  by_cases h6 : k = 6
  · subst h6
    exact stepped_6 a b bo c zs P h so pc st w hp hx hc hz hK hP hne
  by_cases h7 : k = 7
  · subst h7
    exact stepped_7 a b bo c zs P h so pc st w hp hx hc hz hK hP hne
  · have hk : ¬ k = 1 ∧ ¬ k = 2 ∧ ¬ k = 3 ∧ ¬ k = 5 ∧ ¬ k = 6 ∧ ¬ k = 7 := ⟨h1, h2, h3, h5, h6, h7⟩
    rw [← stepF_idle k st zs hk]
    exact stepped_idle k a b bo zs.length c P h so pc st w hp hk
/-- What a step leaves, whether the pair is nil or not. -/
structure Left (w w' : World) (P h : Nat) (st st' : Option (List Int)) : Prop where
  pair : ∃ h' so c, PairAt w' P h' so c st' ∧ ((st ≠ none ∧ h' = h) ∨ w.heap.size ≤ h')
  kept : Kept (fun b => b = P ∨ (st ≠ none ∧ b = h)) w w'
theorem stepped_any (k a b : Int) (bo : Option Addr) (c : Nat) (zs : List Int) (P h : Nat) (so : Option Addr) (pc : Nat) (st : Option (List Int)) (w : World) (hp : PairAt w P h so pc st) (hx : Seen w bo zs.length zs) (hc : zs.length ≤ c) (hz : zs.length ≤ 1048576) (hK : KTab w) (hP : 0 < P) (hh : st ≠ none → 0 < h) (hbh : ∀ b o, 0 < zs.length → bo = some ⟨b, o, none⟩ → st ≠ none → b ≠ h) (hm : ∀ m, st = some m → m.length + zs.length ≤ 1048576) :
    Calls Tryd.prog 17 #[.pointer (some ⟨P, 0, none⟩), .agg (opV k a b bo zs.length c).toArray] w fun e w' => e = .returned (.bool true) ∧ Left w w' P h st (stepF k st zs) := by
  cases st with
  | none =>
    have hp' : PairAt w P w.heap.size so pc none := ⟨hp.blk, fun m e => by cases e⟩
    have q := hp.blk.lt
    refine (stepped_all k a b bo c zs P w.heap.size so pc none w hp' hx hc hz hK hP (by omega) (by omega) (fun b o h0 e => by have := hx.old (Nat.le_refl _) b o h0 e; omega) hm).mono ?_
    rintro e w' ⟨rfl, ⟨h', so', c', hp2, ho⟩, hk⟩
    exact ⟨rfl, ⟨h', so', c', hp2, .inr (by omega)⟩, hk.os, hk.tape, hk.output, hk.size, fun b hb hs => hk.block b hb (by rintro (h1 | h1); exact hs (.inl h1); omega)⟩
  | some m =>
    have hne : P ≠ h := by
      intro e
      have h1 := hp.blk
      have h2 := (hp.held m rfl).1.hash.blk
      unfold Blk at h1 h2
      rw [e, h2] at h1
      simp at h1
    refine (stepped_all k a b bo c zs P h so pc (some m) w hp hx hc hz hK hP hne (hh (by simp)) (fun b o h0 e => hbh b o h0 e (by simp)) hm).mono ?_
    rintro e w' ⟨rfl, ⟨h', so', c', hp2, ho⟩, hk⟩
    exact ⟨rfl, ⟨h', so', c', hp2, by rcases ho with ho | ho; exact .inl ⟨by simp, ho⟩; exact .inr ho⟩, hk.mono fun b hb => by rcases hb with hb | hb; exact .inl hb; exact .inr ⟨by simp, hb⟩⟩
end Go.Proofs.YtpphmodibbeomaaDoor
