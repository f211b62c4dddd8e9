/- TagPlays: any step; a script, seen; three pairs. -/
import Derived.Test.YtlaegbabpiepeaaTPlC
namespace Go.Proofs.Ytlaegbabpiepeaa
open Go.RowKit
set_option linter.unusedVariables false
set_option linter.unusedSimpArgs false

theorem stepF_idle (k : Int) (st : Option (List Int)) (zs : List Int) (hk : ¬ k = 1 ∧ ¬ k = 2 ∧ ¬ k = 3 ∧ ¬ k = 4) : stepF k st [] = stepF k st zs := by simp [stepF, hk]
theorem stepped_all (k a : Int) (bo : Option Addr) (c : Nat) (zs ky : List Int) (P h : Nat) (key : List Int) (so : Option Addr) (pc : Nat) (st : Option (List Int)) (w : World) (hp : PairAt w P h key so pc st) (hx : Seen w bo zs.length zs) (hc : zs.length ≤ c) (hz : zs.length ≤ 1048576) (hky : ky.length = 32) (hkb : Bytes ky) (hne : P ≠ h) (hbh : ∀ b o, 0 < zs.length → bo = some ⟨b, o, none⟩ → b ≠ h) (hm : ∀ m, st = some m → m.length + zs.length ≤ 1048576) :
    Calls Try.prog 4 #[.pointer (some ⟨P, 0, none⟩), .agg (opV k a bo zs.length c ky).toArray] w fun e w' => e = .returned (.bool true) ∧ Stepped w w' P h (stepF k st zs) := by
  by_cases h1 : k = 1
  · subst h1
    cases st with
    | none => exact stepped_1n a bo c zs ky P h key so pc w hp hx hc hz hky hne
    | some m => exact stepped_1s a bo c zs ky P h key so pc m w hp hx hc hz hky hne hbh (hm m rfl)
  by_cases h2 : k = 2
  · subst h2
    cases st with
    | none => exact stepped_2n a bo c zs ky P h key so pc w hp hx hc hz hky hne
    | some m => exact stepped_2s a bo c zs ky P h key so pc m w hp hx hc hz hky hne (hm m rfl)
  by_cases h3 : k = 3
  · subst h3
    obtain ⟨x0, x1, x2, hxx⟩ : ∃ x0 x1 x2, pairC h key so pc st = pcC x0 key x1 x2 := by cases st <;> exact ⟨_, _, _, rfl⟩
    refine (stepped_3 a bo zs.length c ky P key x0 x1 x2 w (by rw [← hxx]; exact hp.blk) hp.klen hky hkb).mono ?_
    rintro e w' ⟨rfl, ⟨g, hg, hlt⟩, hk⟩
    exact ⟨rfl, ⟨g, ky, none, 0, hg, .inr hlt⟩, hk.mono fun b e => .inl e⟩
  by_cases h4 : k = 4
  · subst h4
    exact stepped_4 a bo zs.length c ky P h key so pc st zs w hp hky
  · have hk : ¬ k = 1 ∧ ¬ k = 2 ∧ ¬ k = 3 ∧ ¬ k = 4 := ⟨h1, h2, h3, h4⟩
    rw [← stepF_idle k st zs hk]
    exact stepped_idle k a bo zs.length c ky P h key so pc st w hp hky hk
/-- What a step leaves, whether the pair is nil or not. -/
structure Left (w w' : World) (P h : Nat) (st st' : Option (List Int)) : Prop where
  pair : ∃ h' key so c, PairAt w' P h' key so c st' ∧ ((st ≠ none ∧ h' = h) ∨ w.heap.size ≤ h')
  kept : Kept (fun b => b = P ∨ (st ≠ none ∧ b = h)) w w'
theorem stepped_any (k a : Int) (bo : Option Addr) (c : Nat) (zs ky : List Int) (P h : Nat) (key : List Int) (so : Option Addr) (pc : Nat) (st : Option (List Int)) (w : World) (hp : PairAt w P h key so pc st) (hx : Seen w bo zs.length zs) (hc : zs.length ≤ c) (hz : zs.length ≤ 1048576) (hky : ky.length = 32) (hkb : Bytes ky) (hbh : ∀ b o, 0 < zs.length → bo = some ⟨b, o, none⟩ → st ≠ none → b ≠ h) (hm : ∀ m, st = some m → m.length + zs.length ≤ 1048576) :
    Calls Try.prog 4 #[.pointer (some ⟨P, 0, none⟩), .agg (opV k a bo zs.length c ky).toArray] w fun e w' => e = .returned (.bool true) ∧ Left w w' P h st (stepF k st zs) := by
  cases st with
  | none =>
    have hp' : PairAt w P w.heap.size key so pc none := ⟨hp.blk, hp.klen, hp.kb, fun m e => by cases e⟩
    have q := hp.blk.lt
    refine (stepped_all k a bo c zs ky P w.heap.size key so pc none w hp' hx hc hz hky hkb (by omega) (fun b o h0 e => by have := hx.old (Nat.le_refl _) b o h0 e; omega) hm).mono ?_
    rintro e w' ⟨rfl, ⟨h', key', so', c', hp2, ho⟩, hk⟩
    exact ⟨rfl, ⟨h', key', so', c', hp2, .inr (by omega)⟩, hk.os, hk.tape, hk.output, hk.size, fun b hb hs => hk.block b hb (by rintro (h1 | h1); exact hs (.inl h1); omega)⟩
  | some m =>
    have hne : P ≠ h := by
      intro e
      have h1 := hp.blk
      have h2 := (hp.held m rfl).1.at_.blk
      unfold Blk at h1 h2
      rw [e, h2] at h1
      simp at h1
    refine (stepped_all k a bo c zs ky P h key so pc (some m) w hp hx hc hz hky hkb hne (fun b o h0 e => hbh b o h0 e (by simp)) hm).mono ?_
    rintro e w' ⟨rfl, ⟨h', key', so', c', hp2, ho⟩, hk⟩
    exact ⟨rfl, ⟨h', key', so', c', hp2, by rcases ho with ho | ho; exact .inl ⟨by simp, ho⟩; exact .inr ho⟩, hk.mono fun b hb => by rcases hb with hb | hb; exact .inl hb; exact .inr ⟨by simp, hb⟩⟩
structure PItem where
  k : Int
  a : Int
  data : List Int
  key : List Int
instance : Inhabited PItem := ⟨⟨0, 0, [], []⟩⟩
abbrev pAt (its : List PItem) (i : Nat) : PItem := its.getD i default
/-- The bytes of the first k steps, together. -/
def dats (its : List PItem) (k : Nat) : List Int := ((its.take k).map (·.data)).flatten
theorem dats_succ (its : List PItem) (k : Nat) (hk : k < its.length) : (dats its (k + 1)).length = (dats its k).length + (pAt its k).data.length := by
  unfold dats
  have e : pAt its k = its[k] := by simp [pAt, List.getD, hk]
  rw [List.take_succ_eq_append_getElem hk, List.map_append, List.flatten_append, List.length_append, e]
  simp
theorem dats_le (its : List PItem) (k : Nat) : (dats its k).length ≤ (dats its its.length).length := by
  unfold dats
  rw [List.take_length]
  conv => rhs; rw [← List.take_append_drop k its]
  rw [List.map_append, List.flatten_append, List.length_append]
  omega
def Int64 (i : Int) : Prop := -9223372036854775808 ≤ i ∧ i ≤ 9223372036854775807
/-- A slice at ao of n steps, which are its. -/
structure SeenQ (w : World) (ao : Option Addr) (n : Nat) (its : List PItem) : Prop where
  len : its.length = n
  top : n ≤ 1048576
  all : (dats its n).length ≤ 1048576
  cells : ∀ i, i < n → ∃ b o so cs, ao = some ⟨b, o, none⟩ ∧ b < w.heap.size ∧ w.rangeAt b (o + i * 35) (opV (pAt its i).k (pAt its i).a so (pAt its i).data.length cs (pAt its i).key) ∧ Seen w so (pAt its i).data.length (pAt its i).data ∧ (pAt its i).data.length ≤ cs
  wf : ∀ i, i < n → Int64 (pAt its i).a ∧ (pAt its i).key.length = 32 ∧ Bytes (pAt its i).key
theorem SeenQ.later {w w' : World} {ao : Option Addr} {n : Nat} {its : List PItem} (h : SeenQ w ao n its) (hb : Below w.heap.size w w') : SeenQ w' ao n its :=
  ⟨h.len, h.top, h.all, fun i hi => by
    obtain ⟨b, o, so, cs, e, hlt, h0, hs, hc⟩ := h.cells i hi
    exact ⟨b, o, so, cs, e, Nat.lt_of_lt_of_le hlt hb.size, fun j v hv => (World.cell?_of_block (w := w) (a := ⟨b, o + i * 35 + j, none⟩) (hb.block b hlt)).trans (h0 j v hv), hs.later hb (Nat.le_refl _), hc⟩, h.wf⟩

/-- One of the three. -/
structure Slot where
  P : Nat
  h : Nat
  key : List Int
  so : Option Addr
  c : Nat
  st : Option (List Int)
abbrev ptrTo (s : Slot) : Value := .pointer (some ⟨s.P, 0, none⟩)
/-- Three pairs, each by itself, in blocks from B on; what they hold is of at most N bytes. -/
structure Three (w : World) (B A N : Nat) (f : Nat → Slot) : Prop where
  arr : Blk w A 24 [ptrTo (f 0), ptrTo (f 1), ptrTo (f 2)]
  pair : ∀ i, i < 3 → PairAt w (f i).P (f i).h (f i).key (f i).so (f i).c (f i).st
  apart : ∀ i j, i < 3 → j < 3 → i ≠ j → (f i).P ≠ (f j).P
  hapart : ∀ i j, i < 3 → j < 3 → i ≠ j → (f i).st ≠ none → (f j).st ≠ none → (f i).h ≠ (f j).h
  cap : ∀ i, i < 3 → ∀ m, (f i).st = some m → m.length ≤ N
  from1 : ∀ i, i < 3 → B ≤ (f i).P ∧ ((f i).st ≠ none → B ≤ (f i).h)
  from2 : B ≤ A
theorem blk_ne {w : World} {g g' : Nat} {t t' : TypeId} {vs vs' : List Value} (h : Blk w g t vs) (h' : Blk w g' t' vs') (ht : t ≠ t') : g ≠ g' := by
  intro e
  unfold Blk at h h'
  rw [e, h'] at h
  simp at h
  exact ht h.2.symm
theorem PairAt.hblk {w : World} {P h : Nat} {key : List Int} {so : Option Addr} {c : Nat} {st : Option (List Int)} (p : PairAt w P h key so c st) (hs : st ≠ none) : ∃ vs, Blk w h 60 vs := by
  cases st with
  | none => exact absurd rfl hs
  | some m => exact ⟨_, (p.held m rfl).1.at_.blk⟩
/-- A step with one of the three leaves three. -/
theorem Three.left {w w' : World} {B A N : Nat} {f : Nat → Slot} (T : Three w B A N f) (hB : B ≤ w.heap.size) (i : Nat) (hi : i < 3) (st' : Option (List Int)) (N' : Nat) (hN : N ≤ N') (hN' : ∀ m, st' = some m → m.length ≤ N') (L : Left w w' (f i).P (f i).h (f i).st st') :
    ∃ s : Slot, s.P = (f i).P ∧ s.st = st' ∧ Three w' B A N' (fun j => if j = i then s else f j) := by
  obtain ⟨h', key', so', c', hp', ho⟩ := L.pair
  have S1 : ∀ b, (b = (f i).P ∨ ((f i).st ≠ none ∧ b = (f i).h)) → ∃ t vs, Blk w b t vs ∧ (t = 30 ∨ t = 60) := fun b hb => by
    rcases hb with rfl | ⟨h1, rfl⟩
    · exact ⟨_, _, (T.pair i hi).blk, .inl rfl⟩
    · obtain ⟨vs, hv⟩ := (T.pair i hi).hblk h1
      exact ⟨_, vs, hv, .inr rfl⟩
  refine ⟨⟨(f i).P, h', key', so', c', st'⟩, rfl, rfl, ?_⟩
  have hpt : ∀ j, ptrTo (if j = i then (⟨(f i).P, h', key', so', c', st'⟩ : Slot) else f j) = ptrTo (f j) := fun j => by
    by_cases e : j = i
    · subst e; simp
    · simp [e]
  refine ⟨?_, fun j hj => ?_, fun j k hj hk hjk => ?_, fun j k hj hk hjk => ?_, fun j hj => ?_, fun j hj => ?_, T.from2⟩
  · rw [hpt, hpt, hpt]
    refine T.arr.kept L.kept fun hs => ?_
    obtain ⟨t, vs, hb, ht⟩ := S1 _ hs
    exact blk_ne hb T.arr (by rcases ht with rfl | rfl <;> decide) rfl
  · by_cases e : j = i
    · subst e; simpa using hp'
    · simp only [if_neg e]
      refine (T.pair j hj).kept L.kept ?_ ?_ (fun b hb => ?_)
      · rintro (h1 | ⟨h1, h2⟩)
        · exact T.apart j i hj hi e h1
        · obtain ⟨vs, hv⟩ := (T.pair i hi).hblk h1
          exact blk_ne (T.pair j hj).blk hv (by decide) h2
      · intro hs
        obtain ⟨vs, hv⟩ := (T.pair j hj).hblk hs
        rintro (h1 | ⟨h1, h2⟩)
        · exact blk_ne hv (T.pair i hi).blk (by decide) h1
        · exact T.hapart j i hj hi e hs h1 h2
      · obtain ⟨t, vs, hb, ht⟩ := S1 b hb
        exact ⟨t, vs, hb, by rcases ht with rfl | rfl <;> decide⟩
  · by_cases e : j = i
    · subst e; simp only [if_true, if_neg (Ne.symm hjk)]; exact T.apart j k hj hk hjk
    · by_cases e2 : k = i
      · subst e2; simp only [if_true, if_neg e]; exact T.apart j k hj hk hjk
      · simp only [if_neg e, if_neg e2]; exact T.apart j k hj hk hjk
  · have hlt : ∀ x, x < 3 → (f x).st ≠ none → (f x).h < w.heap.size := fun x hx hs => by
      obtain ⟨vs, hv⟩ := (T.pair x hx).hblk hs
      exact hv.lt
    by_cases e : j = i
    · subst e
      simp only [if_true, if_neg (Ne.symm hjk)]
      intro h1 h2
      rcases ho with ⟨ha, rfl⟩ | ho
      · exact T.hapart j k hj hk hjk ha h2
      · have := hlt k hk h2; omega
    · by_cases e2 : k = i
      · subst e2
        simp only [if_true, if_neg e]
        intro h1 h2
        rcases ho with ⟨ha, rfl⟩ | ho
        · exact T.hapart j k hj hk hjk h1 ha
        · have := hlt j hj h1; omega
      · simp only [if_neg e, if_neg e2]; exact T.hapart j k hj hk hjk
  · by_cases e : j = i
    · subst e; simpa using hN'
    · simp only [if_neg e]; intro m hm; have := T.cap j hj m hm; omega
  · by_cases e : j = i
    · subst e
      simp only [if_true]
      refine ⟨(T.from1 j hj).1, fun hs => ?_⟩
      rcases ho with ⟨ha, rfl⟩ | ho
      · exact (T.from1 j hj).2 ha
      · omega
    · simp only [if_neg e]; exact T.from1 j hj
end Go.Proofs.Ytlaegbabpiepeaa
