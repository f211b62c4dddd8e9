/- Layer host: keep, walked. -/
import Derived.Test.YtobcolpdkcppoaaHKeep
namespace Go.Proofs.Ytobcolpdkcppoaa
open Go.RowKit
set_option linter.unusedVariables false
set_option linter.unusedSimpArgs false

theorem getD_at {rws : List Value} {p : Nat} (h : p < rws.length) : rws[p]? = some (rws.getD p (.slice none 0 0)) := by simp [List.getD, h]
set_option maxRecDepth 20000 in
set_option maxHeartbeats 1000000 in
theorem keep_any (h : Nat) (s : HSt) (p : Nat) (hp : p < s.pages) (z : List Int) (hz : z.length = s.size) (hzb : Bytes z) (hr : (s.laid p).length < s.ops) (bb c : Nat) (M : Nat → Prop) (gl gm : Nat) (lg : Value) (rws : List Value) (n : Nat) (D : DataW Value) (w : World) (x : HostIn w M h s gl gm lg rws n D) (hm : M bb) (hR : RowAt w bb z) :
    Calls Try.prog 59 #[.pointer (some ⟨h, 0, none⟩), .int .i64 p, .slice (some ⟨bb, 0, none⟩) s.size c] w fun e w' => e = .returned (.tuple #[]) ∧ HostAt w' (more M w w') h (s.wrote p z) ∧ Kept M w w' := by
  have X : Hid (HostIn w M h s gl gm lg rws n D) := x
  have c1 : w.cell? ⟨h, 1, none⟩ = some (.slice (some ⟨gl, 0, none⟩) s.pages s.pages) := x.blk.cell 1
  have hpl : p < rws.length := by rw [x.cnt]; exact hp
  have cp : w.cell? ⟨gl, p, none⟩ = some (rws.getD p (.slice none 0 0)) := by rw [x.lot.cell p]; exact getD_at hpl
  have hLo := x.good.laid p
  have hop := x.good.ops
  have hpg := x.good.pages
  have hsz := x.good.size
  obtain ⟨g, o, cap, w1, hap, hrow, hk1, hg1, hgl1⟩ := row_append (x.row p hp) x.all bb c z hR hm hzb (by omega) (by omega)
  rw [hz] at hap
  have nh : ¬ rowBlk (rws.getD p (.slice none 0 0)) = some h := fun e => by
    obtain ⟨us, hu⟩ := (x.row p hp).isBlk e
    exact blk_ne hu x.blk (by decide) rfl
  have nl : ¬ rowBlk (rws.getD p (.slice none 0 0)) = some gl := fun e => by
    obtain ⟨us, hu⟩ := (x.row p hp).isBlk e
    exact blk_ne hu x.lot (by decide) rfl
  have bh1 := x.blk.kept hk1 nh
  have bl1 := x.lot.kept hk1 nl
  have hgh : g ≠ h := fun e => by
    rcases hg1 with h1 | h1
    · exact nh (e ▸ h1)
    · have := x.blk.lt; omega
  have hggl : g ≠ gl := fun e => by
    rcases hg1 with h1 | h1
    · exact nl (e ▸ h1)
    · have := x.lot.lt; omega
  have d1 : w1.cell? ⟨h, 1, none⟩ = some (.slice (some ⟨gl, 0, none⟩) s.pages s.pages) := bh1.cell 1
  have d2 : w1.cell? ⟨h, 2, none⟩ = some (.int .i64 s.depth) := bh1.cell 2
  have hdp := x.good.depth
  have dp : w1.cell? ⟨gl, p, none⟩ = some (rws.getD p (.slice none 0 0)) := by rw [bl1.cell p]; exact getD_at hpl
  have fp : w1.frozen? ⟨gl, p, none⟩ = false := bl1.frozen p
  obtain ⟨v0, hv0⟩ : ∃ q, rws.getD p (.slice none 0 0) = q := ⟨_, rfl⟩
  rw [hv0] at cp dp hap
  have KM : ∀ (w' : World), Kept (fun k => rowBlk v0 = some k ∨ k = gl ∨ k = g) w w' → Kept M w w' := fun w' hk => ⟨hk.os, hk.tape, hk.output, hk.size, fun k hk1 hM => hk.block k hk1 (fun e => by
    rcases e with e | rfl | rfl
    · rcases x.row p hp with ⟨e1, _⟩ | ⟨g', o', cap', vs', e1, _, hM', _⟩
      · rw [hv0] at e1; rw [e1] at e; cases e
      · rw [hv0] at e1; rw [e1] at e; cases e; exact hM hM'
    · exact hM x.ml
    · rcases hg1 with h1 | h1
      · rcases x.row p hp with ⟨e1, _⟩ | ⟨g', o', cap', vs', e1, _, hM', _⟩
        · rw [e1] at h1; cases h1
        · rw [e1] at h1; cases h1; exact hM hM'
      · omega)⟩
  have AL : ∀ (w' : World), w.heap.size ≤ w'.heap.size → ∀ k, more M w w' k → k < w'.heap.size := fun w' hs k hk => by
    rcases hk with hk | hk
    · have := x.all k hk; omega
    · exact hk.2
  obtain ⟨L, hL⟩ : ∃ q, (s.laid p).length = q := ⟨_, rfl⟩
  rw [hL] at hap hrow hLo hr
  have i1 : (0 : Int) ≤ (p : Int) := by omega
  have i2 : (p : Int) < (s.pages : Int) := by omega
  by_cases hd : s.depth < L
  · -- one is forgotten
    obtain ⟨e1, hrow2, hk2, hne2, hfr2, es⟩ := row_drop hrow (by omega)
    have esl := sl_row (some ⟨g, o, none⟩) (L + 1) cap (by omega)
    rw [es] at hrow2 esl
    obtain ⟨cv, hcv⟩ := Option.ne_none_iff_exists'.1 hne2
    have hd' : (s.depth : Int) < (L : Int) := by omega
    have RR : Hid (∀ w', w' = (w1.setCell ⟨g, o, none⟩ (.slice none 0 0)).setCell ⟨gl, p, none⟩ (.slice (some ⟨g, o + 1, none⟩) L (cap - 1)) → HostAt w' (more M w w') h (s.wrote p z) ∧ Kept M w w') := by
      refine fun w' hw' => ?_
      have kall : Kept (fun k => rowBlk v0 = some k ∨ k = gl ∨ k = g) w w' := by
        rw [hw']
        refine Kept.setCell (p := ⟨gl, p, none⟩) (Kept.setCell (p := ⟨g, o, none⟩) (hk1.mono (fun k e => ?_)) (.inr (.inr rfl)) _) (.inr (.inl rfl)) _
        rw [hv0] at e
        exact .inl e
      have hs2 : w'.heap.size = w1.heap.size := by rw [hw']; simp [World.setCell]
      have bl2 : Blk (w1.setCell ⟨g, o, none⟩ (.slice none 0 0)) gl 67 rws := bl1.kept hk2 (Ne.symm hggl)
      have bl3 := bl2.set p (.slice (some ⟨g, o + 1, none⟩) L (cap - 1))
      rw [← hw'] at bl3
      have kl : Kept (fun k => k = gl) (w1.setCell ⟨g, o, none⟩ (.slice none 0 0)) w' := by rw [hw']; exact (Kept.refl (fun k => k = gl) _).setCell (p := ⟨gl, p, none⟩) rfl _
      have hrow3 : RowP w' (more M w w') (.slice (some ⟨g, o + 1, none⟩) L (cap - 1)) (keepL s.depth (s.laid p) z) := by
        have e2 : keepL s.depth (s.laid p) z = (s.laid p ++ [z]).drop 1 := if_pos (by rw [hL]; exact hd)
        rw [e2]
        have := (row_kept hrow2 kl (fun b hb => by cases hb; exact hggl) (fun b vs hb => blk_ne hb bl2 (by decide))).mono (M' := more M w w') (fun k hk => by
          rcases hk with hk | hk
          · exact .inl hk
          · exact .inr ⟨hk.1, by omega⟩)
        simpa using this
      refine ⟨(X.out.rowed p hp z hz (by rw [hL]; exact hr) _ hrow3 (fun g' hg' => by cases hg'; exact hg1) bl3 ⟨kall.os, kall.tape, kall.output, kall.size, fun k hk1' hS => ?_⟩ (fun k hk => .inl hk) (AL w' kall.size)).at, KM w' kall⟩
      by_cases e : k = g
      · subst e
        rcases hg1 with h1 | h1
        · exact absurd (.inl h1) hS
        · omega
      · exact kall.block k hk1' (fun e3 => by
          rcases e3 with e3 | e3 | e3
          · exact hS (.inl (by rw [hv0]; exact e3))
          · exact hS (.inr e3)
          · exact e e3)
    have HE : Hid (g ≠ h ∧ g ≠ gl) := ⟨hgh, hggl⟩
    have dp2 : (w1.setCell ⟨g, o, none⟩ (.slice none 0 0)).cell? ⟨h, 1, none⟩ = some (.slice (some ⟨gl, 0, none⟩) s.pages s.pages) := (bh1.kept hk2 (Ne.symm hgh)).cell 1
    have dp3 : (w1.setCell ⟨g, o, none⟩ (.slice none 0 0)).cell? ⟨gl, p, none⟩ = some v0 := by rw [(bl1.kept hk2 (Ne.symm hggl)).cell p, ← hv0]; exact getD_at hpl
    have dp4 : (w1.setCell ⟨g, o, none⟩ (.slice none 0 0)).frozen? ⟨gl, p, none⟩ = false := (bl1.kept hk2 (Ne.symm hggl)).frozen p
    clear hrow hrow2 hk1 hk2 hg1 nh nl bh1 bl1 KM AL x hv0 hL hR hz hzb es hgh hggl e1 hne2 hgl1 hm
    go_enter Try.func59, Try.ntmps59
    go_wp2_with (at_builtin; refine wpList_append_run rfl _ _ 67 67 rfl rfl v0 _ rfl rfl _ w1 hap ?_)
    go_end0
    exact ⟨rfl, RR.out _ rfl⟩
  · have hd' : ¬ (s.depth : Int) < (L : Int) := by omega
    have RR : Hid (∀ w', w' = w1.setCell ⟨gl, p, none⟩ (.slice (some ⟨g, o, none⟩) (L + 1) cap) → HostAt w' (more M w w') h (s.wrote p z) ∧ Kept M w w') := by
      refine fun w' hw' => ?_
      have kall : Kept (fun k => rowBlk v0 = some k ∨ k = gl ∨ k = g) w w' := by
        rw [hw']
        refine Kept.setCell (p := ⟨gl, p, none⟩) (hk1.mono (fun k e => ?_)) (.inr (.inl rfl)) _
        rw [hv0] at e
        exact .inl e
      have hs2 : w'.heap.size = w1.heap.size := by rw [hw']; simp [World.setCell]
      have bl3 := bl1.set p (.slice (some ⟨g, o, none⟩) (L + 1) cap)
      rw [← hw'] at bl3
      have kl : Kept (fun k => k = gl) w1 w' := by rw [hw']; exact (Kept.refl (fun k => k = gl) _).setCell (p := ⟨gl, p, none⟩) rfl _
      have hrow3 : RowP w' (more M w w') (.slice (some ⟨g, o, none⟩) (L + 1) cap) (keepL s.depth (s.laid p) z) := by
        have e2 : keepL s.depth (s.laid p) z = s.laid p ++ [z] := if_neg (by rw [hL]; exact hd)
        rw [e2]
        exact (row_kept hrow kl (fun b hb => by cases hb; exact hggl) (fun b vs hb => blk_ne hb bl1 (by decide))).mono (M' := more M w w') (fun k hk => by
          rcases hk with hk | hk
          · exact .inl hk
          · exact .inr ⟨hk.1, by omega⟩)
      refine ⟨(X.out.rowed p hp z hz (by rw [hL]; exact hr) _ hrow3 (fun g' hg' => by cases hg'; exact hg1) bl3 ⟨kall.os, kall.tape, kall.output, kall.size, fun k hk1' hS => ?_⟩ (fun k hk => .inl hk) (AL w' kall.size)).at, KM w' kall⟩
      by_cases e : k = g
      · subst e
        rcases hg1 with h1 | h1
        · exact absurd (.inl h1) hS
        · omega
      · exact kall.block k hk1' (fun e3 => by
          rcases e3 with e3 | e3 | e3
          · exact hS (.inl (by rw [hv0]; exact e3))
          · exact hS (.inr e3)
          · exact e e3)
    clear hrow hk1 hg1 nh nl bh1 bl1 KM AL x hv0 hL hR hz hzb hgh hggl hgl1 hm
    go_enter Try.func59, Try.ntmps59
    go_wp2_with (at_builtin; refine wpList_append_run rfl _ _ 67 67 rfl rfl v0 _ rfl rfl _ w1 hap ?_)
    go_end0
    exact ⟨rfl, RR.out _ rfl⟩
end Go.Proofs.Ytobcolpdkcppoaa
