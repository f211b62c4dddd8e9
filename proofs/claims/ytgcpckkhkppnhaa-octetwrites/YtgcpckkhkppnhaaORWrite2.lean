/- The document's writers (trystref02): Bytes, Done. -/
import Derived.Test.YtgcpckkhkppnhaaORWrite
import Derived.Test.YtgcpckkhkppnhaaORRead
namespace Go.Proofs.Ytgcpckkhkppnhaa
open Go.RowKit
set_option linter.unusedVariables false
set_option linter.unusedSimpArgs false

set_option maxRecDepth 20000 in
theorem rdone_any (r : Nat) (v : Value) (size : Nat) (zs : List Int) (e : Int) (w : World) (h : Wr w r v size zs e) :
    Calls Try.prog 33 #[.pointer (some ⟨r, 0, none⟩)] w fun en w' => ∃ u, en = .returned (.tuple #[u, .int .i64 (dnE size zs e)]) ∧ w'.ownsRow w.heap.size 5 1 u (dnL size zs e).length ((dnL size zs e).map (Value.int .u8)) ∧ Below w.heap.size w w' := by
  have c0 := h.c0
  have c1 := h.c1
  have c2 := h.c2
  obtain ⟨vo, cv, rfl⟩ := own_form h.own
  by_cases he : e = 0
  · subst he
    by_cases h1 : zs.length < size
    · have e1 : dnL size zs 0 = [] := by simp [dnL, h1]
      have e2 : dnE size zs 0 = 20 := by simp [dnE, h1]
      rw [e1, e2]
      have hgt : (zs.length : Int) < (size : Int) := by omega
      clear h
      generalize zs.length = N at *
      go_enter Try.func33, Try.ntmps33
      go_wp2
      go_quiet (fail)
      go_wp2
      go_ret2
      exact ⟨_, rfl, World.ownsRow_nil _ _ _ _, below_dn (Below.refl _ _) _⟩
    · have e1 : dnL size zs 0 = zs := by simp [dnL, h1]
      have e2 : dnE size zs 0 = 0 := by simp [dnE, h1]
      rw [e1, e2]
      have hgt : ¬ (zs.length : Int) < (size : Int) := by omega
      have HS : Hid (∀ q, Seen (w.drewN q) vo zs.length zs) := fun q => by
        obtain ⟨vo', cv', e', s', _⟩ := own_seen rfl h.hb (by have := h.hs; have := h.ht; omega) h.own
        simp only [Value.slice.injEq] at e'
        rw [e'.1]; exact s'.drewN q
      have HCV : Hid (vo = none → cv = 0) := by
        intro hv
        subst hv
        rcases h.own.2 with ⟨h1, h2⟩ | ⟨g, cap, cur, h1, _⟩
        · simp only [Value.slice.injEq] at h1; exact h1.2.2
        · simp only [Value.slice.injEq] at h1; cases h1.1
      have hlen : zs.length ≤ 1048576 := by have := h.hs; have := h.ht; omega
      clear h
      obtain ⟨N, hN⟩ : ∃ N, zs.length = N := ⟨_, rfl⟩
      rw [hN] at c1 hgt HS hlen ⊢
      clear hN e1 e2
      go_enter Try.func33, Try.ntmps33
      go_wp2
      go_quiet (fail)
      have s1 := HS.out nq
      go_wp2_with (at_builtin; refine wpList_append_seen rfl (.tmp 24) (.tmp 28) rfl w.heap.size (.slice none 0 0) 0 [] rfl (World.ownsRow_nil _ _ _ _) vo N cv zs rfl s1 HCV.out (by omega) (Nat.le_refl _) ?_)
      intro v1 w1 o1 g1
      have HO : Hid (w1.ownsRow w.heap.size 5 1 v1 N (zs.map (Value.int .u8))) := o1
      have HB : Hid (Below w.heap.size w w1) := (below_dn (Below.refl w.heap.size w) nq).grown g1 (Nat.le_refl _) (fun j hj => by cases hj)
      clear o1 g1 s1
      go_wp2
      go_ret2
      exact ⟨_, rfl, HO.out, HB.out⟩
  · have e1 : dnL size zs e = [] := by simp [dnL, he]
    have e2 : dnE size zs e = e := by simp [dnE, he]
    rw [e1, e2]
    have hne : (e != 0) = true := by simpa using he
    clear h c0 c1
    go_enter Try.func33, Try.ntmps33
    go_wp2
    go_quiet (fail)
    go_wp2
    go_ret2
    exact ⟨_, rfl, World.ownsRow_nil _ _ _ _, below_dn (Below.refl _ _) _⟩
set_option maxHeartbeats 1000000 in
set_option maxRecDepth 20000 in
theorem rwbytes_any (r : Nat) (v : Value) (size : Nat) (zs : List Int) (e : Int) (bo : Option Addr) (m c : Nat) (ys : List Int) (w : World) (h : Wr w r v size zs e) (hy : Seen w bo m ys) (hc : bo = none → c = 0) :
    Calls Try.prog 28 #[.pointer (some ⟨r, 0, none⟩), .slice bo m c] w fun en w' => en = .returned (.tuple #[]) ∧ ∃ v', Wr w' r v' size (wbL size zs e ys) (wbE size zs e ys) ∧ Kept (WFoot r v) w w' ∧ (∀ g, v'.ownBlock = some g → v.ownBlock = some g ∨ w.heap.size ≤ g) := by
  have hl := hy.len
  have hm := hy.top
  have c0 := h.c0
  have c1 := h.c1
  have c2 := h.c2
  have f2 := h.f2
  obtain ⟨vo, cv, rfl⟩ := own_form h.own
  by_cases he : e = 0
  · subst he
    by_cases h1 : size < zs.length + ys.length
    · have e1 : wbL size zs 0 ys = zs := by simp [wbL, h1]
      have e2 : wbE size zs 0 ys = 21 := by simp [wbE, h1]
      rw [e1, e2]
      have HR : Hid (∀ q, Wr ((w.drewN q).setCell ⟨r, 2, none⟩ (.int .i64 21)) r (.slice vo zs.length cv) size zs 21 ∧ Kept (WFoot r (.slice vo zs.length cv)) w ((w.drewN q).setCell ⟨r, 2, none⟩ (.int .i64 21))) := fun q => ⟨(h.drewN q).setErr 21, Kept.setCell (S := WFoot r (.slice vo zs.length cv)) (a := w) (w := w.drewN q) ⟨rfl, rfl, rfl, Nat.le_refl _, fun _ _ _ => rfl⟩ (p := ⟨r, 2, none⟩) (.inl rfl) (.int .i64 21)⟩
      have hgt : (size : Int) - zs.length < (m : Int) := by omega
      have hs := h.hs
      have ht := h.ht
      have i1 : -9223372036854775808 ≤ (size : Int) - zs.length := by omega
      have i2 : (size : Int) - zs.length ≤ 9223372036854775807 := by omega
      clear h hy e1 e2 h1
      generalize zs.length = N at *
      go_enter Try.func28, Try.ntmps28
      go_wp2
      go_quiet (fail)
      go_wp2
      (try simp only [Exit.inBlock, Exit.then]); first | (refine bodyPost_ret (results_none rfl _ _ _) rfl ?_) | (refine bodyPost_end (results_none rfl _ _ _) rfl ?_)
      exact ⟨rfl, _, (HR.out nq).1, (HR.out nq).2, fun g hg => .inl hg⟩
    · have e1 : wbL size zs 0 ys = zs ++ ys := by simp [wbL, h1]
      have e2 : wbE size zs 0 ys = 0 := by simp [wbE, h1]
      rw [e1, e2]
      have hgt : ¬ (size : Int) - zs.length < (m : Int) := by omega
      have hs := h.hs
      have ht := h.ht
      have i1 : -9223372036854775808 ≤ (size : Int) - zs.length := by omega
      have i2 : (size : Int) - zs.length ≤ 9223372036854775807 := by omega
      have HD : Hid ((zs ++ ys).length = zs.length + m ∧ zs.length + m ≤ size ∧ Bytes ys) := ⟨by rw [List.length_append, hl], by omega, hy.bytes⟩
      have f1 := h.f1
      have HC : Hid (bo = none → c = 0) := hc
      have HW : Hid (∀ q, Wr (w.drewN q) r (.slice vo zs.length cv) size zs 0) := fun q => h.drewN q
      have HY : Hid (∀ q, Seen (w.drewN q) bo m ys) := fun q => hy.drewN q
      obtain ⟨N, hN⟩ : ∃ N, zs.length = N := ⟨_, rfl⟩
      have hsum : N + m ≤ 140737488355328 := by omega
      rw [hN] at c1 hgt i1 i2 HD HW hs ⊢
      have HOW : Hid (∀ q, (w.drewN q).ownsRow 0 5 1 (.slice vo N cv) N (zs.map (Value.int .u8))) := fun q => by have := (HW.out q).own; rw [hN] at this; exact this
      clear h hy hc hl h1 e1 e2 hN
      go_enter Try.func28, Try.ntmps28
      go_wp2
      go_quiet (fail)
      go_wp2_with (at_builtin; refine wpList_append_seen_at rfl _ _ rfl 0 _ N (zs.map (Value.int .u8)) rfl (HOW.out nq) bo m c ys rfl (HY.out nq) HC.out hsum (Nat.zero_le _) ?_)
      intro v' w2 o2 g2 a2
      rw [← List.map_append] at o2
      have hw := (HW.out nq).grow g2 (by rw [HD.out.1]; exact o2) (fun g hg => by
        rcases a2 with a2 | a2
        · left; rw [← a2]; exact hg
        · right; rw [a2] at hg; cases hg; exact Nat.le_refl _) HD.out.2.2 (by rw [HD.out.1]; exact HD.out.2.1)
      have hlt := (HW.out nq).lt
      have hb2 : w2.heap[r]? = (w.drewN nq).heap[r]? := g2.block r hlt (fun e => (HW.out nq).ne r e.symm rfl)
      have d1 : w2.cell? ⟨r, 1, none⟩ = some (.slice vo N cv) := (World.cell?_of_block (a := ⟨r, 1, none⟩) hb2).trans c1
      have k1 : w2.frozen? ⟨r, 1, none⟩ = false := (World.frozen?_of_block (a := ⟨r, 1, none⟩) hb2).trans f1
      have HK : Hid (Kept (WFoot r (.slice vo N cv)) w (w2.setCell ⟨r, 1, none⟩ v')) := Kept.setCell (S := WFoot r (.slice vo N cv)) (a := w) (w := w2) (Kept.grown (a := w) (w := w.drewN nq) ⟨rfl, rfl, rfl, Nat.le_refl _, fun _ _ _ => rfl⟩ g2 (fun k hk _ => .inr hk)) (p := ⟨r, 1, none⟩) (.inl rfl) v'
      have HV : Hid (∀ g, v'.ownBlock = some g → (Value.slice vo N cv).ownBlock = some g ∨ w.heap.size ≤ g) := fun g hg => by
        rcases a2 with a2 | a2
        · left; rw [← a2]; exact hg
        · right; rw [a2] at hg; cases hg; exact Nat.le_refl _
      have HH : Hid _ := hw
      obtain ⟨vo', cv', rfl⟩ := own_form o2
      clear o2 g2 a2 hw hb2 HW HY HOW
      go_wp2
      (try simp only [Exit.inBlock, Exit.then]); first | (refine bodyPost_ret (results_none rfl _ _ _) rfl ?_) | (refine bodyPost_end (results_none rfl _ _ _) rfl ?_)
      exact ⟨rfl, _, HH.out, HK.out, HV.out⟩
  · have e1 : wbL size zs e ys = zs := by simp [wbL, he]
    have e2 : wbE size zs e ys = e := by simp [wbE, he]
    rw [e1, e2]
    have hne : (e != 0) = true := by simpa using he
    have HH : Hid _ := h
    clear h c0 c1
    go_enter Try.func28, Try.ntmps28
    go_wp2
    (try simp only [Exit.inBlock, Exit.then]); first | (refine bodyPost_ret (results_none rfl _ _ _) rfl ?_) | (refine bodyPost_end (results_none rfl _ _ _) rfl ?_)
    exact ⟨rfl, _, HH.out, Kept.refl _ _, fun g hg => .inl hg⟩
end Go.Proofs.Ytgcpckkhkppnhaa
