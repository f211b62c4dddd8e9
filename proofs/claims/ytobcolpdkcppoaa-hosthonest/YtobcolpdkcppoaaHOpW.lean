/- Layer host: operate, walked. -/
import Derived.Test.YtobcolpdkcppoaaHOper
namespace Go.Proofs.Ytobcolpdkcppoaa
open Go.RowKit
set_option linter.unusedVariables false
set_option linter.unusedSimpArgs false

/-- What an operation does, s2: the host behind what is done of it, ahead of the log. -/
def OpPost (M C : Nat → Prop) (h : Nat) (s s2 : HSt) (t : Tc) (Post : (Nat → Prop) → World → Prop) (w : World) (e : Ending) (w' : World) : Prop :=
  ((s.down = true ∧ e = .returned (.int .i64 110) ∧ HostAt w' M h s ∨ s.down = false ∧ s.pow = 1 ∧ e = .returned (.int .i64 110) ∧ HostAt w' M h s.next) ∧ Kept M w w') ∨
   (s.down = false ∧ s.pow ≠ 1 ∧ e = .returned (.int .i64 (if s.pow = 2 then 110 else 0)) ∧ ∃ M2, HostAt w' M2 h (s2.logged t) ∧ (∀ k, M k → M2 k) ∧ (∀ k, M2 k → M k ∨ w.heap.size ≤ k) ∧ Kept (fun k => M k ∨ C k) w w' ∧ Post M2 w')
theorem own_slice {w : World} {base : Nat} {e : TypeId} {size n : Nat} {v : Value} {xs : List Value} (h : w.ownsRow base e size v n xs) : ∃ a m c, v = .slice a m c := by
  rcases h.2 with ⟨rfl, _⟩ | ⟨g, cap, cur, rfl, _⟩
  · exact ⟨_, _, _, rfl⟩
  · exact ⟨_, _, _, rfl⟩
theorem fl_not_host {w : World} {h : Nat} {s : HSt} {gl gm : Nat} {lg : Value} (b : Blk w h 91 (hostC s gl gm lg)) {o : Nat} {f : Fl} (hr : w.rangeAt h o (flC f)) : False := by
  have r0 := hr 0 (.int .i64 f.a) rfl
  have r1 := hr 1 (.int .i64 f.k) rfl
  have r2 := hr 2 (.int .i64 f.p) rfl
  have r3 := hr 3 (.int .i64 f.b) rfl
  rw [b.cell] at r0 r1 r2 r3
  match o, r0, r1, r2, r3 with
  | 0, _, r1, _, _ => simp [hostC] at r1
  | 1, r0, _, _, _ => simp [hostC] at r0
  | 2, _, r1, _, _ => simp [hostC] at r1
  | 3, r0, _, _, _ => simp [hostC] at r0
  | 4, r0, _, _, _ => simp [hostC] at r0
  | 5, _, _, r2, _ => simp [hostC] at r2
  | 6, _, r1, _, _ => simp [hostC] at r1
  | 7, r0, _, _, _ => simp [hostC] at r0
  | (n + 8), r0, _, _, _ => simp [hostC] at r0
set_option maxRecDepth 20000 in
set_option maxHeartbeats 2000000 in
theorem operate_any (h : Nat) (s s2 : HSt) (t : Tc) (ht : t.Good) (F : Nat) (caps : Array Value) (hent : ∀ args w, (callFunc F args).run Try.prog w = .ok (.enter F args) w) (M C : Nat → Prop) (Post : (Nat → Prop) → World → Prop) (w : World) (x : HostAt w M h s) (hops : s.ops < 3000000000000) (hC : ∀ k, C k → k < w.heap.size)
    (hdr : ∀ M2 (W : World), Post M2 W → Post M2 { W with drawn := W.drawn + 1 }) (hst : ∀ M2 W W', Post M2 W → (∀ k, M2 k → k < W.heap.size) → Kept M2 W W' → Post (more M2 W W') W')
    (h2 : s2.ops = s.ops + 1 ∧ s2.log = s.log)
    (HD : s.down = false → s.pow ≠ 1 → ∀ W fv, HostAt W M h s.next → FlS W M fv (s.coming s.ops) → Kept M w W → Calls Try.prog F (#[fv] ++ caps) W fun e W' => e = .returned (.tuple #[]) ∧ ∃ M2, HostAt W' M2 h s2 ∧ (∀ k, M k → M2 k) ∧ (∀ k, M2 k → M k ∨ W.heap.size ≤ k) ∧ Kept (fun k => M k ∨ C k) W W' ∧ Post M2 W') :
    Calls Try.prog 49 #[.pointer (some ⟨h, 0, none⟩), .agg (tcC t).toArray, .func (.func F) #[] caps] w (OpPost M C h s s2 t Post w) := by
  obtain ⟨gl, gm, lg0, rws, n, D, x⟩ := x
  have X : Hid (HostIn w M h s gl gm lg0 rws n D ∧ s.ops < 3000000000000) := ⟨x, hops⟩
  have hh := x.blk.lt
  have hnw : w.heap.size ≠ h := by omega
  cases hd : s.down
  · -- the power is there
    have CB := fun W (y : HostIn W M h s gl gm lg0 rws n D) => bef_any h s M gl gm lg0 rws n D W y
    obtain ⟨fv, hfv⟩ : ∃ q, lookV D s.ops = q := ⟨_, rfl⟩
    rw [hfv] at CB
    obtain ⟨pw, hpw⟩ : ∃ q, s.pow = q := ⟨_, rfl⟩
    have CP := fun W (y : FlS W M fv (s.coming s.ops)) => power_any fv (s.coming s.ops) M W y
    rw [show powL (s.coming s.ops) = pw from hpw] at CP
    have HP : Hid (s.pow = pw) := hpw
    have HCB : Hid (∀ W, HostIn W M h s gl gm lg0 rws n D → Calls Try.prog 65 #[.pointer (some ⟨h, 0, none⟩)] W fun e w' => e = .returned fv ∧ HostIn w' M h s.past gl gm lg0 rws n (D.del (.int .i64 s.ops)) ∧ FlS w' M fv (s.coming s.ops) ∧ Kept (fun k => k = gm) W w') := CB
    have HCP : Hid (∀ W, FlS W M fv (s.coming s.ops) → Calls Try.prog 66 #[fv] W fun e w' => e = .returned (.int .i64 pw) ∧ Below W.heap.size W w') := CP
    have hop := x.good.ops
    obtain ⟨dn, hdn⟩ : ∃ q, (pw != 0) = q := ⟨_, rfl⟩
    have HDN : Hid (dn = decide (s.pow ≠ 0)) := by
      have : dn = decide (s.pow ≠ 0) := by rw [hpw, ← hdn]; by_cases e : pw = 0 <;> simp [e]
      exact this
    have hpc : pw = 0 ∨ pw = 1 ∨ pw = 2 := by rw [← hpw]; exact powL_cases _
    have HD' : Hid (s.pow ≠ 1 → ∀ W fv, HostAt W M h s.next → FlS W M fv (s.coming s.ops) → Kept M w W → Calls Try.prog F (#[fv] ++ caps) W fun e W' => e = .returned (.tuple #[]) ∧ ∃ M2, HostAt W' M2 h s2 ∧ (∀ k, M k → M2 k) ∧ (∀ k, M2 k → M k ∨ W.heap.size ≤ k) ∧ Kept (fun k => M k ∨ C k) W W' ∧ Post M2 W') := HD hd
    have HH : Hid (s.down = false ∧ (∀ k, C k → k < w.heap.size) ∧ s2.ops = s.ops + 1 ∧ s2.log = s.log) := ⟨hd, hC, h2⟩
    -- the states on the way
    have N : Hid (∀ w1 w2 w3, Below w.heap.size w w1 → Kept (fun k => k = gm) w1 w2 → Below w2.heap.size w2 w3 → HostIn w2 M h s.past gl gm lg0 rws n (D.del (.int .i64 s.ops)) → FlS w2 M fv (s.coming s.ops) → HostIn w3 M h s.past gl gm lg0 rws n (D.del (.int .i64 s.ops)) ∧ FlS w3 M fv (s.coming s.ops) ∧ Kept M w w3) := fun w1 w2 w3 l1 k2 l3 x2 f2 =>
      ⟨x2.later l3, f2.frame (Same.below l3 x2.all), ((Kept.new M l1).trans (k2.mono (fun k e => by rw [e]; exact X.out.1.mm))).trans (Kept.new M l3)⟩
    clear CB CP hfv HD hC h2 hd hops hpw x
    by_cases h1 : pw = 1
    · have q1 : (pw == 1) = true := by simp [h1]
      have HQ : Hid (pw = 1) := h1
      clear h1 hpc
      go_enter Try.func49, Try.ntmps49
      go_wp2_with (first | (refine wpList_box_new rfl 49 _ rfl (tcC t) rfl ?_; intro w1 b1 s1 l1; have z1 : Hid (w1.heap.size = w.heap.size + 1) := s1; clear s1; have c7 : w1.cell? ⟨h, 7, none⟩ = some (.bool false) := by { rw [← HH.out.1]; exact (X.out.1.later l1).blk.cell 7 }) | (go_at_call 65; refine (HCB.out w1 (X.out.1.later l1)).mono ?_; rintro e w2 ⟨rfl, x2, f2, k2⟩) | (go_at_call 66; refine (HCP.out w2 f2).mono ?_; rintro e w3 ⟨rfl, l3⟩; obtain ⟨x3, f3, k3⟩ := N.out w1 w2 w3 l1 k2 l3 x2 f2; have c5 : w3.cell? ⟨h, 5, none⟩ = some (.int .i64 s.ops) := x3.blk.cell 5; have g5 : w3.frozen? ⟨h, 5, none⟩ = false := x3.blk.frozen 5; have d7 : w3.cell? ⟨h, 7, none⟩ = some (.bool s.down) := x3.blk.cell 7; have g7 : w3.frozen? ⟨h, 7, none⟩ = false := x3.blk.frozen 7; have T3 : Hid (Blk w3 w.heap.size 49 (tcC t) ∧ HostIn w3 M h s.past gl gm lg0 rws n (D.del (.int .i64 s.ops)) ∧ FlS w3 M fv (s.coming s.ops) ∧ Kept M w w3 ∧ w.heap.size < w3.heap.size) := ⟨(b1.kept k2 (map_ne (X.out.1.later l1).map b1)).later l3 (b1.kept k2 (map_ne (X.out.1.later l1).map b1)).lt, x3, f3, k3, by { have := z1.out; have := k2.size; have := l3.size; omega }⟩; clear x2 f2 k2 l3 x3 f3 k3 b1 l1 z1))
      go_ret
      obtain ⟨y, ky⟩ := T3.out.2.1.nexted (s := s) X.out.2 (.bool dn) (by rw [HDN.out]) rfl
      exact .inl ⟨.inr ⟨HH.out.1, by rw [HP.out]; exact HQ.out, rfl, y.at⟩, T3.out.2.2.2.1.trans (ky.mono (fun k e => by rw [e]; exact X.out.1.mh))⟩
    · have q1 : (pw == 1) = false := by simp [h1]
      have HQ : Hid (pw ≠ 1 ∧ (pw = 0 ∨ pw = 2)) := ⟨h1, by omega⟩
      clear h1 hpc
      go_enter Try.func49, Try.ntmps49
      go_wp2_with (first | (refine wpList_box_new rfl 49 _ rfl (tcC t) rfl ?_; intro w1 b1 s1 l1; have z1 : Hid (w1.heap.size = w.heap.size + 1) := s1; clear s1; have c7 : w1.cell? ⟨h, 7, none⟩ = some (.bool false) := by { rw [← HH.out.1]; exact (X.out.1.later l1).blk.cell 7 }) | (go_at_call 65; refine (HCB.out w1 (X.out.1.later l1)).mono ?_; rintro e w2 ⟨rfl, x2, f2, k2⟩) | (go_at_call 66; refine (HCP.out w2 f2).mono ?_; rintro e w3 ⟨rfl, l3⟩; obtain ⟨x3, f3, k3⟩ := N.out w1 w2 w3 l1 k2 l3 x2 f2; have c5 : w3.cell? ⟨h, 5, none⟩ = some (.int .i64 s.ops) := x3.blk.cell 5; have g5 : w3.frozen? ⟨h, 5, none⟩ = false := x3.blk.frozen 5; have d7 : w3.cell? ⟨h, 7, none⟩ = some (.bool s.down) := x3.blk.cell 7; have g7 : w3.frozen? ⟨h, 7, none⟩ = false := x3.blk.frozen 7; have T3 : Hid (Blk w3 w.heap.size 49 (tcC t) ∧ HostIn w3 M h s.past gl gm lg0 rws n (D.del (.int .i64 s.ops)) ∧ FlS w3 M fv (s.coming s.ops) ∧ Kept M w w3 ∧ w.heap.size < w3.heap.size) := ⟨(b1.kept k2 (map_ne (X.out.1.later l1).map b1)).later l3 (b1.kept k2 (map_ne (X.out.1.later l1).map b1)).lt, x3, f3, k3, by { have := z1.out; have := k2.size; have := l3.size; omega }⟩; clear x2 f2 k2 l3 x3 f3 k3 b1 l1 z1))
      obtain ⟨w5, hw5⟩ : ∃ q, (w3.setCell ⟨h, 5, none⟩ (.int .i64 ((s.ops : Int) + 1))).setCell ⟨h, 7, none⟩ (.bool dn) = q := ⟨_, rfl⟩
      rw [hw5]
      have T5 : Hid (HostIn w5 M h s.next gl gm lg0 rws n (D.del (.int .i64 s.ops)) ∧ FlS w5 M fv (s.coming s.ops) ∧ Kept M w w5 ∧ Blk w5 w.heap.size 49 (tcC t) ∧ w.heap.size < w5.heap.size) := by
        obtain ⟨y, ky⟩ := T3.out.2.1.nexted (s := s) X.out.2 (.bool dn) (by rw [HDN.out]) hw5.symm
        refine ⟨y, ?_, T3.out.2.2.2.1.trans (ky.mono (fun k e => by rw [e]; exact X.out.1.mh)), T3.out.1.kept ky hnw, by have := T3.out.2.2.2.2; have := ky.size; omega⟩
        have cm := y.com
        obtain ⟨tp, gd, ao, c, e, hx⟩ := T3.out.2.2.1
        refine ⟨tp, gd, ao, c, e, fun i hi => ?_⟩
        obtain ⟨b, o, e1, hb, hM, hr⟩ := hx i hi
        refine ⟨b, o, e1, Nat.lt_of_lt_of_le hb ky.size, hM, rangeAt_same hr (ky.block b hb (fun e2 => ?_))⟩
        subst e2
        exact fl_not_host T3.out.2.1.blk hr
      refine (HD'.out (by rw [HP.out]; exact HQ.out.1) w5 fv T5.out.1.at T5.out.2.1 T5.out.2.2.1).mono ?_
      rintro e w6 ⟨rfl, M2, x6, m6, n6, k6, p6⟩
      obtain ⟨gl2, gm2, lg, rws2, n2, D2, x6⟩ := x6
      have hMw : ∀ k, M k → k < w.heap.size := X.out.1.all
      have L6 : Hid (w6.cell? ⟨h, 6, none⟩ = some lg ∧ w6.rangeAt w.heap.size 0 (tcC t) ∧ HostIn w6 M2 h s2 gl2 gm2 lg rws2 n2 D2 ∧ Kept (fun k => M k ∨ C k) w w6 ∧ Post M2 w6) := by
        refine ⟨x6.blk.cell 6, ?_, x6, (T5.out.2.2.1.mono (fun k e => .inl e)).trans k6, p6⟩
        have b6 := T5.out.2.2.2.1.kept k6 (fun e => by
          rcases e with e | e
          · have := hMw _ e; omega
          · have := HH.out.2.1 _ e; omega)
        intro j v hv
        rw [Nat.zero_add, b6.cell]; exact hv
      have TB6 : Hid (w.heap.size < w6.heap.size ∧ ¬ M2 w.heap.size ∧ (∀ k, M k → M2 k) ∧ (∀ k, M2 k → M k ∨ w5.heap.size ≤ k) ∧ w5.heap.size ≤ w6.heap.size) := ⟨by have := T5.out.2.2.2.2; have := k6.size; omega, fun e => by
        rcases n6 _ e with e | e
        · have := hMw _ e; omega
        · have := T5.out.2.2.2.2; omega, m6, n6, k6.size⟩
      have LG : Hid (s2.log.length < s2.ops) := by
        have := X.out.1.good.log
        have q : s2.log.length < s2.ops := by rw [HH.out.2.2.1, HH.out.2.2.2]; omega
        exact q
      have HM : Hid (∀ k, M k → k < w.heap.size) := hMw
      clear x6 m6 n6 k6 p6 hw5 hMw
      go_wp2_with fail
      refine wp_region_noPanic (till_region 10 (fun W => W.cell? ⟨h, 6, none⟩ = some lg ∧ W.rangeAt w.heap.size 0 (tcC t)) (by kernel_rfl) ?_)
      have hS : (fun W : World => W.cell? ⟨h, 6, none⟩ = some lg ∧ W.rangeAt w.heap.size 0 (tcC t)) { w6 with drawn := w6.drawn + 1 } := ⟨L6.out.1, L6.out.2.1⟩
      obtain ⟨w7, hw7⟩ : ∃ q, ({ w6 with drawn := w6.drawn + 1 } : World) = q := ⟨_, rfl⟩
      have TB : Hid (w.heap.size < w7.heap.size ∧ ¬ M2 w.heap.size) := by { rw [← hw7]; exact ⟨TB6.out.1, TB6.out.2.1⟩ }
      have L7 : Hid (HostIn w7 M2 h s2 gl2 gm2 lg rws2 n2 D2 ∧ Kept (fun k => M k ∨ C k) w w7 ∧ Post M2 w7 ∧ w7.heap.size = w6.heap.size) := by subst hw7; exact ⟨L6.out.2.2.1.frame ⟨Nat.le_refl _, fun _ _ => rfl⟩, ⟨L6.out.2.2.2.1.os, L6.out.2.2.2.1.tape, L6.out.2.2.2.1.output, L6.out.2.2.2.1.size, L6.out.2.2.2.1.block⟩, hdr M2 w6 L6.out.2.2.2.2, rfl⟩
      rw [hw7] at hS ⊢
      clear hw7
      refine tTake 0 (some 34) (.pointer (some ⟨h, 0, none⟩)) rfl rfl (by kernel_rfl) (by kernel_rfl) (by kernel_rfl) (by decide) (fun _ _ _ h => h) (by rfl) (fun W' => by go_simp) hS ?_
      simp only [Act.put, List.setIfInBounds_toArray, List.set_cons_zero, List.set_cons_succ]
      refine tTake 1 (some 35) (.pointer (some ⟨h, 0, none⟩)) rfl rfl (by kernel_rfl) (by kernel_rfl) (by kernel_rfl) (by decide) (fun _ _ _ h => h) (by rfl) (fun W' => by go_simp) hS ?_
      simp only [Act.put, List.setIfInBounds_toArray, List.set_cons_zero, List.set_cons_succ]
      refine tTake 2 (some 36) (.pointer (some ⟨h, 0, none⟩)) rfl rfl (by kernel_rfl) (by kernel_rfl) (by kernel_rfl) (by decide) (fun _ _ _ h => h) (by rfl) (fun W' => by go_simp) hS ?_
      simp only [Act.put, List.setIfInBounds_toArray, List.set_cons_zero, List.set_cons_succ]
      refine tTake 3 (some 37) (.pointer (some ⟨h, 6, none⟩)) rfl rfl (by kernel_rfl) (by kernel_rfl) (by kernel_rfl) (by decide) (fun _ _ _ h => h) (by rfl) (fun W' => by go_simp) hS ?_
      simp only [Act.put, List.setIfInBounds_toArray, List.set_cons_zero, List.set_cons_succ]
      refine tLoad 4 (some 38) lg rfl rfl (by kernel_rfl) (by kernel_rfl) (by kernel_rfl) (by decide) (by kernel_rfl) (by kernel_rfl) (fun _ _ _ h => h) (by rfl) (fun W' hS' => by have hc := hS'.1; go_simp) hS ?_
      simp only [Act.put, List.setIfInBounds_toArray, List.set_cons_zero, List.set_cons_succ]
      refine tLoadMid 5 (some 39) (tcC t) rfl rfl (by kernel_rfl) (by kernel_rfl) (by kernel_rfl) (by decide) (by kernel_rfl) (by kernel_rfl) (fun _ _ _ h => h) (by rfl) 49 (.tmp 4) rfl w.heap.size 0 rfl _ (fun _ h => h.2) Try.underlying49 rfl (sizeTc ht) hS ?_
      simp only [Act.put, List.setIfInBounds_toArray, List.set_cons_zero, List.set_cons_succ]
      obtain ⟨v8, w8, hr8, k8, e8, l8, o8, f8⟩ := L7.out.1.log_more t ht LG.out
      have hS8 : (fun W : World => W.cell? ⟨h, 6, none⟩ = some lg ∧ W.rangeAt w.heap.size 0 (tcC t)) w8 := ⟨(World.cell?_of_block (w := w7) (a := ⟨h, 6, none⟩) e8).trans hS.1, rangeAt_same hS.2 (o8 _ TB.out.1 TB.out.2)⟩
      have hS7 : (fun W : World => W.cell? ⟨h, 6, none⟩ = some lg ∧ W.rangeAt w.heap.size 0 (tcC t)) (w7.alloc (.cells (tcC t).toArray 49)) := ⟨(World.cell?_of_block (w := w7) (a := ⟨h, 6, none⟩) (Below.heap_alloc w7 _ h L7.out.1.blk.lt)).trans hS.1, rangeAt_same hS.2 (Below.heap_alloc w7 _ _ TB.out.1)⟩
      refine till_run 6 (some 40) (.slice (some ⟨w7.heap.size, 0, none⟩) 1 1) (w7.alloc (.cells (tcC t).toArray 49)) (by kernel_rfl) rfl rfl (by rfl) (exec_build 41 1 _ rfl #[(0, .agg (tcC t).toArray)] (by simp [Act.eval]) (build1_tc t ht w7)) hS7 ?_
      simp only [Act.put, List.setIfInBounds_toArray, List.set_cons_zero, List.set_cons_succ]
      refine till_run 7 (some 41) v8 w8 (by kernel_rfl) rfl rfl (by rfl) (exec_append (.tmp 38) (.tmp 40) 41 41 rfl rfl lg (.slice (some ⟨w7.heap.size, 0, none⟩) 1 1) rfl rfl hr8) hS8 ?_
      simp only [Act.put, List.setIfInBounds_toArray, List.set_cons_zero, List.set_cons_succ]
      clear hS hS7
      have hS := hS8
      refine tTake 8 (some 42) (.pointer (some ⟨h, 0, none⟩)) rfl rfl (by kernel_rfl) (by kernel_rfl) (by kernel_rfl) (by decide) (fun _ _ _ h => h) (by rfl) (fun W' => by go_simp) hS ?_
      simp only [Act.put, List.setIfInBounds_toArray, List.set_cons_zero, List.set_cons_succ]
      refine tTake 9 (some 43) (.pointer (some ⟨h, 6, none⟩)) rfl rfl (by kernel_rfl) (by kernel_rfl) (by kernel_rfl) (by decide) (fun _ _ _ h => h) (by rfl) (fun W' => by go_simp) hS ?_
      simp only [Act.put, List.setIfInBounds_toArray, List.set_cons_zero, List.set_cons_succ]
      have c8 := hS.1
      have g8 : w8.frozen? ⟨h, 6, none⟩ = false := (World.frozen?_of_block (w := w7) (a := ⟨h, 6, none⟩) e8).trans (L7.out.1.blk.frozen 6)
      have F8 : Hid (HostIn (w8.setCell ⟨h, 6, none⟩ v8) (more M2 w7 (w8.setCell ⟨h, 6, none⟩ v8)) h (s2.logged t) gl2 gm2 v8 rws2 n2 D2 ∧ Kept M2 w7 (w8.setCell ⟨h, 6, none⟩ v8)) := f8 _ rfl
      clear hS hS8 f8 k8 o8 hr8
      obtain ⟨vo, vn, vc, rfl⟩ := own_slice F8.out.1.log.own
      refine till_at (by kernel_rfl) ?_
      refine wpAny_ready (rs := [10]) (by kernel_rfl) (by simp) (AllReady.cons rfl (fun K hK => ?_) AllReady.nil)
      go_simp
      refine hK _ _ ?_
      clear hK K
      refine wpAny_done (by kernel_rfl) (NoPanic.normal ?_) _
      have FIN : Hid (∃ M3, HostAt (w8.setCell ⟨h, 6, none⟩ (.slice vo vn vc)) M3 h (s2.logged t) ∧ (∀ k, M k → M3 k) ∧ (∀ k, M3 k → M k ∨ w.heap.size ≤ k) ∧ Kept (fun k => M k ∨ C k) w (w8.setCell ⟨h, 6, none⟩ (.slice vo vn vc)) ∧ Post M3 (w8.setCell ⟨h, 6, none⟩ (.slice vo vn vc))) := by
        obtain ⟨q1, q2⟩ := F8.out
        refine ⟨_, q1.at, fun k hk => .inl (TB6.out.2.2.1 k hk), fun k hk => ?_, ?_, hst M2 w7 _ L7.out.2.2.1 L7.out.1.all q2⟩
        · have := T5.out.2.2.2.2
          have := TB6.out.2.2.2.2
          have := L7.out.2.2.2
          rcases hk with hk | hk
          · rcases TB6.out.2.2.2.1 k hk with h3 | h3
            · exact .inl h3
            · exact .inr (by omega)
          · exact .inr (by omega)
        · have k7 := L7.out.2.1
          have := T5.out.2.2.2.2
          have := k7.size
          refine ⟨q2.os.trans k7.os, q2.tape.trans k7.tape, q2.output.trans k7.output, Nat.le_trans k7.size q2.size, fun k hk hS => (q2.block k (by omega) (fun hm => ?_)).trans (k7.block k hk hS)⟩
          rcases TB6.out.2.2.2.1 k hm with h3 | h3
          · exact hS (.inl h3)
          · omega
      clear F8 L7 c8 g8 e8 l8
      rcases HQ.out.2 with h0 | h0
      · have q2 : (pw == 2) = false := by simp [h0]
        have HR : Hid ((if s.pow = 2 then (110 : Int) else 0) = 0) := if_neg (by rw [HP.out]; omega)
        clear h0
        go_wp2_with fail
        go_ret
        exact .inr ⟨HH.out.1, by rw [HP.out]; exact HQ.out.1, by rw [HR.out]; rfl, FIN.out⟩
      · have q2 : (pw == 2) = true := by simp [h0]
        have HR : Hid ((if s.pow = 2 then (110 : Int) else 0) = 110) := if_pos (by rw [HP.out]; omega)
        clear h0
        go_wp2_with fail
        go_ret
        exact .inr ⟨HH.out.1, by rw [HP.out]; exact HQ.out.1, by rw [HR.out]; rfl, FIN.out⟩
  · have HH : Hid (s.down = true) := hd
    clear HD hst hdr x
    go_enter Try.func49, Try.ntmps49
    go_wp2_with (first | (refine wpList_box_new rfl 49 _ rfl (tcC t) rfl ?_; intro w1 b1 s1 l1; have c7 : w1.cell? ⟨h, 7, none⟩ = some (.bool true) := by { rw [← HH.out]; exact (X.out.1.later l1).blk.cell 7 }))
    go_ret
    exact .inl ⟨.inl ⟨HH.out, rfl, (X.out.1.later l1).at⟩, Kept.new _ l1⟩
end Go.Proofs.Ytobcolpdkcppoaa
