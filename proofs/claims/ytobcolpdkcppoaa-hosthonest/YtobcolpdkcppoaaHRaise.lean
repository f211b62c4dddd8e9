/- Layer host: Raise. -/
import Derived.Test.YtobcolpdkcppoaaHAsk
namespace Go.Proofs.Ytobcolpdkcppoaa
open Go.RowKit
set_option linter.unusedVariables false
set_option linter.unusedSimpArgs false

def raiseF (v : Int) (s : HSt) : HSt := { s with reg := if s.reg < v then v else s.reg }
theorem below_len {w w3 w4 : World} (h : Below w3.heap.size w3 w4) (h0 : Below w.heap.size w w3) : Below w3.heap.size w3 w4 := h
set_option maxRecDepth 20000 in
set_option maxHeartbeats 1000000 in
theorem raise1_any (h : Nat) (s : HSt) (v : Int) (hv : Word v) (fv : Value) (bh bv : Nat) (M : Nat → Prop) (w : World) (x : HostAt w M h s) (b1 : Blk w bh 26 [.pointer (some ⟨h, 0, none⟩)]) (b2 : Blk w bv 31 [.int .u64 v]) :
    Calls Try.prog 62 #[fv, .pointer (some ⟨bh, 0, none⟩), .pointer (some ⟨bv, 0, none⟩)] w fun e w' => e = .returned (.tuple #[]) ∧ HostAt w' M h (raiseF v s) ∧ Kept (fun k => k = h) w w' := by
  obtain ⟨gl, gm, lg, rws, n, D, x⟩ := x
  have X : Hid (HostIn w M h s gl gm lg rws n D) := x
  have c0 : w.cell? ⟨bh, 0, none⟩ = some (.pointer (some ⟨h, 0, none⟩)) := b1.cell 0
  have c1 : w.cell? ⟨bv, 0, none⟩ = some (.int .u64 v) := b2.cell 0
  have c3 : w.cell? ⟨h, 3, none⟩ = some (.int .u64 s.reg) := x.blk.cell 3
  have f3 : w.frozen? ⟨h, 3, none⟩ = false := x.blk.frozen 3
  have hr := x.good.reg
  clear x b1 b2
  have FIN : Hid (∀ w', w' = ({ w with drawn := w.drawn + 1 } : World).setCell ⟨h, 3, none⟩ (.int .u64 (if s.reg < v then v else s.reg)) → HostAt w' M h (raiseF v s) ∧ Kept (fun k => k = h) w w') := fun w' hw' => by
    subst hw'
    have hk : Kept (fun k => k = h) w (({ w with drawn := w.drawn + 1 } : World).setCell ⟨h, 3, none⟩ (.int .u64 (if s.reg < v then v else s.reg))) := Kept.setCell (a := w) (p := ⟨h, 3, none⟩) (Kept.refl (fun k => k = h) w).drew rfl _
    exact ⟨(X.out.turned (raiseF v s) ⟨X.out.good.size, X.out.good.pages, X.out.good.depth, by show Word (if s.reg < v then v else s.reg); split; exact hv; exact X.out.good.reg, X.out.good.ops, X.out.good.log, X.out.good.laid, X.out.good.len⟩ rfl rfl rfl rfl (Blk.set (w := { w with drawn := w.drawn + 1 }) X.out.blk 3 _) hk).at, hk⟩
  by_cases hlt : s.reg < v
  · have e1 : (if s.reg < v then v else s.reg) = v := if_pos hlt
    rw [e1] at FIN
    clear e1
    go_enter Try.func62, Try.ntmps62
    refine wp_region_noPanic (till_region 9 (fun W => W.cell? ⟨bh, 0, none⟩ = some (.pointer (some ⟨h, 0, none⟩)) ∧ W.cell? ⟨bv, 0, none⟩ = some (.int .u64 v) ∧ W.cell? ⟨h, 3, none⟩ = some (.int .u64 s.reg)) (by kernel_rfl) ?_)
    have hS : (fun W : World => W.cell? ⟨bh, 0, none⟩ = some (.pointer (some ⟨h, 0, none⟩)) ∧ W.cell? ⟨bv, 0, none⟩ = some (.int .u64 v) ∧ W.cell? ⟨h, 3, none⟩ = some (.int .u64 s.reg)) { w with drawn := w.drawn + 1 } := ⟨c0, c1, c3⟩
    refine tLoad 0 (some 4) (.pointer (some ⟨h, 0, none⟩)) rfl rfl (by kernel_rfl) (by kernel_rfl) (by kernel_rfl) (by decide) (by kernel_rfl) (by kernel_rfl) (fun _ _ _ h => h) (by rfl) (fun W' hS' => by obtain ⟨s1, s2, s3⟩ := hS'; go_simp) hS ?_
    simp only [Act.put, List.setIfInBounds_toArray, List.set_cons_zero, List.set_cons_succ]
    refine tLoad 1 (some 5) (.pointer (some ⟨h, 0, none⟩)) rfl rfl (by kernel_rfl) (by kernel_rfl) (by kernel_rfl) (by decide) (by kernel_rfl) (by kernel_rfl) (fun _ _ _ h => h) (by rfl) (fun W' hS' => by obtain ⟨s1, s2, s3⟩ := hS'; go_simp) hS ?_
    simp only [Act.put, List.setIfInBounds_toArray, List.set_cons_zero, List.set_cons_succ]
    refine tTake 2 (some 6) (.pointer (some ⟨h, 0, none⟩)) rfl rfl (by kernel_rfl) (by kernel_rfl) (by kernel_rfl) (by decide) (fun _ _ _ h => h) (by rfl) (fun W' => by go_simp) hS ?_
    simp only [Act.put, List.setIfInBounds_toArray, List.set_cons_zero, List.set_cons_succ]
    refine tTake 3 (some 7) (.pointer (some ⟨h, 3, none⟩)) rfl rfl (by kernel_rfl) (by kernel_rfl) (by kernel_rfl) (by decide) (fun _ _ _ h => h) (by rfl) (fun W' => by go_simp) hS ?_
    simp only [Act.put, List.setIfInBounds_toArray, List.set_cons_zero, List.set_cons_succ]
    refine tLoad 4 (some 8) (.int .u64 s.reg) rfl rfl (by kernel_rfl) (by kernel_rfl) (by kernel_rfl) (by decide) (by kernel_rfl) (by kernel_rfl) (fun _ _ _ h => h) (by rfl) (fun W' hS' => by obtain ⟨s1, s2, s3⟩ := hS'; go_simp) hS ?_
    simp only [Act.put, List.setIfInBounds_toArray, List.set_cons_zero, List.set_cons_succ]
    refine tLoad 5 (some 9) (.int .u64 v) rfl rfl (by kernel_rfl) (by kernel_rfl) (by kernel_rfl) (by decide) (by kernel_rfl) (by kernel_rfl) (fun _ _ _ h => h) (by rfl) (fun W' hS' => by obtain ⟨s1, s2, s3⟩ := hS'; go_simp) hS ?_
    simp only [Act.put, List.setIfInBounds_toArray, List.set_cons_zero, List.set_cons_succ]
    refine tTake 6 (some 10) (.int .u64 v) rfl rfl (by kernel_rfl) (by kernel_rfl) (by kernel_rfl) (by decide) (fun _ _ _ h => h) (by rfl) (fun W' => by first | (go_simp; done) | (go_simp; omega)) hS ?_
    simp only [Act.put, List.setIfInBounds_toArray, List.set_cons_zero, List.set_cons_succ]
    refine tTake 7 (some 11) (.pointer (some ⟨h, 0, none⟩)) rfl rfl (by kernel_rfl) (by kernel_rfl) (by kernel_rfl) (by decide) (fun _ _ _ h => h) (by rfl) (fun W' => by go_simp) hS ?_
    simp only [Act.put, List.setIfInBounds_toArray, List.set_cons_zero, List.set_cons_succ]
    refine tTake 8 (some 12) (.pointer (some ⟨h, 3, none⟩)) rfl rfl (by kernel_rfl) (by kernel_rfl) (by kernel_rfl) (by decide) (fun _ _ _ h => h) (by rfl) (fun W' => by go_simp) hS ?_
    simp only [Act.put, List.setIfInBounds_toArray, List.set_cons_zero, List.set_cons_succ]
    clear hS
    refine till_at (by kernel_rfl) ?_
    refine wpAny_ready (rs := [9]) (by kernel_rfl) (by simp) (AllReady.cons rfl (fun K hK => ?_) AllReady.nil)
    go_simp
    refine hK _ _ ?_
    clear hK K
    refine wpAny_done (by kernel_rfl) (NoPanic.normal ?_) _
    go_end0
    exact ⟨rfl, FIN.out _ rfl⟩
  · have e1 : (if s.reg < v then v else s.reg) = s.reg := if_neg hlt
    rw [e1] at FIN
    have hle : v ≤ s.reg := by omega
    clear e1 hlt
    go_enter Try.func62, Try.ntmps62
    refine wp_region_noPanic (till_region 9 (fun W => W.cell? ⟨bh, 0, none⟩ = some (.pointer (some ⟨h, 0, none⟩)) ∧ W.cell? ⟨bv, 0, none⟩ = some (.int .u64 v) ∧ W.cell? ⟨h, 3, none⟩ = some (.int .u64 s.reg)) (by kernel_rfl) ?_)
    have hS : (fun W : World => W.cell? ⟨bh, 0, none⟩ = some (.pointer (some ⟨h, 0, none⟩)) ∧ W.cell? ⟨bv, 0, none⟩ = some (.int .u64 v) ∧ W.cell? ⟨h, 3, none⟩ = some (.int .u64 s.reg)) { w with drawn := w.drawn + 1 } := ⟨c0, c1, c3⟩
    refine tLoad 0 (some 4) (.pointer (some ⟨h, 0, none⟩)) rfl rfl (by kernel_rfl) (by kernel_rfl) (by kernel_rfl) (by decide) (by kernel_rfl) (by kernel_rfl) (fun _ _ _ h => h) (by rfl) (fun W' hS' => by obtain ⟨s1, s2, s3⟩ := hS'; go_simp) hS ?_
    simp only [Act.put, List.setIfInBounds_toArray, List.set_cons_zero, List.set_cons_succ]
    refine tLoad 1 (some 5) (.pointer (some ⟨h, 0, none⟩)) rfl rfl (by kernel_rfl) (by kernel_rfl) (by kernel_rfl) (by decide) (by kernel_rfl) (by kernel_rfl) (fun _ _ _ h => h) (by rfl) (fun W' hS' => by obtain ⟨s1, s2, s3⟩ := hS'; go_simp) hS ?_
    simp only [Act.put, List.setIfInBounds_toArray, List.set_cons_zero, List.set_cons_succ]
    refine tTake 2 (some 6) (.pointer (some ⟨h, 0, none⟩)) rfl rfl (by kernel_rfl) (by kernel_rfl) (by kernel_rfl) (by decide) (fun _ _ _ h => h) (by rfl) (fun W' => by go_simp) hS ?_
    simp only [Act.put, List.setIfInBounds_toArray, List.set_cons_zero, List.set_cons_succ]
    refine tTake 3 (some 7) (.pointer (some ⟨h, 3, none⟩)) rfl rfl (by kernel_rfl) (by kernel_rfl) (by kernel_rfl) (by decide) (fun _ _ _ h => h) (by rfl) (fun W' => by go_simp) hS ?_
    simp only [Act.put, List.setIfInBounds_toArray, List.set_cons_zero, List.set_cons_succ]
    refine tLoad 4 (some 8) (.int .u64 s.reg) rfl rfl (by kernel_rfl) (by kernel_rfl) (by kernel_rfl) (by decide) (by kernel_rfl) (by kernel_rfl) (fun _ _ _ h => h) (by rfl) (fun W' hS' => by obtain ⟨s1, s2, s3⟩ := hS'; go_simp) hS ?_
    simp only [Act.put, List.setIfInBounds_toArray, List.set_cons_zero, List.set_cons_succ]
    refine tLoad 5 (some 9) (.int .u64 v) rfl rfl (by kernel_rfl) (by kernel_rfl) (by kernel_rfl) (by decide) (by kernel_rfl) (by kernel_rfl) (fun _ _ _ h => h) (by rfl) (fun W' hS' => by obtain ⟨s1, s2, s3⟩ := hS'; go_simp) hS ?_
    simp only [Act.put, List.setIfInBounds_toArray, List.set_cons_zero, List.set_cons_succ]
    refine tTake 6 (some 10) (.int .u64 s.reg) rfl rfl (by kernel_rfl) (by kernel_rfl) (by kernel_rfl) (by decide) (fun _ _ _ h => h) (by rfl) (fun W' => by first | (go_simp; done) | (go_simp; omega)) hS ?_
    simp only [Act.put, List.setIfInBounds_toArray, List.set_cons_zero, List.set_cons_succ]
    refine tTake 7 (some 11) (.pointer (some ⟨h, 0, none⟩)) rfl rfl (by kernel_rfl) (by kernel_rfl) (by kernel_rfl) (by decide) (fun _ _ _ h => h) (by rfl) (fun W' => by go_simp) hS ?_
    simp only [Act.put, List.setIfInBounds_toArray, List.set_cons_zero, List.set_cons_succ]
    refine tTake 8 (some 12) (.pointer (some ⟨h, 3, none⟩)) rfl rfl (by kernel_rfl) (by kernel_rfl) (by kernel_rfl) (by decide) (fun _ _ _ h => h) (by rfl) (fun W' => by go_simp) hS ?_
    simp only [Act.put, List.setIfInBounds_toArray, List.set_cons_zero, List.set_cons_succ]
    clear hS
    refine till_at (by kernel_rfl) ?_
    refine wpAny_ready (rs := [9]) (by kernel_rfl) (by simp) (AllReady.cons rfl (fun K hK => ?_) AllReady.nil)
    go_simp
    refine hK _ _ ?_
    clear hK K
    refine wpAny_done (by kernel_rfl) (NoPanic.normal ?_) _
    go_end0
    exact ⟨rfl, FIN.out _ rfl⟩
set_option maxRecDepth 20000 in
set_option maxHeartbeats 2000000 in
theorem raise_any (h : Nat) (s : HSt) (v : Int) (hv : Word v) (M : Nat → Prop) (w : World) (x : HostAt w M h s) (hops : s.ops < 3000000000000) :
    Calls Try.prog 39 #[.pointer (some ⟨h, 0, none⟩), .int .u64 v] w fun e w' => e = .returned (.int .i64 (if s.opE = 0 ∧ v ≤ s.reg then 111 else s.opE)) ∧ ∃ M2, HostAt w' M2 h (s.opS (raiseF v) (tcA 3)) ∧ Goes M M2 w w' := by
  have CO : Hid (∀ bv w3 w4, w.heap.size ≤ bv → HostAt w3 M h s → Blk w3 w.heap.size 26 [.pointer (some ⟨h, 0, none⟩)] → Blk w3 bv 31 [.int .u64 v] → Below w3.heap.size w3 w4 → Calls Try.prog 49 #[.pointer (some ⟨h, 0, none⟩), .agg (tcC (tcA 3)).toArray, .func (.func 62) #[] #[.pointer (some ⟨w.heap.size, 0, none⟩), .pointer (some ⟨bv, 0, none⟩)]] w4 fun e w' => e = .returned (.int .i64 s.opE) ∧ ∃ M2, HostAt w' M2 h (s.opS (raiseF v) (tcA 3)) ∧ (∀ k, M k → M2 k) ∧ (∀ k, M2 k → M k ∨ w4.heap.size ≤ k) ∧ Kept (fun k => M k ∨ False) w4 w' ∧ (s.done → True)) := fun bv w3 w4 hbv y b1 b2 l4 =>
    operate_all h s (raiseF v) (tcA 3) rfl 62 _ enter_raise M (fun _ => False) (fun _ _ => True) w4 (y.later l4) hops (fun _ h => h.elim) (fun _ _ _ => trivial) (fun _ _ _ _ _ _ => trivial) ⟨rfl, rfl⟩ (fun _ W fv y2 _ k4 => by
      have nb : ∀ b, w.heap.size ≤ b → ¬ M b := fun b hb e => by have := x.all b e; omega
      refine (raise1_any h s.next v hv fv _ _ M W y2 ((b1.later l4 b1.lt).kept k4 (nb _ (Nat.le_refl _))) ((b2.later l4 b2.lt).kept k4 (nb _ hbv))).mono ?_
      rintro e W' ⟨rfl, y3, k3⟩
      exact ⟨rfl, M, y3, fun _ h => h, fun _ h => .inl h, k3.mono (fun k e => by subst e; obtain ⟨_, _, _, _, _, _, q⟩ := y2; exact .inl q.mh), trivial⟩)
  have X : Hid (HostAt w M h s) := x
  have hh : h < w.heap.size := by obtain ⟨_, _, _, _, _, _, q⟩ := x; exact q.blk.lt
  have c3 : w.cell? ⟨h, 3, none⟩ = some (.int .u64 s.reg) := by obtain ⟨_, _, _, _, _, _, q⟩ := x; exact q.blk.cell 3
  have hr : Word s.reg := by obtain ⟨_, _, _, _, _, _, q⟩ := x; exact q.good.reg
  have hE := opE_eq s
  obtain ⟨E, hE'⟩ : ∃ q, s.opE = q := ⟨_, rfl⟩
  rw [hE'] at hE CO ⊢
  clear hE' x hops
  go_enter Try.func39, Try.ntmps39
  go_wp2_with (first | ((with_reducible show wpList _ _ _ (({ dst := some 2, op := _, type := _, pos := _, after := _, guard := _ } : Oper) :: _) _ _); refine wpList_boxV rfl 26 _ rfl (.pointer (some ⟨h, 0, none⟩)) rfl rfl ?_; intro w1 b1 s1 l1; have z1 : Hid (w1.heap.size = w.heap.size + 1) := s1; clear s1) | ((with_reducible show wpList _ _ _ (({ dst := some 3, op := _, type := _, pos := _, after := _, guard := _ } : Oper) :: _) _ _); refine wpList_boxV rfl 31 _ rfl (.int .u64 v) rfl rfl ?_; intro w2 b2 s2 l2; have z2 : Hid (w2.heap.size = w1.heap.size + 1) := s2; clear s2; have d0 : w2.cell? ⟨w.heap.size, 0, none⟩ = some (.pointer (some ⟨h, 0, none⟩)) := (b1.later l2 b1.lt).cell 0; have d1 : w2.cell? ⟨w1.heap.size, 0, none⟩ = some (.int .u64 v) := b2.cell 0; have d3 : w2.cell? ⟨h, 3, none⟩ = some (.int .u64 s.reg) := ((l2.cell (p := ⟨h, 3, none⟩) (by have := l1.size; exact Nat.lt_of_lt_of_le hh this)).trans (l1.cell (p := ⟨h, 3, none⟩) hh)).trans c3))
  have V2 : Hid (HostAt w2 M h s ∧ Blk w2 w.heap.size 26 [.pointer (some ⟨h, 0, none⟩)] ∧ Blk w2 w1.heap.size 31 [.int .u64 v] ∧ Below w.heap.size w w2) := ⟨(X.out.later l1).later l2, b1.later l2 b1.lt, b2, below_chain l1 l2 l1.size⟩
  clear b1 b2 l1 l2 c3 hh z2
  by_cases hlt : s.reg < v
  · have hn : ¬ (E = 0 ∧ v ≤ s.reg) := fun h => by omega
    have HN : Hid ((if E = 0 ∧ v ≤ s.reg then (111 : Int) else E) = E) := if_neg hn
    clear hn
    go_quiet (fail)
    go_wp2_with fail
    rcases hE with rfl | rfl
    all_goals
      refine wp_region_noPanic (till_region 5 (fun W => W.cell? ⟨w.heap.size, 0, none⟩ = some (.pointer (some ⟨h, 0, none⟩))) (by kernel_rfl) ?_)
      obtain ⟨w3, hw3⟩ : ∃ q, ({ (w2.drewN nq) with drawn := (w2.drewN nq).drawn + 1 } : World) = q := ⟨_, rfl⟩
      have V3 : Hid (HostAt w3 M h s ∧ Blk w3 w.heap.size 26 [.pointer (some ⟨h, 0, none⟩)] ∧ Blk w3 w1.heap.size 31 [.int .u64 v] ∧ Below w.heap.size w w3) := by rw [← hw3]; exact ⟨V2.out.1.frame ⟨Nat.le_refl _, fun _ _ => rfl⟩, V2.out.2.1, V2.out.2.2.1, ⟨V2.out.2.2.2.os, V2.out.2.2.2.tape, V2.out.2.2.2.output, V2.out.2.2.2.size, V2.out.2.2.2.block⟩⟩
      have hw3' : ({ heap := (w2.drewN nq).heap, tape := (w2.drewN nq).tape, drawn := (w2.drewN nq).drawn + 1, os := (w2.drewN nq).os, output := (w2.drewN nq).output } : World) = w3 := hw3
      rw [hw3']
      clear hw3 hw3'
      have hS : (fun W : World => W.cell? ⟨w.heap.size, 0, none⟩ = some (.pointer (some ⟨h, 0, none⟩))) w3 := V3.out.2.1.cell 0
      refine tLoad 0 (some 15) (.pointer (some ⟨h, 0, none⟩)) rfl rfl (by kernel_rfl) (by kernel_rfl) (by kernel_rfl) (by decide) (by kernel_rfl) (by kernel_rfl) (fun _ _ _ h => h) (by rfl) (fun W' hS' => by have hc := hS'; go_simp) hS ?_
      simp only [Act.put, List.setIfInBounds_toArray, List.set_cons_zero, List.set_cons_succ]
      refine tLoad 1 (some 16) (.pointer (some ⟨h, 0, none⟩)) rfl rfl (by kernel_rfl) (by kernel_rfl) (by kernel_rfl) (by decide) (by kernel_rfl) (by kernel_rfl) (fun _ _ _ h => h) (by rfl) (fun W' hS' => by have hc := hS'; go_simp) hS ?_
      simp only [Act.put, List.setIfInBounds_toArray, List.set_cons_zero, List.set_cons_succ]
      refine tTake 3 (some 18) (.func (.func 62) #[] #[.pointer (some ⟨w.heap.size, 0, none⟩), .pointer (some ⟨w1.heap.size, 0, none⟩)]) rfl rfl (by kernel_rfl) (by kernel_rfl) (by kernel_rfl) (by decide) (fun _ _ _ h => h) (by rfl) (fun W' => by go_simp) hS ?_
      simp only [Act.put, List.setIfInBounds_toArray, List.set_cons_zero, List.set_cons_succ]
      refine till_ready 2 (by kernel_rfl) rfl (fun K hK => ?_)
      go_simp
      go_wp2_with (go_at_call 50; refine (touch_reg h s 3 (.inr rfl) M w3 V3.out.1).mono ?_; rintro e w4 ⟨rfl, l4⟩)
      have hS4 : (fun W : World => W.cell? ⟨w.heap.size, 0, none⟩ = some (.pointer (some ⟨h, 0, none⟩))) w4 := (V3.out.2.1.later l4 V3.out.2.1.lt).cell 0
      refine ⟨hS4, ?_⟩
      refine till_ready 4 (by kernel_rfl) rfl (fun K hK => ?_)
      go_simp
      go_wp2_with (go_at_call 49; refine (CO.out w1.heap.size w3 w4 (by have := z1.out; omega) V3.out.1 V3.out.2.1 V3.out.2.2.1 l4).mono ?_; rintro e w5 ⟨rfl, M2, y, m1, m2, k5, _⟩)
      have U5 : Hid (HostAt w5 M2 h (s.opS (raiseF v) (tcA 3)) ∧ Goes M M2 w w5 ∧ Blk w5 w.heap.size 26 [.pointer (some ⟨h, 0, none⟩)]) := by
        have kM : Kept M w4 w5 := k5.mono (fun k e => e.elim id False.elim)
        exact ⟨y, Goes.later V3.out.2.2.2 (Goes.later l4 ⟨m1, m2, kM⟩), (V3.out.2.1.later l4 V3.out.2.1.lt).kept kM (fun e => by have := X.out.all _ e; omega)⟩
      have hS5 : (fun W : World => W.cell? ⟨w.heap.size, 0, none⟩ = some (.pointer (some ⟨h, 0, none⟩))) w5 := U5.out.2.2.cell 0
      refine ⟨hS5, ?_⟩
      clear y m1 m2 k5 l4 hS hS4 hS5
      refine till_at (by kernel_rfl) ?_
      refine take_op 5 (some 6) (.int .i64 _) rfl rfl (by kernel_rfl) (by kernel_rfl) (by kernel_rfl) (fun _ _ _ h => h) (by rfl) (fun _ => by rfl) ?_
      simp only [Act.put, List.setIfInBounds_toArray, List.set_cons_zero, List.set_cons_succ]
      refine wpAny_done (by kernel_rfl) (NoPanic.normal ?_) _
      go_wp2_with fail
      go_ret
      exact ⟨ret_int (by first | rfl | exact HN.out.symm), M2, U5.out.1, U5.out.2.1⟩
  · have hle : v ≤ s.reg := by omega
    go_quiet (fail)
    go_wp2_with fail
    rcases hE with rfl | rfl
    · have HN : Hid ((if (0 : Int) = 0 ∧ v ≤ s.reg then (111 : Int) else 0) = 111) := if_pos ⟨rfl, hle⟩
      refine wp_region_noPanic (till_region 5 (fun W => W.cell? ⟨w.heap.size, 0, none⟩ = some (.pointer (some ⟨h, 0, none⟩))) (by kernel_rfl) ?_)
      obtain ⟨w3, hw3⟩ : ∃ q, ({ (w2.drewN nq) with drawn := (w2.drewN nq).drawn + 1 } : World) = q := ⟨_, rfl⟩
      have V3 : Hid (HostAt w3 M h s ∧ Blk w3 w.heap.size 26 [.pointer (some ⟨h, 0, none⟩)] ∧ Blk w3 w1.heap.size 31 [.int .u64 v] ∧ Below w.heap.size w w3) := by rw [← hw3]; exact ⟨V2.out.1.frame ⟨Nat.le_refl _, fun _ _ => rfl⟩, V2.out.2.1, V2.out.2.2.1, ⟨V2.out.2.2.2.os, V2.out.2.2.2.tape, V2.out.2.2.2.output, V2.out.2.2.2.size, V2.out.2.2.2.block⟩⟩
      have hw3' : ({ heap := (w2.drewN nq).heap, tape := (w2.drewN nq).tape, drawn := (w2.drewN nq).drawn + 1, os := (w2.drewN nq).os, output := (w2.drewN nq).output } : World) = w3 := hw3
      rw [hw3']
      clear hw3 hw3'
      have hS : (fun W : World => W.cell? ⟨w.heap.size, 0, none⟩ = some (.pointer (some ⟨h, 0, none⟩))) w3 := V3.out.2.1.cell 0
      refine tLoad 0 (some 15) (.pointer (some ⟨h, 0, none⟩)) rfl rfl (by kernel_rfl) (by kernel_rfl) (by kernel_rfl) (by decide) (by kernel_rfl) (by kernel_rfl) (fun _ _ _ h => h) (by rfl) (fun W' hS' => by have hc := hS'; go_simp) hS ?_
      simp only [Act.put, List.setIfInBounds_toArray, List.set_cons_zero, List.set_cons_succ]
      refine tLoad 1 (some 16) (.pointer (some ⟨h, 0, none⟩)) rfl rfl (by kernel_rfl) (by kernel_rfl) (by kernel_rfl) (by decide) (by kernel_rfl) (by kernel_rfl) (fun _ _ _ h => h) (by rfl) (fun W' hS' => by have hc := hS'; go_simp) hS ?_
      simp only [Act.put, List.setIfInBounds_toArray, List.set_cons_zero, List.set_cons_succ]
      refine tTake 3 (some 18) (.func (.func 62) #[] #[.pointer (some ⟨w.heap.size, 0, none⟩), .pointer (some ⟨w1.heap.size, 0, none⟩)]) rfl rfl (by kernel_rfl) (by kernel_rfl) (by kernel_rfl) (by decide) (fun _ _ _ h => h) (by rfl) (fun W' => by go_simp) hS ?_
      simp only [Act.put, List.setIfInBounds_toArray, List.set_cons_zero, List.set_cons_succ]
      refine till_ready 2 (by kernel_rfl) rfl (fun K hK => ?_)
      go_simp
      go_wp2_with (go_at_call 50; refine (touch_reg h s 3 (.inr rfl) M w3 V3.out.1).mono ?_; rintro e w4 ⟨rfl, l4⟩)
      have hS4 : (fun W : World => W.cell? ⟨w.heap.size, 0, none⟩ = some (.pointer (some ⟨h, 0, none⟩))) w4 := (V3.out.2.1.later l4 V3.out.2.1.lt).cell 0
      refine ⟨hS4, ?_⟩
      refine till_ready 4 (by kernel_rfl) rfl (fun K hK => ?_)
      go_simp
      go_wp2_with (go_at_call 49; refine (CO.out w1.heap.size w3 w4 (by have := z1.out; omega) V3.out.1 V3.out.2.1 V3.out.2.2.1 l4).mono ?_; rintro e w5 ⟨rfl, M2, y, m1, m2, k5, _⟩)
      have U5 : Hid (HostAt w5 M2 h (s.opS (raiseF v) (tcA 3)) ∧ Goes M M2 w w5 ∧ Blk w5 w.heap.size 26 [.pointer (some ⟨h, 0, none⟩)]) := by
        have kM : Kept M w4 w5 := k5.mono (fun k e => e.elim id False.elim)
        exact ⟨y, Goes.later V3.out.2.2.2 (Goes.later l4 ⟨m1, m2, kM⟩), (V3.out.2.1.later l4 V3.out.2.1.lt).kept kM (fun e => by have := X.out.all _ e; omega)⟩
      have hS5 : (fun W : World => W.cell? ⟨w.heap.size, 0, none⟩ = some (.pointer (some ⟨h, 0, none⟩))) w5 := U5.out.2.2.cell 0
      refine ⟨hS5, ?_⟩
      clear y m1 m2 k5 l4 hS hS4 hS5
      refine till_at (by kernel_rfl) ?_
      refine take_op 5 (some 6) (.int .i64 0) rfl rfl (by kernel_rfl) (by kernel_rfl) (by kernel_rfl) (fun _ _ _ h => h) (by rfl) (fun _ => by rfl) ?_
      simp only [Act.put, List.setIfInBounds_toArray, List.set_cons_zero, List.set_cons_succ]
      refine wpAny_done (by kernel_rfl) (NoPanic.normal ?_) _
      go_wp2_with fail
      go_ret
      exact ⟨ret_int (by first | rfl | exact HN.out.symm), M2, U5.out.1, U5.out.2.1⟩
    · have HN : Hid ((if (110 : Int) = 0 ∧ v ≤ s.reg then (111 : Int) else 110) = 110) := if_neg (fun h => by have := h.1; omega)
      refine wp_region_noPanic (till_region 5 (fun W => W.cell? ⟨w.heap.size, 0, none⟩ = some (.pointer (some ⟨h, 0, none⟩))) (by kernel_rfl) ?_)
      obtain ⟨w3, hw3⟩ : ∃ q, ({ (w2.drewN nq) with drawn := (w2.drewN nq).drawn + 1 } : World) = q := ⟨_, rfl⟩
      have V3 : Hid (HostAt w3 M h s ∧ Blk w3 w.heap.size 26 [.pointer (some ⟨h, 0, none⟩)] ∧ Blk w3 w1.heap.size 31 [.int .u64 v] ∧ Below w.heap.size w w3) := by rw [← hw3]; exact ⟨V2.out.1.frame ⟨Nat.le_refl _, fun _ _ => rfl⟩, V2.out.2.1, V2.out.2.2.1, ⟨V2.out.2.2.2.os, V2.out.2.2.2.tape, V2.out.2.2.2.output, V2.out.2.2.2.size, V2.out.2.2.2.block⟩⟩
      have hw3' : ({ heap := (w2.drewN nq).heap, tape := (w2.drewN nq).tape, drawn := (w2.drewN nq).drawn + 1, os := (w2.drewN nq).os, output := (w2.drewN nq).output } : World) = w3 := hw3
      rw [hw3']
      clear hw3 hw3'
      have hS : (fun W : World => W.cell? ⟨w.heap.size, 0, none⟩ = some (.pointer (some ⟨h, 0, none⟩))) w3 := V3.out.2.1.cell 0
      refine tLoad 0 (some 15) (.pointer (some ⟨h, 0, none⟩)) rfl rfl (by kernel_rfl) (by kernel_rfl) (by kernel_rfl) (by decide) (by kernel_rfl) (by kernel_rfl) (fun _ _ _ h => h) (by rfl) (fun W' hS' => by have hc := hS'; go_simp) hS ?_
      simp only [Act.put, List.setIfInBounds_toArray, List.set_cons_zero, List.set_cons_succ]
      refine tLoad 1 (some 16) (.pointer (some ⟨h, 0, none⟩)) rfl rfl (by kernel_rfl) (by kernel_rfl) (by kernel_rfl) (by decide) (by kernel_rfl) (by kernel_rfl) (fun _ _ _ h => h) (by rfl) (fun W' hS' => by have hc := hS'; go_simp) hS ?_
      simp only [Act.put, List.setIfInBounds_toArray, List.set_cons_zero, List.set_cons_succ]
      refine tTake 3 (some 18) (.func (.func 62) #[] #[.pointer (some ⟨w.heap.size, 0, none⟩), .pointer (some ⟨w1.heap.size, 0, none⟩)]) rfl rfl (by kernel_rfl) (by kernel_rfl) (by kernel_rfl) (by decide) (fun _ _ _ h => h) (by rfl) (fun W' => by go_simp) hS ?_
      simp only [Act.put, List.setIfInBounds_toArray, List.set_cons_zero, List.set_cons_succ]
      refine till_ready 2 (by kernel_rfl) rfl (fun K hK => ?_)
      go_simp
      go_wp2_with (go_at_call 50; refine (touch_reg h s 3 (.inr rfl) M w3 V3.out.1).mono ?_; rintro e w4 ⟨rfl, l4⟩)
      have hS4 : (fun W : World => W.cell? ⟨w.heap.size, 0, none⟩ = some (.pointer (some ⟨h, 0, none⟩))) w4 := (V3.out.2.1.later l4 V3.out.2.1.lt).cell 0
      refine ⟨hS4, ?_⟩
      refine till_ready 4 (by kernel_rfl) rfl (fun K hK => ?_)
      go_simp
      go_wp2_with (go_at_call 49; refine (CO.out w1.heap.size w3 w4 (by have := z1.out; omega) V3.out.1 V3.out.2.1 V3.out.2.2.1 l4).mono ?_; rintro e w5 ⟨rfl, M2, y, m1, m2, k5, _⟩)
      have U5 : Hid (HostAt w5 M2 h (s.opS (raiseF v) (tcA 3)) ∧ Goes M M2 w w5 ∧ Blk w5 w.heap.size 26 [.pointer (some ⟨h, 0, none⟩)]) := by
        have kM : Kept M w4 w5 := k5.mono (fun k e => e.elim id False.elim)
        exact ⟨y, Goes.later V3.out.2.2.2 (Goes.later l4 ⟨m1, m2, kM⟩), (V3.out.2.1.later l4 V3.out.2.1.lt).kept kM (fun e => by have := X.out.all _ e; omega)⟩
      have hS5 : (fun W : World => W.cell? ⟨w.heap.size, 0, none⟩ = some (.pointer (some ⟨h, 0, none⟩))) w5 := U5.out.2.2.cell 0
      refine ⟨hS5, ?_⟩
      clear y m1 m2 k5 l4 hS hS4 hS5
      refine till_at (by kernel_rfl) ?_
      refine take_op 5 (some 6) (.int .i64 110) rfl rfl (by kernel_rfl) (by kernel_rfl) (by kernel_rfl) (fun _ _ _ h => h) (by rfl) (fun _ => by rfl) ?_
      simp only [Act.put, List.setIfInBounds_toArray, List.set_cons_zero, List.set_cons_succ]
      refine wpAny_done (by kernel_rfl) (NoPanic.normal ?_) _
      go_wp2_with fail
      go_ret
      exact ⟨ret_int (by first | rfl | exact HN.out.symm), M2, U5.out.1, U5.out.2.1⟩
end Go.Proofs.Ytobcolpdkcppoaa
