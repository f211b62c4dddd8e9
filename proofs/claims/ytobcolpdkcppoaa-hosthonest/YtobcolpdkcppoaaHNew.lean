/- Layer host: byOperation, New. -/
import Derived.Test.YtobcolpdkcppoaaHGroup
namespace Go.Proofs.Ytobcolpdkcppoaa
open Go.RowKit
set_option linter.unusedVariables false
set_option linter.unusedSimpArgs false

theorem Groups.made (w : World) : Groups (w.alloc (.map #[] 0)) w.heap.size 0 (.map []) (comeL []) (w.heap.size + 1) :=
  ⟨World.ownsMap_made w _ _ _, fun k => World.ownsRow_nil _ _ _ _, fun j k g _ h => by cases h⟩
set_option maxRecDepth 20000 in
set_option maxHeartbeats 2000000 in
theorem byOp_any (v : Value) (fs : List Fl) (M : Nat → Prop) (w : World) (x : FlS w M v fs) (hlen : fs.length * 48 ≤ 140737488355328) : Calls Try.prog 45 #[v] w fun e w' => ∃ gm n D, e = .returned (.tuple #[.map (some gm), .int .i64 (depL fs)]) ∧ Groups w' gm n D (comeL fs) (w.heap.size + 1) ∧ gm = w.heap.size ∧ Below w.heap.size w w' := by
  obtain ⟨ao, c, rfl, hx⟩ := x.ex
  have X : Hid (FlS w M (.slice ao fs.length c) fs ∧ fs.length * 48 ≤ 140737488355328) := ⟨x, hlen⟩
  have HX : Hid (∀ i, i < fs.length → ∃ b o, ao = some ⟨b, o, none⟩ ∧ b < w.heap.size ∧ M b ∧ w.rangeAt b (o + i * 6) (flC (fs.getD i default))) := hx
  have ht := x.top
  clear x hx hlen
  obtain ⟨n, hn⟩ : ∃ n, fs.length = n := ⟨_, rfl⟩
  rw [hn] at ht ⊢
  have HN : Hid (fs.length = n) := hn
  clear hn
  have hmm := @run_makeMap Try.prog
  have HM := Groups.made w
  have HMB : Below w.heap.size w (w.alloc (.map #[] 0)) := (Below.refl _ _).alloc (Nat.le_refl _) _
  have HMH : Hid (Groups (w.alloc (.map #[] 0)) w.heap.size 0 (.map []) (comeL []) (w.heap.size + 1) ∧ Below w.heap.size w (w.alloc (.map #[] 0))) := ⟨HM, HMB⟩
  clear HM HMB
  go_enter Try.func45, Try.ntmps45
  go_wp2
  go_loopw [5, 11] (fun d i wr => ∃ (k : Nat) (D : DataW Value), k ≤ n ∧ i = .int .i64 k ∧ Groups wr w.heap.size k D (comeL (fs.take k)) (w.heap.size + 1) ∧ Below w.heap.size w wr ∧ d = .int .i64 (depL (fs.take k))) (fun _ i _ => n - (intOf i).toNat)
  case atStart => exact ⟨0, .map [], Nat.zero_le _, rfl, HMH.out.1, HMH.out.2, rfl⟩
  case round =>
    obtain ⟨k, D, hk, rfl, hgr, hbel, rfl⟩ := hrel
    obtain ⟨dp, hdp⟩ : ∃ q, depL (fs.take k) = q := ⟨_, rfl⟩
    rw [hdp]
    have HDP : Hid (depL (fs.take k) = dp) := hdp
    have hdb : 0 ≤ dp ∧ dp ≤ 9223372036854775807 := by rw [← hdp]; exact depL_bd _ (fun f hf => X.out.1.good f (List.mem_of_mem_take hf))
    clear hdp
    by_cases hlt : k < n
    · obtain ⟨b, o, rfl, hbl, _, hrg⟩ := HX.out k (by rw [HN.out]; exact hlt)
      have hlt' : k < fs.length := by rw [HN.out]; exact hlt
      obtain ⟨f, hf⟩ : ∃ f, fs.getD k default = f := ⟨_, rfl⟩
      rw [hf] at hrg
      have hg : f.Good := by rw [← hf]; exact Fl.good_at X.out.1.good k hlt'
      have HG : Hid (Groups wr w.heap.size k D (comeL (fs.take k)) (w.heap.size + 1)) := hgr
      have HB : Hid (Below w.heap.size w wr ∧ wr.rangeAt b (o + k * 6) (flC f) ∧ f.Good ∧ (k < fs.length ∧ fs.getD k default = f) ∧ (k < 3000000000000 ∧ (k + 1) * 48 ≤ 140737488355328) ∧ (comeL (fs.take k) f.a).length ≤ k ∧ w.heap.size < wr.heap.size ∧ (∀ j, (lookV D j).ownBlock ≠ some wr.heap.size)) := by
        refine ⟨hbel, rangeAt_same hrg (hbel.block b hbl), hg, ⟨hlt', hf⟩, ⟨by have := X.out.1.top; omega, ?_⟩, ?_, hgr.map.lt, fun j e => ?_⟩
        · have := X.out.2; omega
        · have := comeL_length (fs.take k) f.a; simp at this; omega
        · have := ((hgr.own j).lt _ e).2; omega
      have hfa := hg.1
      have hfc := hg.2.2.2.2.2
      have i1 : (0 : Int) ≤ (k : Int) := by omega
      have i2 : (k : Int) < (n : Int) := by omega
      clear hbl hrg hf hg hbel hgr hlt'
      by_cases h0 : 0 ≤ f.a
      · go_wp2_with (first | (refine wpList_load_mid rfl 55 (.tmp 13) rfl b (o + k * 6) rfl (flC f) _ HB.out.2.1 Try.underlying55 rfl (sizeFl f) ?_) | (refine wpList_alloc_new rfl 55 rfl 6 _ zeroFl ?_; intro w4 b4 s4 l4; have z4 : Hid (w4.heap.size = wr.heap.size + 1) := s4; clear s4) | (refine wpList_store_blk rfl 55 55 (.tmp 7) _ rfl _ rfl _ (flC f) rfl b4 rfl (sizeFl f) (flC_one f) ?_; intro w5 b5 s5 k5; have z5 : Hid (w5.heap.size = w4.heap.size) := s5; clear s5; have c0 : w5.cell? ⟨wr.heap.size, 0, none⟩ = some (.int .i64 f.a) := b5.cell 0))
        have V5 : Hid (Groups w5 w.heap.size k D (comeL (fs.take k)) (w.heap.size + 1) ∧ Blk w5 wr.heap.size 55 (flC f) ∧ w5.heap.size = wr.heap.size + 1 ∧ Below w.heap.size w w5) := by
          have l5 : Below wr.heap.size wr w5 := below_kept l4 k5 (by have := z4.out; omega) (fun j hj => by omega)
          exact ⟨HG.out.later l5, b5, by rw [z5.out, z4.out], below_chain HB.out.1 l5 HB.out.1.size⟩
        clear b4 l4 b5 k5 c0 z4 z5
        refine wp_region_noPanic (till_region 10 (fun W => W.rangeAt wr.heap.size 0 (flC f) ∧ W.ownsMap Try.prog 3 heldR w.heap.size k D) (by kernel_rfl) ?_)
        obtain ⟨w6, hw6⟩ : ∃ q, ({ heap := w5.heap, tape := w5.tape, drawn := w5.drawn + 1, os := w5.os, output := w5.output } : World) = q := ⟨_, rfl⟩
        have V6 : Hid (Groups w6 w.heap.size k D (comeL (fs.take k)) (w.heap.size + 1) ∧ Blk w6 wr.heap.size 55 (flC f) ∧ w6.heap.size = wr.heap.size + 1 ∧ Below w.heap.size w w6) := by rw [← hw6]; exact ⟨V5.out.1.drew, V5.out.2.1, V5.out.2.2.1, ⟨V5.out.2.2.2.os, V5.out.2.2.2.tape, V5.out.2.2.2.output, V5.out.2.2.2.size, V5.out.2.2.2.block⟩⟩
        rw [hw6]
        clear hw6
        have hS : (fun W : World => W.rangeAt wr.heap.size 0 (flC f) ∧ W.ownsMap Try.prog 3 heldR w.heap.size k D) w6 := ⟨fun j v hv => by rw [Nat.zero_add, V6.out.2.1.cell]; exact hv, V6.out.1.map⟩
        obtain ⟨v8, w8, w9, hr8, hu9, e1, e2, e3, G9, z9, o9, os9, tp9, out9⟩ := V6.out.1.add f HB.out.2.2.1 HB.out.2.2.2.2.1.1 HB.out.2.2.2.2.2.1 (by have := V6.out.2.2.2.size; have := V6.out.2.2.1; have := HB.out.1.size; omega) wr.heap.size (by have := V6.out.2.2.1; omega) HB.out.2.2.2.2.2.2.2 (by have := HB.out.2.2.2.2.2.2.1; omega) HB.out.2.2.2.2.1.2
        obtain ⟨v0, hv0⟩ : ∃ q, lookV D f.a = q := ⟨_, rfl⟩
        have HV : Hid (lookV D f.a = v0) := hv0
        rw [hv0] at hr8
        clear hv0
        have hS8 : (fun W : World => W.rangeAt wr.heap.size 0 (flC f) ∧ W.ownsMap Try.prog 3 heldR w.heap.size k D) w8 := ⟨rangeAt_same hS.1 e2, ownsMap_same hS.2 e1⟩
        have hS7 : (fun W : World => W.rangeAt wr.heap.size 0 (flC f) ∧ W.ownsMap Try.prog 3 heldR w.heap.size k D) (w6.alloc (.cells (flC f).toArray 55)) := ⟨rangeAt_same hS.1 (Below.heap_alloc w6 _ _ (by have := V6.out.2.2.1; omega)), ownsMap_same hS.2 (Below.heap_alloc w6 _ _ hS.2.lt)⟩
        refine tTake 0 (some 18) (.map (some w.heap.size)) rfl rfl (by kernel_rfl) (by kernel_rfl) (by kernel_rfl) (by decide) (fun _ _ _ h => h) (by rfl) (fun W' => by go_simp) hS ?_
        simp only [Act.put, List.setIfInBounds_toArray, List.set_cons_zero, List.set_cons_succ]
        refine tTake 1 (some 19) (.pointer (some ⟨wr.heap.size, 0, none⟩)) rfl rfl (by kernel_rfl) (by kernel_rfl) (by kernel_rfl) (by decide) (fun _ _ _ h => h) (by rfl) (fun W' => by go_simp) hS ?_
        simp only [Act.put, List.setIfInBounds_toArray, List.set_cons_zero, List.set_cons_succ]
        refine tLoad 2 (some 20) (.int .i64 f.a) rfl rfl (by kernel_rfl) (by kernel_rfl) (by kernel_rfl) (by decide) (by kernel_rfl) (by kernel_rfl) (fun _ _ _ h => h) (by rfl) (fun W' hS' => by have hc : W'.cell? ⟨wr.heap.size, 0, none⟩ = some (.int .i64 f.a) := hS'.1 0 _ rfl; go_simp) hS ?_
        simp only [Act.put, List.setIfInBounds_toArray, List.set_cons_zero, List.set_cons_succ]
        refine tTake 3 (some 21) (.map (some w.heap.size)) rfl rfl (by kernel_rfl) (by kernel_rfl) (by kernel_rfl) (by decide) (fun _ _ _ h => h) (by rfl) (fun W' => by go_simp) hS ?_
        simp only [Act.put, List.setIfInBounds_toArray, List.set_cons_zero, List.set_cons_succ]
        refine tTake 4 (some 22) (.pointer (some ⟨wr.heap.size, 0, none⟩)) rfl rfl (by kernel_rfl) (by kernel_rfl) (by kernel_rfl) (by decide) (fun _ _ _ h => h) (by rfl) (fun W' => by go_simp) hS ?_
        simp only [Act.put, List.setIfInBounds_toArray, List.set_cons_zero, List.set_cons_succ]
        refine tLoad 5 (some 23) (.int .i64 f.a) rfl rfl (by kernel_rfl) (by kernel_rfl) (by kernel_rfl) (by decide) (by kernel_rfl) (by kernel_rfl) (fun _ _ _ h => h) (by rfl) (fun W' hS' => by have hc : W'.cell? ⟨wr.heap.size, 0, none⟩ = some (.int .i64 f.a) := hS'.1 0 _ rfl; go_simp) hS ?_
        simp only [Act.put, List.setIfInBounds_toArray, List.set_cons_zero, List.set_cons_succ]
        refine tLoad 6 (some 24) v0 rfl rfl (by kernel_rfl) (by kernel_rfl) (by kernel_rfl) (by decide) (by kernel_rfl) (by kernel_rfl) (fun _ _ _ h => h) (by rfl) (fun W' hS' => by have hl := look_at hS'.2 HB.out.2.2.1.1; rw [HV.out] at hl; go_simp) hS ?_
        simp only [Act.put, List.setIfInBounds_toArray, List.set_cons_zero, List.set_cons_succ]
        refine tLoadMid 7 (some 25) (flC f) rfl rfl (by kernel_rfl) (by kernel_rfl) (by kernel_rfl) (by decide) (by kernel_rfl) (by kernel_rfl) (fun _ _ _ h => h) (by rfl) 55 (.tmp 7) rfl wr.heap.size 0 rfl _ (fun _ h => h.1) Try.underlying55 rfl (sizeFl f) hS ?_
        simp only [Act.put, List.setIfInBounds_toArray, List.set_cons_zero, List.set_cons_succ]
        refine till_run 8 (some 26) (.slice (some ⟨w6.heap.size, 0, none⟩) 1 1) (w6.alloc (.cells (flC f).toArray 55)) (by kernel_rfl) rfl rfl (by rfl) (exec_build 22 1 _ rfl #[(0, .agg (flC f).toArray)] (by simp [Act.eval]) (build1_fl f w6)) hS7 ?_
        simp only [Act.put, List.setIfInBounds_toArray, List.set_cons_zero, List.set_cons_succ]
        refine till_run 9 (some 27) v8 w8 (by kernel_rfl) rfl rfl (by rfl) (exec_append (.tmp 24) (.tmp 26) 22 22 rfl rfl v0 (.slice (some ⟨w6.heap.size, 0, none⟩) 1 1) rfl rfl hr8) hS8 ?_
        simp only [Act.put, List.setIfInBounds_toArray, List.set_cons_zero, List.set_cons_succ]
        clear hS hS7 hS8 hr8
        refine till_at (by kernel_rfl) ?_
        refine wpAny_ready (rs := [10]) (by kernel_rfl) (by simp) (AllReady.cons rfl (fun K hK => ?_) AllReady.nil)
        go_simp
        refine hK _ _ ?_
        clear hK K
        refine wpAny_done (by kernel_rfl) (NoPanic.normal ?_) _
        have R9 : Hid (Groups w9 w.heap.size (k + 1) (D.put (.int .i64 f.a) (.held v8)) (comeL (fs.take (k + 1))) (w.heap.size + 1) ∧ Below w.heap.size w w9) := by
          refine ⟨?_, ?_⟩
          · have e : (fun j => if j = f.a then comeL (fs.take k) j ++ [f] else comeL (fs.take k) j) = comeL (fs.take (k + 1)) := by
              funext j
              rw [comeL_take fs k HB.out.2.2.2.1.1, HB.out.2.2.2.1.2]
              by_cases e : j = f.a
              · rw [if_pos e, if_pos ⟨h0, e.symm⟩]
              · rw [if_neg e, if_neg (fun h => e h.2.symm), List.append_nil]
            rw [← e]; exact G9
          · have l6 := V6.out.2.2.2
            have := V6.out.2.2.1; have := HB.out.1.size
            exact ⟨os9.trans l6.os, tp9.trans l6.tape, out9.trans l6.output, Nat.le_trans l6.size z9, fun j hj => (o9 j (by omega) (by omega) (by omega)).trans (l6.block j hj)⟩
        have c1 : w9.cell? ⟨wr.heap.size, 1, none⟩ = some (.int .i64 f.k) := (World.cell?_of_block (w := w6) (a := ⟨wr.heap.size, 1, none⟩) e3).trans (V6.out.2.1.cell 1)
        have c5 : w9.cell? ⟨wr.heap.size, 5, none⟩ = some (.int .i64 f.c) := (World.cell?_of_block (w := w6) (a := ⟨wr.heap.size, 5, none⟩) e3).trans (V6.out.2.1.cell 5)
        clear G9 z9 o9 os9 tp9 out9 e1 e2 e3 hu9 V5 V6
        by_cases hk1 : f.k = 1
        · have q1 : (f.k == 1) = true := by simp [hk1]
          by_cases hlt2 : dp < f.c
          · have DEP : Hid (depL (fs.take (k + 1)) = f.c) := by
              have : depL (fs.take (k + 1)) = f.c := by rw [depL_take fs k HB.out.2.2.2.1.1, HB.out.2.2.2.1.2, HDP.out, if_pos ⟨h0, hk1, hlt2⟩]
              exact this
            clear hk1
            go_wp2_with fail
            go_roundw
            case rel => exact ⟨k + 1, _, by omega, by go_num, R9.out.1, R9.out.2, by rw [DEP.out]⟩
            case measure => simp [intOf] <;> omega
          · have DEP : Hid (depL (fs.take (k + 1)) = dp) := by
              have : depL (fs.take (k + 1)) = dp := by rw [depL_take fs k HB.out.2.2.2.1.1, HB.out.2.2.2.1.2, HDP.out, if_neg (fun h => hlt2 h.2.2)]
              exact this
            have hle : f.c ≤ dp := by omega
            clear hk1
            go_wp2_with fail
            go_roundw
            case rel => exact ⟨k + 1, _, by omega, by go_num, R9.out.1, R9.out.2, by rw [DEP.out]⟩
            case measure => simp [intOf] <;> omega
        · have q1 : (f.k == 1) = false := by simp [hk1]
          have DEP : Hid (depL (fs.take (k + 1)) = dp) := by
            have : depL (fs.take (k + 1)) = dp := by rw [depL_take fs k HB.out.2.2.2.1.1, HB.out.2.2.2.1.2, HDP.out, if_neg (fun h => hk1 h.2.1)]
            exact this
          clear hk1
          go_wp2_with fail
          go_roundw
          case rel => exact ⟨k + 1, _, by omega, by go_num, R9.out.1, R9.out.2, by rw [DEP.out]⟩
          case measure => simp [intOf] <;> omega
      · have h0' : f.a < 0 := by omega
        go_wp2_with (first | (refine wpList_load_mid rfl 55 (.tmp 13) rfl b (o + k * 6) rfl (flC f) _ HB.out.2.1 Try.underlying55 rfl (sizeFl f) ?_) | (refine wpList_alloc_new rfl 55 rfl 6 _ zeroFl ?_; intro w4 b4 s4 l4; have z4 : Hid (w4.heap.size = wr.heap.size + 1) := s4; clear s4) | (refine wpList_store_blk rfl 55 55 (.tmp 7) _ rfl _ rfl _ (flC f) rfl b4 rfl (sizeFl f) (flC_one f) ?_; intro w5 b5 s5 k5; have z5 : Hid (w5.heap.size = w4.heap.size) := s5; clear s5; have c0 : w5.cell? ⟨wr.heap.size, 0, none⟩ = some (.int .i64 f.a) := b5.cell 0))
        have R9 : Hid (Groups w5 w.heap.size (k + 1) D (comeL (fs.take (k + 1))) (w.heap.size + 1) ∧ Below w.heap.size w w5 ∧ depL (fs.take (k + 1)) = dp) := by
          have l5 : Below wr.heap.size wr w5 := below_kept l4 k5 (by have := z4.out; omega) (fun j hj => by omega)
          have e : comeL (fs.take (k + 1)) = comeL (fs.take k) := by
            funext j
            rw [comeL_take fs k HB.out.2.2.2.1.1, HB.out.2.2.2.1.2, if_neg (fun h => h0 h.1), List.append_nil]
          rw [e]
          have g5 := HG.out.later l5
          exact ⟨⟨g5.map.mono (by omega), g5.own, g5.apart⟩, below_chain HB.out.1 l5 HB.out.1.size, by rw [depL_take fs k HB.out.2.2.2.1.1, HB.out.2.2.2.1.2, HDP.out, if_neg (fun h => h0 h.1)]⟩
        clear b4 l4 b5 k5 c0 z4 z5
        go_roundw
        case rel => exact ⟨k + 1, D, by omega, by go_num, R9.out.1, R9.out.2.1, by rw [R9.out.2.2]⟩
        case measure => simp [intOf] <;> omega
    · obtain rfl : k = n := by omega
      have HF : Hid (Groups wr w.heap.size k D (comeL fs) (w.heap.size + 1) ∧ Below w.heap.size w wr ∧ depL fs = dp) := by
        have e := HN.out
        have p := HDP.out
        rw [List.take_of_length_le (by omega)] at p hgr
        exact ⟨hgr, hbel, p⟩
      clear hbel hgr hk
      go_wp2
      go_ret2
      exact ⟨w.heap.size, k, D, by rw [HF.out.2.2]; rfl, HF.out.1, rfl, HF.out.2.1⟩
end Go.Proofs.Ytobcolpdkcppoaa
