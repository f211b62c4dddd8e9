/- Layer digest: absorb. -/
import Derived.Test.YtiimjhahblmggaaDoorDHash
namespace Go.Proofs.YtiimjhahblmggaaDoor
open Go.RowKit
set_option linter.unusedVariables false
set_option linter.unusedSimpArgs false

theorem two_puts {md : Region.Mode} {ops : Array Oper} {Q : Exit → Act → World → Prop} {fuel : Nat} {listed : Array Bool} {a : Act} {w : World} (i j : Nat) {oi oj : Oper} (d1 d2 : Option Tmp) (v1 v2 : Value) (hi : ops[i]? = some oi) (hj : ops[j]? = some oj) (hij : i ≠ j)
    (hr : Region.ready md ops listed = [i, j]) (hr1 : Region.ready md ops (listed.setIfInBounds i true) = [j]) (hr2 : Region.ready md ops (listed.setIfInBounds j true) = [i])
    (s1 : Stp ops Q oi a w (a.put d1 v1) w) (s2 : Stp ops Q oj (a.put d1 v1) w ((a.put d1 v1).put d2 v2) w) (t1 : Stp ops Q oj a w (a.put d2 v2) w) (t2 : Stp ops Q oi (a.put d2 v2) w ((a.put d2 v2).put d1 v1) w)
    (hc : (a.put d2 v2).put d1 v1 = (a.put d1 v1).put d2 v2)
    (h : wpAny Tryd.prog md ops Q fuel ((listed.setIfInBounds i true).setIfInBounds j true) ((a.put d1 v1).put d2 v2) w) : wpAny Tryd.prog md ops Q (fuel + 2) listed a w := by
  rw [hc] at t2
  exact two_steps i j hi hj hij hr hr1 hr2 s1 s2 t1 t2 h
/-- A part of a variable written. -/
theorem wpList_store_part {ops : Array Oper} {rest : List Oper} {o : Oper} {a : Act} {Q : Exit → Act → World → Prop} {w : World} (hgd : o.guard = none) (t t' : TypeId) (x y : Operand) (ho : o.op = .store t x y) (g off : Nat) (hx : a.eval x = .pointer (some ⟨g, off, none⟩))
    (xs ys zs us : List Value) (hy : a.eval y = .agg us.toArray) (hb : Blk w g t' (xs ++ (ys ++ zs))) (hoff : xs.length = off) (hl : us.length = ys.length) (hi : (Tryd.prog.info? t).map (·.size) = some us.length) (h1 : ∀ v ∈ us, v.oneCell' = true)
    (h : ∀ w', Blk w' g t' (xs ++ (us ++ zs)) → w'.heap.size = w.heap.size → Kept (fun k => k = g) w w' → wpList Tryd.prog ops Q rest (a.put o.dst undef) w') : wpList Tryd.prog ops Q (o :: rest) a w := by
  subst hoff
  refine wpList_store_mid hgd t x y ho g xs.length us.toArray hx hy (hb.there (by simp; omega)) (by simpa using hi) (all_oneCell_toArray h1) (h _ ?_ ?_ ?_)
  · exact Blk.setCells us ys hl hb
  · exact setCells_size ..
  · exact (Kept.refl _ _).setCells (S := fun k => k = g) rfl _ _
theorem HashAt.range {w : World} {g : Nat} {st bl : List Int} {sz : Int} (h : HashAt w g st bl sz) : w.rangeAt g 8 (u8s bl) := by
  have := Blk.range (xs := u32s st) (ys := u8s bl) (zs := [.int .u64 sz]) h.blk
  rwa [u32s_length, h.st8] at this
theorem HashAt.words {w : World} {g : Nat} {st bl : List Int} {sz : Int} (h : HashAt w g st bl sz) : w.rangeAt g 0 (u32s st) := fun j v hv => by
  have hj : j < (u32s st).length := (List.getElem?_eq_some_iff.1 hv).1
  rw [Nat.zero_add, h.blk.cell, hcells, List.getElem?_append_left hj]; exact hv
theorem HashAt.word_cell {w : World} {g : Nat} {st bl : List Int} {sz : Int} (h : HashAt w g st bl sz) (j : Nat) (hj : j < 8) : w.cell? ⟨g, j, none⟩ = some (.int .u32 (st.getD j 0)) := by
  rw [h.blk.cell]
  have e1 : j < (u32s st).length := by rw [u32s_length, h.st8]; exact hj
  have e2 : j < st.length := by rw [h.st8]; exact hj
  simp only [hcells]
  rw [List.getElem?_append_left e1]
  simp [u32s, e2, List.getD]
theorem HashAt.frozen {w : World} {g : Nat} {st bl : List Int} {sz : Int} (h : HashAt w g st bl sz) (j : Nat) : w.frozen? ⟨g, j, none⟩ = false := h.blk.frozen j
theorem build64 (w : World) : (Instr.build 82 #[]).run Tryd.prog w = .ok (.agg (u8s (zer 64)).toArray) w := by kernel_rfl

set_option maxRecDepth 20000 in
set_option maxHeartbeats 1000000 in
theorem absorb_any (g : Nat) (st bl : List Int) (sz : Int) (w : World) (h : HashAt w g st bl sz) (hK : KTab w) (hg : 0 < g) : Calls Tryd.prog 47 #[.pointer (some ⟨g, 0, none⟩)] w fun e w' => e = .returned (.tuple #[]) ∧ HashAt w' g (mixF st bl) (zer 64) sz ∧ Kept (fun k => k = g) w w' := by
  have HH : Hid (HashAt w g st bl sz) := h
  have HK : Hid (KTab w) := hK
  have HL : Hid (bl.length = 64) := h.bl64
  have HS : Hid (st.length = 8) := h.st8
  have u1 := Tryd.underlying82
  have u2 : (Tryd.prog.info? 82).map (·.size) = some (u8s bl).length := by rw [u8s_length, HL.out]; exact size64b
  have u3 : (Tryd.prog.info? 79).map (·.size) = some (u32s st).length := by rw [u32s_length, HS.out]; exact size8w
  clear h hK
  go_enter Tryd.func47, Tryd.ntmps47
  go_wp2
  refine wp_region_noPanic (wp_region_any (by kernel_rfl) ?_)
  refine take_op 0 (some 2) (.pointer (some ⟨g, 0, none⟩)) rfl rfl (by kernel_rfl) (by kernel_rfl) (by kernel_rfl) (fun _ _ _ h => h) (by rfl) (fun _ => by rfl) ?_
  refine take_op 1 (some 3) (.pointer (some ⟨g, 0, none⟩)) rfl rfl (by kernel_rfl) (by kernel_rfl) (by kernel_rfl) (fun _ _ _ h => h) (by rfl) (fun _ => by rfl) ?_
  refine take_op 2 (some 4) (.pointer (some ⟨g, 0, none⟩)) rfl rfl (by kernel_rfl) (by kernel_rfl) (by kernel_rfl) (fun _ _ _ h => h) (by rfl) (fun _ => by rfl) ?_
  refine take_op 3 (some 5) (.pointer (some ⟨g, 0, none⟩)) rfl rfl (by kernel_rfl) (by kernel_rfl) (by kernel_rfl) (fun _ _ _ h => h) (by rfl) (fun _ => by rfl) ?_
  refine take_op 5 (some 7) (.pointer (some ⟨g, 0, none⟩)) rfl rfl (by kernel_rfl) (by kernel_rfl) (by kernel_rfl) (fun _ _ _ h => h) (by rfl) (fun _ => by rfl) ?_
  refine take_op 6 (some 8) (.pointer (some ⟨g, 0, none⟩)) rfl rfl (by kernel_rfl) (by kernel_rfl) (by kernel_rfl) (fun _ _ _ h => h) (by rfl) (fun _ => by rfl) ?_
  refine take_op 7 (some 9) (.pointer (some ⟨g, 8, none⟩)) rfl rfl (by kernel_rfl) (by kernel_rfl) (by kernel_rfl) (fun _ _ _ h => h) (by rfl) (fun _ => by rfl) ?_
  simp only [Act.put, List.setIfInBounds_toArray, List.set_cons_zero, List.set_cons_succ]
  have rS : w.drew.rangeAt g 0 (u32s st) := HH.out.words
  have rB : w.drew.rangeAt g 8 (u8s bl) := HH.out.range
  obtain ⟨wd, hwd, HD⟩ : ∃ wd, w.drew = wd ∧ Hid (HashAt wd g st bl sz ∧ KTab wd ∧ Kept (fun k => k = g) w wd ∧ g < wd.heap.size) := ⟨_, rfl, ⟨HH.out.drewN 1, HK.out, (Kept.refl _ _).drewN 1, HH.out.lt⟩⟩
  rw [hwd] at rS rB
  rw [show ({ heap := w.heap, tape := w.tape, drawn := w.drawn + 1, os := w.os, output := w.output } : World) = wd from hwd]
  clear hwd HH HK
  refine two_puts 4 8 (some 6) (some 10) (.agg (u32s st).toArray) (.agg (u8s bl).toArray) rfl rfl (by decide) (by kernel_rfl) (by kernel_rfl) (by kernel_rfl) (fun K h => ?s1) (fun K h => ?s2) (fun K h => ?s3) (fun K h => ?s4) rfl ?_
  case s1 => exact step_load (some 6) rfl (by rfl) 79 (.tmp 5) rfl g 0 rfl (u32s st) _ rS Tryd.underlying79 rfl u3 h
  case s2 => exact step_load (some 10) rfl (by rfl) 82 (.tmp 9) rfl g 8 rfl (u8s bl) _ rB Tryd.underlying82 rfl u2 h
  case s3 => exact step_load (some 10) rfl (by rfl) 82 (.tmp 9) rfl g 8 rfl (u8s bl) _ rB Tryd.underlying82 rfl u2 h
  case s4 => exact step_load (some 6) rfl (by rfl) 79 (.tmp 5) rfl g 0 rfl (u32s st) _ rS Tryd.underlying79 rfl u3 h
  simp only [Act.put, List.setIfInBounds_toArray, List.set_cons_zero, List.set_cons_succ]
  refine wpAny_ready (rs := [9]) (by kernel_rfl) (by simp) (AllReady.cons rfl (fun K hK => ?_) AllReady.nil)
  go_simp
  go_wp2_with (go_at_call 56; refine (mix_any st bl HS.out HL.out _ HD.out.2.1).mono ?_; rintro e w4 ⟨rfl, l4⟩)
  have H4 : HashAt w4 g st bl sz := HD.out.1.later l4 HD.out.2.2.2
  have HX : Hid (Blk (w4.setCells g 0 (u32s (mixF st bl))) g 87 (hcells (mixF st bl) bl sz) ∧ Kept (fun k => k = g) w (w4.setCells g 0 (u32s (mixF st bl)))) := by
    refine ⟨?_, (HD.out.2.2.1.trans (Kept.new _ l4)).setCells rfl _ _⟩
    exact Blk.setCells (xs := []) (zs := u8s bl ++ [.int .u64 sz]) (u32s (mixF st bl)) (u32s st) (by rw [u32s_length, u32s_length, HS.out, mixF_length _ _ HS.out]) H4.blk
  have HT : w4.there g 0 (u32s (mixF st bl)).length := H4.blk.there (by rw [hcells_length _ _ _ HS.out HL.out, u32s_length, mixF_length _ _ HS.out]; decide)
  have u4 : (Tryd.prog.info? 79).map (·.size) = some (u32s (mixF st bl)).length := by rw [u32s_length, mixF_length _ _ HS.out]; exact size8w
  refine take_op 10 (some 12) (.pointer (some ⟨g, 0, none⟩)) rfl rfl (by kernel_rfl) (by kernel_rfl) (by kernel_rfl) (fun _ _ _ h => h) (by rfl) (fun _ => by rfl) ?_
  refine take_op 11 (some 13) (.pointer (some ⟨g, 0, none⟩)) rfl rfl (by kernel_rfl) (by kernel_rfl) (by kernel_rfl) (fun _ _ _ h => h) (by rfl) (fun _ => by rfl) ?_
  simp only [Act.put, List.setIfInBounds_toArray, List.set_cons_zero, List.set_cons_succ]
  refine one_step 12 rfl (by kernel_rfl) (fun K h => step_store rfl (by rfl) 79 (.tmp 13) (.tmp 11) rfl g 0 rfl (u32s (mixF st bl)) rfl HT u4 (u32s_one _) h) ?_
  refine wpAny_done (by kernel_rfl) (NoPanic.normal ?_) _
  obtain ⟨w5, hw5⟩ : ∃ w5, w4.setCells g 0 (u32s (mixF st bl)) = w5 := ⟨_, rfl⟩
  rw [hw5] at HX ⊢
  clear hw5 HT H4 l4 HD rS rB
  go_wp2_with (first | (refine wpList_build rfl 82 _ rfl #[] (by simp) _ (build64 _) ?_) | (refine wpList_store_part rfl 82 87 _ _ rfl g 8 rfl (u32s (mixF st bl)) (u8s bl) [.int .u64 sz] (u8s (zer 64)) rfl HX.out.1 (by rw [u32s_length, mixF_length _ _ HS.out]) (by rw [u8s_length, u8s_length, zer_length, HL.out]) (by rw [u8s_length, zer_length]; exact size64b) (u8s_one _) ?_; intro w6 b6 s6 k6))
  go_end0
  exact ⟨rfl, ⟨b6, mixF_length _ _ HS.out, zer_length _⟩, HX.out.2.trans k6⟩
end Go.Proofs.YtiimjhahblmggaaDoor
