/- CodecNames: the numbers, the small config, the acknowledgement: trystlaw20.CodecNames returns true. No condition (the row's listed variable is tied to the program's text). -/
import Derived.Test.YtmgkjldjeomcmabDoorCcAwake
import Derived.Test.YtmgkjldjeomcmabDoorCcLaid
namespace Go.Proofs.YtmgkjldjeomcmabDoor.codecNames
open Go.ChangeShapes Go.WideShapes Go.ChangeAt Go.RowKit
set_option linter.unusedVariables false
set_option linter.unusedSimpArgs false

def c113 : Cg := ⟨4, 32, 3, 113, 2, 1⟩
theorem ack_str : strOfNums ackB = ByteArray.mk #[116, 114, 121, 115, 116, 58, 32, 114, 117, 110, 103, 44, 32, 111, 107, 46] := by rfl
set_option maxRecDepth 20000 in
set_option maxHeartbeats 2000000 in
theorem walk (w : World) : Calls Tryd.prog 6 #[] w fun e w' => e = .returned (.bool true) ∧ Below w.heap.size w w' := by
  have C5 : Hid (∀ W, Calls Tryd.prog 8 #[.agg #[.int .i64 4, .int .i64 32, .int .i64 3, .int .i64 113, .int .i64 2, .int .i64 1]] W fun e w' => e = .returned (.int .i64 200) ∧ Below W.heap.size W w') := fun W => (show c113.err = 200 by decide +kernel) ▸ check_any c113 W
  go_enter Tryd.func6, Tryd.ntmps6
  go_wp2_with (first | (go_at_call 9; refine (small_any _).mono ?_; rintro e w1 ⟨rfl, l1⟩; have z1 : Hid (w.heap.size ≤ w1.heap.size) := l1.size) | ((with_reducible show wpList _ _ _ (({ dst := some 1, op := _, type := _, pos := _, after := _, guard := _ } : Oper) :: _) _ _); refine wpList_alloc_new rfl 23 rfl 6 _ cg_zero ?_; intro w2 b2 s2 l2; have z2 : Hid (w2.heap.size = w1.heap.size + 1) := s2; clear s2) | (refine wpList_store_blk rfl 23 23 (.tmp 1) (.tmp 2) rfl _ rfl _ smC.cs rfl b2 rfl (cg_size smC) (cg_one smC) ?_; intro w3 b3 s3 k3; have z3 : Hid (w3.heap.size = w2.heap.size) := s3; clear s3; have c3 : w3.cell? ⟨w1.heap.size, 3, none⟩ = some (.int .i64 114) := (by rw [b3.cell]; rfl); have f3 := b3.frozen 3; have B4 : Hid (Blk (w3.setCell ⟨w1.heap.size, 3, none⟩ (.int .i64 113)) w1.heap.size 23 c113.cs ∧ Below w.heap.size w (w3.setCell ⟨w1.heap.size, 3, none⟩ (.int .i64 113)) ∧ w.heap.size ≤ (w3.setCell ⟨w1.heap.size, 3, none⟩ (.int .i64 113)).heap.size) := (by have q1 := z1.out; have q2 := z2.out; have q3 := z3.out; have L3 : Below w.heap.size w w3 := below_kept (below_chain l1 l2 q1) k3 (by omega) (fun j hj => by omega); have k4 : Kept (fun k => k = w1.heap.size) w3 (w3.setCell ⟨w1.heap.size, 3, none⟩ (.int .i64 113)) := Kept.setCell (S := fun k => k = w1.heap.size) (Kept.refl (fun k => k = w1.heap.size) w3) (p := ⟨w1.heap.size, 3, none⟩) rfl _; exact ⟨b3.set 3 _, below_kept L3 k4 (by omega) (fun j hj => by omega), by have := k4.size; omega⟩); clear b2 b3 l1 l2 k3) | (go_at_call 7; refine (awake_any _).mono ?_; rintro e w5 ⟨rfl, l5⟩; have B5 : Hid (Blk w5 w1.heap.size 23 c113.cs ∧ Below w.heap.size w w5) := ⟨B4.out.1.later l5 B4.out.1.lt, below_chain B4.out.2.1 l5 B4.out.2.2⟩; clear l5 c3 f3; have g0 : w5.cell? ⟨w1.heap.size, 0, none⟩ = some (.int .i64 4) := (by rw [B5.out.1.cell]; rfl); have g1 : w5.cell? ⟨w1.heap.size, 1, none⟩ = some (.int .i64 32) := (by rw [B5.out.1.cell]; rfl); have g2 : w5.cell? ⟨w1.heap.size, 2, none⟩ = some (.int .i64 3) := (by rw [B5.out.1.cell]; rfl); have g3 : w5.cell? ⟨w1.heap.size, 3, none⟩ = some (.int .i64 113) := (by rw [B5.out.1.cell]; rfl); have g4 : w5.cell? ⟨w1.heap.size, 4, none⟩ = some (.int .i64 2) := (by rw [B5.out.1.cell]; rfl); have g5 : w5.cell? ⟨w1.heap.size, 5, none⟩ = some (.int .i64 1) := (by rw [B5.out.1.cell]; rfl)) | (go_at_call 8; (with_reducible refine (C5.out _).mono ?_); rintro e w6 ⟨rfl, l6⟩; have B6 : Hid (Below w.heap.size w w6) := below_chain B5.out.2 l6 B5.out.2.size; clear l6) | (go_at_call 27; refine (ack_any _).mono ?_; rintro e w7 ⟨rfl, s7, l7⟩; have B7 : Hid (Below w.heap.size w w7) := below_chain B6.out l7 B6.out.size; obtain ⟨b, o, eb, hb, hc7⟩ := s7.cells (by decide); cases eb; have hcv := run_convert_bytes_arg w7 26 5 Tryd.underlying26 Tryd.underlying5 w6.heap.size 0 16 16 ackB rfl hc7 9 Tryd.underlying9; rw [ack_str] at hcv; clear hc7 s7 l7))
  go_ret
  exact ⟨rfl, B7.out⟩
/-! ### The row's step -/
set_option maxRecDepth 100000 in
theorem lifted (os : Os) (started : os.Started) (H : Type) (enc : TypeId × Value → H) :
    ReturnsInHanded {} Tryd.checked os 6 .any (fun w args => (Rows.codecNamesSpec.pre enc Tryd.prog Tryd.f6 [] false w args ∧ laidMetH Tryd.prog laidK w) ∧ sizedMet enc Tryd.prog Tryd.f6 (OpenSpec.ofChange Rows.codecNamesSpec) false w args)
      (Rows.codecNamesSpec.post enc Tryd.prog Tryd.f6 false true false false) := by
  refine returnsInHanded_of_change_and (C := Tryd.checked) (X := fun w _ => laidMetH Tryd.prog laidK w) (fun _ _ _ hh h => h.of_heap hh) own started (by kernel_rfl) Tryd.func6
    (ChangeSpec.witness_at (enc := enc) (C := Tryd.checked) (os := os) (X := fun w _ => laidMetH Tryd.prog laidK w) false (laidWorld os) #[] 8 rfl (by kernel_rfl) (by kernel_rfl) (by kernel_rfl) (by kernel_rfl) (by kernel_rfl) (laidWorld_met os _)) ?_
  intro W base args ds gs before hval0 hW _ _ hL _
  have hval : ∀ (j : Nat) t v, Tryd.f6.params[j]? = some t → args[j]? = some v → Value.okWide Tryd.prog W .any base t v := hval0
  have hW' := hW
  obtain ⟨p, q, hA0, hV, rfl, hfz, hnd⟩ := hW
  have hA : DataW.TrodAll enc Tryd.prog W 0 (fun _ => true) true Tryd.f6.params.toList args.toList ds p := hA0
  rw [Tryd.params6] at hA hval
  obtain ⟨rfl, rfl, rfl⟩ := trodAll_none hA
  obtain ⟨rfl, rfl⟩ := trodVars_none hV
  clear hA0 hval0
  simp only [List.append_nil] at hW'
  refine (walk W).mono fun e W' ⟨he, bel⟩ => ?_
  subst he
  exact ⟨_, rfl, _, _, _, [], [], [], hW', trodAll_mk1 (shut_bool Tryd.underlying4 _), rfl, rfl, bel.frame _, fun h => by cases h⟩
theorem over : Rows.CodecNamesSaid :=
  OpenClaim.holds_of_wide 6 Tryd.f6 rfl rfl rfl rfl rfl rfl rfl ⟨rfl, rfl, rfl, rfl, rfl⟩ rfl rfl rfl rfl rfl (by kernel_rfl) Tryd.func6 (by kernel_rfl)
    (of_decide_eq_true (by kernel_rfl)) (by unfold Func.isWrapper; first | (rw [if_pos (by decide +kernel)]; kernel_rfl) | (rw [if_neg (by decide +kernel)]; exact ⟨rfl, rfl⟩))
    (fun os started H enc _ => lifted os started H enc)
theorem proved : Rows.CodecNamesCardSaid :=
  Claim7.holds_tied_plain_at .later [] [.handle] true Rows.codecNamesCard.stood.harness Rows.codecNamesCard.stood.looks
    over (fun _ h => by cases h) (by kernel_rfl) (fun _ h => by cases h) codecNames_row_tie rfl ⟨rfl, rfl⟩ (by kernel_rfl) rfl
    (fun f fn hf hfn => by
      obtain rfl : f = 6 := Option.some.inj ((show Tryd.prog.funcNamed "tryst/trystlaw20.CodecNames" = some 6 by kernel_rfl).symm.trans hf) |>.symm
      obtain rfl : fn = Tryd.f6 := (Option.some.inj (Tryd.func6.symm.trans hfn)).symm
      exact ⟨by kernel_rfl, fun j t ht => by
        rw [Tryd.params6] at ht
        simp at ht⟩)
    (by kernel_rfl)
end Go.Proofs.YtmgkjldjeomcmabDoor.codecNames
namespace Go.Proofs.YtmgkjldjeomcmabDoor
theorem codecNames_holds : Rows.CodecNamesCardSaid := codecNames.proved
#print axioms codecNames_holds
end Go.Proofs.YtmgkjldjeomcmabDoor
