/- The closed statement of stream's numbers and of the standard's own block: trystlaw05.StreamNames returns true. No condition. -/
import Derived.Test.YtnijdlcfoepmbabSAwake
import Derived.ProofKit
import Derived.OpenShut
import Derived.ShutString
import Derived.ChangeOld
namespace Go.Proofs.Ytnijdlcfoepmbab.streamNames
open Go.ChangeShapes Go.WideShapes Go.ChangeAt Go.RowKit
set_option linter.unusedVariables false

def kR : List Int := (List.range 32).map Int.ofNat
def nR : List Int := [0, 0, 0, 9, 0, 0, 0, 74, 0, 0, 0, 0]
theorem kR_bytes : Bytes kR := by
  intro z hz
  simp only [kR, List.mem_map, List.mem_range] at hz
  obtain ⟨i, hi, rfl⟩ := hz
  exact ⟨Int.natCast_nonneg i, by show (i : Int) < 256; omega⟩
theorem kR_length : kR.length = 32 := by decide
theorem kR_at (k : Nat) (hk : k < 32) : kR.getD k 0 = (k : Int) := by simp [kR, List.getD, hk]
theorem nR_bytes : Bytes nR := by
  intro z hz
  simp [nR] at hz
  omega
theorem rfc_block : (blkB kR 1 nR).take 8 = [16, 241, 231, 228, 209, 59, 89, 21] := by decide +kernel
theorem zeroKey' : (Try.prog.info? 23).map (fun i => (i.zero, i.size)) = some (some (.agg (u8s (List.replicate 32 0)).toArray), 32) := by kernel_rfl
theorem buildN (w : World) : (Instr.build 25 #[(3, .int .u8 9), (7, .int .u8 74)]).run Try.prog w = .ok (.agg (u8s nR).toArray) w := by kernel_rfl
set_option maxRecDepth 20000 in
set_option maxHeartbeats 1000000 in
theorem walk (w : World) : Calls Try.prog 6 #[] w fun e w' => e = .returned (.bool true) ∧ Below w.heap.size w w' := by
  go_enter Try.func6, Try.ntmps6
  go_wp2_with (first | (refine wpList_alloc_new rfl 23 rfl 32 _ zeroKey' ?_; intro w1 b1 s1 l1))
  have HB : Hid (Blk w1 w.heap.size 23 (u8s (List.replicate 32 0)) ∧ w1.heap.size = w.heap.size + 1 ∧ Below w.heap.size w w1) := ⟨b1, s1, l1⟩
  clear b1 s1 l1
  go_loopw [2] (fun i wr => ∃ k : Nat, k ≤ 32 ∧ i = .int .i64 k ∧ Blk wr w.heap.size 23 (u8s (kR.take k ++ (List.replicate 32 0).drop k)) ∧ Kept (fun b => b = w.heap.size) w1 wr) (fun i _ => 32 - (intOf i).toNat)
  case atStart => exact ⟨0, by decide, rfl, HB.out.1, Kept.refl _ _⟩
  case round =>
    obtain ⟨k, hk, rfl, hb, hkp⟩ := hrel
    by_cases hlt : k < 32
    · have i1 : (k : Int) < 32 := by omega
      have cs := u8s_cell hb k (by rw [half_length _ _ 32 k kR_length (by simp) (by omega)]; exact hlt)
      have fs := hb.frozen k
      have X0 : Hid (Blk wr w.heap.size 23 (u8s (kR.take k ++ (List.replicate 32 0).drop k))) := hb
      have HY : Hid (kR.getD k 0 = (k : Int)) := kR_at k hlt
      clear hb
      go_wp2_with fail
      have R1 := X0.out.set k (.int .u8 (kR.getD k 0))
      rw [u8s_set, half_set _ _ 32 k kR_length (by simp) hlt, HY.out] at R1
      exact ⟨⟨k + 1, by omega, by go_num, R1, hkp.setCell rfl _⟩, by simp [intOf]; omega⟩
    · obtain rfl : k = 32 := by omega
      rw [show ((32 : Nat) : Int) = 32 from rfl]
      rw [List.take_of_length_le (by rw [kR_length]; exact Nat.le_refl _), List.drop_eq_nil_of_le (by simp), List.append_nil] at hb
      have X3 : Hid (Blk wr w.heap.size 23 (u8s kR) ∧ Below w.heap.size w wr) := ⟨hb, below_kept HB.out.2.2 hkp (by have := HB.out.2.1; omega) (fun j hj => by omega)⟩
      clear hb hkp
      go_wp2_with (first | (refine wpList_load_blk rfl 23 _ rfl _ rfl (u8s kR) _ X3.out.1 Try.underlying23 rfl (by rw [u8s_length, kR_length]; exact sizeKey) ?_) | (refine wpList_build rfl 25 _ rfl _ rfl _ (buildN _) ?_) | (go_at_call 10; refine (block_any kR 1 nR kR_length rfl kR_bytes nR_bytes _).mono ?_; rintro e w3 ⟨rfl, l3⟩) | (refine wpList_alloc_new rfl 36 rfl 64 _ zero64b ?_; intro w4 b4 s4 l4) | (refine wpList_store_blk rfl 36 36 _ _ rfl _ rfl _ (u8s (blkB kR 1 nR)) rfl b4 (by rw [u8s_length, u8s_length, blkB_length]; rfl) (by rw [u8s_length, blkB_length]; exact size64b) (u8s_one _) ?_; intro w5 b5 s5 k5) | (go_at_call 7; refine (awake_any _).mono ?_; rintro e w6 ⟨rfl, l6⟩))
      have L6 : Below w.heap.size w w6 := below_chain (below_kept (below_chain (below_chain X3.out.2 l3 X3.out.2.size) l4 (by have := X3.out.2.size; have := l3.size; omega)) k5 (by have := X3.out.2.size; have := l3.size; omega) (fun j hj => by have := X3.out.2.size; have := l3.size; omega)) l6 (by have := X3.out.2.size; have := l3.size; omega)
      have lA : Below w6.heap.size w6 (w6.alloc (.cells #[.int .u8 16, .int .u8 241, .int .u8 231, .int .u8 228, .int .u8 209, .int .u8 59, .int .u8 89, .int .u8 21] 5)) := (Below.refl w6.heap.size w6).alloc (Nat.le_refl _) _
      have S8 : Seen (w6.alloc (.cells #[.int .u8 16, .int .u8 241, .int .u8 231, .int .u8 228, .int .u8 209, .int .u8 59, .int .u8 89, .int .u8 21] 5)) (some ⟨w3.heap.size, 0, none⟩) 8 [16, 241, 231, 228, 209, 59, 89, 21] := by
        have h1 := seen_blk ((b5.later l6 (by omega)).later lA (by have := l6.size; omega)) (blkB_bytes kR 1 nR) (by rw [blkB_length]; decide)
        rw [blkB_length] at h1
        have h2 := h1.sub 0 8 64 (by decide) (by decide) (by decide)
        rw [List.drop_zero, show 8 - 0 = 8 from rfl, rfc_block] at h2
        simpa [subA, add_mid] using h2
      have S9 := seen_new w6 [16, 241, 231, 228, 209, 59, 89, 21] (by intro z hz; simp at hz; omega) (by decide)
      refine (same_yes _ _ 8 8 64 8 [16, 241, 231, 228, 209, 59, 89, 21] _ S8 S9).mono ?_
      rintro e w7 ⟨rfl, q, rfl⟩
      have HE : Hid (Below w.heap.size w w6) := L6
      clear S8 S9 lA l6 L6 b5 k5 b4 l4 l3
      go_wp2_with fail
      go_ret
      exact ⟨rfl, below_dn (HE.out.alloc HE.out.size _) _⟩

/-! ### The row's step -/
theorem own : ownKnob Try.prog.godebug = none := by kernel_rfl
set_option maxRecDepth 100000 in
theorem lifted (os : Os) (started : os.Started) (H : Type) (enc : TypeId × Value → H) :
    ReturnsInHanded {} Try.checked os 6 .any (Rows.streamNamesSpec.pre6 enc Try.prog Try.f6 Rows.streamNamesRow.domain false) (Rows.streamNamesSpec.post enc Try.prog Try.f6 false true false false) := by
  refine returnsInHanded_of_change (C := Try.checked) own started (by kernel_rfl) Try.func6
    (ChangeSpec.witness6 (enc := enc) (C := Try.checked) false ⟨#[], #[], []⟩ 8 (by kernel_rfl) (by kernel_rfl) (by kernel_rfl) (by kernel_rfl)) ?_
  intro W base args ds gs before hval0 hW hcnd _
  have hval : ∀ (j : Nat) t v, Try.f6.params[j]? = some t → args[j]? = some v → Value.okWide Try.prog W .any base t v := hval0
  have hW' := hW
  obtain ⟨p, q, hA0, hV, rfl, hfz, hnd⟩ := hW
  have hA : DataW.TrodAll enc Try.prog W 0 (fun _ => true) true Try.f6.params.toList args.toList ds p := hA0
  rw [Try.params6] at hA hval
  obtain ⟨rfl, rfl, rfl⟩ := trodAll_none hA
  obtain ⟨rfl, rfl⟩ := trodVars_none hV
  clear hA0 hval0
  simp only [List.append_nil] at hW'
  refine (walk W).mono fun e W' ⟨he, bel⟩ => ?_
  subst he
  exact ⟨_, rfl, _, _, _, [], [], [], hW', trodAll_mk1 (shut_bool Try.underlying4 _), rfl, rfl, bel.frame _, fun h => by cases h⟩

theorem over : Rows.streamNamesRow.holds Try.pinned (OpenSpec.ofChange Rows.streamNamesSpec) :=
  OpenClaim.holds_of_wide 6 Try.f6 rfl rfl rfl rfl rfl rfl rfl ⟨rfl, rfl, rfl, rfl, rfl⟩ rfl rfl rfl rfl rfl (by kernel_rfl) Try.func6 (by kernel_rfl)
    (of_decide_eq_true (by kernel_rfl)) (by unfold Func.isWrapper; first | (rw [if_pos (by decide +kernel)]; kernel_rfl) | (rw [if_neg (by decide +kernel)]; exact ⟨rfl, rfl⟩))
    (fun os started H enc _ => lifted os started H enc)
theorem proved : Rows.StreamNamesSaid := over
end Go.Proofs.Ytnijdlcfoepmbab.streamNames
namespace Go.Proofs.Ytnijdlcfoepmbab
theorem streamNames_holds : Rows.StreamNamesSaid := streamNames.proved
#print axioms streamNames_holds
end Go.Proofs.Ytnijdlcfoepmbab

