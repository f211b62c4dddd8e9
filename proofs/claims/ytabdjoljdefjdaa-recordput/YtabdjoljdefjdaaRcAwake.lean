/- Layer record: the statements' made and awake. -/
import Derived.Test.YtabdjoljdefjdaaRcParse
namespace Go.Proofs.Ytabdjoljdefjdaa
open Go.RowKit
set_option linter.unusedVariables false
set_option linter.unusedSimpArgs false

def mdH (l g i : Int) : Hd := ⟨l, 0, i, 0, [g, 0, 0, 0, 0, 0, 0, 0, 0, 0, 0, 0, 0, 0, 0, 0]⟩
def mdL (l g i : Int) : List Int := hdB (mdH l g i) ++ [9]
theorem mdH_ok (l g i : Int) (hl : 0 ≤ l ∧ l < 256) (hg : 0 ≤ g ∧ g < 256) (hi : 0 ≤ i ∧ i < 4294967296) : HdOk (mdH l g i) := by
  refine ⟨hl, (show (0 : Int) ≤ 0 ∧ (0 : Int) < 256 by decide), hi, (show (0 : Int) ≤ 0 ∧ (0 : Int) < 4294967296 by decide), rfl, ?_⟩
  intro z hz
  simp only [mdH, List.mem_cons, List.not_mem_nil, or_false] at hz
  rcases hz with rfl | h
  · exact hg
  · have : z = 0 := by simpa using h
    omega
theorem mdDrop (g : Int) (w : World) : (Instr.build 24 #[(0, .int .u8 g)]).run Try.prog w = .ok (.agg (u8s [g, 0, 0, 0, 0, 0, 0, 0, 0, 0, 0, 0, 0, 0, 0, 0]).toArray) w := by kernel_rfl
theorem mdHead (l g i : Int) (w : World) : (Instr.build 26 #[(0, .int .u8 l), (4, .agg (u8s [g, 0, 0, 0, 0, 0, 0, 0, 0, 0, 0, 0, 0, 0, 0, 0]).toArray), (2, .int .u32 i)]).run Try.prog w = .ok (.agg (hdC (mdH l g i)).toArray) w := by kernel_rfl
set_option maxRecDepth 20000 in
set_option maxHeartbeats 2000000 in
theorem made_any (l g i : Int) (hl : 0 ≤ l ∧ l < 256) (hg : 0 ≤ g ∧ g < 256) (hi : 0 ≤ i ∧ i < 4294967296) (w : World) :
    Calls Try.prog 48 #[.int .u8 l, .int .u8 g, .int .u32 i] w fun e w' => ∃ v, e = .returned v ∧ isO w.heap.size 27 (mdL l g i) v w' ∧ Below w.heap.size w w' := by
  have HK : Hid (HdOk (mdH l g i)) := mdH_ok l g i hl hg hi
  clear hl hg hi
  go_enter Try.func48, Try.ntmps48
  go_wp2_with (first | (refine wpList_build rfl 24 _ rfl #[(0, .int .u8 g)] rfl _ (mdDrop g _) ?_) | (refine wpList_build rfl 26 _ rfl #[(0, .int .u8 l), (4, .agg (u8s [g, 0, 0, 0, 0, 0, 0, 0, 0, 0, 0, 0, 0, 0, 0, 0]).toArray), (2, .int .u32 i)] rfl _ (mdHead l g i _) ?_))
  have B3 : Below w.heap.size w (w.alloc (.cells #[.int .u8 9] 5)) := (Below.refl _ _).alloc (Nat.le_refl _) _
  have S3 : Seen (w.alloc (.cells #[.int .u8 9] 5)) (some ⟨w.heap.size, 0, none⟩) 1 [9] := seen_blk (t := 5) (zs := [9]) (heap_alloc_new w _) (by intro z hz; simp at hz; omega) (by decide)
  refine (make_any (mdH l g i) HK.out _ 1 1 [9] (fun e => by cases e) (by decide) _ S3).mono ?_
  rintro e w4 ⟨v4, rfl, o4, l4⟩
  have V4 : Hid (isO w.heap.size 27 (mdL l g i) v4 w4 ∧ Below w.heap.size w w4) := ⟨isO_base o4 B3.size, below_chain B3 l4 B3.size⟩
  clear o4 l4 B3 S3
  go_wp2
  go_ret
  exact ⟨_, rfl, V4.out.1, V4.out.2⟩
theorem mdL_bytes (l g i : Int) (k : HdOk (mdH l g i)) : Bytes (mdL l g i) := bytes_two (hdB_bytes k) (by intro z hz; simp at hz; omega)
theorem mdL_length (l g i : Int) : (mdL l g i).length = 27 := by rw [mdL, List.length_append, hdB_length rfl]; rfl
--HALF
theorem awake_facts : byG (mdL 1 1 5) (mdL 1 2 0) = true ∧ byG (mdL 1 2 0) (mdL 1 1 5) = false ∧ byG (mdL 1 2 0) (mdL 0 0 0) = true ∧ byI (mdL 1 2 0) (mdL 1 1 5) = true ∧ liveB (mdL 0 0 0) = false ∧ isR (mdL 1 1 5) = true := by decide +kernel
set_option maxRecDepth 20000 in
set_option maxHeartbeats 4000000 in
theorem awake_any (w : World) : Calls Try.prog 31 #[] w fun e w' => e = .returned (.bool true) ∧ Below w.heap.size w w' := by
  go_enter Try.func31, Try.ntmps31
  go_wp2_with (fail)
  refine (made_any 1 1 5 (by decide) (by decide) (by decide) w).mono ?_
  rintro e w1 ⟨v1, rfl, o1, l1⟩
  obtain ⟨q1, c1, rfl, S1, f1, -, -⟩ := isO_sl (mdL_length _ _ _) (mdL_bytes 1 1 5 (mdH_ok _ _ _ (by decide) (by decide) (by decide))) (by decide) o1
  clear o1
  go_wp2_with (fail)
  refine (made_any 1 2 0 (by decide) (by decide) (by decide) w1).mono ?_
  rintro e w2 ⟨v2, rfl, o2, l2⟩
  obtain ⟨q2, c2, rfl, S2, f2, -, -⟩ := isO_sl (mdL_length _ _ _) (mdL_bytes 1 2 0 (mdH_ok _ _ _ (by decide) (by decide) (by decide))) (by decide) o2
  clear o2
  go_wp2_with (fail)
  refine (made_any 0 0 0 (by decide) (by decide) (by decide) w2).mono ?_
  rintro e w3 ⟨v3, rfl, o3, l3⟩
  obtain ⟨q3, c3, rfl, S3, f3, -, -⟩ := isO_sl (mdL_length _ _ _) (mdL_bytes 0 0 0 (mdH_ok _ _ _ (by decide) (by decide) (by decide))) (by decide) o3
  clear o3
  obtain ⟨A, eA⟩ : ∃ A, mdL 1 1 5 = A := ⟨_, rfl⟩
  obtain ⟨B, eB⟩ : ∃ B, mdL 1 2 0 = B := ⟨_, rfl⟩
  obtain ⟨C, eC⟩ : ∃ C, mdL 0 0 0 = C := ⟨_, rfl⟩
  have F := awake_facts
  have hA : hdOf A = mdH 1 1 5 := by rw [← eA]; exact hdOf_hdB (mdH_ok _ _ _ (by decide) (by decide) (by decide)) _
  have dA : A.drop 26 = [9] := by rw [← eA, mdL, List.drop_append_of_le_length (by rw [hdB_length rfl]; exact Nat.le_refl _), List.drop_of_length_le (by rw [hdB_length rfl]; exact Nat.le_refl _)]; rfl
  rw [eA, eB, eC] at F
  rw [eA] at S1
  rw [eB] at S2
  rw [eC] at S3
  have HF : Hid (byG A B = true ∧ byG B A = false ∧ byG B C = true ∧ byI B A = true ∧ liveB C = false ∧ isR A = true) := F
  have V : Hid (Seen w3 q1 27 A ∧ Seen w3 q2 27 B ∧ Seen w3 q3 27 C ∧ Below w.heap.size w w3 ∧ 27 ≤ c1 ∧ 27 ≤ c2 ∧ 27 ≤ c3) := ⟨(S1.later l2 (Nat.le_refl _)).later l3 (Nat.le_refl _), S2.later l3 (Nat.le_refl _), S3, below_chain (below_chain l1 l2 l1.size) l3 (Nat.le_trans l1.size l2.size), f1, f2, f3⟩
  have HA : Hid (hdOf A = mdH 1 1 5 ∧ A.drop 26 = [9]) := ⟨hA, dA⟩
  clear S1 S2 S3 l1 l2 l3 f1 f2 f3 F hA dA eA eB eC
  go_wp2_with (fail)
  refine (parse_good q1 27 c1 A V.out.2.2.2.2.1 w3 V.out.1 HF.out.2.2.2.2.2).mono ?_
  rintro e w4 ⟨v4, rfl, o4, l4⟩
  rw [HA.out.1]
  rw [HA.out.2] at o4
  obtain ⟨q4, c4, rfl, S4, -, -, -⟩ := isO_sl (n := 1) rfl (by intro z hz; simp at hz; omega) (by decide) o4
  obtain ⟨b4, o, rfl, hlt, hcell⟩ := S4.cells (by decide)
  have V4 : Hid (Seen w4 q1 27 A ∧ Seen w4 q2 27 B ∧ Seen w4 q3 27 C ∧ Below w.heap.size w w4 ∧ w4.cell? ⟨b4, o, none⟩ = some (.int .u8 9) ∧ b4 < w4.heap.size) := ⟨V.out.1.later l4 (Nat.le_refl _), V.out.2.1.later l4 (Nat.le_refl _), V.out.2.2.1.later l4 (Nat.le_refl _), below_chain V.out.2.2.2.1 l4 V.out.2.2.2.1.size, hcell 0 (by decide), hlt⟩
  clear S4 hlt hcell l4 o4
  have VC : Hid (27 ≤ c1 ∧ 27 ≤ c2 ∧ 27 ≤ c3) := V.out.2.2.2.2
  clear V
  go_wp2_with (first | (refine wpList_alloc_new rfl 26 rfl 20 _ hzero ?_; intro w5 b5 s5 l5) | (refine wpList_store_blk rfl 26 26 _ _ rfl _ rfl _ (hdC (mdH 1 1 5)) rfl b5 rfl hsize (hdC_one _) ?_; intro w6 b6 s6 k6; have L6 : Below w4.heap.size w4 w6 := below_kept l5 k6 (by omega) (fun j hj => by omega); have V6 : Hid (Seen w6 q1 27 A ∧ Seen w6 q2 27 B ∧ Seen w6 q3 27 C ∧ Below w.heap.size w w6) := ⟨V4.out.1.later L6 (Nat.le_refl _), V4.out.2.1.later L6 (Nat.le_refl _), V4.out.2.2.1.later L6 (Nat.le_refl _), below_chain V4.out.2.2.2.1 L6 V4.out.2.2.2.1.size⟩; have d0 : w6.cell? ⟨w4.heap.size, 2, none⟩ = some (.int .u32 5) := b6.cell 2; have d1 : w6.cell? ⟨w4.heap.size, 4, none⟩ = some (.int .u8 1) := b6.cell 4; have d2 : w6.cell? ⟨b4, o, none⟩ = some (.int .u8 9) := (L6.cell (p := ⟨b4, o, none⟩) V4.out.2.2.2.2.2).trans V4.out.2.2.2.2.1; clear b5 s5 l5 b6 s6 k6 L6 V4))
  have X7 := ByGroup_any q1 q2 27 27 c1 c2 A B VC.out.1 VC.out.2.1 w6 V6.out.1 V6.out.2.1
  rw [HF.out.1, mk_true] at X7
  refine X7.mono ?_
  rintro e w7 ⟨rfl, l7⟩
  have V7 : Hid (Seen w7 q1 27 A ∧ Seen w7 q2 27 B ∧ Seen w7 q3 27 C ∧ Below w.heap.size w w7) := ⟨V6.out.1.later l7 (Nat.le_refl _), V6.out.2.1.later l7 (Nat.le_refl _), V6.out.2.2.1.later l7 (Nat.le_refl _), below_chain V6.out.2.2.2 l7 V6.out.2.2.2.size⟩
  clear X7 l7 V6
  clear d0 d1 d2
  go_wp2_with (fail)
  have X8 := ByGroup_any q2 q1 27 27 c2 c1 B A VC.out.2.1 VC.out.1 w7 V7.out.2.1 V7.out.1
  rw [HF.out.2.1, mk_false] at X8
  refine X8.mono ?_
  rintro e w8 ⟨rfl, l8⟩
  have V8 : Hid (Seen w8 q1 27 A ∧ Seen w8 q2 27 B ∧ Seen w8 q3 27 C ∧ Below w.heap.size w w8) := ⟨V7.out.1.later l8 (Nat.le_refl _), V7.out.2.1.later l8 (Nat.le_refl _), V7.out.2.2.1.later l8 (Nat.le_refl _), below_chain V7.out.2.2.2 l8 V7.out.2.2.2.size⟩
  clear X8 l8 V7
  go_wp2_with (fail)
  have X9 := ByGroup_any q2 q3 27 27 c2 c3 B C VC.out.2.1 VC.out.2.2 w8 V8.out.2.1 V8.out.2.2.1
  rw [HF.out.2.2.1, mk_true] at X9
  refine X9.mono ?_
  rintro e w9 ⟨rfl, l9⟩
  have V9 : Hid (Seen w9 q1 27 A ∧ Seen w9 q2 27 B ∧ Seen w9 q3 27 C ∧ Below w.heap.size w w9) := ⟨V8.out.1.later l9 (Nat.le_refl _), V8.out.2.1.later l9 (Nat.le_refl _), V8.out.2.2.1.later l9 (Nat.le_refl _), below_chain V8.out.2.2.2 l9 V8.out.2.2.2.size⟩
  clear X9 l9 V8
  go_wp2_with (fail)
  have X10 := ByIndex_any q2 q1 27 27 c2 c1 B A VC.out.2.1 VC.out.1 w9 V9.out.2.1 V9.out.1
  rw [HF.out.2.2.2.1, mk_true] at X10
  refine X10.mono ?_
  rintro e w10 ⟨rfl, l10⟩
  have V10 : Hid (Seen w10 q1 27 A ∧ Seen w10 q2 27 B ∧ Seen w10 q3 27 C ∧ Below w.heap.size w w10) := ⟨V9.out.1.later l10 (Nat.le_refl _), V9.out.2.1.later l10 (Nat.le_refl _), V9.out.2.2.1.later l10 (Nat.le_refl _), below_chain V9.out.2.2.2 l10 V9.out.2.2.2.size⟩
  clear X10 l10 V9
  go_wp2_with (fail)
  have X11 := Live_any q3 27 c3 C VC.out.2.2 w10 V10.out.2.2.1
  rw [HF.out.2.2.2.2.1, mk_false] at X11
  refine X11.mono ?_
  rintro e w11 ⟨rfl, l11⟩
  have V11 : Hid (Seen w11 q1 27 A ∧ Seen w11 q2 27 B ∧ Seen w11 q3 27 C ∧ Below w.heap.size w w11) := ⟨V10.out.1.later l11 (Nat.le_refl _), V10.out.2.1.later l11 (Nat.le_refl _), V10.out.2.2.1.later l11 (Nat.le_refl _), below_chain V10.out.2.2.2 l11 V10.out.2.2.2.size⟩
  clear X11 l11 V10
  go_wp2
  go_ret
  exact ⟨rfl, V11.out.2.2.2⟩
end Go.Proofs.Ytabdjoljdefjdaa
