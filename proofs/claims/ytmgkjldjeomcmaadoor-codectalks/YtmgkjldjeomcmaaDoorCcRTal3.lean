/- Layer codec: the document's ParseDial, ParseReply of what is as long as it should be. -/
import Derived.Test.YtmgkjldjeomcmaaDoorCcRTalk
import Derived.Test.YtmgkjldjeomcmaaDoorREqb
namespace Go.Proofs.YtmgkjldjeomcmaaDoor
open Go.RowKit
set_option linter.unusedVariables false
set_option linter.unusedSimpArgs false

set_option maxRecDepth 20000 in
set_option maxHeartbeats 2000000 in
theorem rparseDial_bucket (c : Cg) (ao : Option Addr) (cap : Nat) (zs : List Int) (hcap : 92 ≤ cap) (hok : c.ok = true) (hin : inB (num4 zs 0) 0 (c.bk - 1) = false) (h0 : 0 ≤ num4 zs 0) (w : World) (hx : Seen w ao 92 zs) : Calls Tryd.prog 32 #[c.v, .slice ao 92 cap] w fun e w' => e = .returned (.tuple #[.int .i64 0, .slice none 0 0, .int .i64 201]) ∧ Below w.heap.size w w' := by
  have HC : Hid (∀ W, Calls Tryd.prog 11 #[.agg c.cs.toArray] W fun e w' => e = .returned (.int .i64 0) ∧ Below W.heap.size W w') := fun W => ok_err hok ▸ rcheck_any c W
  have hf := ok_fields hok
  have HX : Hid (Seen w ao 92 zs ∧ Seen w (subA ao 0 cap) 4 ((zs.drop 0).take 4) ∧ Seen w (subA ao 4 cap) 88 (zs.drop 4)) := ⟨hx, hx.sub 0 4 cap (by decide) (by decide) hcap, by
    have := hx.sub 4 92 cap (by decide) (by decide) hcap
    rwa [List.take_of_length_le (by simp [hx.len])] at this⟩
  have S0 : ∀ W, (Instr.sliceAt 24 (.slice ao 92 cap) none (some (.int .i64 4)) none).run Tryd.prog W = .ok (.slice (subA ao 0 cap) 4 cap) W := fun W => sl_h ao 92 cap 4 (by omega) W
  have S4 : ∀ W, (Instr.sliceAt 24 (.slice ao 92 cap) (some (.int .i64 4)) none none).run Tryd.prog W = .ok (.slice (subA ao 4 cap) 88 (cap - 4)) W := fun W => sl_l ao 92 cap 4 (by decide) W
  have h1 : c.bk ≤ num4 zs 0 := by simp [inB] at hin; omega
  clear hok hf hin hx h0
  go_enter Tryd.func32, Tryd.ntmps32
  go_wp2_with (first | ((with_reducible show wpList _ _ _ (({ dst := some 2, op := _, type := _, pos := _, after := _, guard := _ } : Oper) :: _) _ _); refine wpList_box_new rfl 23 _ rfl c.cs rfl ?_; intro w1 b1 s1 l1; have z1 : Hid (w1.heap.size = w.heap.size + 1) := s1; clear s1) | ((with_reducible show wpList _ _ _ (({ dst := some 7, op := _, type := _, pos := _, after := _, guard := _ } : Oper) :: _) _ _); refine wpList_load_blk rfl 23 (.tmp 2) rfl _ rfl c.cs _ b1 Tryd.underlying23 rfl (cg_size c) ?_))
  have D2 : Hid (Blk w1 w.heap.size 23 c.cs ∧ True ∧ Below w.heap.size w w1) := ⟨b1, trivial, l1⟩
  clear b1 l1
  refine (HC.out _).mono ?_
  rintro e w3 ⟨rfl, l3⟩
  have D3 : Hid (Blk w3 w.heap.size 23 c.cs ∧ True ∧ Below w.heap.size w w3) := ⟨D2.out.1.later l3 D2.out.1.lt, trivial, below_chain D2.out.2.2 l3 D2.out.2.2.size⟩
  have cm : w3.cell? ⟨w.heap.size, 1, none⟩ = some (.int .i64 c.ms) := by rw [D3.out.1.cell]; rfl
  have cb : w3.cell? ⟨w.heap.size, 2, none⟩ = some (.int .i64 c.bk) := by rw [D3.out.1.cell]; rfl
  clear l3 D2 HC
  go_wp2_with fail
  have HN : Hid (∀ Q, Calls Tryd.prog 66 #[.slice (subA ao 0 cap) 4 cap] (w3.drewN Q) fun e w' => e = .returned (.int .i64 (num4 zs 0)) ∧ w' = w3.drewN Q) := fun Q => (rnumber_any _ _ _ _ ((HX.out.2.1.later D3.out.2.2 (Nat.le_refl _)).drewN Q)).mono fun e w' h => ⟨h.1, h.2.symm⟩
  generalize num4 zs 0 = N at *
  go_quiet (first | (go_at_call 66; with_reducible exact Calls.quiet_of_same (HN.out _)))
  go_wp2
  go_ret3
  exact ⟨rfl, below_dn D3.out.2.2 _⟩
set_option maxRecDepth 20000 in
set_option maxHeartbeats 2000000 in
theorem rparseDial_ok (c : Cg) (ao : Option Addr) (cap : Nat) (zs : List Int) (hcap : 92 ≤ cap) (hok : c.ok = true) (hin : inB (num4 zs 0) 0 (c.bk - 1) = true) (w : World) (hx : Seen w ao 92 zs) : Calls Tryd.prog 32 #[c.v, .slice ao 92 cap] w fun e w' => ∃ v, e = .returned (.tuple #[.int .i64 (num4 zs 0), v, .int .i64 0]) ∧ w'.ownsRow w.heap.size 5 1 v 88 ((zs.drop 4).map (Value.int .u8)) ∧ Below w.heap.size w w' := by
  have HC : Hid (∀ W, Calls Tryd.prog 11 #[.agg c.cs.toArray] W fun e w' => e = .returned (.int .i64 0) ∧ Below W.heap.size W w') := fun W => ok_err hok ▸ rcheck_any c W
  have hf := ok_fields hok
  have HX : Hid (Seen w ao 92 zs ∧ Seen w (subA ao 0 cap) 4 ((zs.drop 0).take 4) ∧ Seen w (subA ao 4 cap) 88 (zs.drop 4)) := ⟨hx, hx.sub 0 4 cap (by decide) (by decide) hcap, by
    have := hx.sub 4 92 cap (by decide) (by decide) hcap
    rwa [List.take_of_length_le (by simp [hx.len])] at this⟩
  have S0 : ∀ W, (Instr.sliceAt 24 (.slice ao 92 cap) none (some (.int .i64 4)) none).run Tryd.prog W = .ok (.slice (subA ao 0 cap) 4 cap) W := fun W => sl_h ao 92 cap 4 (by omega) W
  have S4 : ∀ W, (Instr.sliceAt 24 (.slice ao 92 cap) (some (.int .i64 4)) none none).run Tryd.prog W = .ok (.slice (subA ao 4 cap) 88 (cap - 4)) W := fun W => sl_l ao 92 cap 4 (by decide) W
  have h1 : ¬ c.bk ≤ num4 zs 0 := by simp [inB] at hin; omega
  obtain ⟨N, hN⟩ : ∃ N, num4 zs 0 = N := ⟨_, rfl⟩
  have HNN : Hid (num4 zs 0 = N) := hN
  rw [hN] at h1
  rw [hN]
  clear hok hf hin hx hN
  go_enter Tryd.func32, Tryd.ntmps32
  go_wp2_with (first | ((with_reducible show wpList _ _ _ (({ dst := some 2, op := _, type := _, pos := _, after := _, guard := _ } : Oper) :: _) _ _); refine wpList_box_new rfl 23 _ rfl c.cs rfl ?_; intro w1 b1 s1 l1; have z1 : Hid (w1.heap.size = w.heap.size + 1) := s1; clear s1) | ((with_reducible show wpList _ _ _ (({ dst := some 7, op := _, type := _, pos := _, after := _, guard := _ } : Oper) :: _) _ _); refine wpList_load_blk rfl 23 (.tmp 2) rfl _ rfl c.cs _ b1 Tryd.underlying23 rfl (cg_size c) ?_))
  have D2 : Hid (Blk w1 w.heap.size 23 c.cs ∧ True ∧ Below w.heap.size w w1) := ⟨b1, trivial, l1⟩
  clear b1 l1
  refine (HC.out _).mono ?_
  rintro e w3 ⟨rfl, l3⟩
  have D3 : Hid (Blk w3 w.heap.size 23 c.cs ∧ True ∧ Below w.heap.size w w3) := ⟨D2.out.1.later l3 D2.out.1.lt, trivial, below_chain D2.out.2.2 l3 D2.out.2.2.size⟩
  have cm : w3.cell? ⟨w.heap.size, 1, none⟩ = some (.int .i64 c.ms) := by rw [D3.out.1.cell]; rfl
  have cb : w3.cell? ⟨w.heap.size, 2, none⟩ = some (.int .i64 c.bk) := by rw [D3.out.1.cell]; rfl
  clear l3 D2 HC
  go_wp2_with fail
  have HN : Hid (∀ Q, Calls Tryd.prog 66 #[.slice (subA ao 0 cap) 4 cap] (w3.drewN Q) fun e w' => e = .returned (.int .i64 (N)) ∧ w' = w3.drewN Q) := fun Q => (rnumber_any _ _ _ _ ((HX.out.2.1.later D3.out.2.2 (Nat.le_refl _)).drewN Q)).mono fun e w' h => ⟨HNN.out ▸ h.1, h.2.symm⟩
  go_quiet (first | (go_at_call 66; with_reducible exact Calls.quiet_of_same (HN.out _)))
  obtain ⟨wq, hwq⟩ : ∃ wq, w3.drewN nq = wq := ⟨_, rfl⟩
  rw [hwq]
  have DQ : Hid (Below w.heap.size w wq) := hwq ▸ below_dn D3.out.2.2 _
  have SN : Seen wq (subA ao 0 cap) 4 ((zs.drop 0).take 4) := HX.out.2.1.later DQ.out (Nat.le_refl _)
  have SC : Seen wq (subA ao 4 cap) 88 (zs.drop 4) := HX.out.2.2.later DQ.out (Nat.le_refl _)
  have HN2 : Hid (∀ W, Seen W (subA ao 0 cap) 4 ((zs.drop 0).take 4) → Calls Tryd.prog 66 #[.slice (subA ao 0 cap) 4 cap] W fun e w' => e = .returned (.int .i64 N) ∧ W = w') := fun W h => (rnumber_any _ _ _ _ h).mono fun e w' h => ⟨HNN.out ▸ h.1, h.2⟩
  clear hwq HN D3 cm cb
  go_wp2_with fail
  go_region_with (first | (go_at_call 66; first | (refine (HN2.out _ SN.drew).mono ?_; rintro e _ ⟨rfl, rfl⟩) | (refine (HN2.out _ (SN.drew.later l5 (Nat.le_refl _))).mono ?_; rintro e _ ⟨rfl, rfl⟩)) | (go_at_call 44; refine (copyB_any _ _ _ (zs.drop 4) _ SC.drew).mono ?_; rintro e w5 ⟨v, rfl, o5, l5⟩))
  all_goals go_wp2
  all_goals go_ret3
  all_goals exact ⟨v, rfl, ownsRow_base o5 DQ.out.size, below_chain (below_dn DQ.out 1) l5 DQ.out.size⟩
set_option maxRecDepth 20000 in
set_option maxHeartbeats 2000000 in
theorem rparseReply_big (c : Cg) (ao : Option Addr) (n cap : Nat) (zs : List Int) (hok : c.ok = true) (hn : (n : Int) = 1 + c.ms) (w : World) (hx : Seen w ao n zs) (hb : 1 < zs.getD 0 0) : Calls Tryd.prog 28 #[c.v, .slice ao n cap] w fun e w' => e = .returned (.tuple #[.bool false, .slice none 0 0, .int .i64 203]) ∧ Below w.heap.size w w' := by
  have HC : Hid (∀ W, Calls Tryd.prog 11 #[.agg c.cs.toArray] W fun e w' => e = .returned (.int .i64 0) ∧ Below W.heap.size W w') := fun W => ok_err hok ▸ rcheck_any c W
  have hf := ok_fields hok
  have n1 : ((n : Int) != 1 + c.ms) = false := by simpa using hn
  have n2 : wrap64 (1 + c.ms) = 1 + c.ms := by simp [wrap64]; omega
  have hn1 : 1 ≤ n := by omega
  have hn5 : n ≤ 600 := by omega
  obtain ⟨b, o, rfl, hbl, hc⟩ := hx.cells (by omega)
  have c0 : w.cell? ⟨b, o, none⟩ = some (.int .u8 (zs.getD 0 0)) := hc 0 (by omega)
  have i1 : (0 : Int) < (n : Int) := by omega
  obtain ⟨Z, hZ⟩ : ∃ Z, zs.getD 0 0 = Z := ⟨_, rfl⟩
  rw [hZ] at c0
  have h1 : 1 < Z := by rw [← hZ]; exact hb
  have C0 : Hid (w.cell? ⟨b, o, none⟩ = some (.int .u8 Z) ∧ b < w.heap.size) := ⟨c0, hbl⟩
  clear hok hn hf hx hc hZ hb c0 hbl
  go_enter Tryd.func28, Tryd.ntmps28
  go_wp2_with (first | ((with_reducible show wpList _ _ _ (({ dst := some 2, op := _, type := _, pos := _, after := _, guard := _ } : Oper) :: _) _ _); refine wpList_box_new rfl 23 _ rfl c.cs rfl ?_; intro w1 b1 s1 l1; have z1 : Hid (w1.heap.size = w.heap.size + 1) := s1; clear s1) | ((with_reducible show wpList _ _ _ (({ dst := some 7, op := _, type := _, pos := _, after := _, guard := _ } : Oper) :: _) _ _); refine wpList_load_blk rfl 23 (.tmp 2) rfl _ rfl c.cs _ b1 Tryd.underlying23 rfl (cg_size c) ?_))
  have D2 : Hid (Blk w1 w.heap.size 23 c.cs ∧ True ∧ Below w.heap.size w w1) := ⟨b1, trivial, l1⟩
  clear b1 l1
  refine (HC.out _).mono ?_
  rintro e w3 ⟨rfl, l3⟩
  have D3 : Hid (Blk w3 w.heap.size 23 c.cs ∧ True ∧ Below w.heap.size w w3) := ⟨D2.out.1.later l3 D2.out.1.lt, trivial, below_chain D2.out.2.2 l3 D2.out.2.2.size⟩
  have cm : w3.cell? ⟨w.heap.size, 1, none⟩ = some (.int .i64 c.ms) := by rw [D3.out.1.cell]; rfl
  have cb : w3.cell? ⟨w.heap.size, 2, none⟩ = some (.int .i64 c.bk) := by rw [D3.out.1.cell]; rfl
  clear l3 D2 HC
  have c3 : w3.cell? ⟨b, o, none⟩ = some (.int .u8 Z) := (D3.out.2.2.cell (p := ⟨b, o, none⟩) C0.out.2).trans C0.out.1
  go_wp2_with fail
  go_ret3
  exact ⟨rfl, D3.out.2.2⟩
set_option maxRecDepth 20000 in
set_option maxHeartbeats 2000000 in
theorem rparseReply_odd (c : Cg) (ao : Option Addr) (n cap : Nat) (zs : List Int) (hok : c.ok = true) (hn : (n : Int) = 1 + c.ms) (w : World) (hx : Seen w ao n zs) (hb : zs.getD 0 0 = 0) (hne : zs ≠ List.replicate n 0) : Calls Tryd.prog 28 #[c.v, .slice ao n cap] w fun e w' => e = .returned (.tuple #[.bool false, .slice none 0 0, .int .i64 203]) ∧ Below w.heap.size w w' := by
  have HC : Hid (∀ W, Calls Tryd.prog 11 #[.agg c.cs.toArray] W fun e w' => e = .returned (.int .i64 0) ∧ Below W.heap.size W w') := fun W => ok_err hok ▸ rcheck_any c W
  have hf := ok_fields hok
  have n1 : ((n : Int) != 1 + c.ms) = false := by simpa using hn
  have n2 : wrap64 (1 + c.ms) = 1 + c.ms := by simp [wrap64]; omega
  have hn1 : 1 ≤ n := by omega
  have hn5 : n ≤ 600 := by omega
  obtain ⟨b, o, rfl, hbl, hc⟩ := hx.cells (by omega)
  have c0 : w.cell? ⟨b, o, none⟩ = some (.int .u8 (zs.getD 0 0)) := hc 0 (by omega)
  have i1 : (0 : Int) < (n : Int) := by omega
  obtain ⟨Z, hZ⟩ : ∃ Z, zs.getD 0 0 = Z := ⟨_, rfl⟩
  rw [hZ] at c0
  have HMK : Hid (∀ W : World, (Instr.makeSlice 24 (.int .i64 (n : Int)) (.int .i64 (n : Int))).run Tryd.prog W = .ok (.slice (some ⟨W.heap.size, 0, none⟩) n n) (W.alloc (.cells (u8s (List.replicate n 0)).toArray 5))) := fun W => by
    obtain ⟨i0, hi, hz0, hz1, hz2⟩ := info_parts info_byte
    have hmk := run_make (P := Tryd.prog) W 24 5 i0 (.int .u8 0) Tryd.underlying24 hi hz0 .i64 .i64 (n : Int) (n : Int) (by omega) (Int.le_refl _) (by rw [hz2]; omega) (by omega)
    rw [hz1, show ((n : Int).toNat) = n by omega, Nat.mul_one, show (Value.int .u8 0).cells = #[.int .u8 0] from rfl, made_zero8] at hmk
    exact hmk
  obtain rfl : Z = 0 := by rw [← hZ]; exact hb
  have C0 : Hid (w.cell? ⟨b, o, none⟩ = some (.int .u8 0) ∧ b < w.heap.size ∧ Seen w (some ⟨b, o, none⟩) n zs) := ⟨c0, hbl, hx⟩
  have HE : Hid (∀ W g, Seen W (some ⟨g, 0, none⟩) n (List.replicate n 0) → Seen W (some ⟨b, o, none⟩) n zs → Calls Tryd.prog 12 #[.slice (some ⟨b, o, none⟩) n cap, .slice (some ⟨g, 0, none⟩) n n] W fun e w' => e = .returned (.bool false) ∧ ∃ q, w' = W.drewN q) := fun W g h1 h2 => by
    have := reqb_any (some ⟨b, o, none⟩) (some ⟨g, 0, none⟩) n n cap n zs (List.replicate n 0) W h2 h1
    rwa [decide_eq_false hne] at this
  clear hok hn hf hx hc hZ hb c0 hbl hne
  go_enter Tryd.func28, Tryd.ntmps28
  go_wp2_with (first | ((with_reducible show wpList _ _ _ (({ dst := some 2, op := _, type := _, pos := _, after := _, guard := _ } : Oper) :: _) _ _); refine wpList_box_new rfl 23 _ rfl c.cs rfl ?_; intro w1 b1 s1 l1; have z1 : Hid (w1.heap.size = w.heap.size + 1) := s1; clear s1) | ((with_reducible show wpList _ _ _ (({ dst := some 7, op := _, type := _, pos := _, after := _, guard := _ } : Oper) :: _) _ _); refine wpList_load_blk rfl 23 (.tmp 2) rfl _ rfl c.cs _ b1 Tryd.underlying23 rfl (cg_size c) ?_))
  have D2 : Hid (Blk w1 w.heap.size 23 c.cs ∧ True ∧ Below w.heap.size w w1) := ⟨b1, trivial, l1⟩
  clear b1 l1
  refine (HC.out _).mono ?_
  rintro e w3 ⟨rfl, l3⟩
  have D3 : Hid (Blk w3 w.heap.size 23 c.cs ∧ True ∧ Below w.heap.size w w3) := ⟨D2.out.1.later l3 D2.out.1.lt, trivial, below_chain D2.out.2.2 l3 D2.out.2.2.size⟩
  have cm : w3.cell? ⟨w.heap.size, 1, none⟩ = some (.int .i64 c.ms) := by rw [D3.out.1.cell]; rfl
  have cb : w3.cell? ⟨w.heap.size, 2, none⟩ = some (.int .i64 c.bk) := by rw [D3.out.1.cell]; rfl
  clear l3 D2 HC
  have c3 : w3.cell? ⟨b, o, none⟩ = some (.int .u8 0) := (D3.out.2.2.cell (p := ⟨b, o, none⟩) C0.out.2.1).trans C0.out.1
  have hmk := HMK.out w3
  obtain ⟨w4, hw4, D4⟩ : ∃ w4, w3.alloc (.cells (u8s (List.replicate n 0)).toArray 5) = w4 ∧ Hid (Seen w4 (some ⟨w3.heap.size, 0, none⟩) n (List.replicate n 0) ∧ Seen w4 (some ⟨b, o, none⟩) n zs ∧ Below w.heap.size w w4) := by
    have hB := heap_alloc_new w3 (.cells (u8s (List.replicate n 0)).toArray 5)
    have l := below_chain D3.out.2.2 ((Below.refl w3.heap.size w3).alloc (Nat.le_refl _) (.cells (u8s (List.replicate n 0)).toArray 5)) D3.out.2.2.size
    refine ⟨_, rfl, ⟨by simp, by omega, (fun z hz => by rw [List.eq_of_mem_replicate hz]; omega), fun _ => ⟨w3.heap.size, 0, rfl, by simp, fun i hi => (by
      rw [cell_of_row _ _ _ _ _ _ hB]
      simp [u8s, List.getD, hi])⟩⟩, C0.out.2.2.later l (Nat.le_refl _), l⟩
  rw [hw4] at hmk
  clear hw4 HMK
  go_wp2_with fail
  refine (HE.out _ _ D4.out.1 D4.out.2.1).mono ?_
  rintro e _ ⟨rfl, q, rfl⟩
  go_wp2_with fail
  go_ret3
  exact ⟨rfl, below_dn D4.out.2.2 _⟩
set_option maxRecDepth 20000 in
set_option maxHeartbeats 2000000 in
theorem rparseReply_yes (c : Cg) (ao : Option Addr) (n cap : Nat) (zs : List Int) (hcap : n ≤ cap) (hok : c.ok = true) (hn : (n : Int) = 1 + c.ms) (w : World) (hx : Seen w ao n zs) (hb : zs.getD 0 0 = 1) : Calls Tryd.prog 28 #[c.v, .slice ao n cap] w fun e w' => ∃ v, e = .returned (.tuple #[.bool true, v, .int .i64 0]) ∧ w'.ownsRow w.heap.size 5 1 v (n - 1) ((zs.drop 1).map (Value.int .u8)) ∧ Below w.heap.size w w' := by
  have HC : Hid (∀ W, Calls Tryd.prog 11 #[.agg c.cs.toArray] W fun e w' => e = .returned (.int .i64 0) ∧ Below W.heap.size W w') := fun W => ok_err hok ▸ rcheck_any c W
  have hf := ok_fields hok
  have n1 : ((n : Int) != 1 + c.ms) = false := by simpa using hn
  have n2 : wrap64 (1 + c.ms) = 1 + c.ms := by simp [wrap64]; omega
  have hn1 : 1 ≤ n := by omega
  have hn5 : n ≤ 600 := by omega
  have hsub : Seen w (subA ao 1 cap) (n - 1) (zs.drop 1) := by
    have := hx.sub 1 n cap hn1 (Nat.le_refl _) hcap
    rwa [List.take_of_length_le (by simp [hx.len])] at this
  have S1 : ∀ W, (Instr.sliceAt 24 (.slice ao n cap) (some (.int .i64 1)) none none).run Tryd.prog W = .ok (.slice (subA ao 1 cap) (n - 1) (cap - 1)) W := fun W => sl_l ao n cap 1 hn1 W
  obtain ⟨b, o, rfl, hbl, hc⟩ := hx.cells (by omega)
  have c0 : w.cell? ⟨b, o, none⟩ = some (.int .u8 (zs.getD 0 0)) := hc 0 (by omega)
  have i1 : (0 : Int) < (n : Int) := by omega
  obtain ⟨Z, hZ⟩ : ∃ Z, zs.getD 0 0 = Z := ⟨_, rfl⟩
  rw [hZ] at c0
  obtain rfl : Z = 1 := by rw [← hZ]; exact hb
  have C0 : Hid (w.cell? ⟨b, o, none⟩ = some (.int .u8 1) ∧ b < w.heap.size ∧ Seen w (some ⟨b, o, none⟩) n zs) := ⟨c0, hbl, hx⟩
  obtain ⟨A, hA⟩ : ∃ A, subA (some ⟨b, o, none⟩) 1 cap = A := ⟨_, rfl⟩
  rw [hA] at S1 hsub
  have CS : Hid (Seen w A (n - 1) (zs.drop 1)) := hsub
  clear hok hn hf hx hc hZ hb c0 hbl hA hsub
  go_enter Tryd.func28, Tryd.ntmps28
  go_wp2_with (first | ((with_reducible show wpList _ _ _ (({ dst := some 2, op := _, type := _, pos := _, after := _, guard := _ } : Oper) :: _) _ _); refine wpList_box_new rfl 23 _ rfl c.cs rfl ?_; intro w1 b1 s1 l1; have z1 : Hid (w1.heap.size = w.heap.size + 1) := s1; clear s1) | ((with_reducible show wpList _ _ _ (({ dst := some 7, op := _, type := _, pos := _, after := _, guard := _ } : Oper) :: _) _ _); refine wpList_load_blk rfl 23 (.tmp 2) rfl _ rfl c.cs _ b1 Tryd.underlying23 rfl (cg_size c) ?_))
  have D2 : Hid (Blk w1 w.heap.size 23 c.cs ∧ True ∧ Below w.heap.size w w1) := ⟨b1, trivial, l1⟩
  clear b1 l1
  refine (HC.out _).mono ?_
  rintro e w3 ⟨rfl, l3⟩
  have D3 : Hid (Blk w3 w.heap.size 23 c.cs ∧ True ∧ Below w.heap.size w w3) := ⟨D2.out.1.later l3 D2.out.1.lt, trivial, below_chain D2.out.2.2 l3 D2.out.2.2.size⟩
  have cm : w3.cell? ⟨w.heap.size, 1, none⟩ = some (.int .i64 c.ms) := by rw [D3.out.1.cell]; rfl
  have cb : w3.cell? ⟨w.heap.size, 2, none⟩ = some (.int .i64 c.bk) := by rw [D3.out.1.cell]; rfl
  clear l3 D2 HC
  have c3 : w3.cell? ⟨b, o, none⟩ = some (.int .u8 1) := (D3.out.2.2.cell (p := ⟨b, o, none⟩) C0.out.2.1).trans C0.out.1
  go_wp2_with fail
  obtain ⟨wq, hwq⟩ : ∃ wq, w3 = wq := ⟨_, rfl⟩
  rw [hwq]
  have DQ : Hid (Below w.heap.size w wq) := hwq ▸ D3.out.2.2
  clear hwq D3 c3 cm cb
  have c4 : wq.cell? ⟨b, o, none⟩ = some (.int .u8 1) := (DQ.out.cell (p := ⟨b, o, none⟩) C0.out.2.1).trans C0.out.1
  have SC : Seen wq A (n - 1) (zs.drop 1) := CS.out.later DQ.out (Nat.le_refl _)
  go_wp2_with fail
  go_region_with (go_at_call 44; refine (copyB_any _ _ _ (zs.drop 1) _ SC.drew).mono ?_; rintro e w5 ⟨v, rfl, o5, l5⟩; have c5 : w5.cell? ⟨b, o, none⟩ = some (.int .u8 1) := (l5.cell (p := ⟨b, o, none⟩) (Nat.lt_of_lt_of_le C0.out.2.1 DQ.out.size)).trans c4)
  all_goals go_wp2
  all_goals go_ret3
  all_goals exact ⟨v, rfl, ownsRow_base o5 DQ.out.size, below_chain (below_dn DQ.out 1) l5 DQ.out.size⟩
set_option maxRecDepth 20000 in
set_option maxHeartbeats 2000000 in
theorem rparseReply_nil (c : Cg) (ao : Option Addr) (n cap : Nat) (zs : List Int) (hcap : n ≤ cap) (hok : c.ok = true) (hn : (n : Int) = 1 + c.ms) (w : World) (hx : Seen w ao n zs) (hb : zs.getD 0 0 = 0) (heq : zs = List.replicate n 0) : Calls Tryd.prog 28 #[c.v, .slice ao n cap] w fun e w' => ∃ v, e = .returned (.tuple #[.bool false, v, .int .i64 0]) ∧ w'.ownsRow w.heap.size 5 1 v (n - 1) ((zs.drop 1).map (Value.int .u8)) ∧ Below w.heap.size w w' := by
  have HC : Hid (∀ W, Calls Tryd.prog 11 #[.agg c.cs.toArray] W fun e w' => e = .returned (.int .i64 0) ∧ Below W.heap.size W w') := fun W => ok_err hok ▸ rcheck_any c W
  have hf := ok_fields hok
  have n1 : ((n : Int) != 1 + c.ms) = false := by simpa using hn
  have n2 : wrap64 (1 + c.ms) = 1 + c.ms := by simp [wrap64]; omega
  have hn1 : 1 ≤ n := by omega
  have hn5 : n ≤ 600 := by omega
  have hsub : Seen w (subA ao 1 cap) (n - 1) (zs.drop 1) := by
    have := hx.sub 1 n cap hn1 (Nat.le_refl _) hcap
    rwa [List.take_of_length_le (by simp [hx.len])] at this
  have S1 : ∀ W, (Instr.sliceAt 24 (.slice ao n cap) (some (.int .i64 1)) none none).run Tryd.prog W = .ok (.slice (subA ao 1 cap) (n - 1) (cap - 1)) W := fun W => sl_l ao n cap 1 hn1 W
  obtain ⟨b, o, rfl, hbl, hc⟩ := hx.cells (by omega)
  have c0 : w.cell? ⟨b, o, none⟩ = some (.int .u8 (zs.getD 0 0)) := hc 0 (by omega)
  have i1 : (0 : Int) < (n : Int) := by omega
  obtain ⟨Z, hZ⟩ : ∃ Z, zs.getD 0 0 = Z := ⟨_, rfl⟩
  rw [hZ] at c0
  have HMK : Hid (∀ W : World, (Instr.makeSlice 24 (.int .i64 (n : Int)) (.int .i64 (n : Int))).run Tryd.prog W = .ok (.slice (some ⟨W.heap.size, 0, none⟩) n n) (W.alloc (.cells (u8s (List.replicate n 0)).toArray 5))) := fun W => by
    obtain ⟨i0, hi, hz0, hz1, hz2⟩ := info_parts info_byte
    have hmk := run_make (P := Tryd.prog) W 24 5 i0 (.int .u8 0) Tryd.underlying24 hi hz0 .i64 .i64 (n : Int) (n : Int) (by omega) (Int.le_refl _) (by rw [hz2]; omega) (by omega)
    rw [hz1, show ((n : Int).toNat) = n by omega, Nat.mul_one, show (Value.int .u8 0).cells = #[.int .u8 0] from rfl, made_zero8] at hmk
    exact hmk
  obtain rfl : Z = 0 := by rw [← hZ]; exact hb
  have C0 : Hid (w.cell? ⟨b, o, none⟩ = some (.int .u8 0) ∧ b < w.heap.size ∧ Seen w (some ⟨b, o, none⟩) n zs) := ⟨c0, hbl, hx⟩
  obtain ⟨A, hA⟩ : ∃ A, subA (some ⟨b, o, none⟩) 1 cap = A := ⟨_, rfl⟩
  rw [hA] at S1 hsub
  have CS : Hid (Seen w A (n - 1) (zs.drop 1)) := hsub
  have HE : Hid (∀ W g, Seen W (some ⟨g, 0, none⟩) n (List.replicate n 0) → Seen W (some ⟨b, o, none⟩) n zs → Calls Tryd.prog 12 #[.slice (some ⟨b, o, none⟩) n cap, .slice (some ⟨g, 0, none⟩) n n] W fun e w' => e = .returned (.bool true) ∧ ∃ q, w' = W.drewN q) := fun W g h1 h2 => by
    have := reqb_any (some ⟨b, o, none⟩) (some ⟨g, 0, none⟩) n n cap n zs (List.replicate n 0) W h2 h1
    rwa [decide_eq_true heq] at this
  clear hok hn hf hx hc hZ hb c0 hbl hA hsub heq
  go_enter Tryd.func28, Tryd.ntmps28
  go_wp2_with (first | ((with_reducible show wpList _ _ _ (({ dst := some 2, op := _, type := _, pos := _, after := _, guard := _ } : Oper) :: _) _ _); refine wpList_box_new rfl 23 _ rfl c.cs rfl ?_; intro w1 b1 s1 l1; have z1 : Hid (w1.heap.size = w.heap.size + 1) := s1; clear s1) | ((with_reducible show wpList _ _ _ (({ dst := some 7, op := _, type := _, pos := _, after := _, guard := _ } : Oper) :: _) _ _); refine wpList_load_blk rfl 23 (.tmp 2) rfl _ rfl c.cs _ b1 Tryd.underlying23 rfl (cg_size c) ?_))
  have D2 : Hid (Blk w1 w.heap.size 23 c.cs ∧ True ∧ Below w.heap.size w w1) := ⟨b1, trivial, l1⟩
  clear b1 l1
  refine (HC.out _).mono ?_
  rintro e w3 ⟨rfl, l3⟩
  have D3 : Hid (Blk w3 w.heap.size 23 c.cs ∧ True ∧ Below w.heap.size w w3) := ⟨D2.out.1.later l3 D2.out.1.lt, trivial, below_chain D2.out.2.2 l3 D2.out.2.2.size⟩
  have cm : w3.cell? ⟨w.heap.size, 1, none⟩ = some (.int .i64 c.ms) := by rw [D3.out.1.cell]; rfl
  have cb : w3.cell? ⟨w.heap.size, 2, none⟩ = some (.int .i64 c.bk) := by rw [D3.out.1.cell]; rfl
  clear l3 D2 HC
  have c3 : w3.cell? ⟨b, o, none⟩ = some (.int .u8 0) := (D3.out.2.2.cell (p := ⟨b, o, none⟩) C0.out.2.1).trans C0.out.1
  have hmk := HMK.out w3
  obtain ⟨w4, hw4, D4⟩ : ∃ w4, w3.alloc (.cells (u8s (List.replicate n 0)).toArray 5) = w4 ∧ Hid (Seen w4 (some ⟨w3.heap.size, 0, none⟩) n (List.replicate n 0) ∧ Seen w4 (some ⟨b, o, none⟩) n zs ∧ Below w.heap.size w w4) := by
    have hB := heap_alloc_new w3 (.cells (u8s (List.replicate n 0)).toArray 5)
    have l := below_chain D3.out.2.2 ((Below.refl w3.heap.size w3).alloc (Nat.le_refl _) (.cells (u8s (List.replicate n 0)).toArray 5)) D3.out.2.2.size
    refine ⟨_, rfl, ⟨by simp, by omega, (fun z hz => by rw [List.eq_of_mem_replicate hz]; omega), fun _ => ⟨w3.heap.size, 0, rfl, by simp, fun i hi => (by
      rw [cell_of_row _ _ _ _ _ _ hB]
      simp [u8s, List.getD, hi])⟩⟩, C0.out.2.2.later l (Nat.le_refl _), l⟩
  rw [hw4] at hmk
  clear hw4 HMK
  go_wp2_with fail
  refine (HE.out _ _ D4.out.1 D4.out.2.1).mono ?_
  rintro e _ ⟨rfl, q, rfl⟩
  obtain ⟨wq, hwq⟩ : ∃ wq, w4.drewN q = wq := ⟨_, rfl⟩
  rw [hwq]
  have DQ : Hid (Below w.heap.size w wq) := hwq ▸ below_dn D4.out.2.2 _
  clear hwq D4 D3 c3 cm cb hmk
  have c4 : wq.cell? ⟨b, o, none⟩ = some (.int .u8 0) := (DQ.out.cell (p := ⟨b, o, none⟩) C0.out.2.1).trans C0.out.1
  have SC : Seen wq A (n - 1) (zs.drop 1) := CS.out.later DQ.out (Nat.le_refl _)
  go_wp2_with fail
  go_region_with (go_at_call 44; refine (copyB_any _ _ _ (zs.drop 1) _ SC.drew).mono ?_; rintro e w5 ⟨v, rfl, o5, l5⟩; have c5 : w5.cell? ⟨b, o, none⟩ = some (.int .u8 0) := (l5.cell (p := ⟨b, o, none⟩) (Nat.lt_of_lt_of_le C0.out.2.1 DQ.out.size)).trans c4)
  all_goals go_wp2
  all_goals go_ret3
  all_goals exact ⟨v, rfl, ownsRow_base o5 DQ.out.size, below_chain (below_dn DQ.out 1) l5 DQ.out.size⟩
end Go.Proofs.YtmgkjldjeomcmaaDoor
