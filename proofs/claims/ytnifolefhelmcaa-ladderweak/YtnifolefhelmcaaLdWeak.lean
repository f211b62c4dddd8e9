/- Layer ladder: the weak public keys. -/
import Derived.Test.YtnifolefhelmcaaLdLaws
namespace Go.Proofs.Ytnifolefhelmcaa
open Go.RowKit
set_option linter.unusedVariables false
set_option linter.unusedSimpArgs false

/-- Whatever the private key, the product is 0. -/
def Wk (L : List Int) : Prop := L.length = 32 ∧ Bytes L ∧ (phi (pubN L) = 0 ∨ (EC.dblF (EC.dblF (EC.dblF (phi (pubN L), 1)))).2 = 0)
theorem Wk.zero {L : List Int} (h : Wk L) (ks : List Int) (hk : ks.length = 32) (bk : Bytes ks) : prodN ks L = 0 := weakI _ _ (cl_of ks hk bk) h.2.2
theorem bytes_all {L : List Int} (h : L.all (fun z => decide (0 ≤ z ∧ z < 256)) = true) : Bytes L := fun z hz => of_decide_eq_true (List.all_eq_true.1 h z hz)
def wl0 : List Int := zK32
theorem wk0 : Wk wl0 := ⟨rfl, bytes_all (by decide +kernel), by decide +kernel⟩
def wl1 : List Int := (1 :: List.replicate 31 0)
theorem wk1 : Wk wl1 := ⟨rfl, bytes_all (by decide +kernel), by decide +kernel⟩
def wl2 : List Int := (primeL 1)
theorem wk2 : Wk wl2 := ⟨rfl, bytes_all (by decide +kernel), by decide +kernel⟩
def wl3 : List Int := (primeL 0)
theorem wk3 : Wk wl3 := ⟨rfl, bytes_all (by decide +kernel), by decide +kernel⟩
def wl4 : List Int := (primeL (-1))
theorem wk4 : Wk wl4 := ⟨rfl, bytes_all (by decide +kernel), by decide +kernel⟩
def wl5 : List Int := [224, 235, 122, 124, 59, 65, 184, 174, 22, 86, 227, 250, 241, 159, 196, 106, 218, 9, 141, 235, 156, 50, 177, 253, 134, 98, 5, 22, 95, 73, 184, 0]
theorem wk5 : Wk wl5 := ⟨rfl, bytes_all (by decide +kernel), by decide +kernel⟩
def wl6 : List Int := [95, 156, 149, 188, 163, 80, 140, 36, 177, 208, 177, 85, 156, 131, 239, 91, 4, 68, 92, 196, 88, 28, 142, 134, 216, 34, 78, 221, 208, 159, 17, 87]
theorem wk6 : Wk wl6 := ⟨rfl, bytes_all (by decide +kernel), by decide +kernel⟩
theorem bw1 (w : World) : (Instr.build 58 #[(0, .int .u8 1)]).run Try.prog w = .ok (.agg (u8s wl1).toArray) w := by kernel_rfl
theorem bw5 (w : World) : (Instr.build 58 #[(0, .int .u8 224), (1, .int .u8 235), (2, .int .u8 122), (3, .int .u8 124), (4, .int .u8 59), (5, .int .u8 65), (6, .int .u8 184), (7, .int .u8 174), (8, .int .u8 22), (9, .int .u8 86), (10, .int .u8 227), (11, .int .u8 250), (12, .int .u8 241), (13, .int .u8 159), (14, .int .u8 196), (15, .int .u8 106), (16, .int .u8 218), (17, .int .u8 9), (18, .int .u8 141), (19, .int .u8 235), (20, .int .u8 156), (21, .int .u8 50), (22, .int .u8 177), (23, .int .u8 253), (24, .int .u8 134), (25, .int .u8 98), (26, .int .u8 5), (27, .int .u8 22), (28, .int .u8 95), (29, .int .u8 73), (30, .int .u8 184), (31, .int .u8 0)]).run Try.prog w = .ok (.agg (u8s wl5).toArray) w := by kernel_rfl
theorem bw6 (w : World) : (Instr.build 58 #[(0, .int .u8 95), (1, .int .u8 156), (2, .int .u8 149), (3, .int .u8 188), (4, .int .u8 163), (5, .int .u8 80), (6, .int .u8 140), (7, .int .u8 36), (8, .int .u8 177), (9, .int .u8 208), (10, .int .u8 177), (11, .int .u8 85), (12, .int .u8 156), (13, .int .u8 131), (14, .int .u8 239), (15, .int .u8 91), (16, .int .u8 4), (17, .int .u8 68), (18, .int .u8 92), (19, .int .u8 196), (20, .int .u8 88), (21, .int .u8 28), (22, .int .u8 142), (23, .int .u8 134), (24, .int .u8 216), (25, .int .u8 34), (26, .int .u8 78), (27, .int .u8 221), (28, .int .u8 208), (29, .int .u8 159), (30, .int .u8 17), (31, .int .u8 87)]).run Try.prog w = .ok (.agg (u8s wl6).toArray) w := by kernel_rfl
theorem bw0 (w : World) : (Instr.build 58 #[]).run Try.prog w = .ok (.agg (u8s wl0).toArray) w := by kernel_rfl
set_option maxRecDepth 20000 in
set_option maxHeartbeats 1000000 in
theorem weak1_any (i : Int) (h : Int.tmod i 7 = 1) (w : World) :
    Calls Try.prog 49 #[.int .i64 i] w fun e w' => e = .returned (.agg (u8s wl1).toArray) ∧ Below w.heap.size w w' := by
  have hb := bw1
  have HL : Hid ((u8s wl1).length = 32) := rfl
  obtain ⟨L, hL⟩ : ∃ z, wl1 = z := ⟨_, rfl⟩
  rw [hL] at hb HL ⊢
  clear hL
  go_enter Try.func49, Try.ntmps49
  go_wp2_with (first | (refine wpList_alloc_new rfl 58 rfl 32 _ zeroKey ?_; intro x1 z1 s1 l1) | ((with_reducible show wpList _ _ _ (({ dst := some 9, op := _, type := _, pos := _, after := _, guard := _ } : Oper) :: _) _ _); refine wpList_build rfl 58 _ rfl #[(0, .int .u8 1)] (by simp [Act.eval]) _ (hb _) ?_) | (refine wpList_store_blk rfl 58 58 (.tmp 2) _ rfl w.heap.size rfl _ (u8s L) rfl z1 (by rw [HL.out]; rfl) (by rw [HL.out]; exact sizeKey) (u8s_one _) ?_; intro y7 b7 s7 k7))
  exact ret_blk rfl w.heap.size (u8s L) _ rfl b7 Try.underlying58 rfl (by rw [HL.out]; exact sizeKey) rfl ⟨rfl, below_kept l1 k7 (by omega) (fun j hj => by omega)⟩
set_option maxRecDepth 20000 in
set_option maxHeartbeats 1000000 in
theorem weak5_any (i : Int) (h : Int.tmod i 7 = 5) (w : World) :
    Calls Try.prog 49 #[.int .i64 i] w fun e w' => e = .returned (.agg (u8s wl5).toArray) ∧ Below w.heap.size w w' := by
  have hb := bw5
  have HL : Hid ((u8s wl5).length = 32) := rfl
  obtain ⟨L, hL⟩ : ∃ z, wl5 = z := ⟨_, rfl⟩
  rw [hL] at hb HL ⊢
  clear hL
  go_enter Try.func49, Try.ntmps49
  go_wp2_with (first | (refine wpList_alloc_new rfl 58 rfl 32 _ zeroKey ?_; intro x1 z1 s1 l1) | ((with_reducible show wpList _ _ _ (({ dst := some 30, op := _, type := _, pos := _, after := _, guard := _ } : Oper) :: _) _ _); refine wpList_build rfl 58 _ rfl #[(0, .int .u8 224), (1, .int .u8 235), (2, .int .u8 122), (3, .int .u8 124), (4, .int .u8 59), (5, .int .u8 65), (6, .int .u8 184), (7, .int .u8 174), (8, .int .u8 22), (9, .int .u8 86), (10, .int .u8 227), (11, .int .u8 250), (12, .int .u8 241), (13, .int .u8 159), (14, .int .u8 196), (15, .int .u8 106), (16, .int .u8 218), (17, .int .u8 9), (18, .int .u8 141), (19, .int .u8 235), (20, .int .u8 156), (21, .int .u8 50), (22, .int .u8 177), (23, .int .u8 253), (24, .int .u8 134), (25, .int .u8 98), (26, .int .u8 5), (27, .int .u8 22), (28, .int .u8 95), (29, .int .u8 73), (30, .int .u8 184), (31, .int .u8 0)] (by simp [Act.eval]) _ (hb _) ?_) | (refine wpList_store_blk rfl 58 58 (.tmp 2) _ rfl w.heap.size rfl _ (u8s L) rfl z1 (by rw [HL.out]; rfl) (by rw [HL.out]; exact sizeKey) (u8s_one _) ?_; intro y7 b7 s7 k7))
  exact ret_blk rfl w.heap.size (u8s L) _ rfl b7 Try.underlying58 rfl (by rw [HL.out]; exact sizeKey) rfl ⟨rfl, below_kept l1 k7 (by omega) (fun j hj => by omega)⟩
set_option maxRecDepth 20000 in
set_option maxHeartbeats 1000000 in
theorem weak6_any (i : Int) (h : Int.tmod i 7 = 6) (w : World) :
    Calls Try.prog 49 #[.int .i64 i] w fun e w' => e = .returned (.agg (u8s wl6).toArray) ∧ Below w.heap.size w w' := by
  have hb := bw6
  have HL : Hid ((u8s wl6).length = 32) := rfl
  obtain ⟨L, hL⟩ : ∃ z, wl6 = z := ⟨_, rfl⟩
  rw [hL] at hb HL ⊢
  clear hL
  go_enter Try.func49, Try.ntmps49
  go_wp2_with (first | (refine wpList_alloc_new rfl 58 rfl 32 _ zeroKey ?_; intro x1 z1 s1 l1) | ((with_reducible show wpList _ _ _ (({ dst := some 33, op := _, type := _, pos := _, after := _, guard := _ } : Oper) :: _) _ _); refine wpList_build rfl 58 _ rfl #[(0, .int .u8 95), (1, .int .u8 156), (2, .int .u8 149), (3, .int .u8 188), (4, .int .u8 163), (5, .int .u8 80), (6, .int .u8 140), (7, .int .u8 36), (8, .int .u8 177), (9, .int .u8 208), (10, .int .u8 177), (11, .int .u8 85), (12, .int .u8 156), (13, .int .u8 131), (14, .int .u8 239), (15, .int .u8 91), (16, .int .u8 4), (17, .int .u8 68), (18, .int .u8 92), (19, .int .u8 196), (20, .int .u8 88), (21, .int .u8 28), (22, .int .u8 142), (23, .int .u8 134), (24, .int .u8 216), (25, .int .u8 34), (26, .int .u8 78), (27, .int .u8 221), (28, .int .u8 208), (29, .int .u8 159), (30, .int .u8 17), (31, .int .u8 87)] (by simp [Act.eval]) _ (hb _) ?_) | (refine wpList_store_blk rfl 58 58 (.tmp 2) _ rfl w.heap.size rfl _ (u8s L) rfl z1 (by rw [HL.out]; rfl) (by rw [HL.out]; exact sizeKey) (u8s_one _) ?_; intro y7 b7 s7 k7))
  exact ret_blk rfl w.heap.size (u8s L) _ rfl b7 Try.underlying58 rfl (by rw [HL.out]; exact sizeKey) rfl ⟨rfl, below_kept l1 k7 (by omega) (fun j hj => by omega)⟩
set_option maxRecDepth 20000 in
set_option maxHeartbeats 1000000 in
theorem weak0_any (i : Int) (h : Int.tmod i 7 = 0) (w : World) :
    Calls Try.prog 49 #[.int .i64 i] w fun e w' => e = .returned (.agg (u8s wl0).toArray) ∧ Below w.heap.size w w' := by
  have hb := bw0
  have HL : Hid ((u8s wl0).length = 32) := rfl
  obtain ⟨L, hL⟩ : ∃ z, wl0 = z := ⟨_, rfl⟩
  rw [hL] at hb HL ⊢
  clear hL
  go_enter Try.func49, Try.ntmps49
  go_wp2_with (first | (refine wpList_alloc_new rfl 58 rfl 32 _ zeroKey ?_; intro x1 z1 s1 l1) | ((with_reducible show wpList _ _ _ (({ dst := some 34, op := _, type := _, pos := _, after := _, guard := _ } : Oper) :: _) _ _); refine wpList_build rfl 58 _ rfl #[] (by simp [Act.eval]) _ (hb _) ?_) | (refine wpList_store_blk rfl 58 58 (.tmp 2) _ rfl w.heap.size rfl _ (u8s L) rfl z1 (by rw [HL.out]; rfl) (by rw [HL.out]; exact sizeKey) (u8s_one _) ?_; intro y7 b7 s7 k7))
  exact ret_blk rfl w.heap.size (u8s L) _ rfl b7 Try.underlying58 rfl (by rw [HL.out]; exact sizeKey) rfl ⟨rfl, below_kept l1 k7 (by omega) (fun j hj => by omega)⟩
set_option maxRecDepth 20000 in
set_option maxHeartbeats 1000000 in
theorem weak2_any (i : Int) (h : Int.tmod i 7 = 2) (w : World) :
    Calls Try.prog 49 #[.int .i64 i] w fun e w' => e = .returned (.agg (u8s wl2).toArray) ∧ Below w.heap.size w w' := by
  have HL : Hid ((List.replicate 32 (255 : Int)).length = 32) := rfl
  go_enter Try.func49, Try.ntmps49
  go_wp2_with (first | ((with_reducible show wpList _ _ _ (({ dst := some 2, op := _, type := _, pos := _, after := _, guard := _ } : Oper) :: _) _ _); refine wpList_alloc_new rfl 58 rfl 32 _ zeroKey ?_; intro x1 z1 s1 l1) | ((with_reducible show wpList _ _ _ (({ dst := some 3, op := _, type := _, pos := _, after := _, guard := _ } : Oper) :: _) _ _); refine wpList_alloc_new rfl 58 rfl 32 _ zeroKey ?_; intro x2 z2 s2 l2; rw [s1] at z2))
  have WW : Hid (Below w.heap.size w x2 ∧ Blk x2 w.heap.size 58 (u8s (List.replicate 32 0)) ∧ Blk x2 (w.heap.size + 1) 58 (u8s (List.replicate 32 0))) := ⟨below_chain l1 l2 (by omega), z1.later l2 (by omega), z2⟩
  clear z1 s1 l1 z2 s2 l2
  go_loopw [4] (fun i wr => ∃ (k : Nat), k ≤ 32 ∧ i = .int .i64 k ∧ Blk wr (w.heap.size + 1) 58 (u8s (byK (List.replicate 32 255) k)) ∧ Kept (fun x => x = w.heap.size + 1) x2 wr) (fun i _ => 32 - (intOf i).toNat)
  case atStart => exact ⟨0, by omega, rfl, by simpa [byK] using WW.out.2.2, Kept.refl _ _⟩
  case round =>
    obtain ⟨k, hk, rfl, hblk, hkp⟩ := hrel
    by_cases hlt : k < 32
    · have i1 : (k : Int) < 32 := by omega
      have i3 : (0 : Int) ≤ (k : Int) := by omega
      have c2 : wr.cell? ⟨w.heap.size + 1, k, none⟩ = some (.int .u8 ((byK (List.replicate 32 255) k).getD k 0)) := u8s_cell hblk k (by rw [byK_length _ HL.out k hk]; exact hlt)
      have fg := hblk.frozen k
      obtain ⟨Z, hZ⟩ : ∃ z, (byK (List.replicate 32 255) k).getD k 0 = z := ⟨_, rfl⟩
      rw [hZ] at c2
      have HQ : Hid (Blk wr (w.heap.size + 1) 58 (u8s (byK (List.replicate 32 255) k)) ∧ Kept (fun x => x = w.heap.size + 1) x2 wr) := ⟨hblk, hkp⟩
      clear hblk hkp hZ
      go_wp2_with fail
      go_roundw
      case rel =>
        have e : (List.replicate 32 (255 : Int)).getD k 0 = 255 := by rw [List.getD_eq_getElem?_getD, List.getElem?_replicate, if_pos hlt]; rfl
        have R := HQ.out.1.set k (.int .u8 255)
        have e2 := byK_set (List.replicate 32 255) HL.out k hlt
        rw [e] at e2
        rw [u8s_set, e2] at R
        exact ⟨k + 1, by omega, by go_num, R, HQ.out.2.setCell rfl _⟩
      case measure => simp [intOf]; omega
    · have hk5 : k = 32 := by omega
      have i1 : ¬ ((k : Int) < 32) := by omega
      rw [hk5, byK_all _ HL.out] at hblk
      have c0 : wr.cell? ⟨w.heap.size + 1, 0, none⟩ = some (.int .u8 255) := hblk.cell 0
      have c31 : wr.cell? ⟨w.heap.size + 1, 31, none⟩ = some (.int .u8 255) := hblk.cell 31
      have f0 := hblk.frozen 0
      have f31 := hblk.frozen 31
      have X1 : Hid (Blk ((wr.setCell ⟨w.heap.size + 1, 0, none⟩ (.int .u8 236)).setCell ⟨w.heap.size + 1, 31, none⟩ (.int .u8 127)) (w.heap.size + 1) 58 (u8s (wl2)) ∧ Blk ((wr.setCell ⟨w.heap.size + 1, 0, none⟩ (.int .u8 236)).setCell ⟨w.heap.size + 1, 31, none⟩ (.int .u8 127)) w.heap.size 58 (u8s (List.replicate 32 0)) ∧ Below w.heap.size w ((wr.setCell ⟨w.heap.size + 1, 0, none⟩ (.int .u8 236)).setCell ⟨w.heap.size + 1, 31, none⟩ (.int .u8 127)) ∧ (u8s (wl2)).length = 32) := by
        have R := (hblk.set 0 (.int .u8 236)).set 31 (.int .u8 127)
        rw [u8s_set, u8s_set] at R
        have K := (hkp.setCell (p := ⟨w.heap.size + 1, 0, none⟩) rfl (.int .u8 236)).setCell (p := ⟨w.heap.size + 1, 31, none⟩) rfl (.int .u8 127)
        exact ⟨R, WW.out.2.1.kept K (by omega), below_kept WW.out.1 K WW.out.1.size (fun j hj => by omega), rfl⟩
      clear hblk hkp hk5 hlt hk
      go_wp2_with (first | (refine wpList_load_blk rfl 58 _ rfl (w.heap.size + 1) rfl (u8s (wl2)) _ X1.out.1 Try.underlying58 rfl (by rw [X1.out.2.2.2]; exact sizeKey) ?_) | (refine wpList_store_blk rfl 58 58 _ _ rfl _ rfl _ (u8s (wl2)) rfl X1.out.2.1 (by rw [X1.out.2.2.2]; rfl) (by rw [X1.out.2.2.2]; exact sizeKey) (u8s_one _) ?_; intro w6 b6 s6 k6))
      exact ret_blk rfl w.heap.size (u8s (wl2)) _ rfl b6 Try.underlying58 rfl (by rw [X1.out.2.2.2]; exact sizeKey) rfl ⟨rfl, below_kept X1.out.2.2.1 k6 X1.out.2.2.1.size (fun j hj => by omega)⟩
set_option maxRecDepth 20000 in
set_option maxHeartbeats 1000000 in
theorem weak3_any (i : Int) (h : Int.tmod i 7 = 3) (w : World) :
    Calls Try.prog 49 #[.int .i64 i] w fun e w' => e = .returned (.agg (u8s wl3).toArray) ∧ Below w.heap.size w w' := by
  have HL : Hid ((List.replicate 32 (255 : Int)).length = 32) := rfl
  go_enter Try.func49, Try.ntmps49
  go_wp2_with (first | ((with_reducible show wpList _ _ _ (({ dst := some 2, op := _, type := _, pos := _, after := _, guard := _ } : Oper) :: _) _ _); refine wpList_alloc_new rfl 58 rfl 32 _ zeroKey ?_; intro x1 z1 s1 l1) | ((with_reducible show wpList _ _ _ (({ dst := some 3, op := _, type := _, pos := _, after := _, guard := _ } : Oper) :: _) _ _); refine wpList_alloc_new rfl 58 rfl 32 _ zeroKey ?_; intro x2 z2 s2 l2; rw [s1] at z2))
  have WW : Hid (Below w.heap.size w x2 ∧ Blk x2 w.heap.size 58 (u8s (List.replicate 32 0)) ∧ Blk x2 (w.heap.size + 1) 58 (u8s (List.replicate 32 0))) := ⟨below_chain l1 l2 (by omega), z1.later l2 (by omega), z2⟩
  clear z1 s1 l1 z2 s2 l2
  go_loopw [4] (fun i wr => ∃ (k : Nat), k ≤ 32 ∧ i = .int .i64 k ∧ Blk wr (w.heap.size + 1) 58 (u8s (byK (List.replicate 32 255) k)) ∧ Kept (fun x => x = w.heap.size + 1) x2 wr) (fun i _ => 32 - (intOf i).toNat)
  case atStart => exact ⟨0, by omega, rfl, by simpa [byK] using WW.out.2.2, Kept.refl _ _⟩
  case round =>
    obtain ⟨k, hk, rfl, hblk, hkp⟩ := hrel
    by_cases hlt : k < 32
    · have i1 : (k : Int) < 32 := by omega
      have i3 : (0 : Int) ≤ (k : Int) := by omega
      have c2 : wr.cell? ⟨w.heap.size + 1, k, none⟩ = some (.int .u8 ((byK (List.replicate 32 255) k).getD k 0)) := u8s_cell hblk k (by rw [byK_length _ HL.out k hk]; exact hlt)
      have fg := hblk.frozen k
      obtain ⟨Z, hZ⟩ : ∃ z, (byK (List.replicate 32 255) k).getD k 0 = z := ⟨_, rfl⟩
      rw [hZ] at c2
      have HQ : Hid (Blk wr (w.heap.size + 1) 58 (u8s (byK (List.replicate 32 255) k)) ∧ Kept (fun x => x = w.heap.size + 1) x2 wr) := ⟨hblk, hkp⟩
      clear hblk hkp hZ
      go_wp2_with fail
      go_roundw
      case rel =>
        have e : (List.replicate 32 (255 : Int)).getD k 0 = 255 := by rw [List.getD_eq_getElem?_getD, List.getElem?_replicate, if_pos hlt]; rfl
        have R := HQ.out.1.set k (.int .u8 255)
        have e2 := byK_set (List.replicate 32 255) HL.out k hlt
        rw [e] at e2
        rw [u8s_set, e2] at R
        exact ⟨k + 1, by omega, by go_num, R, HQ.out.2.setCell rfl _⟩
      case measure => simp [intOf]; omega
    · have hk5 : k = 32 := by omega
      have i1 : ¬ ((k : Int) < 32) := by omega
      rw [hk5, byK_all _ HL.out] at hblk
      have c0 : wr.cell? ⟨w.heap.size + 1, 0, none⟩ = some (.int .u8 255) := hblk.cell 0
      have c31 : wr.cell? ⟨w.heap.size + 1, 31, none⟩ = some (.int .u8 255) := hblk.cell 31
      have f0 := hblk.frozen 0
      have f31 := hblk.frozen 31
      have X1 : Hid (Blk ((wr.setCell ⟨w.heap.size + 1, 0, none⟩ (.int .u8 237)).setCell ⟨w.heap.size + 1, 31, none⟩ (.int .u8 127)) (w.heap.size + 1) 58 (u8s (wl3)) ∧ Blk ((wr.setCell ⟨w.heap.size + 1, 0, none⟩ (.int .u8 237)).setCell ⟨w.heap.size + 1, 31, none⟩ (.int .u8 127)) w.heap.size 58 (u8s (List.replicate 32 0)) ∧ Below w.heap.size w ((wr.setCell ⟨w.heap.size + 1, 0, none⟩ (.int .u8 237)).setCell ⟨w.heap.size + 1, 31, none⟩ (.int .u8 127)) ∧ (u8s (wl3)).length = 32) := by
        have R := (hblk.set 0 (.int .u8 237)).set 31 (.int .u8 127)
        rw [u8s_set, u8s_set] at R
        have K := (hkp.setCell (p := ⟨w.heap.size + 1, 0, none⟩) rfl (.int .u8 237)).setCell (p := ⟨w.heap.size + 1, 31, none⟩) rfl (.int .u8 127)
        exact ⟨R, WW.out.2.1.kept K (by omega), below_kept WW.out.1 K WW.out.1.size (fun j hj => by omega), rfl⟩
      clear hblk hkp hk5 hlt hk
      go_wp2_with (first | (refine wpList_load_blk rfl 58 _ rfl (w.heap.size + 1) rfl (u8s (wl3)) _ X1.out.1 Try.underlying58 rfl (by rw [X1.out.2.2.2]; exact sizeKey) ?_) | (refine wpList_store_blk rfl 58 58 _ _ rfl _ rfl _ (u8s (wl3)) rfl X1.out.2.1 (by rw [X1.out.2.2.2]; rfl) (by rw [X1.out.2.2.2]; exact sizeKey) (u8s_one _) ?_; intro w6 b6 s6 k6))
      exact ret_blk rfl w.heap.size (u8s (wl3)) _ rfl b6 Try.underlying58 rfl (by rw [X1.out.2.2.2]; exact sizeKey) rfl ⟨rfl, below_kept X1.out.2.2.1 k6 X1.out.2.2.1.size (fun j hj => by omega)⟩
set_option maxRecDepth 20000 in
set_option maxHeartbeats 1000000 in
theorem weak4_any (i : Int) (h : Int.tmod i 7 = 4) (w : World) :
    Calls Try.prog 49 #[.int .i64 i] w fun e w' => e = .returned (.agg (u8s wl4).toArray) ∧ Below w.heap.size w w' := by
  have HL : Hid ((List.replicate 32 (255 : Int)).length = 32) := rfl
  go_enter Try.func49, Try.ntmps49
  go_wp2_with (first | ((with_reducible show wpList _ _ _ (({ dst := some 2, op := _, type := _, pos := _, after := _, guard := _ } : Oper) :: _) _ _); refine wpList_alloc_new rfl 58 rfl 32 _ zeroKey ?_; intro x1 z1 s1 l1) | ((with_reducible show wpList _ _ _ (({ dst := some 3, op := _, type := _, pos := _, after := _, guard := _ } : Oper) :: _) _ _); refine wpList_alloc_new rfl 58 rfl 32 _ zeroKey ?_; intro x2 z2 s2 l2; rw [s1] at z2))
  have WW : Hid (Below w.heap.size w x2 ∧ Blk x2 w.heap.size 58 (u8s (List.replicate 32 0)) ∧ Blk x2 (w.heap.size + 1) 58 (u8s (List.replicate 32 0))) := ⟨below_chain l1 l2 (by omega), z1.later l2 (by omega), z2⟩
  clear z1 s1 l1 z2 s2 l2
  go_loopw [4] (fun i wr => ∃ (k : Nat), k ≤ 32 ∧ i = .int .i64 k ∧ Blk wr (w.heap.size + 1) 58 (u8s (byK (List.replicate 32 255) k)) ∧ Kept (fun x => x = w.heap.size + 1) x2 wr) (fun i _ => 32 - (intOf i).toNat)
  case atStart => exact ⟨0, by omega, rfl, by simpa [byK] using WW.out.2.2, Kept.refl _ _⟩
  case round =>
    obtain ⟨k, hk, rfl, hblk, hkp⟩ := hrel
    by_cases hlt : k < 32
    · have i1 : (k : Int) < 32 := by omega
      have i3 : (0 : Int) ≤ (k : Int) := by omega
      have c2 : wr.cell? ⟨w.heap.size + 1, k, none⟩ = some (.int .u8 ((byK (List.replicate 32 255) k).getD k 0)) := u8s_cell hblk k (by rw [byK_length _ HL.out k hk]; exact hlt)
      have fg := hblk.frozen k
      obtain ⟨Z, hZ⟩ : ∃ z, (byK (List.replicate 32 255) k).getD k 0 = z := ⟨_, rfl⟩
      rw [hZ] at c2
      have HQ : Hid (Blk wr (w.heap.size + 1) 58 (u8s (byK (List.replicate 32 255) k)) ∧ Kept (fun x => x = w.heap.size + 1) x2 wr) := ⟨hblk, hkp⟩
      clear hblk hkp hZ
      go_wp2_with fail
      go_roundw
      case rel =>
        have e : (List.replicate 32 (255 : Int)).getD k 0 = 255 := by rw [List.getD_eq_getElem?_getD, List.getElem?_replicate, if_pos hlt]; rfl
        have R := HQ.out.1.set k (.int .u8 255)
        have e2 := byK_set (List.replicate 32 255) HL.out k hlt
        rw [e] at e2
        rw [u8s_set, e2] at R
        exact ⟨k + 1, by omega, by go_num, R, HQ.out.2.setCell rfl _⟩
      case measure => simp [intOf]; omega
    · have hk5 : k = 32 := by omega
      have i1 : ¬ ((k : Int) < 32) := by omega
      rw [hk5, byK_all _ HL.out] at hblk
      have c0 : wr.cell? ⟨w.heap.size + 1, 0, none⟩ = some (.int .u8 255) := hblk.cell 0
      have c31 : wr.cell? ⟨w.heap.size + 1, 31, none⟩ = some (.int .u8 255) := hblk.cell 31
      have f0 := hblk.frozen 0
      have f31 := hblk.frozen 31
      have X1 : Hid (Blk ((wr.setCell ⟨w.heap.size + 1, 0, none⟩ (.int .u8 238)).setCell ⟨w.heap.size + 1, 31, none⟩ (.int .u8 127)) (w.heap.size + 1) 58 (u8s (wl4)) ∧ Blk ((wr.setCell ⟨w.heap.size + 1, 0, none⟩ (.int .u8 238)).setCell ⟨w.heap.size + 1, 31, none⟩ (.int .u8 127)) w.heap.size 58 (u8s (List.replicate 32 0)) ∧ Below w.heap.size w ((wr.setCell ⟨w.heap.size + 1, 0, none⟩ (.int .u8 238)).setCell ⟨w.heap.size + 1, 31, none⟩ (.int .u8 127)) ∧ (u8s (wl4)).length = 32) := by
        have R := (hblk.set 0 (.int .u8 238)).set 31 (.int .u8 127)
        rw [u8s_set, u8s_set] at R
        have K := (hkp.setCell (p := ⟨w.heap.size + 1, 0, none⟩) rfl (.int .u8 238)).setCell (p := ⟨w.heap.size + 1, 31, none⟩) rfl (.int .u8 127)
        exact ⟨R, WW.out.2.1.kept K (by omega), below_kept WW.out.1 K WW.out.1.size (fun j hj => by omega), rfl⟩
      clear hblk hkp hk5 hlt hk
      go_wp2_with (first | (refine wpList_load_blk rfl 58 _ rfl (w.heap.size + 1) rfl (u8s (wl4)) _ X1.out.1 Try.underlying58 rfl (by rw [X1.out.2.2.2]; exact sizeKey) ?_) | (refine wpList_store_blk rfl 58 58 _ _ rfl _ rfl _ (u8s (wl4)) rfl X1.out.2.1 (by rw [X1.out.2.2.2]; rfl) (by rw [X1.out.2.2.2]; exact sizeKey) (u8s_one _) ?_; intro w6 b6 s6 k6))
      exact ret_blk rfl w.heap.size (u8s (wl4)) _ rfl b6 Try.underlying58 rfl (by rw [X1.out.2.2.2]; exact sizeKey) rfl ⟨rfl, below_kept X1.out.2.2.1 k6 X1.out.2.2.1.size (fun j hj => by omega)⟩
theorem weak_any (i : Int) (h0 : 0 ≤ i) : ∃ L, Wk L ∧ ∀ w, Calls Try.prog 49 #[.int .i64 i] w fun e w' => e = .returned (.agg (u8s L).toArray) ∧ Below w.heap.size w w' := by
  have h : Int.tmod i 7 = 0 ∨ Int.tmod i 7 = 1 ∨ Int.tmod i 7 = 2 ∨ Int.tmod i 7 = 3 ∨ Int.tmod i 7 = 4 ∨ Int.tmod i 7 = 5 ∨ Int.tmod i 7 = 6 := by
    rw [Int.tmod_eq_emod_of_nonneg h0]; omega
  rcases h with h | h | h | h | h | h | h
  · exact ⟨wl0, wk0, weak0_any i h⟩
  · exact ⟨wl1, wk1, weak1_any i h⟩
  · exact ⟨wl2, wk2, weak2_any i h⟩
  · exact ⟨wl3, wk3, weak3_any i h⟩
  · exact ⟨wl4, wk4, weak4_any i h⟩
  · exact ⟨wl5, wk5, weak5_any i h⟩
  · exact ⟨wl6, wk6, weak6_any i h⟩
end Go.Proofs.Ytnifolefhelmcaa
