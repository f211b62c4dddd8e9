/- The document's numbers of ladder: Small, Of, prime. -/
import Derived.Test.YtnifolefhelmcaaQTim
import Derived.Test.YtnifolefhelmcaaLdMath
namespace Go.Proofs.Ytnifolefhelmcaa
open Go.RowKit
set_option linter.unusedVariables false
set_option linter.unusedSimpArgs false

def smL (n : Int) : List Int := n :: List.replicate 15 0
theorem sm_nd (n : Int) (h : 0 ≤ n ∧ n ≤ 65600) : Nd (smL n) n := by
  refine ⟨rfl, fun z hz => ?_, ?_⟩
  · rcases List.mem_cons.1 hz with q | q
    · omega
    · have := (List.mem_replicate.1 q).2; omega
  · unfold smL
    rw [vd, vd_zero]; unfold PR; omega
theorem sm_nw (n : Int) (h : 0 ≤ n ∧ n ≤ 262144) : Nw (smL n) n := by
  refine ⟨⟨rfl, fun z hz => ?_⟩, ?_⟩
  · rcases List.mem_cons.1 hz with q | q
    · omega
    · have := (List.mem_replicate.1 q).2; omega
  · unfold smL
    rw [vd, vd_zero]; unfold PR; omega
set_option maxRecDepth 20000 in
set_option maxHeartbeats 1000000 in
theorem qsmall_any (n : Int) (w : World) :
    Calls Try.prog 123 #[.int .i64 n] w fun e w' => e = .returned (.agg (i64s (smL n)).toArray) ∧ Below w.heap.size w w' := by
  go_enter Try.func123, Try.ntmps123
  go_wp2_with (first | ((with_reducible show wpList _ _ _ (({ dst := some 5, op := _, type := _, pos := _, after := _, guard := _ } : Oper) :: _) _ _); refine Hid.out ?_) | ((with_reducible show wpList _ _ _ (({ dst := some 2, op := _, type := _, pos := _, after := _, guard := _ } : Oper) :: _) _ _); refine wpList_alloc_new rfl 140 rfl 16 _ zeroNm ?_; intro x1 z1 s1 l1) | ((with_reducible show wpList _ _ _ (({ dst := some 3, op := _, type := _, pos := _, after := _, guard := _ } : Oper) :: _) _ _); refine wpList_alloc_new rfl 140 rfl 16 _ zeroNm ?_; intro x2 z2 s2 l2; rw [s1] at z2))
  have WW : Hid (Below w.heap.size w x2 ∧ Blk x2 w.heap.size 140 (i64s (List.replicate 16 0)) ∧ Blk x2 (w.heap.size + 1) 140 (i64s (List.replicate 16 0))) := ⟨below_chain l1 l2 (by omega), z1.later l2 (by omega), z2⟩
  have c0 : x2.cell? ⟨w.heap.size + 1, 0, none⟩ = some (.int .i64 0) := WW.out.2.2.cell 0
  have f0 := WW.out.2.2.frozen 0
  clear z1 s1 l1 z2 s2 l2
  change wpList _ _ _ _ _ _
  go_wp2_with (first | ((with_reducible show wpList _ _ _ (({ dst := some 6, op := _, type := _, pos := _, after := _, guard := _ } : Oper) :: _) _ _); refine Hid.out ?_))
  change wpList _ _ _ _ _ _
  obtain ⟨x5, hx5⟩ : ∃ z, z = x2.setCell ⟨w.heap.size + 1, 0, none⟩ (.int .i64 n) := ⟨_, rfl⟩
  have V5 : Hid (Below w.heap.size w x5 ∧ Blk x5 w.heap.size 140 (i64s (List.replicate 16 0)) ∧ Blk x5 (w.heap.size + 1) 140 (i64s (smL n)) ∧ (i64s (smL n)).length = 16) := by
    have K := (Kept.refl (fun k => k = w.heap.size + 1) x2).setCell (p := ⟨w.heap.size + 1, 0, none⟩) rfl (.int .i64 n)
    have R := WW.out.2.2.set 0 (.int .i64 n)
    rw [i64s_set] at R
    rw [← hx5] at K R
    exact ⟨below_kept WW.out.1 K WW.out.1.size (fun j hj => by omega), WW.out.2.1.kept K (by omega), R, rfl⟩
  rw [← hx5]
  clear hx5 WW c0 f0
  obtain ⟨D, hD⟩ : ∃ z, smL n = z := ⟨_, rfl⟩
  have HD : Hid (smL n = D) := hD
  rw [hD] at V5
  clear hD
  go_wp2_with (first | (refine wpList_load_blk rfl 140 _ rfl (w.heap.size + 1) rfl (i64s D) _ V5.out.2.2.1 Try.underlying140 rfl (by rw [V5.out.2.2.2]; exact sizeNm) ?_) | (refine wpList_store_blk rfl 140 140 _ _ rfl _ rfl _ (i64s D) rfl V5.out.2.1 (by rw [V5.out.2.2.2]; rfl) (by rw [V5.out.2.2.2]; exact sizeNm) (i64s_one _) ?_; intro y6 b6 s6 k6))
  exact ret_blk rfl w.heap.size (i64s D) _ rfl b6 Try.underlying140 rfl (by rw [V5.out.2.2.2]; exact sizeNm) rfl ⟨by rw [HD.out], below_kept V5.out.1 k6 V5.out.1.size (fun j hj => by omega)⟩
/-- The prime's digits. -/
def prD : List Int := (((List.replicate 16 65535).set 0 65517).set 15 32767)
set_option maxRecDepth 20000 in
set_option maxHeartbeats 1000000 in
theorem qprime_any (w : World) : Calls Try.prog 128 #[] w fun e w' => e = .returned (.agg (i64s prD).toArray) ∧ Below w.heap.size w w' := by
  go_enter Try.func128, Try.ntmps128
  go_wp2_with (first | ((with_reducible show wpList _ _ _ (({ dst := some 0, op := _, type := _, pos := _, after := _, guard := _ } : Oper) :: _) _ _); refine wpList_alloc_new rfl 140 rfl 16 _ zeroNm ?_; intro x1 z1 s1 l1) | ((with_reducible show wpList _ _ _ (({ dst := some 1, op := _, type := _, pos := _, after := _, guard := _ } : Oper) :: _) _ _); refine wpList_alloc_new rfl 140 rfl 16 _ zeroNm ?_; intro x2 z2 s2 l2; rw [s1] at z2))
  have WW : Hid (Below w.heap.size w x2 ∧ Blk x2 w.heap.size 140 (i64s (List.replicate 16 0)) ∧ Blk x2 (w.heap.size + 1) 140 (i64s (List.replicate 16 0))) := ⟨below_chain l1 l2 (by omega), z1.later l2 (by omega), z2⟩
  clear z1 s1 l1 z2 s2 l2
  go_loopw [2] (fun i wr => ∃ (k : Nat) (L : List Int), k ≤ 16 ∧ i = .int .i64 k ∧ L.length = 16 ∧ (∀ j, j < k → L.getD j 0 = 65535) ∧ Blk wr (w.heap.size + 1) 140 (i64s L) ∧ Kept (fun x => x = w.heap.size + 1) x2 wr) (fun i _ => 16 - (intOf i).toNat)
  case atStart => exact ⟨0, List.replicate 16 0, by omega, rfl, rfl, fun j hj => by omega, WW.out.2.2, Kept.refl _ _⟩
  case round =>
    obtain ⟨k, L, hk, rfl, hLl, hLd, hblk, hkp⟩ := hrel
    by_cases hlt : k < 16
    · have i1 : (k : Int) < 16 := by omega
      have i3 : (0 : Int) ≤ (k : Int) := by omega
      have cL := i64s_cell hblk k (by rw [hLl]; exact hlt)
      have fg := hblk.frozen k
      obtain ⟨Z, hZ⟩ : ∃ z, L.getD k 0 = z := ⟨_, rfl⟩
      rw [hZ] at cL
      have HQ : Hid (Blk wr (w.heap.size + 1) 140 (i64s L) ∧ Kept (fun x => x = w.heap.size + 1) x2 wr ∧ L.length = 16 ∧ (∀ j, j < k → L.getD j 0 = 65535)) := ⟨hblk, hkp, hLl, hLd⟩
      clear hblk hkp hLl hLd hZ
      go_wp2_with fail
      go_roundw
      case rel =>
        have R := HQ.out.1.set k (.int .i64 65535)
        rw [i64s_set] at R
        refine ⟨k + 1, L.set k 65535, by omega, by go_num, by rw [List.length_set]; exact HQ.out.2.2.1, fun j hj => ?_, R, HQ.out.2.1.setCell (p := ⟨w.heap.size + 1, k, none⟩) rfl _⟩
        by_cases hjk : j = k
        · subst hjk
          rw [List.getD_eq_getElem?_getD, List.getElem?_set_self (by rw [HQ.out.2.2.1]; exact hlt)]; rfl
        · rw [← HQ.out.2.2.2 j (by omega)]
          simp only [List.getD]
          rw [List.getElem?_set_ne (by omega)]
      case measure => simp [intOf]; omega
    · have hk6 : k = 16 := by omega
      have i1 : ¬ ((k : Int) < 16) := by omega
      have hLF : L = List.replicate 16 65535 := by
        refine List.ext_getElem (by rw [hLl]; rfl) fun j h1 h2 => ?_
        have := hLd j (by omega)
        rw [List.getElem_replicate]
        simpa [List.getD, h1] using this
      rw [hLF] at hblk
      have c0 : wr.cell? ⟨w.heap.size + 1, 0, none⟩ = some (.int .i64 65535) := hblk.cell 0
      have c1 : wr.cell? ⟨w.heap.size + 1, 15, none⟩ = some (.int .i64 65535) := hblk.cell 15
      have f0 := hblk.frozen 0
      have f1 := hblk.frozen 15
      obtain ⟨x5, hx5⟩ : ∃ z, z = (wr.setCell ⟨w.heap.size + 1, 0, none⟩ (.int .i64 65517)).setCell ⟨w.heap.size + 1, 15, none⟩ (.int .i64 32767) := ⟨_, rfl⟩
      have V5 : Hid (Below w.heap.size w x5 ∧ Blk x5 w.heap.size 140 (i64s (List.replicate 16 0)) ∧ Blk x5 (w.heap.size + 1) 140 (i64s prD) ∧ (i64s prD).length = 16) := by
        have K := (hkp.setCell (p := ⟨w.heap.size + 1, 0, none⟩) rfl (.int .i64 65517)).setCell (p := ⟨w.heap.size + 1, 15, none⟩) rfl (.int .i64 32767)
        have R := (hblk.set 0 (.int .i64 65517)).set 15 (.int .i64 32767)
        rw [i64s_set, i64s_set] at R
        rw [← hx5] at K R
        exact ⟨below_kept WW.out.1 K WW.out.1.size (fun j hj => by omega), WW.out.2.1.kept K (by omega), R, rfl⟩
      clear hblk hkp hLl hLd hLF hk6 hlt hk WW
      go_wp2_with (first | ((with_reducible show wpList _ _ _ (({ dst := some 11, op := _, type := _, pos := _, after := _, guard := _ } : Oper) :: _) _ _); refine Hid.out ?_))
      change wpList _ _ _ _ _ _
      rw [← hx5]
      clear hx5 c0 c1 f0 f1
      obtain ⟨D, hD⟩ : ∃ z, prD = z := ⟨_, rfl⟩
      have HD : Hid (prD = D) := hD
      rw [hD] at V5
      clear hD
      go_wp2_with (first | (refine wpList_load_blk rfl 140 _ rfl (w.heap.size + 1) rfl (i64s D) _ V5.out.2.2.1 Try.underlying140 rfl (by rw [V5.out.2.2.2]; exact sizeNm) ?_) | (refine wpList_store_blk rfl 140 140 _ _ rfl _ rfl _ (i64s D) rfl V5.out.2.1 (by rw [V5.out.2.2.2]; rfl) (by rw [V5.out.2.2.2]; exact sizeNm) (i64s_one _) ?_; intro y6 b6 s6 k6))
      exact ret_blk rfl w.heap.size (i64s D) _ rfl b6 Try.underlying140 rfl (by rw [V5.out.2.2.2]; exact sizeNm) rfl ⟨by rw [HD.out], below_kept V5.out.1 k6 V5.out.1.size (fun j hj => by omega)⟩
/-- Bytes in pairs. -/
def prs : List Int → List Int
  | a :: b :: l => (a + 256 * b) :: prs l
  | _ => []
theorem prs_vd : ∀ (n : Nat) (l : List Int), l.length = 2 * n → vd (prs l) = le l ∧ (prs l).length = n
  | 0, [], _ => ⟨rfl, rfl⟩
  | n + 1, a :: b :: l, h => by
    obtain ⟨h1, h2⟩ := prs_vd n l (by simp at h; omega)
    refine ⟨?_, by simp [prs, h2]⟩
    rw [prs, vd, h1, le_cons, le_cons]; omega
theorem prs_at : ∀ (j : Nat) (l : List Int), 2 * j + 1 < l.length → (prs l).getD j 0 = l.getD (2 * j) 0 + 256 * l.getD (2 * j + 1) 0
  | 0, a :: b :: l, _ => rfl
  | j + 1, a :: b :: l, h => by
    have := prs_at j l (by simp at h; omega)
    rw [prs, List.getD_cons_succ, this]
    rfl
theorem prs_bd : ∀ (l : List Int), Bytes l → ∀ z ∈ prs l, 0 ≤ z ∧ z ≤ 65535
  | [], _, z, h => by cases h
  | [a], _, z, h => by cases h
  | a :: b :: l, hb, z, h => by
    have h1 := hb a (by simp); have h2 := hb b (by simp)
    rcases List.mem_cons.1 h with q | q
    · omega
    · exact prs_bd l (fun y hy => hb y (by simp [hy])) z q
theorem of_num (us : List Int) (hl : us.length = 32) (hb : Bytes us) : Nd ((prs us).set 15 ((prs us).getD 15 0 % 32768)) (pubN us) := by
  obtain ⟨h1, h2⟩ := prs_vd 16 us hl
  have hd := prs_bd us hb
  have h15 := hd ((prs us).getD 15 0) (by simp [List.getD, show 15 < (prs us).length by omega])
  refine ⟨by rw [List.length_set, h2], fun z hz => ?_, ?_⟩
  · rcases List.mem_or_eq_of_mem_set hz with q | q
    · have := hd z q; omega
    · omega
  · have hs := qvd_set (prs us) 15 ((prs us).getD 15 0 % 32768 - (prs us).getD 15 0) (by omega)
    rw [show (prs us).getD 15 0 + ((prs us).getD 15 0 % 32768 - (prs us).getD 15 0) = (prs us).getD 15 0 % 32768 by omega] at hs
    have ht := qvd_take (prs us) 15 (by omega)
    rw [show (prs us).take (15 + 1) = prs us from List.take_of_length_le (by omega)] at ht
    have hm := vd_abs ((prs us).take 15) 0 65535 (by decide) (by decide) (fun z hz => by have := hd z (List.mem_of_mem_take hz); omega)
    rw [List.length_take, h2] at hm
    rw [hs, h1] at *
    unfold pubN
    congr 1
    rw [show min 15 16 = 15 from rfl, show (65536 : Int) ^ 15 = 1766847064778384329583297500742918515827483896875618958121606201292619776 by decide] at hm
    rw [show (65536 : Int) ^ 15 = 1766847064778384329583297500742918515827483896875618958121606201292619776 by decide] at ht ⊢
    generalize vd ((prs us).take 15) = M at *
    generalize (prs us).getD 15 0 = X at *
    omega
end Go.Proofs.Ytnifolefhelmcaa
