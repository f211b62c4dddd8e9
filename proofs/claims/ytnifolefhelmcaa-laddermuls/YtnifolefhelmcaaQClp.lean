/- The document's numbers of ladder: Clamp. -/
import Derived.Test.YtnifolefhelmcaaLdClamp
namespace Go.Proofs.Ytnifolefhelmcaa
open Go.RowKit
set_option linter.unusedVariables false
set_option linter.unusedSimpArgs false

set_option maxRecDepth 20000 in
set_option maxHeartbeats 1000000 in
theorem qclamp_any (ks : List Int) (hl : ks.length = 32) (hb : Bytes ks) (w : World) :
    Calls Try.prog 38 #[.agg (u8s ks).toArray] w fun e w' => e = .returned (.agg (u8s (clampL ks)).toArray) ∧ Below w.heap.size w w' := by
  obtain ⟨a, ha⟩ : ∃ z, ks.getD 0 0 = z := ⟨_, rfl⟩
  obtain ⟨b, hb'⟩ : ∃ z, ks.getD 31 0 = z := ⟨_, rfl⟩
  have ba := hb.at 0 (by omega)
  have bb := hb.at 31 (by omega)
  rw [ha] at ba
  rw [hb'] at bb
  have c0 : a / 8 * 8 = a - a % 8 := by omega
  have c1 : IntKind.u8.wrap (a - a % 8) = a - a % 8 := by simp only [IntKind.wrap, IntKind.bits, IntKind.signed]; simp; omega
  have c2 : IntKind.u8.wrap (b % 64 + 64) = b % 64 + 64 := by simp only [IntKind.wrap, IntKind.bits, IntKind.signed]; simp; omega
  have c3 : Int.tdiv a 8 = a / 8 := Int.tdiv_eq_ediv_of_nonneg ba.1
  have c4 : Int.tmod b 64 = b % 64 := Int.tmod_eq_emod_of_nonneg bb.1
  have HA : Hid (ks.getD 0 0 = a ∧ ks.getD 31 0 = b ∧ ks.length = 32 ∧ (u8s ks).length = 32) := ⟨ha, hb', hl, by rw [u8s_length, hl]⟩
  clear ha hb' hl hb
  go_enter Try.func38, Try.ntmps38
  go_wp2_with (first | ((with_reducible show wpList _ _ _ ({ dst := some 3, op := _, type := _, pos := _, after := _, guard := _ } :: _) _ _); refine Hid.out ?_) | (refine wpList_box_new rfl 58 (.tmp 0) rfl (u8s ks) rfl ?_; intro x1 z1 s1 l1) | (refine wpList_alloc_new rfl 58 rfl 32 _ zeroKey ?_; intro x2 z2 s2 l2))
  have e2 : x1.heap.size = w.heap.size + 1 := s1
  rw [e2] at z2
  have WW : Hid (Below w.heap.size w x2 ∧ Blk x2 w.heap.size 58 (u8s ks) ∧ Blk x2 (w.heap.size + 1) 58 (u8s (List.replicate 32 0))) := ⟨below_chain l1 l2 (by omega), z1.later l2 (by omega), z2⟩
  have q0 : x2.cell? ⟨w.heap.size, 0, none⟩ = some (.int .u8 a) := by rw [u8s_cell WW.out.2.1 0 (by rw [HA.out.2.2.1]; decide), HA.out.1]
  have q1 : x2.cell? ⟨w.heap.size, 31, none⟩ = some (.int .u8 b) := by rw [u8s_cell WW.out.2.1 31 (by rw [HA.out.2.2.1]; decide), HA.out.2.1]
  have f0 := WW.out.2.1.frozen 0
  have f1 := WW.out.2.1.frozen 31
  clear z1 s1 l1 z2 s2 l2
  change wpList _ _ _ _ _ _
  go_wp2_with (first | ((with_reducible show wpList _ _ _ ({ dst := some 13, op := _, type := _, pos := _, after := _, guard := _ } :: _) _ _); refine Hid.out ?_))
  change wpList _ _ _ _ _ _
  have R : Hid (Blk ((x2.setCell ⟨w.heap.size, 0, none⟩ (.int .u8 (a - a % 8))).setCell ⟨w.heap.size, 31, none⟩ (.int .u8 (b % 64 + 64))) w.heap.size 58 (u8s (clampL ks)) ∧ Blk ((x2.setCell ⟨w.heap.size, 0, none⟩ (.int .u8 (a - a % 8))).setCell ⟨w.heap.size, 31, none⟩ (.int .u8 (b % 64 + 64))) (w.heap.size + 1) 58 (u8s (List.replicate 32 0)) ∧ Below w.heap.size w ((x2.setCell ⟨w.heap.size, 0, none⟩ (.int .u8 (a - a % 8))).setCell ⟨w.heap.size, 31, none⟩ (.int .u8 (b % 64 + 64))) ∧ (u8s (clampL ks)).length = 32) := by
    refine ⟨?_, (WW.out.2.2.other (by simp) _).other (by simp) _, below_kept (S := fun k => k = w.heap.size) WW.out.1 (((Kept.refl (fun k => k = w.heap.size) x2).setCell (p := ⟨w.heap.size, 0, none⟩) rfl _).setCell (p := ⟨w.heap.size, 31, none⟩) rfl _) WW.out.1.size (fun j hj => by omega), by rw [u8s_length, clampL_length, HA.out.2.2.1]⟩
    have h := (WW.out.2.1.set 0 (.int .u8 (a - a % 8))).set 31 (.int .u8 (b % 64 + 64))
    rw [u8s_set, u8s_set] at h
    unfold clampL
    rw [HA.out.1, HA.out.2.1]
    exact h
  clear WW q0 q1 f0 f1
  obtain ⟨x3, hx3⟩ : ∃ z, z = (x2.setCell ⟨w.heap.size, 0, none⟩ (.int .u8 (a - a % 8))).setCell ⟨w.heap.size, 31, none⟩ (.int .u8 (b % 64 + 64)) := ⟨_, rfl⟩
  rw [← hx3] at R ⊢
  clear hx3
  go_wp2_with (first | (refine wpList_load_blk rfl 58 (.tmp 1) rfl w.heap.size rfl (u8s (clampL ks)) _ R.out.1 Try.underlying58 rfl (by rw [R.out.2.2.2]; exact sizeKey) ?_) | (refine wpList_store_blk rfl 58 58 _ _ rfl _ rfl _ (u8s (clampL ks)) rfl R.out.2.1 (by rw [R.out.2.2.2]; rfl) (by rw [R.out.2.2.2]; exact sizeKey) (u8s_one _) ?_; intro y7 b7 s7 k7))
  exact ret_blk rfl (w.heap.size + 1) (u8s (clampL ks)) _ rfl b7 Try.underlying58 rfl (by rw [R.out.2.2.2]; exact sizeKey) rfl ⟨rfl, below_kept R.out.2.2.1 k7 R.out.2.2.1.size (fun j hj => by omega)⟩
end Go.Proofs.Ytnifolefhelmcaa
