/- Layer ladder: Clamp. -/
import Derived.Test.YtnifolefhelmcaaFBits
import Derived.Test.YtnifolefhelmcaaECAll
namespace Go.Proofs.Ytnifolefhelmcaa
open Go.RowKit
set_option linter.unusedVariables false
set_option linter.unusedSimpArgs false

/-- What is clamped. -/
def clampL (ks : List Int) : List Int := (ks.set 0 (ks.getD 0 0 - ks.getD 0 0 % 8)).set 31 (ks.getD 31 0 % 64 + 64)
theorem clampL_length (ks : List Int) : (clampL ks).length = ks.length := by simp [clampL]
theorem zeroKey : (Try.prog.info? 58).map (fun i => (i.zero, i.size)) = some (some (.agg (u8s (List.replicate 32 0)).toArray), 32) := by kernel_rfl
theorem sizeKey : (Try.prog.info? 58).map (·.size) = some 32 := by kernel_rfl
theorem low_code : ∀ n : Fin 256, bits .and .u8 (n.val : Int) 248 = (n.val : Int) - (n.val : Int) % 8 := by decide +kernel
theorem top_code8 : ∀ n : Fin 256, bits .or .u8 (bits .and .u8 (n.val : Int) 127) 64 = (n.val : Int) % 64 + 64 := by decide +kernel
theorem low8 (z : Int) (h : 0 ≤ z ∧ z < 256) : bits .and .u8 z 248 = z - z % 8 := by
  have := low_code ⟨z.toNat, by omega⟩
  rwa [show ((⟨z.toNat, by omega⟩ : Fin 256).val : Int) = z from Int.toNat_of_nonneg h.1] at this
theorem top8 (z : Int) (h : 0 ≤ z ∧ z < 256) : bits .or .u8 (bits .and .u8 z 127) 64 = z % 64 + 64 := by
  have := top_code8 ⟨z.toNat, by omega⟩
  rwa [show ((⟨z.toNat, by omega⟩ : Fin 256).val : Int) = z from Int.toNat_of_nonneg h.1] at this
set_option maxRecDepth 20000 in
set_option maxHeartbeats 1000000 in
theorem clamp_any (ks : List Int) (hl : ks.length = 32) (hb : Bytes ks) (w : World) :
    Calls Try.prog 37 #[.agg (u8s ks).toArray] w fun e w' => e = .returned (.agg (u8s (clampL ks)).toArray) ∧ Below w.heap.size w w' := by
  obtain ⟨a, ha⟩ : ∃ z, ks.getD 0 0 = z := ⟨_, rfl⟩
  obtain ⟨b, hb'⟩ : ∃ z, ks.getD 31 0 = z := ⟨_, rfl⟩
  have ba := hb.at 0 (by omega)
  have bb := hb.at 31 (by omega)
  rw [ha] at ba
  rw [hb'] at bb
  have c0 := low8 a ba
  have c1 := top8 b bb
  have HA : Hid (ks.getD 0 0 = a ∧ ks.getD 31 0 = b ∧ ks.length = 32 ∧ (u8s ks).length = 32) := ⟨ha, hb', hl, by rw [u8s_length, hl]⟩
  clear ha hb' hl hb
  go_enter Try.func37, Try.ntmps37
  go_wp2_with (first | ((with_reducible show wpList _ _ _ ({ dst := some 4, op := _, type := _, pos := _, after := _, guard := _ } :: _) _ _); refine Hid.out ?_) | (refine wpList_box_new rfl 58 (.tmp 0) rfl (u8s ks) rfl ?_; intro x1 z1 s1 l1) | (refine wpList_alloc_new rfl 58 rfl 32 _ zeroKey ?_; intro x2 z2 s2 l2))
  have e2 : x1.heap.size = w.heap.size + 1 := s1
  rw [e2] at z2
  have WW : Hid (Below w.heap.size w x2 ∧ Blk x2 w.heap.size 58 (u8s ks) ∧ Blk x2 (w.heap.size + 1) 58 (u8s (List.replicate 32 0))) := ⟨below_chain l1 l2 (by omega), z1.later l2 (by omega), z2⟩
  have q0 : x2.cell? ⟨w.heap.size, 0, none⟩ = some (.int .u8 a) := by rw [u8s_cell WW.out.2.1 0 (by rw [HA.out.2.2.1]; decide), HA.out.1]
  have q1 : x2.cell? ⟨w.heap.size, 31, none⟩ = some (.int .u8 b) := by rw [u8s_cell WW.out.2.1 31 (by rw [HA.out.2.2.1]; decide), HA.out.2.1]
  have f0 := WW.out.2.1.frozen 0
  have f1 := WW.out.2.1.frozen 31
  clear z1 s1 l1 z2 s2 l2
  change wpList _ _ _ _ _ _
  go_wp2_with (first | ((with_reducible show wpList _ _ _ ({ dst := some 15, op := _, type := _, pos := _, after := _, guard := _ } :: _) _ _); refine Hid.out ?_))
  change wpList _ _ _ _ _ _
  have R : Hid (Blk ((x2.setCell ⟨w.heap.size, 0, none⟩ (.int .u8 (a - a % 8))).setCell ⟨w.heap.size, 31, none⟩ (.int .u8 (b % 64 + 64))) w.heap.size 58 (u8s (clampL ks)) ∧ Blk ((x2.setCell ⟨w.heap.size, 0, none⟩ (.int .u8 (a - a % 8))).setCell ⟨w.heap.size, 31, none⟩ (.int .u8 (b % 64 + 64))) (w.heap.size + 1) 58 (u8s (List.replicate 32 0)) ∧ Below w.heap.size w ((x2.setCell ⟨w.heap.size, 0, none⟩ (.int .u8 (a - a % 8))).setCell ⟨w.heap.size, 31, none⟩ (.int .u8 (b % 64 + 64))) ∧ (u8s (clampL ks)).length = 32) := by
    refine ⟨?_, (WW.out.2.2.other (by simp) _).other (by simp) _, below_kept (S := fun k => k = w.heap.size) WW.out.1 (((Kept.refl (fun k => k = w.heap.size) x2).setCell (p := ⟨w.heap.size, 0, none⟩) rfl _).setCell (p := ⟨w.heap.size, 31, none⟩) rfl _) WW.out.1.size (fun j hj => by omega), by rw [u8s_length, clampL_length, HA.out.2.2.1]⟩
    have h := (WW.out.2.1.set 0 (.int .u8 (a - a % 8))).set 31 (.int .u8 (b % 64 + 64))
    rw [u8s_set, u8s_set] at h
    unfold clampL
    rw [HA.out.1, HA.out.2.1]
    exact h
  clear WW q0 q1 f0 f1
  obtain ⟨x3, hx3⟩ : ∃ z, z = (x2.setCell ⟨w.heap.size, 0, none⟩ (.int .u8 (a - a % 8))).setCell ⟨w.heap.size, 31, none⟩ (.int .u8 (b % 64 + 64)) := ⟨_, rfl⟩
  rw [← hx3] at R ⊢
  clear hx3
  go_wp2_with (first | (refine wpList_load_blk rfl 58 (.tmp 1) rfl w.heap.size rfl (u8s (clampL ks)) _ R.out.1 Try.underlying58 rfl (by rw [R.out.2.2.2]; exact sizeKey) ?_) | (refine wpList_store_blk rfl 58 58 _ _ rfl _ rfl _ (u8s (clampL ks)) rfl R.out.2.1 (by rw [R.out.2.2.2]; rfl) (by rw [R.out.2.2.2]; exact sizeKey) (u8s_one _) ?_; intro y7 b7 s7 k7))
  exact ret_blk rfl (w.heap.size + 1) (u8s (clampL ks)) _ rfl b7 Try.underlying58 rfl (by rw [R.out.2.2.2]; exact sizeKey) rfl ⟨rfl, below_kept R.out.2.2.1 k7 R.out.2.2.1.size (fun j hj => by omega)⟩
end Go.Proofs.Ytnifolefhelmcaa
