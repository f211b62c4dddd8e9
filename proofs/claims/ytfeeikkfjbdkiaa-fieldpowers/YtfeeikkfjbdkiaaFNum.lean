/- Layer field: the statements' number: a word's bytes. -/
import Derived.Test.YtfeeikkfjbdkiaaFBytes
namespace Go.Proofs.Ytfeeikkfjbdkiaa
open Go.RowKit
set_option linter.unusedVariables false
set_option linter.unusedSimpArgs false

theorem word_le (n : Int) (hn : Word n) : le (leB 32 n) = n := by
  rw [le_leB]
  refine Int.emod_eq_of_lt hn.1 (Int.lt_trans hn.2 (by decide))
theorem byK_short (L : List Int) (h1 : L.length = 32) (k : Nat) (hk : k ≤ 32) (hz : ∀ i, k ≤ i → i < 32 → L.getD i 0 = 0) : byK L k = L := by
  refine List.ext_getElem (by rw [byK_length _ h1 k hk, h1]) fun i h2 h3 => ?_
  have h4 : i < 32 := by omega
  by_cases hi : i < k
  · simp only [byK]
    rw [List.getElem_append_left (by rw [List.length_take, h1]; omega), List.getElem_take]
  · have e := hz i (by omega) h4
    simp only [List.getD, List.getElem?_eq_getElem h3, Option.getD_some] at e
    rw [e]
    simp only [byK]
    rw [List.getElem_append_right (by rw [List.length_take, h1]; omega), List.getElem_replicate]
theorem byK8 (n : Int) (hn : Word n) : byK (leB 32 n) 8 = leB 32 n := by
  refine byK_short _ (leB_length 32 n) 8 (by omega) fun i hi h3 => ?_
  rw [leB_at 32 n i h3]
  have hz : n / 256 ^ i = 0 := by
    refine Int.ediv_eq_zero_of_lt hn.1 (Int.lt_of_lt_of_le hn.2 ?_)
    have : (256 : Int) ^ i = 256 ^ 8 * 256 ^ (i - 8) := by rw [← Int.pow_add]; congr 1; omega
    rw [this]
    have h4 : (0 : Int) < 256 ^ (i - 8) := Int.pow_pos (by decide)
    have h5 : (256 : Int) ^ 8 = 18446744073709551616 := by decide
    rw [h5]; omega
  rw [hz]; rfl
set_option maxRecDepth 20000 in
set_option maxHeartbeats 1000000 in
theorem number_any (n : Int) (hn : Word n) (w : World) :
    Calls Try.prog 36 #[.int .u64 n] w fun e w' => e = .returned (.agg (u8s (leB 32 n)).toArray) ∧ Below w.heap.size w w' := by
  have HN : Hid (byK (leB 32 n) 8 = leB 32 n ∧ (leB 32 n).length = 32 ∧ (u8s (leB 32 n)).length = 32) := ⟨byK8 n hn, leB_length _ _, by rw [u8s_length, leB_length]⟩
  clear hn
  go_enter Try.func36, Try.ntmps36
  go_wp2_with (first | ((with_reducible show wpList _ _ _ _ _ w); refine wpList_alloc_new rfl 22 rfl 32 _ zero32 ?_; intro x1 z1 s1 l1) | (refine wpList_alloc_new rfl 22 rfl 32 _ zero32 ?_; intro x2 z2 s2 l2; rw [s1] at z2))
  have WW : Hid (Below w.heap.size w x2 ∧ Blk x2 w.heap.size 22 (u8s (List.replicate 32 0)) ∧ Blk x2 (w.heap.size + 1) 22 (u8s (List.replicate 32 0))) := ⟨below_chain l1 l2 (by omega), z1.later l2 (by omega), z2⟩
  clear z1 s1 l1 z2 s2 l2
  go_loopw [4] (fun i wr => ∃ (k : Nat), k ≤ 8 ∧ i = .int .i64 k ∧ Blk wr (w.heap.size + 1) 22 (u8s (byK (leB 32 n) k)) ∧ Kept (fun x => x = w.heap.size + 1) x2 wr) (fun i _ => 8 - (intOf i).toNat)
  case atStart => exact ⟨0, by omega, rfl, by simpa [byK] using WW.out.2.2, Kept.refl _ _⟩
  case round =>
    obtain ⟨k, hk, rfl, hblk, hkp⟩ := hrel
    by_cases hlt : k < 8
    · have i1 : (k : Int) < 8 := by omega
      have i2 : (k : Int) < 32 := by omega
      have i3 : (0 : Int) ≤ (k : Int) := by omega
      obtain ⟨s, hs⟩ : ∃ s : Nat, 8 * k = s := ⟨_, rfl⟩
      have j1 : 8 * (k : Int) = (s : Int) := by omega
      have j2 : IntKind.i64.wrap (s : Int) = (s : Int) := by simp only [IntKind.wrap, IntKind.bits, IntKind.signed]; simp; omega
      have j3 : (0 : Int) ≤ (s : Int) := by omega
      have c2 : wr.cell? ⟨w.heap.size + 1, k, none⟩ = some (.int .u8 ((byK (leB 32 n) k).getD k 0)) := u8s_cell hblk k (by rw [byK_length _ HN.out.2.1 k (by omega)]; omega)
      have fg := hblk.frozen k
      obtain ⟨Z, hZ⟩ : ∃ z, (byK (leB 32 n) k).getD k 0 = z := ⟨_, rfl⟩
      rw [hZ] at c2
      have HQ : Hid (Blk wr (w.heap.size + 1) 22 (u8s (byK (leB 32 n) k)) ∧ Kept (fun x => x = w.heap.size + 1) x2 wr ∧ (leB 32 n).getD k 0 = n / 2 ^ s % 256) := by
        refine ⟨hblk, hkp, ?_⟩
        rw [leB_at 32 n k (by omega), ← hs, Int.pow_mul]; rfl
      clear hblk hkp hZ hs
      go_wp2_with fail
      go_roundw
      case rel =>
        have R := HQ.out.1.set k (.int .u8 (n / 2 ^ s % 256))
        have e2 := byK_set (leB 32 n) HN.out.2.1 k (by omega)
        rw [HQ.out.2.2] at e2
        rw [u8s_set, e2] at R
        exact ⟨k + 1, by omega, by go_num, R, HQ.out.2.1.setCell rfl _⟩
      case measure => simp [intOf]; omega
    · have hk5 : k = 8 := by omega
      have i1 : ¬ ((k : Int) < 8) := by omega
      have X1 : Hid (Blk wr (w.heap.size + 1) 22 (u8s (leB 32 n)) ∧ Blk wr w.heap.size 22 (u8s (List.replicate 32 0)) ∧ Below w.heap.size w wr) := ⟨by rw [hk5, HN.out.1] at hblk; exact hblk, WW.out.2.1.kept hkp (by omega), below_kept WW.out.1 hkp WW.out.1.size (fun j hj => by omega)⟩
      clear hblk hkp hk5 hlt hk
      go_wp2_with (first | (refine wpList_load_blk rfl 22 _ rfl (w.heap.size + 1) rfl (u8s (leB 32 n)) _ X1.out.1 Try.underlying22 rfl (by rw [HN.out.2.2]; exact size32) ?_) | (refine wpList_store_blk rfl 22 22 _ _ rfl _ rfl _ (u8s (leB 32 n)) rfl X1.out.2.1 (by rw [HN.out.2.2]; rfl) (by rw [HN.out.2.2]; exact size32) (u8s_one _) ?_; intro w6 b6 s6 k6))
      exact ret_blk rfl w.heap.size (u8s (leB 32 n)) _ rfl b6 Try.underlying22 rfl (by rw [HN.out.2.2]; exact size32) rfl ⟨rfl, below_kept X1.out.2.2 k6 X1.out.2.2.size (fun j hj => by omega)⟩
end Go.Proofs.Ytfeeikkfjbdkiaa
