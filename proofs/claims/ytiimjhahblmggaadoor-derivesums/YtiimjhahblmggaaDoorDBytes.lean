/- Layer digest: bytesOf. -/
import Derived.Test.YtiimjhahblmggaaDoorDAbsorb
namespace Go.Proofs.YtiimjhahblmggaaDoor
open Go.RowKit
set_option linter.unusedVariables false
set_option linter.unusedSimpArgs false

/-- The bytes of eight words, the highest first. -/
def byteF (st : List Int) (i : Nat) : Int := st.getD (i / 4) 0 / 2 ^ (24 - 8 * (i % 4)) % 256
def bytesF (st : List Int) (k : Nat) : List Int := (List.range k).map (byteF st)
theorem bytesF_length (st : List Int) (k : Nat) : (bytesF st k).length = k := by simp [bytesF]
theorem bytesF_succ (st : List Int) (k : Nat) : bytesF st (k + 1) = bytesF st k ++ [byteF st k] := by simp [bytesF, List.range_succ]
theorem zeroAH : (Tryd.prog.info? 28).map (fun i => (i.zero, i.size)) = some (some (.agg (u8s (zer 32)).toArray), 32) := by kernel_rfl
theorem sizeAH : (Tryd.prog.info? 28).map (·.size) = some 32 := by kernel_rfl
set_option maxRecDepth 20000 in
set_option maxHeartbeats 1000000 in
theorem bytesOf_any (st : List Int) (hs : st.length = 8) (w : World) :
    Calls Tryd.prog 58 #[.agg (u32s st).toArray] w fun e w' => e = .returned (.agg (u8s (bytesF st 32)).toArray) ∧ Below w.heap.size w w' := by
  have HS : Hid (st.length = 8) := hs
  clear hs
  go_enter Tryd.func58, Tryd.ntmps58
  go_wp2_with (first | (refine wpList_box_new rfl 79 _ rfl (u32s st) rfl ?_; intro w1 b1 s1 l1) | (refine wpList_alloc_new rfl 28 rfl 32 _ zeroAH ?_; intro w2 b2 s2 l2))
  rename_i wa ba sa la K a
  have HB : Hid (Blk w2 w.heap.size 79 (u32s st) ∧ Blk w2 (w.heap.size + 1) 28 (u8s (zer 32)) ∧ Blk w2 (w.heap.size + 2) 28 (u8s (zer 32)) ∧ Below w.heap.size w w2) :=
    ⟨(b1.later la (by omega)).later l2 (by omega), by have := ba.later l2 (by omega); rwa [s1] at this, by rwa [show wa.heap.size = w.heap.size + 2 by omega] at b2, below_chain (below_chain l1 la (by omega)) l2 (by omega)⟩
  have sz : w2.heap.size = w.heap.size + 3 := by omega
  clear ba sa la b1 s1 l1 b2 s2 l2
  go_loopw [5] (fun i wr => ∃ k : Nat, k ≤ 32 ∧ i = .int .i64 k ∧ Blk wr (w.heap.size + 2) 28 (u8s (bytesF st k ++ List.replicate (32 - k) 0)) ∧ Kept (fun b => b = w.heap.size + 2) w2 wr) (fun i _ => 32 - (intOf i).toNat)
  case atStart => exact ⟨0, by decide, rfl, HB.out.2.2.1, Kept.refl _ _⟩
  case round =>
    obtain ⟨k, hk, rfl, hb, hkp⟩ := hrel
    by_cases hlt : k < 32
    · have c0 := u32s_cell (HB.out.1.kept hkp (by omega)) (k / 4) (by have := HS.out; omega)
      have cs := u8s_cell hb k (by simp [bytesF_length]; omega)
      have fs := hb.frozen k
      have i1 : (0 : Int) ≤ (k : Int) := by omega
      have i2 : (k : Int) < 32 := by omega
      have i3 : (k : Int).tdiv 4 = ((k / 4 : Nat) : Int) := by rw [Int.tdiv_eq_ediv_of_nonneg i1]; omega
      have i4 : (k : Int).tmod 4 = ((k % 4 : Nat) : Int) := by rw [Int.tmod_eq_emod_of_nonneg i1]; omega
      have i5 : ((k / 4 : Nat) : Int) < 8 := by omega
      have i6 : (0 : Int) ≤ 24 - 8 * ((k % 4 : Nat) : Int) := by omega
      have i7 : (24 - 8 * ((k % 4 : Nat) : Int)).toNat = 24 - 8 * (k % 4) := by omega
      obtain ⟨y, hy⟩ : ∃ y, st.getD (k / 4) 0 = y := ⟨_, rfl⟩
      have HY : Hid (byteF st k = y / 2 ^ (24 - 8 * (k % 4)) % 256) := by show _ = _; rw [byteF, hy]
      rw [hy] at c0
      obtain ⟨q, hq⟩ : ∃ q, k / 4 = q := ⟨_, rfl⟩
      obtain ⟨r, hr⟩ : ∃ r, k % 4 = r := ⟨_, rfl⟩
      have HR : Hid (r < 4) := by show r < 4; omega
      rw [hq] at i3 i5 c0
      rw [hr] at i4 i6 i7 HY
      have X0 : Hid (Blk wr (w.heap.size + 2) 28 (u8s (bytesF st k ++ List.replicate (32 - k) 0))) := hb
      clear hb hy hq hr
      go_wp2
      have R1 := X0.out.set k (.int .u8 (byteF st k))
      rw [u8s_set, show 32 - k = (32 - (k + 1)) + 1 by omega] at R1
      have e := set_next (bytesF st k) (32 - (k + 1)) (byteF st k) 0
      rw [bytesF_length] at e
      rw [e, ← bytesF_succ, HY.out] at R1
      exact ⟨⟨k + 1, by omega, by go_num, R1, hkp.setCell rfl _⟩, by simp [intOf]; omega⟩
    · obtain rfl : k = 32 := by omega
      rw [show ((32 : Nat) : Int) = 32 from rfl]
      rw [show 32 - 32 = 0 from rfl, List.replicate_zero, List.append_nil] at hb
      have X3 : Hid (Blk wr (w.heap.size + 2) 28 (u8s (bytesF st 32))) := hb
      have X4 : Hid (Blk wr (w.heap.size + 1) 28 (u8s (zer 32))) := HB.out.2.1.kept hkp (by omega)
      have X5 : Hid (Below w.heap.size w wr) := below_kept HB.out.2.2.2 hkp (by omega) (fun j hj => by omega)
      clear hb hkp
      go_wp2_with (first | (refine wpList_load_blk rfl 28 _ rfl _ rfl (u8s (bytesF st 32)) _ X3.out Tryd.underlying28 rfl (by rw [u8s_length, bytesF_length]; exact sizeAH) ?_) | (refine wpList_store_blk rfl 28 28 _ _ rfl _ rfl _ (u8s (bytesF st 32)) rfl X4.out (by rw [u8s_length, bytesF_length, u8s_length, zer_length]) (by rw [u8s_length, bytesF_length]; exact sizeAH) (u8s_one _) ?_; intro w5 b5 s5 k5))
      exact ret_blk rfl (w.heap.size + 1) (u8s (bytesF st 32)) _ rfl b5 Tryd.underlying28 rfl (by rw [u8s_length, bytesF_length]; exact sizeAH) rfl ⟨rfl, below_kept X5.out k5 X5.out.size (fun j hj => by omega)⟩
end Go.Proofs.YtiimjhahblmggaaDoor
