/- Layer stream: the state: with, begin, plus, bytesOf, stirred. -/
import Derived.Test.YtpjnimmclncdoaaSState
namespace Go.Proofs.Ytpjnimmclncdoaa
open Go.RowKit
set_option linter.unusedVariables false
set_option linter.unusedSimpArgs false

theorem infoU32 : (Try.prog.info? 26).map (fun i => (i.zero, i.size)) = some (some (.int .u32 0), 1) := by kernel_rfl
set_option maxRecDepth 20000 in
theorem idx_St (zs : List Int) (hl : zs.length = 16) (k : Nat) (hk : k < 16) (w : World) : (Instr.index 68 (.agg (u32s zs).toArray) (.int .i64 k)).run Try.prog w = .ok (.int .u32 (zs.getD k 0)) w := by
  have hsz : ∀ w, (sizeOf 26).run Try.prog w = .ok 1 w := fun w => by
    have h := infoU32
    cases hq : Try.prog.info? 26 with
    | none => simp [hq] at h
    | some i => simp [hq] at h; simp [sizeOf, typeInfo, hq, h.2]
  have px : (Go.part 26 (u32s zs).toArray (k * 1)).run Try.prog w = .ok (.int .u32 (zs.getD k 0)) w := by
    simp [Go.part, isAgg, run_underlying Try.underlying26, u32s, List.getD, List.getElem?_eq_getElem (show k < zs.length by omega)]
  rw [Nat.mul_one] at px
  simp [Instr.index, run_underlying Try.underlying68, asIntOf, hsz, hk, px]
set_option maxRecDepth 20000 in
set_option maxHeartbeats 1000000 in
theorem plus_any (st os : List Int) (hs : st.length = 16) (ho : os.length = 16) (w : World) :
    Calls Try.prog 28 #[.agg (u32s st).toArray, .agg (u32s os).toArray] w fun e w' => e = .returned (.agg (u32s (addW st os)).toArray) ∧ Below w.heap.size w w' := by
  have HS : Hid (st.length = 16 ∧ os.length = 16) := ⟨hs, ho⟩
  have HA : Hid ((addW st os).length = 16) := addW_length _ _ 16 hs ho
  clear hs ho
  go_enter Try.func28, Try.ntmps28
  go_wp2_with (first | (refine wpList_box_new rfl 68 _ rfl (u32s st) rfl ?_; intro w1 b1 s1 l1) | (refine wpList_box_new rfl 68 _ rfl (u32s os) rfl ?_; intro w2 b2 s2 l2) | (refine wpList_alloc_new rfl 68 rfl 16 _ zeroSt ?_; intro w3 b3 s3 l3) | (refine wpList_load_blk rfl 68 _ rfl _ rfl (u32s os) _ (by first | exact b2.later l3 (by omega) | (have := b2.later l3 (by omega); rwa [s1] at this)) Try.underlying68 rfl (by rw [u32s_length, HS.out.2]; exact sizeSt) ?_))
  have HB : Hid (Blk w3 w.heap.size 68 (u32s st) ∧ Blk w3 (w.heap.size + 2) 68 (u32s (List.replicate 16 0)) ∧ Below w.heap.size w w3) :=
    ⟨(b1.later l2 (by omega)).later l3 (by omega), by rwa [s2, s1] at b3, below_chain (below_chain l1 l2 (by omega)) l3 (by omega)⟩
  have sz : w3.heap.size = w.heap.size + 3 := by omega
  clear b1 s1 l1 b2 s2 l2 b3 s3 l3
  go_loopw [8] (fun i wr => ∃ k : Nat, k ≤ 16 ∧ i = .int .i64 k ∧ Blk wr w.heap.size 68 (u32s ((addW st os).take k ++ st.drop k)) ∧ Kept (fun b => b = w.heap.size) w3 wr) (fun i _ => 16 - (intOf i).toNat)
  case atStart => exact ⟨0, by omega, rfl, by simpa using HB.out.1, Kept.refl _ _⟩
  case round =>
    obtain ⟨k, hk, rfl, hb, hkp⟩ := hrel
    by_cases hlt : k < 16
    · have f1 := idx_St os HS.out.2 k hlt
      have hln := half_length (addW st os) st 16 k HA.out HS.out.1 (by omega)
      have cs := u32s_cell hb k (by omega)
      rw [half_at _ _ 16 k HA.out HS.out.1 hlt] at cs
      have fs := hb.frozen k
      have HY : Hid ((addW st os).getD k 0 = (st.getD k 0 + os.getD k 0) % 4294967296) := addW_at _ _ 16 k HS.out.1 HS.out.2 hlt
      obtain ⟨x, hx⟩ : ∃ x, st.getD k 0 = x := ⟨_, rfl⟩
      obtain ⟨y, hy⟩ : ∃ y, os.getD k 0 = y := ⟨_, rfl⟩
      rw [hx] at cs HY
      rw [hy] at f1 HY
      have i1 : (k : Int) < 16 := by omega
      have X0 : Hid (Blk wr w.heap.size 68 (u32s ((addW st os).take k ++ st.drop k))) := hb
      clear hb hx hy hln
      go_wp2_with fail
      have R1 := X0.out.set k (.int .u32 ((addW st os).getD k 0))
      rw [u32s_set, half_set _ _ 16 k HA.out HS.out.1 hlt, HY.out] at R1
      exact ⟨⟨k + 1, by omega, by go_num, R1, hkp.setCell rfl _⟩, by simp [intOf]; omega⟩
    · obtain rfl : k = 16 := by omega
      rw [show ((16 : Nat) : Int) = 16 from rfl]
      rw [List.take_of_length_le (by have := HA.out; omega), List.drop_eq_nil_of_le (by have := HS.out.1; omega), List.append_nil] at hb
      have X3 : Hid (Blk wr w.heap.size 68 (u32s (addW st os))) := hb
      have X4 : Hid (Blk wr (w.heap.size + 2) 68 (u32s (List.replicate 16 0))) := HB.out.2.1.kept hkp (by omega)
      have X5 : Hid (Below w.heap.size w wr) := below_kept HB.out.2.2 hkp (by omega) (fun j hj => by omega)
      have X6 : Hid ((u32s (addW st os)).length = 16) := by show _ = _; rw [u32s_length]; exact HA.out
      clear hb hkp
      go_wp2_with (first | (refine wpList_load_blk rfl 68 _ rfl _ rfl (u32s (addW st os)) _ X3.out Try.underlying68 rfl (by rw [X6.out]; exact sizeSt) ?_) | (refine wpList_store_blk rfl 68 68 _ _ rfl _ rfl _ (u32s (addW st os)) rfl X4.out (by rw [X6.out, u32s_length, List.length_replicate]) (by rw [X6.out]; exact sizeSt) (u32s_one _) ?_; intro w5 b5 s5 k5))
      exact ret_blk rfl (w.heap.size + 2) (u32s (addW st os)) _ rfl b5 Try.underlying68 rfl (by rw [X6.out]; exact sizeSt) rfl ⟨rfl, below_kept X5.out k5 X5.out.size (fun j hj => by omega)⟩
end Go.Proofs.Ytpjnimmclncdoaa
