/- Layer stream: the state: with, begin, plus, bytesOf, stirred. -/
import Derived.Test.YtpjnimmclncdoaaSQuart
import Derived.Test.YtpjnimmclncdoaaSSlice
namespace Go.Proofs.Ytpjnimmclncdoaa
open Go.RowKit
set_option linter.unusedVariables false
set_option linter.unusedSimpArgs false

theorem zeroSt : (Try.prog.info? 68).map (fun i => (i.zero, i.size)) = some (some (.agg (u32s (List.replicate 16 0)).toArray), 16) := by kernel_rfl
theorem sizeSt : (Try.prog.info? 68).map (·.size) = some 16 := by kernel_rfl
theorem zero64b : (Try.prog.info? 57).map (fun i => (i.zero, i.size)) = some (some (.agg (u8s (List.replicate 64 0)).toArray), 64) := by kernel_rfl
theorem size64b : (Try.prog.info? 57).map (·.size) = some 64 := by kernel_rfl
theorem mid_set (xs ys zs : List Int) (y z : Int) (n : Nat) (hn : xs.length = n) : (xs ++ (y :: zs)).set n z = xs ++ (z :: zs) := by
  subst hn
  rw [List.set_append_right _ _ (Nat.le_refl _), Nat.sub_self, List.set_cons_zero]
theorem with_set (st zs : List Int) (f k : Nat) (hk : f + k < st.length) : (st.take f ++ (wds zs k ++ st.drop (f + k))).set (f + k) (w4 zs k) = st.take f ++ (wds zs (k + 1) ++ st.drop (f + (k + 1))) := by
  have h1 : (st.take f ++ wds zs k).length = f + k := by simp [wds_length]; omega
  rw [← List.append_assoc, List.drop_eq_getElem_cons hk, mid_set _ [] _ _ _ _ h1, wds_succ]
  simp [Nat.add_assoc]
theorem little_w4 (zs : List Int) (k : Nat) (ao : Option Addr) (c : Nat) (w : World) (h : Seen w ao 4 ((zs.drop (4 * k)).take 4)) :
    Calls Try.prog 37 #[.slice ao 4 c] w fun e w' => e = .returned (.tuple #[.int .u32 (w4 zs k), .int .i64 0]) ∧ w = w' := by
  have := little_32 ao 4 c ((zs.drop (4 * k)).take 4) w h
  rwa [leV_ok, fit_ok] at this
set_option maxRecDepth 20000 in
set_option maxHeartbeats 1000000 in
theorem with_any (st : List Int) (hs : st.length = 16) (f n L : Nat) (hf : f + n ≤ 16) (hL : L = 4 * n) (ao : Option Addr) (c : Nat) (zs : List Int) (w : World) (hx : Seen w ao L zs) (hc : L ≤ c) :
    Calls Try.prog 32 #[.agg (u32s st).toArray, .int .u64 f, .slice ao L c] w fun e w' => e = .returned (.agg (u32s (st.take f ++ (wds zs n ++ st.drop (f + n)))).toArray) ∧ Below w.heap.size w w' := by
  have HS : Hid (st.length = 16 ∧ L = 4 * n) := ⟨hs, hL⟩
  have HX : Hid (Seen w ao L zs) := hx
  clear hs hx hL
  go_enter Try.func32, Try.ntmps32
  go_wp2_with (first | (refine wpList_box_new rfl 68 _ rfl (u32s st) rfl ?_; intro w1 b1 s1 l1) | (refine wpList_alloc_new rfl 68 rfl 16 _ zeroSt ?_; intro w2 b2 s2 l2))
  have HB : Hid (Blk w2 w.heap.size 68 (u32s st) ∧ Blk w2 (w.heap.size + 1) 68 (u32s (List.replicate 16 0)) ∧ Below w.heap.size w w2) :=
    ⟨b1.later l2 (by omega), by rwa [s1] at b2, below_chain l1 l2 (by omega)⟩
  have sz : w2.heap.size = w.heap.size + 2 := by omega
  clear b1 s1 l1 b2 s2 l2
  go_loopw [1, 7] (fun v i wr => ∃ k : Nat, k ≤ n ∧ i = .int .i64 ((4 * k : Nat) : Int) ∧ v = .int .u64 ((f + k : Nat) : Int) ∧ Blk wr w.heap.size 68 (u32s (st.take f ++ (wds zs k ++ st.drop (f + k)))) ∧ Kept (fun b => b = w.heap.size) w2 wr) (fun _ i _ => 64 - (intOf i).toNat)
  case atStart => exact ⟨0, by omega, rfl, rfl, by simpa [wds] using HB.out.1, Kept.refl _ _⟩
  case round =>
    obtain ⟨k, hk, rfl, rfl, hb, hkp⟩ := hrel
    obtain ⟨F, hF⟩ : ∃ F, F = f + k := ⟨_, rfl⟩
    rw [← hF]
    obtain ⟨J, hJ⟩ : ∃ J, J = 4 * k := ⟨_, rfl⟩
    rw [← hJ]
    have q1 := HS.out.1
    have q2 := HS.out.2
    by_cases hlt : k < n
    · have sn : Seen wr (subA ao (4 * k) c) 4 (((zs.drop (4 * k)).take 4)) := by
        have := ((HX.out.later HB.out.2.2 (Nat.le_refl _)).kept hkp (fun b o h0 e => by have := HX.out.old (Nat.le_refl _) b o h0 e; omega)).sub (4 * k) (4 * k + 4) c (by omega) (by omega) (by omega)
        rwa [show 4 * k + 4 - 4 * k = 4 by omega] at this
      have hsl : ∀ w, (Instr.sliceAt 41 (.slice ao L c) (some (.int .i64 (J : Int))) (some (.int .i64 ((J : Int) + 4))) none).run Try.prog w = .ok (.slice (subA ao J c) 4 (c - J)) w := fun w => by
        have := sl_lh ao L c (4 * k) (4 * k + 4) (by omega) (by omega) w
        rw [show 4 * k + 4 - 4 * k = 4 by omega] at this
        rw [← hJ] at this
        simpa using this
      have SN : Hid (Seen wr (subA ao J c) 4 (((zs.drop (4 * k)).take 4))) := by rw [hJ]; exact sn
      have hlen : (st.take f ++ (wds zs k ++ st.drop (f + k))).length = 16 := by simp [wds_length]; omega
      have cs := u32s_cell hb F (by omega)
      have fs := hb.frozen F
      have X0 : Hid (Blk wr w.heap.size 68 (u32s (st.take f ++ (wds zs k ++ st.drop (f + k)))) ∧ f + k < st.length) := ⟨hb, by omega⟩
      have i1 : (J : Int) < (L : Int) := by omega
      have i4 : J + 4 ≤ 64 := by omega
      have i2 : (F : Int) < 16 := by omega
      have HF : Hid (F = f + k ∧ J = 4 * k) := ⟨hF, hJ⟩
      clear hb sn hlen q1 q2 hF hJ
      go_wp2_with (first | (go_at_call 37; refine (little_w4 zs k _ _ _ SN.out).mono ?_; rintro e w' ⟨rfl, rfl⟩))
      have R1 := X0.out.1.set F (.int .u32 (w4 zs k))
      have q3 := HF.out.1
      have q4 := HF.out.2
      rw [u32s_set, q3, with_set st zs f k X0.out.2, ← q3] at R1
      exact ⟨⟨k + 1, by omega, by rw [q4]; go_num, by rw [q3]; go_num, R1, hkp.setCell rfl _⟩, by simp [intOf]; omega⟩
    · obtain rfl : k = n := by omega
      have X3 : Hid (Blk wr w.heap.size 68 (u32s (st.take f ++ (wds zs k ++ st.drop (f + k))))) := hb
      have X4 : Hid (Blk wr (w.heap.size + 1) 68 (u32s (List.replicate 16 0))) := HB.out.2.1.kept hkp (by omega)
      have X5 : Hid (Below w.heap.size w wr) := below_kept HB.out.2.2 hkp (by omega) (fun j hj => by omega)
      have hlen : (u32s (st.take f ++ (wds zs k ++ st.drop (f + k)))).length = 16 := by rw [u32s_length]; simp [wds_length]; omega
      have X6 : Hid ((u32s (st.take f ++ (wds zs k ++ st.drop (f + k)))).length = 16) := hlen
      have i1 : ¬ ((J : Int) < (L : Int)) := by omega
      clear hb hkp hlen hF hJ q1 q2
      go_wp2_with (first | (refine wpList_load_blk rfl 68 _ rfl _ rfl (u32s (st.take f ++ (wds zs k ++ st.drop (f + k)))) _ X3.out Try.underlying68 rfl (by rw [X6.out]; exact sizeSt) ?_) | (refine wpList_store_blk rfl 68 68 _ _ rfl _ rfl _ (u32s (st.take f ++ (wds zs k ++ st.drop (f + k)))) rfl X4.out (by rw [X6.out, u32s_length, List.length_replicate]) (by rw [X6.out]; exact sizeSt) (u32s_one _) ?_; intro w5 b5 s5 k5))
      exact ret_blk rfl (w.heap.size + 1) (u32s (st.take f ++ (wds zs k ++ st.drop (f + k)))) _ rfl b5 Try.underlying68 rfl (by rw [X6.out]; exact sizeSt) rfl ⟨rfl, below_kept X5.out k5 X5.out.size (fun j hj => by omega)⟩
end Go.Proofs.Ytpjnimmclncdoaa
