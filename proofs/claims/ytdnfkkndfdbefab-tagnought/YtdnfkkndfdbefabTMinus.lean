/- The statements' minus and second. -/
import Derived.Test.YtdnfkkndfdbefabTNew
namespace Go.Proofs.Ytdnfkkndfdbefab
open Go.RowKit
set_option linter.unusedVariables false
set_option linter.unusedSimpArgs false

theorem le_take_succ (a : List Int) (k : Nat) (hk : k < a.length) : le (a.take (k + 1)) = le (a.take k) + 256 ^ k * a.getD k 0 := by
  rw [List.take_succ_eq_append_getElem hk, le_app, List.length_take, Nat.min_eq_left (by omega)]
  simp [le, List.getD, hk]
theorem diff_step (A B O X Y D p b c : Int) (h : B - A = O - p * b) (hd : Y - X - b = D - 256 * c) : (B + p * Y) - (A + p * X) = (O + p * D) - (p * 256) * c := by
  have e : Y = X + b + D - 256 * c := by omega
  subst e
  simp only [Int.mul_add, Int.mul_sub, Int.mul_assoc]
  omega
/-- How far the second one is above the first one. -/
def far (a b : List Int) : List Int := leB 16 ((le b - le a) % 340282366920938463463374607431768211456)
theorem far_of (a b out : List Int) (B : Int) (hl : out.length = 16) (hb : Bytes out) (h : le b - le a = le out - 340282366920938463463374607431768211456 * B) : out = far a b := by
  have h1 := le16_bd out hb (by omega)
  have e : (le b - le a) % 340282366920938463463374607431768211456 = le out := by omega
  rw [far, e, ← hl, leB_le out hb]
theorem out_set (out : List Int) (k : Nat) (hk : k < 16) (hl : out.length = k) (z : Int) : (out ++ zs0 (16 - k)).set k z = (out ++ [z]) ++ zs0 (16 - (k + 1)) := by
  have e : zs0 (16 - k) = 0 :: zs0 (16 - (k + 1)) := by
    rw [zs0, zs0, show 16 - k = 16 - (k + 1) + 1 by omega, List.replicate_succ]
  rw [e, List.set_append_right _ _ (by omega), hl, Nat.sub_self, List.set_cons_zero]; simp
set_option maxRecDepth 20000 in
set_option maxHeartbeats 2000000 in
theorem second_any (key : List Int) (hk : key.length = 32) (w : World) :
    Calls Try.prog 7 #[.agg (u8s key).toArray] w fun e w' => e = .returned (.agg (u8s ((key.drop 16).take 16)).toArray) ∧ Below w.heap.size w w' := by
  have HL : Hid (key.length = 32 ∧ ((key.drop 16).take 16).length = 16) := ⟨hk, by rw [List.length_take, List.length_drop]; omega⟩
  obtain ⟨S, hS⟩ : ∃ z, (key.drop 16).take 16 = z := ⟨_, rfl⟩
  have HS : Hid ((∀ k, k < 16 → key.getD (16 + k) 0 = S.getD k 0) ∧ S.length = 16) := by
    refine ⟨fun k hk' => ?_, by rw [← hS]; exact HL.out.2⟩
    rw [← hS]
    simp [List.getD, List.getElem?_take, hk']
  rw [hS]
  clear hk hS
  go_enter Try.func7, Try.ntmps7
  go_wp2_with (first | (refine wpList_box_new rfl 23 (.tmp 0) rfl (u8s key) rfl ?_; intro w1 b1 s1 l1) | ((with_reducible show wpList _ _ _ _ _ w1); refine wpList_alloc_new rfl 25 rfl 16 _ zero16 ?_; intro w2 b2 s2 l2) | ((with_reducible show wpList _ _ _ _ _ w2); refine wpList_alloc_new rfl 25 rfl 16 _ zero16 ?_; intro w3 b3 s3 l3))
  have HB : Hid (Blk w3 w.heap.size 23 (u8s key) ∧ Blk w3 (w.heap.size + 1) 25 (u8s (zs0 16)) ∧ Blk w3 (w.heap.size + 1 + 1) 25 (u8s (zs0 16)) ∧ Below w.heap.size w w3) := by
    rw [s1] at b2
    rw [s2, s1] at b3
    exact ⟨(b1.later l2 (by omega)).later l3 (by omega), b2.later l3 (by omega), b3, below_chain (below_chain l1 l2 (by omega)) l3 (by omega)⟩
  clear b1 s1 l1 b2 s2 l2 b3 s3 l3
  go_loopw [4] (fun i wr => ∃ (k : Nat), k ≤ 16 ∧ i = .int .i64 k ∧ Blk wr (w.heap.size + 1 + 1) 25 (u8s (S.take k ++ zs0 (16 - k))) ∧ Kept (fun x => x = w.heap.size + 1 + 1) w3 wr) (fun i _ => 16 - (intOf i).toNat)
  case atStart => exact ⟨0, by omega, rfl, HB.out.2.2.1, Kept.refl _ _⟩
  case round =>
    obtain ⟨k, hk, rfl, hblk, hkp⟩ := hrel
    by_cases hlt : k < 16
    · have ca := u8s_cell (HB.out.1.kept hkp (by omega)) (16 + k) (by rw [HL.out.1]; omega)
      rw [HS.out.1 k hlt] at ca
      have cg := u8s_cell hblk k (by rw [List.length_append, List.length_take, HS.out.2, zs0_length]; omega)
      have fg := hblk.frozen k
      have HQ : Hid (Blk wr (w.heap.size + 1 + 1) 25 (u8s (S.take k ++ zs0 (16 - k))) ∧ Kept (fun x => x = w.heap.size + 1 + 1) w3 wr ∧ S.take k ++ [S.getD k 0] = S.take (k + 1)) := ⟨hblk, hkp, by rw [List.take_succ_eq_append_getElem (by rw [HS.out.2]; exact hlt)]; simp [List.getD, HS.out.2, hlt]⟩
      obtain ⟨X, hX⟩ : ∃ X, S.getD k 0 = X := ⟨_, rfl⟩
      obtain ⟨z0, hz0⟩ : ∃ z, (S.take k ++ zs0 (16 - k)).getD k 0 = z := ⟨_, rfl⟩
      rw [hX] at ca HQ
      rw [hz0] at cg
      have i1 : (k : Int) < 16 := by omega
      have i3 : (0 : Int) ≤ (k : Int) := by omega
      clear hblk hkp hX hz0
      go_wp2_with fail
      go_roundw
      case rel =>
        have R := HQ.out.1.set k (.int .u8 X)
        rw [u8s_set, out_set _ k hlt (by rw [List.length_take, HS.out.2]; omega), HQ.out.2.2] at R
        exact ⟨k + 1, by omega, by go_num, R, HQ.out.2.1.setCell rfl _⟩
      case measure => simp [intOf]; omega
    · obtain rfl : k = 16 := by omega
      have X1 : Hid (Blk wr (w.heap.size + 1 + 1) 25 (u8s S) ∧ Blk wr (w.heap.size + 1) 25 (u8s (zs0 16)) ∧ Below w.heap.size w wr) := ⟨by rw [List.take_of_length_le (by rw [HS.out.2]; omega)] at hblk; simpa [zs0] using hblk, HB.out.2.1.kept hkp (by omega), below_kept HB.out.2.2.2 hkp (by have := HB.out.2.2.2.size; omega) (fun j hj => by omega)⟩
      clear hblk hkp
      go_wp2_with (first | (refine wpList_load_blk rfl 25 _ rfl (w.heap.size + 1 + 1) rfl (u8s S) _ X1.out.1 Try.underlying25 rfl (by rw [u8s_length, HS.out.2]; exact size16) ?_) | (refine wpList_store_blk rfl 25 25 _ _ rfl _ rfl _ (u8s S) rfl X1.out.2.1 (by rw [u8s_length, HS.out.2]; rfl) (by rw [u8s_length, HS.out.2]; exact size16) (u8s_one _) ?_; intro w6 b6 s6 k6))
      exact ret_blk rfl (w.heap.size + 1) (u8s S) _ rfl b6 Try.underlying25 rfl (by rw [u8s_length, HS.out.2]; exact size16) rfl ⟨rfl, below_kept X1.out.2.2 k6 X1.out.2.2.size (fun j hj => by omega)⟩
end Go.Proofs.Ytdnfkkndfdbefab
