/- The statements' minus and second. -/
import Derived.Test.YtdnfkkndfdbefaaTNew
namespace Go.Proofs.Ytdnfkkndfdbefaa
open Go.RowKit
set_option linter.unusedVariables false
set_option linter.unusedSimpArgs false

theorem le_take_succ (a : List Int) (k : Nat) (hk : k < a.length) : le (a.take (k + 1)) = le (a.take k) + 256 ^ k * a.getD k 0 := by
  rw [List.take_succ_eq_append_getElem hk, le_app, List.length_take, Nat.min_eq_left (by omega)]
  simp [le, List.getD, hk]
theorem diff_step (A B O X Y D p b c : Int) (h : B - A = O - p * b) (hd : Y - X - b = D - 256 * c) : (B + p * Y) - (A + p * X) = (O + p * D) - (p * 256) * c := by
  have e : Y = X + b + D - 256 * c := by omega
  subst e
  simp only [Int.mul_add, Int.mul_sub, Int.mul_assoc]
  omega
/-- How far the second one is above the first one. -/
def far (a b : List Int) : List Int := leB 16 ((le b - le a) % 340282366920938463463374607431768211456)
theorem far_of (a b out : List Int) (B : Int) (hl : out.length = 16) (hb : Bytes out) (h : le b - le a = le out - 340282366920938463463374607431768211456 * B) : out = far a b := by
  have h1 := le16_bd out hb (by omega)
  have e : (le b - le a) % 340282366920938463463374607431768211456 = le out := by omega
  rw [far, e, ← hl, leB_le out hb]
theorem out_set (out : List Int) (k : Nat) (hk : k < 16) (hl : out.length = k) (z : Int) : (out ++ zs0 (16 - k)).set k z = (out ++ [z]) ++ zs0 (16 - (k + 1)) := by
  have e : zs0 (16 - k) = 0 :: zs0 (16 - (k + 1)) := by
    rw [zs0, zs0, show 16 - k = 16 - (k + 1) + 1 by omega, List.replicate_succ]
  rw [e, List.set_append_right _ _ (by omega), hl, Nat.sub_self, List.set_cons_zero]; simp
set_option maxRecDepth 20000 in
set_option maxHeartbeats 2000000 in
theorem minus_any (a b : List Int) (hla : a.length = 16) (hlb : b.length = 16) (hba : Bytes a) (hbb : Bytes b) (w : World) :
    Calls Try.prog 23 #[.agg (u8s a).toArray, .agg (u8s b).toArray] w fun e w' => e = .returned (.agg (u8s (far a b)).toArray) ∧ Below w.heap.size w w' := by
  have HL : Hid (a.length = 16 ∧ b.length = 16 ∧ Bytes a ∧ Bytes b) := ⟨hla, hlb, hba, hbb⟩
  clear hla hlb hba hbb
  go_enter Try.func23, Try.ntmps23
  go_wp2_with (first | (refine wpList_box_new rfl 27 (.tmp 0) rfl (u8s a) rfl ?_; intro w1 b1 s1 l1) | (refine wpList_box_new rfl 27 (.tmp 1) rfl (u8s b) rfl ?_; intro w2 b2 s2 l2) | ((with_reducible show wpList _ _ _ _ _ w2); refine wpList_alloc_new rfl 27 rfl 16 _ zero16 ?_; intro w3 b3 s3 l3) | ((with_reducible show wpList _ _ _ _ _ w3); refine wpList_alloc_new rfl 27 rfl 16 _ zero16 ?_; intro w4 b4 s4 l4))
  have hG : w3.heap.size = w.heap.size + 1 + 1 + 1 := by omega
  have HB : Hid (Blk w4 w.heap.size 27 (u8s a) ∧ Blk w4 (w.heap.size + 1) 27 (u8s b) ∧ Blk w4 (w.heap.size + 1 + 1) 27 (u8s (zs0 16)) ∧ Blk w4 (w.heap.size + 1 + 1 + 1) 27 (u8s (zs0 16)) ∧ Below w.heap.size w w4 ∧ True) := by
    rw [hG] at b4
    rw [s1] at b2
    rw [s2, s1] at b3
    exact ⟨((b1.later l2 (by omega)).later l3 (by omega)).later l4 (by omega), (b2.later l3 (by omega)).later l4 (by omega), b3.later l4 (by omega), b4, below_chain (below_chain (below_chain l1 l2 (by omega)) l3 (by omega)) l4 (by omega), trivial⟩
  clear b1 s1 l1 b2 s2 l2 b3 s3 l3 b4 s4 l4 hG
  go_loopw [6, 7] (fun bo i wr => ∃ (k : Nat) (B : Int) (out : List Int), k ≤ 16 ∧ i = .int .i64 k ∧ bo = .int .i64 B ∧ (B = 0 ∨ B = 1) ∧ out.length = k ∧ Bytes out ∧ le (b.take k) - le (a.take k) = le out - 256 ^ k * B ∧ Blk wr (w.heap.size + 1 + 1 + 1) 27 (u8s (out ++ zs0 (16 - k))) ∧ Kept (fun x => x = (w.heap.size + 1 + 1 + 1)) w4 wr) (fun _ i _ => 16 - (intOf i).toNat)
  case atStart => exact ⟨0, 0, [], by omega, rfl, rfl, .inl rfl, rfl, fun z hz => (by cases hz), by simp [le], HB.out.2.2.2.1, Kept.refl _ _⟩
  case round =>
    obtain ⟨k, B, out, hk, rfl, rfl, hB, hol, hob, hle, hblk, hkp⟩ := hrel
    by_cases hlt : k < 16
    · have ca := u8s_cell (HB.out.1.kept hkp (by omega)) k (by rw [HL.out.1]; exact hlt)
      have cb := u8s_cell (HB.out.2.1.kept hkp (by omega)) k (by rw [HL.out.2.1]; exact hlt)
      have cg := u8s_cell hblk k (by rw [List.length_append, hol, zs0_length]; omega)
      have fg := hblk.frozen k
      have bA := HL.out.2.2.1.at k (by rw [HL.out.1]; exact hlt)
      have bB := HL.out.2.2.2.at k (by rw [HL.out.2.1]; exact hlt)
      have tA := le_take_succ a k (by rw [HL.out.1]; exact hlt)
      have tB := le_take_succ b k (by rw [HL.out.2.1]; exact hlt)
      obtain ⟨X, hX⟩ : ∃ X, a.getD k 0 = X := ⟨_, rfl⟩
      obtain ⟨Y, hY⟩ : ∃ Y, b.getD k 0 = Y := ⟨_, rfl⟩
      rw [hX] at ca bA tA
      rw [hY] at cb bB tB
      have i1 : (k : Int) < 16 := by omega
      have i3 : (0 : Int) ≤ (k : Int) := by omega
      have HQ : Hid (out.length = k ∧ Bytes out ∧ le (b.take k) - le (a.take k) = le out - 256 ^ k * B ∧ Blk wr (w.heap.size + 1 + 1 + 1) 27 (u8s (out ++ zs0 (16 - k))) ∧ Kept (fun x => x = (w.heap.size + 1 + 1 + 1)) w4 wr ∧ le (a.take (k + 1)) = le (a.take k) + 256 ^ k * X ∧ le (b.take (k + 1)) = le (b.take k) + 256 ^ k * Y) := ⟨hol, hob, hle, hblk, hkp, tA, tB⟩
      obtain ⟨z0, hz0⟩ : ∃ z, (out ++ zs0 (16 - k)).getD k 0 = z := ⟨_, rfl⟩
      rw [hz0] at cg
      clear hol hob hle hblk hkp tA tB hX hY hz0
      have hBB : 0 ≤ B ∧ B ≤ 1 := by omega
      clear hB
      have key : ∀ (D c : Int), Y - X - B = D - 256 * c → 0 ≤ D ∧ D < 256 → le (b.take (k + 1)) - le (a.take (k + 1)) = le (out ++ [D]) - 256 ^ (k + 1) * c := fun D c hd hD => by
        rw [HQ.out.2.2.2.2.2.1, HQ.out.2.2.2.2.2.2, le_app, HQ.out.1, Int.pow_succ]
        have := diff_step _ _ _ X Y D (256 ^ k) B c HQ.out.2.2.1 hd
        simpa [le] using this
      have HKEY : Hid (∀ (D c : Int), Y - X - B = D - 256 * c → 0 ≤ D ∧ D < 256 → le (b.take (k + 1)) - le (a.take (k + 1)) = le (out ++ [D]) - 256 ^ (k + 1) * c) := key
      clear key
      by_cases hneg : Y - X - B < 0
      · have v1 : IntKind.u8.wrap (Y - X - B + 256) = Y - X - B + 256 := by simp only [IntKind.wrap, IntKind.bits, IntKind.signed]; simp; omega
        go_wp2_with fail
        go_quiet (fail)
        go_wp2_with fail
        go_roundw
        case rel =>
          have R := (HQ.out.2.2.2.1.drewN nq).set k (.int .u8 (Y - X - B + 256))
          rw [u8s_set, out_set out k hlt HQ.out.1] at R
          exact ⟨k + 1, 1, out ++ [Y - X - B + 256], by omega, by go_num, rfl, .inr rfl, by rw [List.length_append, HQ.out.1]; rfl, bytes_app HQ.out.2.1 (fun z hz => by simp at hz; omega), HKEY.out _ 1 (by omega) (by omega), R, ((HQ.out.2.2.2.2.1).drewN nq).setCell rfl _⟩
        case measure => simp [intOf]; omega
      · have v1 : IntKind.u8.wrap (Y - X - B) = Y - X - B := by simp only [IntKind.wrap, IntKind.bits, IntKind.signed]; simp; omega
        go_wp2_with fail
        go_quiet (fail)
        go_wp2_with fail
        go_roundw
        case rel =>
          have R := (HQ.out.2.2.2.1.drewN nq).set k (.int .u8 (Y - X - B))
          rw [u8s_set, out_set out k hlt HQ.out.1] at R
          exact ⟨k + 1, 0, out ++ [Y - X - B], by omega, by go_num, rfl, .inl rfl, by rw [List.length_append, HQ.out.1]; rfl, bytes_app HQ.out.2.1 (fun z hz => by simp at hz; omega), HKEY.out _ 0 (by omega) (by omega), R, ((HQ.out.2.2.2.2.1).drewN nq).setCell rfl _⟩
        case measure => simp [intOf]; omega
    · obtain rfl : k = 16 := by omega
      have e1 : b.take 16 = b := List.take_of_length_le (by rw [HL.out.2.1]; omega)
      have e2 : a.take 16 = a := List.take_of_length_le (by rw [HL.out.1]; omega)
      rw [e1, e2] at hle
      have hfar := far_of a b out B hol hob hle
      have X1 : Hid (Blk wr (w.heap.size + 1 + 1 + 1) 27 (u8s out) ∧ Blk wr (w.heap.size + 1 + 1) 27 (u8s (zs0 16)) ∧ Below w.heap.size w wr ∧ out.length = 16 ∧ out = far a b) := ⟨by simpa [zs0] using hblk, HB.out.2.2.1.kept hkp (by omega), below_kept HB.out.2.2.2.2.1 hkp (by have := HB.out.2.2.2.2.1.size; omega) (fun j hj => by omega), hol, hfar⟩
      clear hle hfar hblk hkp hol hob hB
      go_wp2_with (first | (refine wpList_load_blk rfl 27 _ rfl (w.heap.size + 1 + 1 + 1) rfl (u8s out) _ X1.out.1 Try.underlying27 rfl (by rw [u8s_length, X1.out.2.2.2.1]; exact size16) ?_) | (refine wpList_store_blk rfl 27 27 _ _ rfl _ rfl _ (u8s out) rfl X1.out.2.1 (by rw [u8s_length, X1.out.2.2.2.1]; rfl) (by rw [u8s_length, X1.out.2.2.2.1]; exact size16) (u8s_one _) ?_; intro w6 b6 s6 k6))
      exact ret_blk rfl (w.heap.size + 1 + 1) (u8s out) _ rfl b6 Try.underlying27 rfl (by rw [u8s_length, X1.out.2.2.2.1]; exact size16) rfl ⟨by rw [← X1.out.2.2.2.2], below_kept X1.out.2.2.1 k6 X1.out.2.2.1.size (fun j hj => by omega)⟩
set_option maxRecDepth 20000 in
set_option maxHeartbeats 2000000 in
theorem second_any (key : List Int) (hk : key.length = 32) (w : World) :
    Calls Try.prog 24 #[.agg (u8s key).toArray] w fun e w' => e = .returned (.agg (u8s ((key.drop 16).take 16)).toArray) ∧ Below w.heap.size w w' := by
  have HL : Hid (key.length = 32 ∧ ((key.drop 16).take 16).length = 16) := ⟨hk, by rw [List.length_take, List.length_drop]; omega⟩
  obtain ⟨S, hS⟩ : ∃ z, (key.drop 16).take 16 = z := ⟨_, rfl⟩
  have HS : Hid ((∀ k, k < 16 → key.getD (16 + k) 0 = S.getD k 0) ∧ S.length = 16) := by
    refine ⟨fun k hk' => ?_, by rw [← hS]; exact HL.out.2⟩
    rw [← hS]
    simp [List.getD, List.getElem?_take, hk']
  rw [hS]
  clear hk hS
  go_enter Try.func24, Try.ntmps24
  go_wp2_with (first | (refine wpList_box_new rfl 24 (.tmp 0) rfl (u8s key) rfl ?_; intro w1 b1 s1 l1) | ((with_reducible show wpList _ _ _ _ _ w1); refine wpList_alloc_new rfl 27 rfl 16 _ zero16 ?_; intro w2 b2 s2 l2) | ((with_reducible show wpList _ _ _ _ _ w2); refine wpList_alloc_new rfl 27 rfl 16 _ zero16 ?_; intro w3 b3 s3 l3))
  have HB : Hid (Blk w3 w.heap.size 24 (u8s key) ∧ Blk w3 (w.heap.size + 1) 27 (u8s (zs0 16)) ∧ Blk w3 (w.heap.size + 1 + 1) 27 (u8s (zs0 16)) ∧ Below w.heap.size w w3) := by
    rw [s1] at b2
    rw [s2, s1] at b3
    exact ⟨(b1.later l2 (by omega)).later l3 (by omega), b2.later l3 (by omega), b3, below_chain (below_chain l1 l2 (by omega)) l3 (by omega)⟩
  clear b1 s1 l1 b2 s2 l2 b3 s3 l3
  go_loopw [4] (fun i wr => ∃ (k : Nat), k ≤ 16 ∧ i = .int .i64 k ∧ Blk wr (w.heap.size + 1 + 1) 27 (u8s (S.take k ++ zs0 (16 - k))) ∧ Kept (fun x => x = w.heap.size + 1 + 1) w3 wr) (fun i _ => 16 - (intOf i).toNat)
  case atStart => exact ⟨0, by omega, rfl, HB.out.2.2.1, Kept.refl _ _⟩
  case round =>
    obtain ⟨k, hk, rfl, hblk, hkp⟩ := hrel
    by_cases hlt : k < 16
    · have ca := u8s_cell (HB.out.1.kept hkp (by omega)) (16 + k) (by rw [HL.out.1]; omega)
      rw [HS.out.1 k hlt] at ca
      have cg := u8s_cell hblk k (by rw [List.length_append, List.length_take, HS.out.2, zs0_length]; omega)
      have fg := hblk.frozen k
      have HQ : Hid (Blk wr (w.heap.size + 1 + 1) 27 (u8s (S.take k ++ zs0 (16 - k))) ∧ Kept (fun x => x = w.heap.size + 1 + 1) w3 wr ∧ S.take k ++ [S.getD k 0] = S.take (k + 1)) := ⟨hblk, hkp, by rw [List.take_succ_eq_append_getElem (by rw [HS.out.2]; exact hlt)]; simp [List.getD, HS.out.2, hlt]⟩
      obtain ⟨X, hX⟩ : ∃ X, S.getD k 0 = X := ⟨_, rfl⟩
      obtain ⟨z0, hz0⟩ : ∃ z, (S.take k ++ zs0 (16 - k)).getD k 0 = z := ⟨_, rfl⟩
      rw [hX] at ca HQ
      rw [hz0] at cg
      have i1 : (k : Int) < 16 := by omega
      have i3 : (0 : Int) ≤ (k : Int) := by omega
      clear hblk hkp hX hz0
      go_wp2_with fail
      go_roundw
      case rel =>
        have R := HQ.out.1.set k (.int .u8 X)
        rw [u8s_set, out_set _ k hlt (by rw [List.length_take, HS.out.2]; omega), HQ.out.2.2] at R
        exact ⟨k + 1, by omega, by go_num, R, HQ.out.2.1.setCell rfl _⟩
      case measure => simp [intOf]; omega
    · obtain rfl : k = 16 := by omega
      have X1 : Hid (Blk wr (w.heap.size + 1 + 1) 27 (u8s S) ∧ Blk wr (w.heap.size + 1) 27 (u8s (zs0 16)) ∧ Below w.heap.size w wr) := ⟨by rw [List.take_of_length_le (by rw [HS.out.2]; omega)] at hblk; simpa [zs0] using hblk, HB.out.2.1.kept hkp (by omega), below_kept HB.out.2.2.2 hkp (by have := HB.out.2.2.2.size; omega) (fun j hj => by omega)⟩
      clear hblk hkp
      go_wp2_with (first | (refine wpList_load_blk rfl 27 _ rfl (w.heap.size + 1 + 1) rfl (u8s S) _ X1.out.1 Try.underlying27 rfl (by rw [u8s_length, HS.out.2]; exact size16) ?_) | (refine wpList_store_blk rfl 27 27 _ _ rfl _ rfl _ (u8s S) rfl X1.out.2.1 (by rw [u8s_length, HS.out.2]; rfl) (by rw [u8s_length, HS.out.2]; exact size16) (u8s_one _) ?_; intro w6 b6 s6 k6))
      exact ret_blk rfl (w.heap.size + 1) (u8s S) _ rfl b6 Try.underlying27 rfl (by rw [u8s_length, HS.out.2]; exact size16) rfl ⟨rfl, below_kept X1.out.2.2 k6 X1.out.2.2.size (fun j hj => by omega)⟩
end Go.Proofs.Ytdnfkkndfdbefaa
