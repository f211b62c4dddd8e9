/- Layer record: Put. -/
import Derived.Test.YtabdjoljdefjdaaRcParse
namespace Go.Proofs.Ytabdjoljdefjdaa
open Go.RowKit
set_option linter.unusedVariables false
set_option linter.unusedSimpArgs false

set_option maxRecDepth 20000 in
set_option maxHeartbeats 2000000 in
theorem put_short (h : Hd) (ao : Option Addr) (n c : Nat) (hn : n < 26) (w : World) :
    Calls Try.prog 20 #[.slice ao n c, .agg (hdC h).toArray] w fun e w' => e = .returned (.int .i64 140) ∧ Below w.heap.size w w' := by
  have i1 : (n : Int) < 26 := by omega
  go_enter Try.func20, Try.ntmps20
  go_wp2_with (first | (refine wpList_box_new rfl 26 _ rfl (hdC h) rfl ?_; intro w1 b1 s1 l1))
  go_ret
  exact ⟨rfl, l1⟩
set_option maxRecDepth 20000 in
set_option maxHeartbeats 2000000 in
theorem put_long (h : Hd) (k : HdOk h) (g n cap : Nat) (zs : List Int) (rest : List Value) (hn : 26 ≤ n) (hl : n ≤ 140737488355328) (hz : zs.length = n) (w : World) (hb : Blk w g 5 (u8s zs ++ rest)) :
    Calls Try.prog 20 #[.slice (some ⟨g, 0, none⟩) n cap, .agg (hdC h).toArray] w fun e w' => e = .returned (.int .i64 0) ∧ Blk w' g 5 (u8s (hdB h ++ zs.drop 26) ++ rest) ∧ Kept (fun b => b = g) w w' := by
  have i1 : ¬ ((n : Int) < 26) := by omega
  have HK : Hid (HdOk h) := k
  have HB : Hid (Blk w g 5 ([] ++ (u8s (zs.take 26) ++ (u8s (zs.drop 26) ++ rest))) ∧ (u8s (zs.take 26)).length = 26 ∧ Nat.min 26 n = 26) := by
    refine ⟨?_, by rw [u8s_length, List.length_take]; omega, Nat.min_eq_left hn⟩
    rw [List.nil_append, ← List.append_assoc, show u8s (zs.take 26) ++ u8s (zs.drop 26) = u8s zs by rw [u8s, u8s, ← List.map_append, List.take_append_drop]; rfl]
    exact hb
  clear hb k hz
  go_enter Try.func20, Try.ntmps20
  go_wp2_with (first | (refine wpList_box_new rfl 26 _ rfl (hdC h) rfl ?_; intro w1 b1 s1 l1) | (refine wpList_load_blk rfl 26 _ rfl _ rfl (hdC h) _ b1 Try.underlying26 rfl (hsizeC HK.out.len) ?_))
  refine (bytesOf_any h HK.out w1).mono ?_
  rintro e w2 ⟨v2, rfl, o2, l2⟩
  obtain ⟨q2, n2, rfl, S2, -, f2, -⟩ := isO_sl (hdB_length HK.out.len) (hdB_bytes HK.out) (by decide) o2
  have V2 : Hid (Seen w2 q2 26 (hdB h) ∧ Below w.heap.size w w2) := ⟨S2, below_chain l1 l2 (by omega)⟩
  clear S2 f2 o2 l1 l2 b1 s1
  go_wp2_with (first | (refine wpList_copy_seen rfl _ _ rfl g 0 n cap _ q2 26 n2 rfl rfl (hdB h) V2.out.1 5 [] _ _ (HB.out.1.later V2.out.2 HB.out.1.lt) rfl 26 HB.out.2.2 HB.out.2.1 (fun _ => rfl) ?_; intro w3 b3 s3 k3; have V3 : Hid (Blk w3 g 5 (u8s (hdB h ++ zs.drop 26) ++ rest) ∧ Kept (fun b => b = g) w w3) := (by refine ⟨?_, (Kept.new _ V2.out.2).trans k3⟩; rw [List.nil_append, List.take_of_length_le (by rw [hdB_length HK.out.len]; decide), ← List.append_assoc] at b3; rw [show u8s (hdB h ++ zs.drop 26) = u8s (hdB h) ++ u8s (zs.drop 26) by rw [u8s, u8s, u8s, List.map_append]]; exact b3); clear b3 s3 k3))
  go_ret
  exact ⟨rfl, V3.out.1, V3.out.2⟩
end Go.Proofs.Ytabdjoljdefjdaa
