/- For every two lists of bytes, which are as they were behind the call: Same and Before are the masks of the document's answers, and of a list and itself: trystlaw01.MaskLists returns true. No condition. -/
import Derived.Test.YtldfbbgboelngabTwins
import Derived.ProofKit
import Derived.OpenShut
import Derived.ShutString
import Derived.ChangeOld
import Derived.SizedLaws
namespace Go.Proofs.Ytldfbbgboelngab.maskLists
open Go.ChangeShapes Go.WideShapes Go.ChangeAt Go.RowKit
set_option linter.unusedVariables false

theorem same_self (ao : Option Addr) (n c : Nat) (xs : List Int) (w : World) (hx : Seen w ao n xs) :
    Calls Try.prog 11 #[.slice ao n c, .slice ao n c] w fun e w' => e = .returned (.int .u64 18446744073709551615) ∧ ∃ q, w' = w.drewN q :=
  (same_any ao ao n n c c xs xs w hx hx).mono fun e w' ⟨he, hq⟩ => ⟨by rw [he]; simp [mk_true], hq⟩
theorem before_self (ao : Option Addr) (n c : Nat) (xs : List Int) (w : World) (hx : Seen w ao n xs) :
    Calls Try.prog 10 #[.slice ao n c, .slice ao n c] w fun e w' => e = .returned (.int .u64 0) ∧ ∃ q, w' = w.drewN q :=
  (before_any ao ao n n c c xs xs w hx hx).mono fun e w' ⟨he, hq⟩ => ⟨by rw [he, bef_self, mk_false], hq⟩

set_option maxHeartbeats 2000000 in
theorem walk (ao : Option Addr) (n c : Nat) (xs : List Int) (bo : Option Addr) (n' c' : Nat) (ys : List Int) (w : World) (hx : Seen w ao n xs) (hn : n ≤ 140737488351232) (hy : Seen w bo n' ys) (hn' : n' ≤ 140737488351232) :
    Calls Try.prog 19 #[.slice ao n c, .slice bo n' c'] w fun e w' => e = .returned (.bool true) ∧ Below w.heap.size w w' := by
  go_enter Try.func19, Try.ntmps19
  go_wp2_with fail
  refine (lent_any ao n c xs w hx (by omega)).mono ?_
  rintro e w1 ⟨g1, cap1, rfl, r1, l1, m1, k1, b1⟩
  have hy1 := hy.later b1 (Nat.le_refl _)
  have hx1 := hx.later b1 (Nat.le_refl _)
  have z1 := r1.lt
  go_wp2_with fail
  refine (lent_any bo n' c' ys w1 hy1 (by omega)).mono ?_
  rintro e w2 ⟨g2, cap2, rfl, r2, l2, m2, k2, b2⟩
  have hx2 := hx1.later b2 (Nat.le_refl _)
  have hy2 := hy1.later b2 (Nat.le_refl _)
  have r1' : RowAt w2 g1 (xs ++ marks) := r1.block (b2.block g1 z1)
  have z2 := b2.size
  have hb2 : Below w.heap.size w w2 := b1.trans (b2.mono b1.size)
  have sp := Seen.lent r1' hx2
  have sq := Seen.lent r2 hy2
  clear r1 hx1 hy1 hx hy
  unfold maxLen at k1 k2
  go_wp2_with fail
  refine (same_any _ _ _ _ _ _ xs ys w2 sp sq).mono ?_
  rintro e _ ⟨rfl, q1, rfl⟩
  go_wp2_with fail
  refine (rsame_any _ _ _ _ _ _ xs ys _ (hx2.drewN _) (hy2.drewN _)).mono ?_
  rintro e _ ⟨rfl, q2, rfl⟩
  go_wp2_with fail
  refine (rmask_any _ _).mono ?_
  rintro e _ ⟨rfl, rfl⟩
  go_wp2_with fail
  refine (before_any _ _ _ _ _ _ xs ys _ (sp.drewN _) (sq.drewN _)).mono ?_
  rintro e _ ⟨rfl, q3, rfl⟩
  go_wp2_with fail
  refine (rbefore_any _ _ _ _ _ _ xs ys _ (hx2.drewN _) (hy2.drewN _)).mono ?_
  rintro e _ ⟨rfl, q4, rfl⟩
  go_wp2_with fail
  refine (rmask_any _ _).mono ?_
  rintro e _ ⟨rfl, rfl⟩
  go_wp2_with fail
  refine (same_self _ _ _ xs _ (sp.drewN _)).mono ?_
  rintro e _ ⟨rfl, q5, rfl⟩
  go_wp2_with fail
  refine (before_self _ _ _ ys _ (sq.drewN _)).mono ?_
  rintro e _ ⟨rfl, q6, rfl⟩
  go_wp2_with fail
  refine (rkept_yes g1 _ _ ao n c xs _ (r1'.drewN _) (hx2.drewN _) (by omega) rfl).mono ?_
  rintro e w3 ⟨rfl, b3⟩
  have hb3 : Below w2.heap.size w2 w3 := (below_ahead b3)
  go_wp2_with fail
  refine (rkept_yes g2 _ _ bo n' c' ys _ (r2.block (b3.block g2 r2.lt)) (hy2.later hb3 (Nat.le_refl _)) (by omega) rfl).mono ?_
  rintro e w4 ⟨rfl, b4⟩
  go_wp2_with fail
  refine (works_any _).mono ?_
  rintro e w5 ⟨rfl, b5⟩
  go_wp2
  go_ret
  have z3 := hb3.size
  have z4 := b4.size
  have z5 := hb2.size
  exact ⟨rfl, hb2.trans ((hb3.mono (by omega)).trans ((b4.mono (by omega)).trans (b5.mono (by omega))))⟩

end Go.Proofs.Ytldfbbgboelngab.maskLists
