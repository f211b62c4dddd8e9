/- Layer tag: pairOf; a poly in a block. -/
import Derived.Test.YtlaegbabpiepeaaTFold
import Derived.Test.YtlaegbabpiepeaaTMath
import Derived.Test.YtlaegbabpiepeaaSCopy
namespace Go.Proofs.Ytlaegbabpiepeaa
open Go.RowKit
set_option linter.unusedVariables false
set_option linter.unusedSimpArgs false

theorem size16 : (Try.prog.info? 45).map (·.size) = some 16 := by kernel_rfl
theorem zero16 : (Try.prog.info? 45).map (fun i => (i.zero, i.size)) = some (some (.agg (u8s (zs0 16)).toArray), 16) := by kernel_rfl
theorem sizePoly : (Try.prog.info? 60).map (·.size) = some 24 := by kernel_rfl
theorem build_pair (a b : Int) (w : World) : (Instr.build 58 #[(0, .int .u64 a), (1, .int .u64 b)]).run Try.prog w = .ok (.agg (u64s [a, b]).toArray) w := by kernel_rfl
theorem seen_mid {w : World} {g off n : Nat} {zs : List Int} (h : w.rangeAt g off (u8s zs)) (hl : zs.length = n) (hb : Bytes zs) (ht : n ≤ 140737488355328) (hg : g < w.heap.size) : Seen w (some ⟨g, off, none⟩) n zs :=
  ⟨hl, ht, hb, fun _ => ⟨g, off, rfl, hg, fun i hi => h i _ (by simp [u8s, List.getD, show i < zs.length by omega])⟩⟩
theorem range_sub {w : World} {g off : Nat} {vs : List Value} (h : w.rangeAt g off vs) (lo k : Nat) : w.rangeAt g (off + lo) ((vs.drop lo).take k) := fun j v hv => by
  rw [List.getElem?_take] at hv
  split at hv
  · rw [List.getElem?_drop] at hv
    have := h (lo + j) v hv
    rwa [← Nat.add_assoc] at this
  · cases hv
theorem u8s_sub (cs : List Int) (lo k : Nat) : ((u8s cs).drop lo).take k = u8s ((cs.drop lo).take k) := by simp [u8s, List.map_drop, List.map_take]
set_option maxRecDepth 20000 in
set_option maxHeartbeats 1000000 in
theorem pairOf_any (cs : List Int) (hl : cs.length = 16) (hb : Bytes cs) (w : World) :
    Calls Try.prog 27 #[.agg (u8s cs).toArray] w fun e w' => e = .returned (.agg (u64s (pr (le cs))).toArray) ∧ Below w.heap.size w w' := by
  have HS : Hid (cs.length = 16 ∧ Bytes cs) := ⟨hl, hb⟩
  rw [le_pr cs hl hb]
  obtain ⟨A, hA⟩ : ∃ z, le (cs.take 8) = z := ⟨_, rfl⟩
  obtain ⟨B, hB⟩ : ∃ z, le ((cs.drop 8).take 8) = z := ⟨_, rfl⟩
  rw [hA, hB]
  have HA : Hid (le (cs.take 8) = A ∧ le ((cs.drop 8).take 8) = B) := ⟨hA, hB⟩
  clear hl hb hA hB
  go_enter Try.func27, Try.ntmps27
  go_wp2_with (first | (refine wpList_box_new rfl 45 _ rfl (u8s cs) rfl ?_; intro w1 b1 s1 l1) | (refine wpList_alloc_new rfl 58 rfl 2 _ zeroPair ?_; intro w2 b2 s2 l2; have b2' : Blk w2 (w.heap.size + 1) 58 (u64s [0, 0]) := (by rw [← s1]; exact b2); have L1 : Hid (∀ c, Calls Try.prog 42 #[.slice (some ⟨w.heap.size, 0, none⟩) 8 c] w2 fun e w' => e = .returned (.tuple #[.int .u64 A, .int .i64 0]) ∧ w2 = w') := (fun c => by { have q := range_sub (b1.later l2 (by omega)).whole 0 8; rw [u8s_sub, List.drop_zero] at q; have := little_64 _ 8 c _ w2 (seen_mid q (by have := HS.out.1; simp; omega) (bytes_take HS.out.2 _) (by decide) (by omega)); rwa [leV_ok, fit_ok, HA.out.1] at this }); have L2 : Hid (∀ c, Calls Try.prog 42 #[.slice (some ⟨w.heap.size, 8, none⟩) 8 c] w2 fun e w' => e = .returned (.tuple #[.int .u64 B, .int .i64 0]) ∧ w2 = w') := (fun c => by { have q := range_sub (b1.later l2 (by omega)).whole 8 8; rw [u8s_sub] at q; have := little_64 _ 8 c _ w2 (seen_mid q (by have := HS.out.1; simp; omega) (bytes_take (bytes_drop HS.out.2 _) _) (by decide) (by omega)); rwa [leV_ok, fit_ok, HA.out.2] at this })) | (go_at_call 42; with_reducible refine (L1.out _).mono ?_; rintro e w' ⟨rfl, rfl⟩) | (go_at_call 42; with_reducible refine (L2.out _).mono ?_; rintro e w' ⟨rfl, rfl⟩) | (refine wpList_build rfl 58 _ rfl #[(0, .int .u64 A), (1, .int .u64 B)] (by simp [Act.eval]) _ (build_pair _ _ _) ?_) | (refine wpList_store_blk rfl 58 58 _ _ rfl _ rfl _ (u64s [A, B]) rfl b2' rfl sizePair (u64s_one _) ?_; intro w3 b3 s3 k3))
  exact ret_blk rfl (w.heap.size + 1) (u64s [A, B]) _ rfl b3 Try.underlying58 rfl sizePair rfl ⟨rfl, below_kept (below_chain l1 l2 (by omega)) k3 (by omega) (fun j hj => by omega)⟩
end Go.Proofs.Ytlaegbabpiepeaa
