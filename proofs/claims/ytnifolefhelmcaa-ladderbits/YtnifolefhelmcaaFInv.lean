/- Layer field: Invert. -/
import Derived.Test.YtnifolefhelmcaaFPow
import Derived.Test.YtnifolefhelmcaaFInvM
namespace Go.Proofs.Ytnifolefhelmcaa
open Go.RowKit
set_option linter.unusedVariables false
set_option linter.unusedSimpArgs false

theorem aw2 : (le (leB 32 ((0 - 2) % PR))).toNat = p2 := by decide +kernel
set_option maxRecDepth 20000 in
set_option maxHeartbeats 1000000 in
theorem finv_any (l : List Int) (x : Int) (hl : Fe l x) (w : World) :
    Calls Try.prog 54 #[.agg (u64s l).toArray] w fun e w' => ∃ r, e = .returned (.agg (u64s r).toArray) ∧ Fe r (inv x) ∧ Below w.heap.size w w' := by
  have hpw : ∀ w, Calls Try.prog 86 #[.agg (u64s l).toArray, .agg (u8s (leB 32 ((0 - 2) % PR))).toArray] w fun e w' => ∃ r, e = .returned (.agg (u64s r).toArray) ∧ Fe r (inv x) ∧ Below w.heap.size w w' := fun w => by
    have h := fpower_any l (leB 32 ((0 - 2) % PR)) x hl (leB_length _ _) (leB_bytes _ _) w
    rw [aw2] at h
    exact h
  have HL : Hid ((u64s l).length = 5 ∧ (u8s (leB 32 ((0 - 2) % PR))).length = 32) := ⟨by rw [u64s_length, hl.len], by rw [u8s_length, leB_length]⟩
  obtain ⟨B, hB⟩ : ∃ z, leB 32 ((0 - 2) % PR) = z := ⟨_, rfl⟩
  have HB : Hid (leB 32 ((0 - 2) % PR) = B) := hB
  rw [hB] at hpw HL
  have HPW : Hid (∀ w, Calls Try.prog 86 #[.agg (u64s l).toArray, .agg (u8s B).toArray] w fun e w' => ∃ r, e = .returned (.agg (u64s r).toArray) ∧ Fe r (inv x) ∧ Below w.heap.size w w') := hpw
  clear hpw hB hl
  go_enter Try.func54, Try.ntmps54
  go_wp2_with (first
    | (refine wpList_box_new rfl 27 (.tmp 0) rfl (u64s l) rfl ?_; intro x1 z1 s1 l1)
    | ((with_reducible show wpList _ _ _ _ _ x1); refine wpList_alloc_new rfl 27 rfl 5 _ zeroElem ?_; intro x2 z2 s2 l2; rw [s1] at z2)
    | ((with_reducible show Calls _ 25 _ _ _); refine (small_any 2 (by decide) (by decide) _).mono ?_; rintro e x3 ⟨r2, rfl, f2, l3⟩)
    | (go_at_call 26; refine (neg_any _ _ f2 _).mono ?_; rintro e x4 ⟨rm, rfl, fm, l4⟩)
    | (go_at_call 18; refine (fbytes_any _ _ fm _).mono ?_; rintro e x5 ⟨rfl, l5⟩; rw [HB.out])
    | ((with_reducible show wpList _ _ _ _ _ x5); refine wpList_alloc_new rfl 29 rfl 32 _ zero32 ?_; intro x6 z6 s6 l6)
    | ((with_reducible show wpList _ _ _ _ _ x6); refine wpList_store_blk rfl 29 29 _ _ rfl _ rfl _ (u8s B) rfl z6 (by rw [HL.out.2]; rfl) (by rw [HL.out.2]; exact size32) (u8s_one _) ?_; intro x7 b7 s7 k7; obtain ⟨G, hG⟩ : ∃ z, x5.heap.size = z := ⟨_, rfl⟩; rw [hG] at b7 k7; rw [hG]; have WW : Hid (Blk x7 w.heap.size 27 (u64s l) ∧ Blk x7 (w.heap.size + 1) 27 (u64s [0, 0, 0, 0, 0]) ∧ Blk x7 G 29 (u8s B) ∧ Below w.heap.size w x7) := (by have q3 := l3.size; have q4 := l4.size; have q5 := l5.size; exact ⟨(((((z1.later l2 (by omega)).later l3 (by omega)).later l4 (by omega)).later l5 (by omega)).later l6 (by omega)).kept k7 (by omega), ((((z2.later l3 (by omega)).later l4 (by omega)).later l5 (by omega)).later l6 (by omega)).kept k7 (by omega), b7, below_kept (below_chain (below_chain (below_chain (below_chain (below_chain l1 l2 (by omega)) l3 (by omega)) l4 (by omega)) l5 (by omega)) l6 (by omega)) k7 (by omega) (fun j hj => by omega)⟩))
    | ((with_reducible show wpList _ _ _ (({ dst := some 7, op := _, type := _, pos := _, after := _, guard := _ } : Oper) :: _) _ _); refine wpList_load_blk rfl 27 (.tmp 1) rfl w.heap.size rfl (u64s l) _ WW.out.1 Try.underlying27 rfl (by rw [HL.out.1]; exact sizeElem) ?_)
    | ((with_reducible show wpList _ _ _ (({ dst := some 8, op := _, type := _, pos := _, after := _, guard := _ } : Oper) :: _) _ _); refine wpList_load_blk rfl 29 (.tmp 3) rfl G rfl (u8s B) _ WW.out.2.2.1 Try.underlying29 rfl (by rw [HL.out.2]; exact size32) ?_)
    | (go_at_call 86; refine (HPW.out _).mono ?_; rintro e x8 ⟨r, rfl, fr, l8⟩; have HR : Hid (Fe r (inv x) ∧ (u64s r).length = 5) := ⟨fr, by rw [u64s_length, fr.len]⟩; clear fr)
    | (refine wpList_store_blk rfl 27 27 _ _ rfl _ rfl _ (u64s r) rfl (WW.out.2.1.later l8 WW.out.2.1.lt) (by rw [HR.out.2]; rfl) (by rw [HR.out.2]; exact sizeElem) (u64s_one _) ?_; intro x9 b9 s9 k9))
  exact ret_blk rfl (w.heap.size + 1) (u64s r) _ rfl b9 Try.underlying27 rfl (by rw [HR.out.2]; exact sizeElem) rfl ⟨r, rfl, HR.out.1, below_kept (below_chain WW.out.2.2.2 l8 WW.out.2.2.2.size) k9 (by have := WW.out.2.2.2.size; have := l8.size; omega) (fun j hj => by omega)⟩
end Go.Proofs.Ytnifolefhelmcaa
