/- Layer record: number, live, sameGroup, lowerIndex. -/
import Derived.Test.YtabdjoljdefjdaaRcEq
import Derived.Test.YtabdjoljdefjdaaRcMask
import Derived.Test.YtabdjoljdefjdaaRInvP
import Derived.Test.YtabdjoljdefjdaaSSlice
namespace Go.Proofs.Ytabdjoljdefjdaa
open Go.RowKit
set_option linter.unusedVariables false
set_option linter.unusedSimpArgs false

theorem eql_drop (zs ys : List Int) (hl : zs.length = 16) (hm : ys.length = 16) (w : World) : (binOp .eql 24 (.agg (u8s zs).toArray) (.agg (u8s ys).toArray)).run Try.prog w = .ok (.bool (decide (zs = ys))) w := by
  have e : decide (ys = zs) = decide (zs = ys) := by
    by_cases h : zs = ys
    · rw [decide_eq_true h, decide_eq_true h.symm]
    · rw [decide_eq_false h, decide_eq_false (fun k => h k.symm)]
  rw [run_eql_struct, equalD_dec 9998 zs ys hl hm w, e]
  rfl
theorem hd_range {w : World} {g : Nat} {h : Hd} (b : Blk w g 26 (hdC h)) : w.rangeAt g 4 (u8s h.group) := by
  rw [hdC_group] at b
  exact b.range
set_option maxHeartbeats 1000000 in
theorem number_any (ao : Option Addr) (c : Nat) (zs : List Int) (w : World) (hx : Seen w ao 4 zs) :
    Calls Try.prog 51 #[.slice ao 4 c] w fun e w' => e = .returned (.int .u32 (le zs)) ∧ w = w' := by
  have h := little_32 ao 4 c zs w hx
  rw [leV_ok] at h
  clear hx
  go_enter Try.func51, Try.ntmps51
  go_wp2_with (go_at_call 59; refine h.mono ?_; rintro e w' ⟨rfl, rfl⟩)
  go_ret
  exact ⟨rfl, rfl⟩
set_option maxHeartbeats 1000000 in
theorem live_any (h : Hd) (k : HdOk h) (w : World) :
    Calls Try.prog 42 #[.agg (hdC h).toArray] w fun e w' => e = .returned (.int .u64 (mk (lvB h))) ∧ Below w.heap.size w w' := by
  obtain ⟨h1, h2⟩ := k.live
  have H : Hid (lvB h = (h.live % 2 == 1)) := rfl
  go_enter Try.func42, Try.ntmps42
  go_wp2_with (first | (refine wpList_box_new rfl 26 _ rfl (hdC h) rfl ?_; intro w1 b1 s1 l1; have c0 : w1.cell? ⟨w.heap.size, 0, none⟩ = some (.int .u8 h.live) := b1.cell 0) | (go_at_call 53; refine (bit_any _ ⟨by omega, by omega⟩ _).mono ?_; rintro e w' ⟨rfl, rfl⟩))
  go_ret
  exact ⟨ret_int (by rw [H.out]), l1⟩
set_option maxHeartbeats 1000000 in
theorem lowI_any (x y : Hd) (hx : HdOk x) (hy : HdOk y) (w : World) :
    Calls Try.prog 45 #[.agg (hdC x).toArray, .agg (hdC y).toArray] w fun e w' => e = .returned (.int .u64 (mk (lowB x y))) ∧ Below w.heap.size w w' := by
  obtain ⟨h1, h2⟩ := hx.index
  obtain ⟨h3, h4⟩ := hy.index
  have H : Hid (lowB x y = decide (x.index < y.index)) := rfl
  go_enter Try.func45, Try.ntmps45
  go_wp2_with (first | ((with_reducible show wpList _ _ _ (({ dst := some 2, op := _, type := _, pos := _, after := _, guard := _ } : Oper) :: _) _ _); refine wpList_box_new rfl 26 _ rfl (hdC x) rfl ?_; intro w1 b1 s1 l1) | ((with_reducible show wpList _ _ _ (({ dst := some 3, op := _, type := _, pos := _, after := _, guard := _ } : Oper) :: _) _ _); refine wpList_box_new rfl 26 _ rfl (hdC y) rfl ?_; intro w2 b2 s2 l2; have c0 : w2.cell? ⟨w.heap.size, 2, none⟩ = some (.int .u32 x.index) := (b1.later l2 (by omega)).cell 2; rw [s1] at b2; have c1 : w2.cell? ⟨w.heap.size + 1, 2, none⟩ = some (.int .u32 y.index) := b2.cell 2) | (go_at_call 52; refine (less_any _ _ ⟨by omega, by omega⟩ ⟨by omega, by omega⟩ _).mono ?_; rintro e w' ⟨rfl, rfl⟩))
  go_ret
  exact ⟨ret_int (by rw [H.out]), below_chain l1 l2 (by omega)⟩
set_option maxHeartbeats 1000000 in
theorem sameG_any (x y : Hd) (hx : HdOk x) (hy : HdOk y) (w : World) :
    Calls Try.prog 44 #[.agg (hdC x).toArray, .agg (hdC y).toArray] w fun e w' => e = .returned (.int .u64 (mk (samB x y))) ∧ Below w.heap.size w w' := by
  have E := eql_drop x.group y.group hx.len hy.len
  obtain ⟨Z, hZ⟩ : ∃ Z, decide (x.group = y.group) = Z := ⟨_, rfl⟩
  have H : Hid (samB x y = Z) := hZ
  rw [hZ] at E
  have HL : Hid (x.group.length = 16 ∧ y.group.length = 16) := ⟨hx.len, hy.len⟩
  clear hZ hx hy
  go_enter Try.func44, Try.ntmps44
  go_wp2_with (first | ((with_reducible show wpList _ _ _ (({ dst := some 2, op := _, type := _, pos := _, after := _, guard := _ } : Oper) :: _) _ _); refine wpList_box_new rfl 26 _ rfl (hdC x) rfl ?_; intro w1 b1 s1 l1) | ((with_reducible show wpList _ _ _ (({ dst := some 3, op := _, type := _, pos := _, after := _, guard := _ } : Oper) :: _) _ _); refine wpList_box_new rfl 26 _ rfl (hdC y) rfl ?_; intro w2 b2 s2 l2; rw [s1] at b2) | ((with_reducible show wpList _ _ _ (({ dst := some 6, op := _, type := _, pos := _, after := _, guard := _ } : Oper) :: _) _ _); refine wpList_load_mid rfl 24 _ rfl w.heap.size 4 rfl (u8s x.group) _ (hd_range (b1.later l2 (by omega))) Try.underlying24 rfl (by rw [u8s_length, HL.out.1]; exact dsize) ?_) | ((with_reducible show wpList _ _ _ (({ dst := some 8, op := _, type := _, pos := _, after := _, guard := _ } : Oper) :: _) _ _); refine wpList_load_mid rfl 24 _ rfl (w.heap.size + 1) 4 rfl (u8s y.group) _ (hd_range b2) Try.underlying24 rfl (by rw [u8s_length, HL.out.2]; exact dsize) ?_))
  · go_ret
    exact ⟨ret_int (by rw [H.out, ‹Z = true›]; rfl), below_chain l1 l2 (by omega)⟩
  · go_ret
    exact ⟨ret_int (by rw [H.out, ‹Z = false›]; rfl), below_chain l1 l2 (by omega)⟩
end Go.Proofs.Ytabdjoljdefjdaa
