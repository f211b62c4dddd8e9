/- Layer codec: RequestSize, ReplySize; readers: number, readerOf, requestOf. -/
import Derived.Test.YtmgkjldjeomcmaaDoorCcSize
import Derived.Test.YtmgkjldjeomcmaaDoorORead
namespace Go.Proofs.YtmgkjldjeomcmaaDoor
open Go.RowKit
set_option linter.unusedVariables false
set_option linter.unusedSimpArgs false

set_option maxRecDepth 20000 in
set_option maxHeartbeats 1000000 in
theorem requestSize_any (c : Cg) (k : Int) (w : World) : Calls Tryd.prog 13 #[c.v, .int .i64 k] w fun e w' => e = .returned (.tuple #[.int .i64 (szQ c k), .int .i64 (szE c k)]) ∧ Below w.heap.size w w' := by
  go_enter Tryd.func13, Tryd.ntmps13
  go_wp2_with (first | ((with_reducible show wpList _ _ _ (({ dst := some 2, op := _, type := _, pos := _, after := _, guard := _ } : Oper) :: _) _ _); refine wpList_box_new rfl 23 _ rfl c.cs rfl ?_; intro w1 b1 s1 l1; have z1 : Hid (w1.heap.size = w.heap.size + 1) := s1; clear s1) | ((with_reducible show wpList _ _ _ (({ dst := some 9, op := _, type := _, pos := _, after := _, guard := _ } : Oper) :: _) _ _); refine wpList_load_blk rfl 23 (.tmp 2) rfl _ rfl c.cs _ (b1) Tryd.underlying23 rfl (cg_size c) ?_))
  refine (sizesOf_any c k _).mono ?_
  rintro e w2 ⟨rfl, l2⟩
  have z2 : Hid (w1.heap.size ≤ w2.heap.size) := l2.size
  go_wp2_with (first | ((with_reducible show wpList _ _ _ (({ dst := some 6, op := _, type := _, pos := _, after := _, guard := _ } : Oper) :: _) _ _); refine wpList_alloc_new rfl 78 rfl 3 _ s3_zero ?_; intro w3 b3 s3 l3; have z3 : Hid (w3.heap.size = w2.heap.size + 1) := s3; clear s3) | (refine wpList_store_blk rfl 78 78 (.tmp 6) (.tmp 12) rfl _ rfl _ (s3 (szQ c k) (szP c k) (szR c k)) rfl (b3) rfl (s3_size _ _ _) (s3_one _ _ _) ?_; intro w4 b4 s4 k4; have z4 : Hid (w4.heap.size = w3.heap.size) := s4; clear s4; have c0 : w4.cell? ⟨w2.heap.size, 0, none⟩ = some (.int .i64 (szQ c k)) := (by rw [b4.cell]; rfl)))
  have HL : Hid (Below w.heap.size w w4) := below_kept (below_chain (below_chain l1 l2 (by have := z1.out; omega)) l3 (by have := z1.out; have := z2.out; omega)) k4 (by have := z1.out; have := z2.out; have := z3.out; omega) (fun j hj => by have := z1.out; have := z2.out; omega)
  clear l1 l2 l3 k4 b1 b3 b4
  go_ret2
  exact ⟨rfl, HL.out⟩
set_option maxRecDepth 20000 in
set_option maxHeartbeats 1000000 in
theorem replySize_any (c : Cg) (k : Int) (w : World) : Calls Tryd.prog 15 #[c.v, .int .i64 k] w fun e w' => e = .returned (.tuple #[.int .i64 (szP c k), .int .i64 (szE c k)]) ∧ Below w.heap.size w w' := by
  go_enter Tryd.func15, Tryd.ntmps15
  go_wp2_with (first | ((with_reducible show wpList _ _ _ (({ dst := some 2, op := _, type := _, pos := _, after := _, guard := _ } : Oper) :: _) _ _); refine wpList_box_new rfl 23 _ rfl c.cs rfl ?_; intro w1 b1 s1 l1; have z1 : Hid (w1.heap.size = w.heap.size + 1) := s1; clear s1) | ((with_reducible show wpList _ _ _ (({ dst := some 9, op := _, type := _, pos := _, after := _, guard := _ } : Oper) :: _) _ _); refine wpList_load_blk rfl 23 (.tmp 2) rfl _ rfl c.cs _ (b1) Tryd.underlying23 rfl (cg_size c) ?_))
  refine (sizesOf_any c k _).mono ?_
  rintro e w2 ⟨rfl, l2⟩
  have z2 : Hid (w1.heap.size ≤ w2.heap.size) := l2.size
  go_wp2_with (first | ((with_reducible show wpList _ _ _ (({ dst := some 6, op := _, type := _, pos := _, after := _, guard := _ } : Oper) :: _) _ _); refine wpList_alloc_new rfl 78 rfl 3 _ s3_zero ?_; intro w3 b3 s3 l3; have z3 : Hid (w3.heap.size = w2.heap.size + 1) := s3; clear s3) | (refine wpList_store_blk rfl 78 78 (.tmp 6) (.tmp 12) rfl _ rfl _ (s3 (szQ c k) (szP c k) (szR c k)) rfl (b3) rfl (s3_size _ _ _) (s3_one _ _ _) ?_; intro w4 b4 s4 k4; have z4 : Hid (w4.heap.size = w3.heap.size) := s4; clear s4; have c0 : w4.cell? ⟨w2.heap.size, 1, none⟩ = some (.int .i64 (szP c k)) := (by rw [b4.cell]; rfl)))
  have HL : Hid (Below w.heap.size w w4) := below_kept (below_chain (below_chain l1 l2 (by have := z1.out; omega)) l3 (by have := z1.out; have := z2.out; omega)) k4 (by have := z1.out; have := z2.out; have := z3.out; omega) (fun j hj => by have := z1.out; have := z2.out; omega)
  clear l1 l2 l3 k4 b1 b3 b4
  go_ret2
  exact ⟨rfl, HL.out⟩

/-- The number of four bytes. -/
def num4 (zs : List Int) (p : Nat) : Int := le ((zs.drop p).take 4)
theorem num4_bd (zs : List Int) (h : Bytes zs) (p : Nat) (hp : p + 4 ≤ zs.length) : 0 ≤ num4 zs p ∧ num4 zs p < 4294967296 := by
  have := le_bd ((zs.drop p).take 4) (bytes_take (bytes_drop h p) 4)
  rw [show ((zs.drop p).take 4).length = 4 by simp; omega] at this
  exact this
set_option maxRecDepth 20000 in
theorem number_in (r : Nat) (ao : Option Addr) (c : Nat) (zs : List Int) (p : Nat) (hp : p + 4 ≤ zs.length) (w : World) (h : Rd w r ao c zs p 0) :
    Calls Tryd.prog 65 #[.pointer (some ⟨r, 0, none⟩)] w fun e w' => e = .returned (.int .i64 (num4 zs p)) ∧ Rd w' r ao c zs (p + 4) 0 ∧ Kept (fun k => k = r) w w' := by
  have hn := ru_32 r ao c zs p 0 w h
  obtain ⟨e1, e2, e3⟩ := @nx_ok zs p 4 hp
  have e4 : ((4 : Nat) : Int) = 4 := rfl
  rw [e4] at e1 e2 e3
  rw [e1, e2, e3, show ((zs.drop p).take 4).length = 4 by simp; omega, leV_ok] at hn
  have hb := num4_bd zs h.hb p hp
  have hd : le ((zs.drop p).take 4) = num4 zs p := rfl
  rw [hd] at hn
  generalize num4 zs p = x at *
  have w1 : wrap64 x = x := by simp [wrap64]; omega
  clear h hd e1 e2 e3 e4
  go_enter Tryd.func65, Tryd.ntmps65
  go_wp2_with (go_at_call 78; refine hn.mono ?_; rintro e w1 ⟨rfl, rd, kp⟩)
  go_ret
  exact ⟨rfl, rd, kp⟩
set_option maxRecDepth 20000 in
theorem readerOf_yes (ao : Option Addr) (n c : Nat) (zs : List Int) (w : World) (hx : Seen w ao n zs) :
    Calls Tryd.prog 62 #[.slice ao n c, .int .i64 n] w fun e w' => ∃ r ao' c', e = .returned (.tuple #[.pointer (some ⟨r, 0, none⟩), .int .i64 0]) ∧ Rd w' r ao' c' zs 0 0 ∧ w.heap.size ≤ r ∧ (∀ g, ao' = some ⟨g, 0, none⟩ → w.heap.size ≤ g) ∧ Below w.heap.size w w' := by
  have hn := newReader_any ao n c zs w hx
  clear hx
  go_enter Tryd.func62, Tryd.ntmps62
  go_wp2_with (go_at_call 69; refine hn.mono ?_; rintro e w1 ⟨r, ao', c', rfl, rd, hr, hg, hb⟩)
  have HH : Hid (Rd w1 r ao' c' zs 0 0 ∧ w.heap.size ≤ r ∧ (∀ g, ao' = some ⟨g, 0, none⟩ → w.heap.size ≤ g) ∧ Below w.heap.size w w1) := ⟨rd, hr, hg, hb⟩
  clear rd hr hg hb hn
  go_wp2
  go_ret2
  exact ⟨r, ao', c', rfl, HH.out⟩
set_option maxRecDepth 20000 in
theorem readerOf_no (ao : Option Addr) (n c : Nat) (m : Int) (hne : ¬ (n : Int) = m) (w : World) :
    Calls Tryd.prog 62 #[.slice ao n c, .int .i64 m] w fun e w' => e = .returned (.tuple #[.pointer none, .int .i64 4]) ∧ w = w' := by
  have n1 : ((n : Int) != m) = true := by simpa using hne
  clear hne
  go_enter Tryd.func62, Tryd.ntmps62
  go_wp2
  go_ret2
  exact ⟨rfl, rfl⟩
set_option maxRecDepth 20000 in
set_option maxHeartbeats 1000000 in
theorem requestOf_err (c : Cg) (k : Int) (ao : Option Addr) (n cap : Nat) (hE : ¬ szE c k = 0) (w : World) :
    Calls Tryd.prog 60 #[c.v, .int .i64 k, .slice ao n cap] w fun e w' => e = .returned (.tuple #[.pointer none, .int .i64 (szE c k)]) ∧ Below w.heap.size w w' := by
  have HQ : ∀ W, Calls Tryd.prog 13 #[c.v, .int .i64 k] W fun e w' => e = .returned (.tuple #[.int .i64 (szQ c k), .int .i64 (szE c k)]) ∧ Below W.heap.size W w' := fun W => requestSize_any c k W
  have n1 : (szE c k != 0) = true := by simpa using hE
  generalize szE c k = E at *
  generalize szQ c k = Q at *
  clear hE
  go_enter Tryd.func60, Tryd.ntmps60
  go_wp2_with (first | ((with_reducible show wpList _ _ _ (({ dst := some 3, op := _, type := _, pos := _, after := _, guard := _ } : Oper) :: _) _ _); refine wpList_box_new rfl 23 _ rfl c.cs rfl ?_; intro w1 b1 s1 l1; have z1 : Hid (w1.heap.size = w.heap.size + 1) := s1; clear s1) | ((with_reducible show wpList _ _ _ (({ dst := some 11, op := _, type := _, pos := _, after := _, guard := _ } : Oper) :: _) _ _); refine wpList_load_blk rfl 23 (.tmp 3) rfl _ rfl c.cs _ (b1) Tryd.underlying23 rfl (cg_size c) ?_))
  refine (HQ _).mono ?_
  rintro e w2 ⟨rfl, l2⟩
  have HL : Hid (Below w.heap.size w w2) := below_chain l1 l2 (by have := z1.out; omega)
  clear l1 l2 b1 HQ
  go_wp2
  go_ret2
  exact ⟨rfl, HL.out⟩
set_option maxRecDepth 20000 in
set_option maxHeartbeats 1000000 in
theorem requestOf_len (c : Cg) (k : Int) (ao : Option Addr) (n cap : Nat) (hE : szE c k = 0) (hne : ¬ (n : Int) = szQ c k) (w : World) :
    Calls Tryd.prog 60 #[c.v, .int .i64 k, .slice ao n cap] w fun e w' => e = .returned (.tuple #[.pointer none, .int .i64 4]) ∧ Below w.heap.size w w' := by
  have HQ : ∀ W, Calls Tryd.prog 13 #[c.v, .int .i64 k] W fun e w' => e = .returned (.tuple #[.int .i64 (szQ c k), .int .i64 (szE c k)]) ∧ Below W.heap.size W w' := fun W => requestSize_any c k W
  rw [hE] at HQ
  generalize szQ c k = Q at *
  have HR : Hid (∀ W, Calls Tryd.prog 62 #[.slice ao n cap, .int .i64 Q] W fun e w' => e = .returned (.tuple #[.pointer none, .int .i64 4]) ∧ W = w') := fun W => readerOf_no ao n cap Q hne W
  clear hE hne
  go_enter Tryd.func60, Tryd.ntmps60
  go_wp2_with (first | ((with_reducible show wpList _ _ _ (({ dst := some 3, op := _, type := _, pos := _, after := _, guard := _ } : Oper) :: _) _ _); refine wpList_box_new rfl 23 _ rfl c.cs rfl ?_; intro w1 b1 s1 l1; have z1 : Hid (w1.heap.size = w.heap.size + 1) := s1; clear s1) | ((with_reducible show wpList _ _ _ (({ dst := some 11, op := _, type := _, pos := _, after := _, guard := _ } : Oper) :: _) _ _); refine wpList_load_blk rfl 23 (.tmp 3) rfl _ rfl c.cs _ (b1) Tryd.underlying23 rfl (cg_size c) ?_))
  refine (HQ _).mono ?_
  rintro e w2 ⟨rfl, l2⟩
  have HL : Hid (Below w.heap.size w w2) := below_chain l1 l2 (by have := z1.out; omega)
  clear l1 l2 b1 HQ
  go_wp2_with (go_at_call 62; refine (HR.out _).mono ?_; rintro e _ ⟨rfl, rfl⟩)
  go_ret2
  exact ⟨rfl, HL.out⟩
set_option maxRecDepth 20000 in
set_option maxHeartbeats 1000000 in
theorem requestOf_yes (c : Cg) (k : Int) (ao : Option Addr) (n cap : Nat) (zs : List Int) (hE : szE c k = 0) (he : (n : Int) = szQ c k) (w : World) (hx : Seen w ao n zs) :
    Calls Tryd.prog 60 #[c.v, .int .i64 k, .slice ao n cap] w fun e w' => ∃ r ao' c', e = .returned (.tuple #[.pointer (some ⟨r, 0, none⟩), .int .i64 0]) ∧ Rd w' r ao' c' zs 0 0 ∧ w.heap.size ≤ r ∧ (∀ g, ao' = some ⟨g, 0, none⟩ → w.heap.size ≤ g) ∧ Below w.heap.size w w' := by
  have HQ : ∀ W, Calls Tryd.prog 13 #[c.v, .int .i64 k] W fun e w' => e = .returned (.tuple #[.int .i64 (szQ c k), .int .i64 (szE c k)]) ∧ Below W.heap.size W w' := fun W => requestSize_any c k W
  rw [hE, ← he] at HQ
  have HX : Hid (Seen w ao n zs) := hx
  clear hE he hx
  go_enter Tryd.func60, Tryd.ntmps60
  go_wp2_with (first | ((with_reducible show wpList _ _ _ (({ dst := some 3, op := _, type := _, pos := _, after := _, guard := _ } : Oper) :: _) _ _); refine wpList_box_new rfl 23 _ rfl c.cs rfl ?_; intro w1 b1 s1 l1; have z1 : Hid (w1.heap.size = w.heap.size + 1) := s1; clear s1) | ((with_reducible show wpList _ _ _ (({ dst := some 11, op := _, type := _, pos := _, after := _, guard := _ } : Oper) :: _) _ _); refine wpList_load_blk rfl 23 (.tmp 3) rfl _ rfl c.cs _ (b1) Tryd.underlying23 rfl (cg_size c) ?_))
  refine (HQ _).mono ?_
  rintro e w2 ⟨rfl, l2⟩
  have L2 : Below w.heap.size w w2 := below_chain l1 l2 (by have := z1.out; omega)
  have HR := readerOf_yes ao n cap zs w2 (HX.out.later L2 (Nat.le_refl _))
  have HL : Hid (Below w.heap.size w w2) := L2
  clear l1 l2 b1 HQ L2
  go_wp2_with (go_at_call 62; refine HR.mono ?_; rintro e w3 ⟨r, ao', c', rfl, rd, hr, hg, hb⟩)
  have HH : Hid (Rd w3 r ao' c' zs 0 0 ∧ w.heap.size ≤ r ∧ (∀ g, ao' = some ⟨g, 0, none⟩ → w.heap.size ≤ g) ∧ Below w.heap.size w w3) := (by have q := HL.out.size; exact ⟨rd, by omega, fun g hg' => by have := hg g hg'; omega, below_chain HL.out hb q⟩)
  clear rd hr hg hb HR
  go_wp2
  go_ret2
  exact ⟨r, ao', c', rfl, HH.out⟩
end Go.Proofs.YtmgkjldjeomcmaaDoor
