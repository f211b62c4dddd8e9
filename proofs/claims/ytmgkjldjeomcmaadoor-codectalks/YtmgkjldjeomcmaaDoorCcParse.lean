/- Layer codec: ParseConfig; Ack. -/
import Derived.Test.YtmgkjldjeomcmaaDoorCcRead
import Derived.Lib.SmallJoins
namespace Go.Proofs.YtmgkjldjeomcmaaDoor
open Go.RowKit
set_option linter.unusedVariables false
set_option linter.unusedSimpArgs false

open Go.Joins
def cg0 : Cg := ⟨0, 0, 0, 0, 0, 0⟩
theorem cg_zero : (Tryd.prog.info? 23).map (fun i => (i.zero, i.size)) = some (some (.agg cg0.cs.toArray), 6) := by kernel_rfl
theorem cg_one (c : Cg) : ∀ v ∈ c.cs, v.oneCell' = true := by intro v hv; simp [Cg.cs] at hv; rcases hv with rfl | rfl | rfl | rfl | rfl | rfl <;> rfl
/-- The config that bytes tell. -/
def cgOf (zs : List Int) : Cg := ⟨num4 zs 0, num4 zs 4, num4 zs 8, num4 zs 12, num4 zs 16, num4 zs 20⟩
/-- ParseConfig under way. -/
structure PS (w0 : World) (g2 g6 r : Nat) (ro : Option Addr) (rc : Nat) (zs : List Int) (p : Nat) (cs : List Value) (w : World) : Prop where
  res : Blk w g2 23 cg0.cs
  blk : Blk w g6 23 cs
  rd : Rd w r ro rc zs p 0
  bel : Below w0.heap.size w0 w
  h2 : w0.heap.size ≤ g2
  h6 : w0.heap.size ≤ g6
  hr : w0.heap.size ≤ r
  n26 : g2 ≠ g6
  n2r : g2 ≠ r
  n6r : g6 ≠ r
  ne2 : ∀ g, ro = some ⟨g, 0, none⟩ → g ≠ g6
theorem PS.put {w0 : World} {g2 g6 r : Nat} {ro : Option Addr} {rc : Nat} {zs : List Int} {p : Nat} {cs : List Value} {w : World} (h : PS w0 g2 g6 r ro rc zs p cs w) (i : Nat) (v : Value) : PS w0 g2 g6 r ro rc zs p (cs.set i v) (w.setCell ⟨g6, i, none⟩ v) :=
  ⟨h.res.other h.n26 v, h.blk.set i v, h.rd.kept (S := fun k => k = g6) (Kept.setCell (S := fun k => k = g6) (Kept.refl (fun k => k = g6) w) (p := ⟨g6, i, none⟩) rfl v) (fun e => h.n6r e.symm) h.ne2, below_kept h.bel (Kept.setCell (S := fun k => k = g6) (Kept.refl (fun k => k = g6) w) (p := ⟨g6, i, none⟩) rfl v) h.bel.size (fun j hj e => by have := h.h6; omega), h.h2, h.h6, h.hr, h.n26, h.n2r, h.n6r, h.ne2⟩
theorem ps_num {w0 : World} {g2 g6 r : Nat} {ro : Option Addr} {rc : Nat} {zs : List Int} {p : Nat} {cs : List Value} {w : World} (h : PS w0 g2 g6 r ro rc zs p cs w) (hp : p + 4 ≤ zs.length) :
    Calls Tryd.prog 65 #[.pointer (some ⟨r, 0, none⟩)] w fun e w' => e = .returned (.int .i64 (num4 zs p)) ∧ PS w0 g2 g6 r ro rc zs (p + 4) cs w' := by
  refine (number_in r ro rc zs p hp w h.rd).mono ?_
  rintro e w' ⟨rfl, rd, kp⟩
  exact ⟨rfl, h.res.kept kp h.n2r, h.blk.kept kp h.n6r, rd, below_kept h.bel kp h.bel.size (fun j hj e => by have := h.hr; omega), h.h2, h.h6, h.hr, h.n26, h.n2r, h.n6r, h.ne2⟩
set_option maxRecDepth 20000 in
set_option maxHeartbeats 1000000 in
theorem parseConfig_len (ao : Option Addr) (n cap : Nat) (hn : ¬ (n : Int) = 24) (w : World) : Calls Tryd.prog 46 #[.slice ao n cap] w fun e w' => e = .returned (.tuple #[.agg cg0.cs.toArray, .int .i64 4]) ∧ Below w.heap.size w w' := by
  have HC : Hid (∀ W, Calls Tryd.prog 62 #[.slice ao n cap, .int .i64 24] W fun e w' => e = .returned (.tuple #[.pointer none, .int .i64 4]) ∧ W = w') := fun W => readerOf_no ao n cap 24 hn W
  clear hn
  go_enter Tryd.func46, Tryd.ntmps46
  go_wp2_with (first | ((with_reducible show wpList _ _ _ (({ dst := some 2, op := _, type := _, pos := _, after := _, guard := _ } : Oper) :: _) _ _); refine wpList_alloc_new rfl 23 rfl 6 _ cg_zero ?_; intro w1 b1 s1 l1; have z1 : Hid (w1.heap.size = w.heap.size + 1) := s1; clear s1) | (go_at_call 62; refine (HC.out _).mono ?_; rintro e _ ⟨rfl, rfl⟩) | (refine wpList_store_blk rfl 23 23 (.tmp 2) (.tmp 15) rfl _ rfl _ cg0.cs rfl (b1) rfl (cg_size cg0) (cg_one cg0) ?_; intro w2 b2 s2 k2; have z2 : Hid (w2.heap.size = w1.heap.size) := s2; clear s2))
  exact ret_blkt rfl w.heap.size cg0.cs _ _ rfl rfl b2 Tryd.underlying23 rfl (cg_size cg0) rfl ⟨rfl, below_kept l1 k2 (by have := z1.out; omega) (fun j hj => by omega)⟩
set_option maxRecDepth 20000 in
set_option maxHeartbeats 4000000 in
theorem parseConfig_ok (ao : Option Addr) (cap : Nat) (zs : List Int) (w : World) (hx : Seen w ao 24 zs) (hok : (cgOf zs).ok = true) : Calls Tryd.prog 46 #[.slice ao 24 cap] w fun e w' => e = .returned (.tuple #[.agg (cgOf zs).cs.toArray, .int .i64 0]) ∧ Below w.heap.size w w' := by
  have HX : Hid (Seen w ao 24 zs ∧ zs.length = 24) := ⟨hx, hx.len⟩
  have HC : Hid (∀ W, Calls Tryd.prog 10 #[(cgOf zs).v] W fun e w' => e = .returned (.int .i64 0) ∧ Below W.heap.size W w') := fun W => by
    have := check_any (cgOf zs) W
    rwa [show (cgOf zs).err = 0 by simp [Cg.err, hok]] at this
  clear hx hok
  go_enter Tryd.func46, Tryd.ntmps46
  go_wp2_with (((with_reducible show wpList _ _ _ (({ dst := some 2, op := _, type := _, pos := _, after := _, guard := _ } : Oper) :: _) _ _); refine wpList_alloc_new rfl 23 rfl 6 _ cg_zero ?_; intro w1 b1 s1 l1; have z1 : Hid (w1.heap.size = w.heap.size + 1) := s1; clear s1))
  refine (readerOf_yes ao 24 cap zs w1 (HX.out.1.later l1 (Nat.le_refl _))).mono ?_
  rintro e w2 ⟨r, ro, rc, rfl, rd2, hr2, hg2, l2⟩
  have z2 : Hid (w1.heap.size ≤ w2.heap.size) := l2.size
  go_wp2_with (((with_reducible show wpList _ _ _ (({ dst := some 6, op := _, type := _, pos := _, after := _, guard := _ } : Oper) :: _) _ _); refine wpList_alloc_new rfl 23 rfl 6 _ cg_zero ?_; intro w3 b3 s3 l3; have z3 : Hid (w3.heap.size = w2.heap.size + 1) := s3; clear s3))
  have P0 : PS w w.heap.size w2.heap.size r ro rc zs 0 cg0.cs w3 := by
    have h1 := z1.out
    have h2 := z2.out
    have h3 := rd2.lt
    exact ⟨(b1.later l2 (by omega)).later l3 (by omega), b3, rd2.later l3 (Nat.le_refl _), below_chain (below_chain l1 l2 (by omega)) l3 (by omega), Nat.le_refl _, by omega, by omega, by omega, by omega, by omega, fun g hg => by
      have := rd2.own.lt g (by rw [hg]; rfl)
      omega⟩
  clear b1 b3 l1 l2 l3 rd2 hr2 hg2
  refine (ps_num P0 (by rw [HX.out.2]; decide)).mono ?_
  rintro e v0 ⟨rfl, Q0⟩
  clear P0
  have c0 : v0.cell? ⟨w2.heap.size, 0, none⟩ = some (.int .i64 0) := (by rw [Q0.blk.cell]; rfl)
  have f0 := Q0.blk.frozen 0
  have P1 : Hid (PS w w.heap.size w2.heap.size r ro rc zs 4 _ (v0.setCell ⟨w2.heap.size, 0, none⟩ (.int .i64 (num4 zs 0)))) := Q0.put 0 (.int .i64 (num4 zs 0))
  clear Q0
  go_wp2_with (first | (go_at_call 65; refine (ps_num P1.out (by rw [HX.out.2]; decide)).mono ?_; rintro e v1 ⟨rfl, Q1⟩; clear c0 f0 P1; have c1 : v1.cell? ⟨w2.heap.size, 1, none⟩ = some (.int .i64 0) := (by rw [Q1.blk.cell]; rfl); have f1 := Q1.blk.frozen 1; have P2 : Hid (PS w w.heap.size w2.heap.size r ro rc zs 8 _ (v1.setCell ⟨w2.heap.size, 1, none⟩ (.int .i64 (num4 zs 4)))) := Q1.put 1 (.int .i64 (num4 zs 4)); clear Q1) | (go_at_call 65; refine (ps_num P2.out (by rw [HX.out.2]; decide)).mono ?_; rintro e v2 ⟨rfl, Q2⟩; clear c1 f1 P2; have c2 : v2.cell? ⟨w2.heap.size, 2, none⟩ = some (.int .i64 0) := (by rw [Q2.blk.cell]; rfl); have f2 := Q2.blk.frozen 2; have P3 : Hid (PS w w.heap.size w2.heap.size r ro rc zs 12 _ (v2.setCell ⟨w2.heap.size, 2, none⟩ (.int .i64 (num4 zs 8)))) := Q2.put 2 (.int .i64 (num4 zs 8)); clear Q2) | (go_at_call 65; refine (ps_num P3.out (by rw [HX.out.2]; decide)).mono ?_; rintro e v3 ⟨rfl, Q3⟩; clear c2 f2 P3; have c3 : v3.cell? ⟨w2.heap.size, 3, none⟩ = some (.int .i64 0) := (by rw [Q3.blk.cell]; rfl); have f3 := Q3.blk.frozen 3; have P4 : Hid (PS w w.heap.size w2.heap.size r ro rc zs 16 _ (v3.setCell ⟨w2.heap.size, 3, none⟩ (.int .i64 (num4 zs 12)))) := Q3.put 3 (.int .i64 (num4 zs 12)); clear Q3) | (go_at_call 65; refine (ps_num P4.out (by rw [HX.out.2]; decide)).mono ?_; rintro e v4 ⟨rfl, Q4⟩; clear c3 f3 P4; have c4 : v4.cell? ⟨w2.heap.size, 4, none⟩ = some (.int .i64 0) := (by rw [Q4.blk.cell]; rfl); have f4 := Q4.blk.frozen 4; have P5 : Hid (PS w w.heap.size w2.heap.size r ro rc zs 20 _ (v4.setCell ⟨w2.heap.size, 4, none⟩ (.int .i64 (num4 zs 16)))) := Q4.put 4 (.int .i64 (num4 zs 16)); clear Q4) | (go_at_call 65; refine (ps_num P5.out (by rw [HX.out.2]; decide)).mono ?_; rintro e v5 ⟨rfl, Q5⟩; clear c4 f4 P5; have c5 : v5.cell? ⟨w2.heap.size, 5, none⟩ = some (.int .i64 0) := (by rw [Q5.blk.cell]; rfl); have f5 := Q5.blk.frozen 5; have P6 : Hid (PS w w.heap.size w2.heap.size r ro rc zs 24 _ (v5.setCell ⟨w2.heap.size, 5, none⟩ (.int .i64 (num4 zs 20)))) := Q5.put 5 (.int .i64 (num4 zs 20)); clear Q5) | ((with_reducible show wpList _ _ _ (({ dst := some 35, op := _, type := _, pos := _, after := _, guard := _ } : Oper) :: _) _ _); refine wpList_load_blk rfl 23 (.tmp 6) rfl _ rfl (cgOf zs).cs _ (show Blk _ _ _ (cgOf zs).cs from P6.out.blk) Tryd.underlying23 rfl (cg_size _) ?_))
  refine (HC.out _).mono ?_
  rintro e v7 ⟨rfl, l7⟩
  have P7 : Hid (PS w w.heap.size w2.heap.size r ro rc zs 24 (cgOf zs).cs (v5.setCell ⟨w2.heap.size, 5, none⟩ (.int .i64 (num4 zs 20)))) := P6.out
  clear P6
  have z7 : Hid (w.heap.size < (v5.setCell ⟨w2.heap.size, 5, none⟩ (.int .i64 (num4 zs 20))).heap.size ∧ w2.heap.size < (v5.setCell ⟨w2.heap.size, 5, none⟩ (.int .i64 (num4 zs 20))).heap.size) := ⟨P7.out.res.lt, P7.out.blk.lt⟩
  have bR : Blk v7 w.heap.size 23 cg0.cs := P7.out.res.later l7 z7.out.1
  have bC : Blk v7 w2.heap.size 23 (cgOf zs).cs := P7.out.blk.later l7 z7.out.2
  have LL : Hid (Below w.heap.size w v7) := below_chain P7.out.bel l7 (Nat.le_of_lt z7.out.1)
  clear l7
  go_wp2_with (first | ((with_reducible show wpList _ _ _ (({ dst := some 41, op := _, type := _, pos := _, after := _, guard := _ } : Oper) :: _) _ _); refine wpList_load_blk rfl 23 (.tmp 6) rfl _ rfl (cgOf zs).cs _ (bC) Tryd.underlying23 rfl (cg_size _) ?_) | (refine wpList_store_blk rfl 23 23 (.tmp 2) (.tmp 41) rfl _ rfl _ (cgOf zs).cs rfl (bR) rfl (cg_size _) (cg_one _) ?_; intro w8 b8 s8 k8; have z8 : Hid (w8.heap.size = v7.heap.size) := s8; clear s8))
  exact ret_blkt rfl w.heap.size (cgOf zs).cs _ _ rfl rfl b8 Tryd.underlying23 rfl (cg_size _) rfl ⟨rfl, below_kept LL.out k8 LL.out.size (fun j hj => by omega)⟩
set_option maxRecDepth 20000 in
set_option maxHeartbeats 4000000 in
theorem parseConfig_bad (ao : Option Addr) (cap : Nat) (zs : List Int) (w : World) (hx : Seen w ao 24 zs) (hok : (cgOf zs).ok = false) : Calls Tryd.prog 46 #[.slice ao 24 cap] w fun e w' => e = .returned (.tuple #[.agg (cg0).cs.toArray, .int .i64 200]) ∧ Below w.heap.size w w' := by
  have HX : Hid (Seen w ao 24 zs ∧ zs.length = 24) := ⟨hx, hx.len⟩
  have HC : Hid (∀ W, Calls Tryd.prog 10 #[(cgOf zs).v] W fun e w' => e = .returned (.int .i64 200) ∧ Below W.heap.size W w') := fun W => by
    have := check_any (cgOf zs) W
    rwa [show (cgOf zs).err = 200 by simp [Cg.err, hok]] at this
  clear hx hok
  go_enter Tryd.func46, Tryd.ntmps46
  go_wp2_with (((with_reducible show wpList _ _ _ (({ dst := some 2, op := _, type := _, pos := _, after := _, guard := _ } : Oper) :: _) _ _); refine wpList_alloc_new rfl 23 rfl 6 _ cg_zero ?_; intro w1 b1 s1 l1; have z1 : Hid (w1.heap.size = w.heap.size + 1) := s1; clear s1))
  refine (readerOf_yes ao 24 cap zs w1 (HX.out.1.later l1 (Nat.le_refl _))).mono ?_
  rintro e w2 ⟨r, ro, rc, rfl, rd2, hr2, hg2, l2⟩
  have z2 : Hid (w1.heap.size ≤ w2.heap.size) := l2.size
  go_wp2_with (((with_reducible show wpList _ _ _ (({ dst := some 6, op := _, type := _, pos := _, after := _, guard := _ } : Oper) :: _) _ _); refine wpList_alloc_new rfl 23 rfl 6 _ cg_zero ?_; intro w3 b3 s3 l3; have z3 : Hid (w3.heap.size = w2.heap.size + 1) := s3; clear s3))
  have P0 : PS w w.heap.size w2.heap.size r ro rc zs 0 cg0.cs w3 := by
    have h1 := z1.out
    have h2 := z2.out
    have h3 := rd2.lt
    exact ⟨(b1.later l2 (by omega)).later l3 (by omega), b3, rd2.later l3 (Nat.le_refl _), below_chain (below_chain l1 l2 (by omega)) l3 (by omega), Nat.le_refl _, by omega, by omega, by omega, by omega, by omega, fun g hg => by
      have := rd2.own.lt g (by rw [hg]; rfl)
      omega⟩
  clear b1 b3 l1 l2 l3 rd2 hr2 hg2
  refine (ps_num P0 (by rw [HX.out.2]; decide)).mono ?_
  rintro e v0 ⟨rfl, Q0⟩
  clear P0
  have c0 : v0.cell? ⟨w2.heap.size, 0, none⟩ = some (.int .i64 0) := (by rw [Q0.blk.cell]; rfl)
  have f0 := Q0.blk.frozen 0
  have P1 : Hid (PS w w.heap.size w2.heap.size r ro rc zs 4 _ (v0.setCell ⟨w2.heap.size, 0, none⟩ (.int .i64 (num4 zs 0)))) := Q0.put 0 (.int .i64 (num4 zs 0))
  clear Q0
  go_wp2_with (first | (go_at_call 65; refine (ps_num P1.out (by rw [HX.out.2]; decide)).mono ?_; rintro e v1 ⟨rfl, Q1⟩; clear c0 f0 P1; have c1 : v1.cell? ⟨w2.heap.size, 1, none⟩ = some (.int .i64 0) := (by rw [Q1.blk.cell]; rfl); have f1 := Q1.blk.frozen 1; have P2 : Hid (PS w w.heap.size w2.heap.size r ro rc zs 8 _ (v1.setCell ⟨w2.heap.size, 1, none⟩ (.int .i64 (num4 zs 4)))) := Q1.put 1 (.int .i64 (num4 zs 4)); clear Q1) | (go_at_call 65; refine (ps_num P2.out (by rw [HX.out.2]; decide)).mono ?_; rintro e v2 ⟨rfl, Q2⟩; clear c1 f1 P2; have c2 : v2.cell? ⟨w2.heap.size, 2, none⟩ = some (.int .i64 0) := (by rw [Q2.blk.cell]; rfl); have f2 := Q2.blk.frozen 2; have P3 : Hid (PS w w.heap.size w2.heap.size r ro rc zs 12 _ (v2.setCell ⟨w2.heap.size, 2, none⟩ (.int .i64 (num4 zs 8)))) := Q2.put 2 (.int .i64 (num4 zs 8)); clear Q2) | (go_at_call 65; refine (ps_num P3.out (by rw [HX.out.2]; decide)).mono ?_; rintro e v3 ⟨rfl, Q3⟩; clear c2 f2 P3; have c3 : v3.cell? ⟨w2.heap.size, 3, none⟩ = some (.int .i64 0) := (by rw [Q3.blk.cell]; rfl); have f3 := Q3.blk.frozen 3; have P4 : Hid (PS w w.heap.size w2.heap.size r ro rc zs 16 _ (v3.setCell ⟨w2.heap.size, 3, none⟩ (.int .i64 (num4 zs 12)))) := Q3.put 3 (.int .i64 (num4 zs 12)); clear Q3) | (go_at_call 65; refine (ps_num P4.out (by rw [HX.out.2]; decide)).mono ?_; rintro e v4 ⟨rfl, Q4⟩; clear c3 f3 P4; have c4 : v4.cell? ⟨w2.heap.size, 4, none⟩ = some (.int .i64 0) := (by rw [Q4.blk.cell]; rfl); have f4 := Q4.blk.frozen 4; have P5 : Hid (PS w w.heap.size w2.heap.size r ro rc zs 20 _ (v4.setCell ⟨w2.heap.size, 4, none⟩ (.int .i64 (num4 zs 16)))) := Q4.put 4 (.int .i64 (num4 zs 16)); clear Q4) | (go_at_call 65; refine (ps_num P5.out (by rw [HX.out.2]; decide)).mono ?_; rintro e v5 ⟨rfl, Q5⟩; clear c4 f4 P5; have c5 : v5.cell? ⟨w2.heap.size, 5, none⟩ = some (.int .i64 0) := (by rw [Q5.blk.cell]; rfl); have f5 := Q5.blk.frozen 5; have P6 : Hid (PS w w.heap.size w2.heap.size r ro rc zs 24 _ (v5.setCell ⟨w2.heap.size, 5, none⟩ (.int .i64 (num4 zs 20)))) := Q5.put 5 (.int .i64 (num4 zs 20)); clear Q5) | ((with_reducible show wpList _ _ _ (({ dst := some 35, op := _, type := _, pos := _, after := _, guard := _ } : Oper) :: _) _ _); refine wpList_load_blk rfl 23 (.tmp 6) rfl _ rfl (cgOf zs).cs _ (show Blk _ _ _ (cgOf zs).cs from P6.out.blk) Tryd.underlying23 rfl (cg_size _) ?_))
  refine (HC.out _).mono ?_
  rintro e v7 ⟨rfl, l7⟩
  have P7 : Hid (PS w w.heap.size w2.heap.size r ro rc zs 24 (cgOf zs).cs (v5.setCell ⟨w2.heap.size, 5, none⟩ (.int .i64 (num4 zs 20)))) := P6.out
  clear P6
  have z7 : Hid (w.heap.size < (v5.setCell ⟨w2.heap.size, 5, none⟩ (.int .i64 (num4 zs 20))).heap.size ∧ w2.heap.size < (v5.setCell ⟨w2.heap.size, 5, none⟩ (.int .i64 (num4 zs 20))).heap.size) := ⟨P7.out.res.lt, P7.out.blk.lt⟩
  have bR : Blk v7 w.heap.size 23 cg0.cs := P7.out.res.later l7 z7.out.1
  have bC : Blk v7 w2.heap.size 23 (cgOf zs).cs := P7.out.blk.later l7 z7.out.2
  have LL : Hid (Below w.heap.size w v7) := below_chain P7.out.bel l7 (Nat.le_of_lt z7.out.1)
  clear l7
  go_wp2_with ((refine wpList_store_blk rfl 23 23 (.tmp 2) (.tmp 39) rfl _ rfl _ cg0.cs rfl (bR) rfl (cg_size _) (cg_one _) ?_; intro w8 b8 s8 k8; have z8 : Hid (w8.heap.size = v7.heap.size) := s8; clear s8))
  exact ret_blkt rfl w.heap.size cg0.cs _ _ rfl rfl b8 Tryd.underlying23 rfl (cg_size _) rfl ⟨rfl, below_kept LL.out k8 LL.out.size (fun j hj => by omega)⟩
/-- What the acknowledgement is. -/
def ackB : List Int := [116, 114, 121, 115, 116, 58, 32, 114, 117, 110, 103, 44, 32, 111, 107, 46]
theorem seen_litY (W : World) (zs : List Int) (fr : Nat × Nat) (hb : Bytes zs) (ht : zs.length ≤ 1000) : Seen (W.alloc (.cells (zs.map (Value.int .u8)).toArray 5 fr)) (some ⟨W.heap.size, 0, none⟩) zs.length zs :=
  ⟨rfl, by omega, hb, fun _ => ⟨W.heap.size, 0, rfl, by simp, fun i hi => by
    rw [Nat.zero_add, World.cell?_alloc_mark]
    simp [hi, List.getD]⟩⟩
/-- A constant text as bytes. -/
theorem wpList_conv {ops : Array Oper} {rest : List Oper} {o : Oper} {a : Act} {Q : Exit → Act → World → Prop} {w : World} (hgd : o.guard = none) (x : Operand) (ho : o.op = .convert 24 24 x) (cs : Array Value) (zs : List Int) (hcs : cs = (zs.map (Value.int .u8)).toArray) (n : Nat) (hn : zs.length = n) (hb : Bytes zs) (ht : n ≤ 1000) (hx : a.eval x = .slice (some ⟨w.heap.size, 0, none⟩) n n)
    (h : ∀ w', Seen w' (some ⟨w.heap.size, 0, none⟩) n zs → w'.heap.size = w.heap.size + 1 → Below w.heap.size w w' → wpList Tryd.prog ops Q rest (a.put o.dst (.slice (some ⟨w.heap.size, 0, none⟩) n n)) w') : wpList Tryd.prog ops Q (o :: rest) a (w.alloc (.cells cs 5)) := by
  subst hcs hn
  refine wpList_plain hgd fun K hK => ?_
  unfold Oper.wp execOp
  simp only [ho, hx, Sem.run_bind, run_convert_bytes_const_at (P := Tryd.prog) w 24 5 _ _ _ _ rfl Tryd.underlying24 Tryd.underlying5, Sem.run_pure, Result.andThen_ok]
  exact hK _ _ (h _ (seen_litY w zs _ hb ht) (by simp) ((Below.refl _ _).alloc (Nat.le_refl _) _))
theorem ack_bytes : Bytes ackB := by intro z hz; simp [ackB] at hz; omega
set_option maxRecDepth 20000 in
theorem ack_any (w : World) : Calls Tryd.prog 33 #[] w fun e w' => e = .returned (.slice (some ⟨w.heap.size, 0, none⟩) 16 16) ∧ Seen w' (some ⟨w.heap.size, 0, none⟩) 16 ackB ∧ Below w.heap.size w w' := by
  go_enter Tryd.func33, Tryd.ntmps33
  go_wp2_with (((with_reducible show wpList _ _ _ (({ dst := some 2, op := _, type := _, pos := _, after := _, guard := _ } : Oper) :: _) _ _); refine wpList_conv (w := w) rfl (.tmp 1) rfl _ ackB rfl 16 rfl ack_bytes (by decide) rfl ?_; intro w1 b1 s1 l1))
  go_ret
  exact ⟨rfl, b1, l1⟩
end Go.Proofs.YtmgkjldjeomcmaaDoor
