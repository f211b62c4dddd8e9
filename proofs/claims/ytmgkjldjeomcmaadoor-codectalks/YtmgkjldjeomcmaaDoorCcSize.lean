/- Layer codec: sizesOf, RequestSize, ReplySize. -/
import Derived.Test.YtmgkjldjeomcmaaDoorCcCheck
import Derived.Test.YtmgkjldjeomcmaaDoorSBase
namespace Go.Proofs.YtmgkjldjeomcmaaDoor
open Go.RowKit
set_option linter.unusedVariables false
set_option linter.unusedSimpArgs false

theorem ret_blkt {fn : Func} {p q : Tmp} {ty : TypeId} (h : fn.results = #[.cell p ty, .tmp q]) {R : Ending → World → Prop} {a : Act} {w : World} (g : Nat) (vs : List Value) (d : TypeDesc) (v : Value) (hp : a.tmps.getD p undef = .pointer (some ⟨g, 0, none⟩)) (hq : a.tmps.getD q undef = v)
    (hb : Blk w g ty vs) (hu : Tryd.prog.underlying ty = some d) (hd : d.isRow = true) (hi : (Tryd.prog.info? ty).map (·.size) = some vs.length) (hdef : a.defers = []) (hR : R (.returned (.tuple #[.agg vs.toArray, v])) w) : bodyPost Tryd.prog fn R .ret a w := by
  refine bodyPost_ret (v := .tuple #[.agg vs.toArray, v]) ?_ hdef hR
  have hp' : a.tmps[p]?.getD undef = .pointer (some ⟨g, 0, none⟩) := by simpa using hp
  have hq' : a.tmps[q]?.getD undef = v := by simpa using hq
  have hl := run_loadVar_row (P := Tryd.prog) w g ty ty vs.toArray (0, 0) d hb hu (by cases d <;> simp_all) (by simpa using hi)
  simp [results, h, hp', hq', asAddr, hl]
theorem ret_btt {fn : Func} {p q r : Tmp} {ty : TypeId} (h : fn.results = #[.cell p ty, .tmp q, .tmp r]) {R : Ending → World → Prop} {a : Act} {w : World} (g : Nat) (vs : List Value) (d : TypeDesc) (v u : Value) (hp : a.tmps.getD p undef = .pointer (some ⟨g, 0, none⟩)) (hq : a.tmps.getD q undef = v) (hr : a.tmps.getD r undef = u)
    (hb : Blk w g ty vs) (hu : Tryd.prog.underlying ty = some d) (hd : d.isRow = true) (hi : (Tryd.prog.info? ty).map (·.size) = some vs.length) (hdef : a.defers = []) (hR : R (.returned (.tuple #[.agg vs.toArray, v, u])) w) : bodyPost Tryd.prog fn R .ret a w := by
  refine bodyPost_ret (v := .tuple #[.agg vs.toArray, v, u]) ?_ hdef hR
  have hp' : a.tmps[p]?.getD undef = .pointer (some ⟨g, 0, none⟩) := by simpa using hp
  have hq' : a.tmps[q]?.getD undef = v := by simpa using hq
  have hr' : a.tmps[r]?.getD undef = u := by simpa using hr
  have hl := run_loadVar_row (P := Tryd.prog) w g ty ty vs.toArray (0, 0) d hb hu (by cases d <;> simp_all) (by simpa using hi)
  simp [results, h, hp', hq', hr', asAddr, hl]
/-! ### Sizes -/
/-- How long a request, a reply, a record is. -/
def szQ (c : Cg) (k : Int) : Int := if c.ok then if k = 1 then 16 + c.ms else if k = 2 then 92 else 0 else 0
def szP (c : Cg) (k : Int) : Int := if c.ok then if k = 1 then 1 + c.ms else if k = 2 then 16 else 0 else 0
def szR (c : Cg) (k : Int) : Int := if c.ok then if k = 1 then 26 + c.ms else if k = 2 then 114 else 0 else 0
def szE (c : Cg) (k : Int) : Int := if c.ok then if k = 1 ∨ k = 2 then 0 else 253 else 200
theorem ok_ms {c : Cg} (h : c.ok = true) : 32 ≤ c.ms ∧ c.ms ≤ 512 := by
  unfold Cg.ok at h
  simp [inB] at h
  omega
def s3 (a b c : Int) : List Value := [.int .i64 a, .int .i64 b, .int .i64 c]
theorem s3_zero : (Tryd.prog.info? 78).map (fun i => (i.zero, i.size)) = some (some (.agg (s3 0 0 0).toArray), 3) := by kernel_rfl
theorem s3_size (a b c : Int) : (Tryd.prog.info? 78).map (·.size) = some (s3 a b c).length := by kernel_rfl
theorem s3_one (a b c : Int) : ∀ v ∈ s3 a b c, v.oneCell' = true := by intro v hv; simp [s3] at hv; rcases hv with rfl | rfl | rfl <;> rfl
theorem cg_size (c : Cg) : (Tryd.prog.info? 23).map (·.size) = some c.cs.length := by kernel_rfl
set_option maxRecDepth 20000 in
set_option maxHeartbeats 2000000 in
theorem sizesOf_any (c : Cg) (k : Int) (w : World) : Calls Tryd.prog 53 #[c.v, .int .i64 k] w fun e w' => e = .returned (.tuple #[.agg (s3 (szQ c k) (szP c k) (szR c k)).toArray, .int .i64 (szE c k)]) ∧ Below w.heap.size w w' := by
  cases hok : c.ok with
  | false =>
    have HE : Hid (szQ c k = 0 ∧ szP c k = 0 ∧ szR c k = 0 ∧ szE c k = 200) := by show _ ∧ _; simp [szQ, szP, szR, szE, hok]
    have HC : Hid (∀ W, Calls Tryd.prog 10 #[c.v] W fun e w' => e = .returned (.int .i64 200) ∧ Below W.heap.size W w') := fun W => by
      have := check_any c W
      rwa [show c.err = 200 by simp [Cg.err, hok]] at this
    rw [HE.out.1, HE.out.2.1, HE.out.2.2.1, HE.out.2.2.2]
    clear hok HE
    go_enter Tryd.func53, Tryd.ntmps53
    go_wp2_with (first | ((with_reducible show wpList _ _ _ (({ dst := some 2, op := _, type := _, pos := _, after := _, guard := _ } : Oper) :: _) _ _); refine wpList_box_new rfl 23 _ rfl c.cs rfl ?_; intro w1 b1 s1 l1; have z1 : Hid (w1.heap.size = w.heap.size + 1) := s1; clear s1) | ((with_reducible show wpList _ _ _ (({ dst := some 4, op := _, type := _, pos := _, after := _, guard := _ } : Oper) :: _) _ _); refine wpList_alloc_new rfl 78 rfl 3 _ s3_zero ?_; intro w2 b2 s2 l2; have z2 : Hid (w2.heap.size = w1.heap.size + 1) := s2; clear s2) | ((with_reducible show wpList _ _ _ (({ dst := some 7, op := _, type := _, pos := _, after := _, guard := _ } : Oper) :: _) _ _); refine wpList_load_blk rfl 23 (.tmp 2) rfl _ rfl c.cs _ (b1.later l2 (by have := z1.out; omega)) Tryd.underlying23 rfl (cg_size c) ?_))
    refine (HC.out _).mono ?_
    rintro e w3 ⟨rfl, l3⟩
    have z3 : Hid (w2.heap.size ≤ w3.heap.size) := l3.size
    have c1 : w3.cell? ⟨w.heap.size, 1, none⟩ = some (.int .i64 c.ms) := by
      have B : Blk w3 w.heap.size 23 c.cs := (b1.later l2 (by have := z1.out; omega)).later l3 (by have := z1.out; have := z2.out; omega)
      rw [B.cell]; rfl
    have B2 : Blk w3 w1.heap.size 78 (s3 0 0 0) := b2.later l3 (by have := z2.out; omega)
    have L3 : Hid (Below w.heap.size w w3) := below_chain (below_chain l1 l2 (by have := z1.out; omega)) l3 (by have := z1.out; have := z2.out; omega)
    clear b1 b2 l1 l2 l3
    go_wp2_with (refine wpList_store_blk rfl 78 78 (.tmp 4) (.tmp 11) rfl _ rfl _ (s3 (0) (0) (0)) rfl B2 rfl (s3_size _ _ _) (s3_one _ _ _) ?_; intro w4 b4 s4 k4)
    exact ret_blkt rfl w1.heap.size (s3 (0) (0) (0)) _ _ rfl rfl b4 Tryd.underlying78 rfl (s3_size _ _ _) rfl ⟨rfl, below_kept L3.out k4 (by have := z1.out; have := z2.out; have := z3.out; omega) (fun j hj => by have := z1.out; omega)⟩
  | true =>
    have hm := ok_ms hok
    have HC : Hid (∀ W, Calls Tryd.prog 10 #[c.v] W fun e w' => e = .returned (.int .i64 0) ∧ Below W.heap.size W w') := fun W => by
      have := check_any c W
      rwa [show c.err = 0 by simp [Cg.err, hok]] at this
    by_cases h1 : k = 1
    · subst h1
      have HE : Hid (szQ c 1 = 16 + c.ms ∧ szP c 1 = 1 + c.ms ∧ szR c 1 = 26 + c.ms ∧ szE c 1 = 0) := by show _ ∧ _; simp [szQ, szP, szR, szE, hok]
      rw [HE.out.1, HE.out.2.1, HE.out.2.2.1, HE.out.2.2.2]
      have q1 : wrap64 (16 + c.ms) = 16 + c.ms := by simp [wrap64]; omega
      have q2 : wrap64 (1 + c.ms) = 1 + c.ms := by simp [wrap64]; omega
      have q3 : wrap64 (26 + c.ms) = 26 + c.ms := by simp [wrap64]; omega
      clear hok HE hm
      go_enter Tryd.func53, Tryd.ntmps53
      go_wp2_with (first | ((with_reducible show wpList _ _ _ (({ dst := some 2, op := _, type := _, pos := _, after := _, guard := _ } : Oper) :: _) _ _); refine wpList_box_new rfl 23 _ rfl c.cs rfl ?_; intro w1 b1 s1 l1; have z1 : Hid (w1.heap.size = w.heap.size + 1) := s1; clear s1) | ((with_reducible show wpList _ _ _ (({ dst := some 4, op := _, type := _, pos := _, after := _, guard := _ } : Oper) :: _) _ _); refine wpList_alloc_new rfl 78 rfl 3 _ s3_zero ?_; intro w2 b2 s2 l2; have z2 : Hid (w2.heap.size = w1.heap.size + 1) := s2; clear s2) | ((with_reducible show wpList _ _ _ (({ dst := some 7, op := _, type := _, pos := _, after := _, guard := _ } : Oper) :: _) _ _); refine wpList_load_blk rfl 23 (.tmp 2) rfl _ rfl c.cs _ (b1.later l2 (by have := z1.out; omega)) Tryd.underlying23 rfl (cg_size c) ?_))
      refine (HC.out _).mono ?_
      rintro e w3 ⟨rfl, l3⟩
      have z3 : Hid (w2.heap.size ≤ w3.heap.size) := l3.size
      have c1 : w3.cell? ⟨w.heap.size, 1, none⟩ = some (.int .i64 c.ms) := by
        have B : Blk w3 w.heap.size 23 c.cs := (b1.later l2 (by have := z1.out; omega)).later l3 (by have := z1.out; have := z2.out; omega)
        rw [B.cell]; rfl
      have B2 : Blk w3 w1.heap.size 78 (s3 0 0 0) := b2.later l3 (by have := z2.out; omega)
      have L3 : Hid (Below w.heap.size w w3) := below_chain (below_chain l1 l2 (by have := z1.out; omega)) l3 (by have := z1.out; have := z2.out; omega)
      clear b1 b2 l1 l2 l3
      go_wp2_with (refine wpList_store_blk rfl 78 78 (.tmp 4) (.tmp 25) rfl _ rfl _ (s3 (16 + c.ms) (1 + c.ms) (26 + c.ms)) rfl B2 rfl (s3_size _ _ _) (s3_one _ _ _) ?_; intro w4 b4 s4 k4)
      exact ret_blkt rfl w1.heap.size (s3 (16 + c.ms) (1 + c.ms) (26 + c.ms)) _ _ rfl rfl b4 Tryd.underlying78 rfl (s3_size _ _ _) rfl ⟨rfl, below_kept L3.out k4 (by have := z1.out; have := z2.out; have := z3.out; omega) (fun j hj => by have := z1.out; omega)⟩
    · by_cases h2 : k = 2
      · subst h2
        have HE : Hid (szQ c 2 = 92 ∧ szP c 2 = 16 ∧ szR c 2 = 114 ∧ szE c 2 = 0) := by show _ ∧ _; simp [szQ, szP, szR, szE, hok]
        rw [HE.out.1, HE.out.2.1, HE.out.2.2.1, HE.out.2.2.2]
        clear hok HE hm
        go_enter Tryd.func53, Tryd.ntmps53
        go_wp2_with (first | ((with_reducible show wpList _ _ _ (({ dst := some 2, op := _, type := _, pos := _, after := _, guard := _ } : Oper) :: _) _ _); refine wpList_box_new rfl 23 _ rfl c.cs rfl ?_; intro w1 b1 s1 l1; have z1 : Hid (w1.heap.size = w.heap.size + 1) := s1; clear s1) | ((with_reducible show wpList _ _ _ (({ dst := some 4, op := _, type := _, pos := _, after := _, guard := _ } : Oper) :: _) _ _); refine wpList_alloc_new rfl 78 rfl 3 _ s3_zero ?_; intro w2 b2 s2 l2; have z2 : Hid (w2.heap.size = w1.heap.size + 1) := s2; clear s2) | ((with_reducible show wpList _ _ _ (({ dst := some 7, op := _, type := _, pos := _, after := _, guard := _ } : Oper) :: _) _ _); refine wpList_load_blk rfl 23 (.tmp 2) rfl _ rfl c.cs _ (b1.later l2 (by have := z1.out; omega)) Tryd.underlying23 rfl (cg_size c) ?_))
        refine (HC.out _).mono ?_
        rintro e w3 ⟨rfl, l3⟩
        have z3 : Hid (w2.heap.size ≤ w3.heap.size) := l3.size
        have c1 : w3.cell? ⟨w.heap.size, 1, none⟩ = some (.int .i64 c.ms) := by
          have B : Blk w3 w.heap.size 23 c.cs := (b1.later l2 (by have := z1.out; omega)).later l3 (by have := z1.out; have := z2.out; omega)
          rw [B.cell]; rfl
        have B2 : Blk w3 w1.heap.size 78 (s3 0 0 0) := b2.later l3 (by have := z2.out; omega)
        have L3 : Hid (Below w.heap.size w w3) := below_chain (below_chain l1 l2 (by have := z1.out; omega)) l3 (by have := z1.out; have := z2.out; omega)
        clear b1 b2 l1 l2 l3
        go_wp2_with (refine wpList_store_blk rfl 78 78 (.tmp 4) (.tmp 28) rfl _ rfl _ (s3 (92) (16) (114)) rfl B2 rfl (s3_size _ _ _) (s3_one _ _ _) ?_; intro w4 b4 s4 k4)
        exact ret_blkt rfl w1.heap.size (s3 (92) (16) (114)) _ _ rfl rfl b4 Tryd.underlying78 rfl (s3_size _ _ _) rfl ⟨rfl, below_kept L3.out k4 (by have := z1.out; have := z2.out; have := z3.out; omega) (fun j hj => by have := z1.out; omega)⟩
      · have HE : Hid (szQ c k = 0 ∧ szP c k = 0 ∧ szR c k = 0 ∧ szE c k = 253) := by show _ ∧ _; simp [szQ, szP, szR, szE, hok, h1, h2]
        have n1 : (k == 1) = false := by simpa using h1
        have n2 : (k == 2) = false := by simpa using h2
        rw [HE.out.1, HE.out.2.1, HE.out.2.2.1, HE.out.2.2.2]
        clear hok HE hm h1 h2
        go_enter Tryd.func53, Tryd.ntmps53
        go_wp2_with (first | ((with_reducible show wpList _ _ _ (({ dst := some 2, op := _, type := _, pos := _, after := _, guard := _ } : Oper) :: _) _ _); refine wpList_box_new rfl 23 _ rfl c.cs rfl ?_; intro w1 b1 s1 l1; have z1 : Hid (w1.heap.size = w.heap.size + 1) := s1; clear s1) | ((with_reducible show wpList _ _ _ (({ dst := some 4, op := _, type := _, pos := _, after := _, guard := _ } : Oper) :: _) _ _); refine wpList_alloc_new rfl 78 rfl 3 _ s3_zero ?_; intro w2 b2 s2 l2; have z2 : Hid (w2.heap.size = w1.heap.size + 1) := s2; clear s2) | ((with_reducible show wpList _ _ _ (({ dst := some 7, op := _, type := _, pos := _, after := _, guard := _ } : Oper) :: _) _ _); refine wpList_load_blk rfl 23 (.tmp 2) rfl _ rfl c.cs _ (b1.later l2 (by have := z1.out; omega)) Tryd.underlying23 rfl (cg_size c) ?_))
        refine (HC.out _).mono ?_
        rintro e w3 ⟨rfl, l3⟩
        have z3 : Hid (w2.heap.size ≤ w3.heap.size) := l3.size
        have c1 : w3.cell? ⟨w.heap.size, 1, none⟩ = some (.int .i64 c.ms) := by
          have B : Blk w3 w.heap.size 23 c.cs := (b1.later l2 (by have := z1.out; omega)).later l3 (by have := z1.out; have := z2.out; omega)
          rw [B.cell]; rfl
        have B2 : Blk w3 w1.heap.size 78 (s3 0 0 0) := b2.later l3 (by have := z2.out; omega)
        have L3 : Hid (Below w.heap.size w w3) := below_chain (below_chain l1 l2 (by have := z1.out; omega)) l3 (by have := z1.out; have := z2.out; omega)
        clear b1 b2 l1 l2 l3
        go_wp2_with (refine wpList_store_blk rfl 78 78 (.tmp 4) (.tmp 29) rfl _ rfl _ (s3 (0) (0) (0)) rfl B2 rfl (s3_size _ _ _) (s3_one _ _ _) ?_; intro w4 b4 s4 k4)
        exact ret_blkt rfl w1.heap.size (s3 (0) (0) (0)) _ _ rfl rfl b4 Tryd.underlying78 rfl (s3_size _ _ _) rfl ⟨rfl, below_kept L3.out k4 (by have := z1.out; have := z2.out; have := z3.out; omega) (fun j hj => by have := z1.out; omega)⟩
end Go.Proofs.YtmgkjldjeomcmaaDoor
