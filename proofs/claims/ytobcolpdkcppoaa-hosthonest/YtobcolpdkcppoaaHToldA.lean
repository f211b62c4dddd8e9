/- Layer host: the statements' told, sameTold, sameLog, fits, last. -/
import Derived.Test.YtobcolpdkcppoaaHEq
import Derived.Test.YtobcolpdkcppoaaDCopy
namespace Go.Proofs.Ytobcolpdkcppoaa
open Go.RowKit
set_option linter.unusedVariables false
set_option linter.unusedSimpArgs false

/-- A step as it stands: Do, Page, V, Data. -/
structure Stp1 where
  d : Int
  p : Int
  v : Int
  z : List Int
instance : Inhabited Stp1 := ⟨⟨0, 0, 0, []⟩⟩
def stC (s : Stp1) (ao : Option Addr) (c : Nat) : List Value := [.int .i64 s.d, .int .i64 s.p, .int .u64 s.v, .slice ao s.z.length c]
def tdC (b : Value) (v e : Int) : List Value := [b, .int .u64 v, .int .i64 e]
theorem zeroTd : (Try.prog.info? 43).map (fun i => (i.zero, i.size)) = some (some (.agg (tdC (.slice none 0 0) 0 0).toArray), 3) := by kernel_rfl
theorem sizeTd (b : Value) (v e : Int) : (Try.prog.info? 43).map (·.size) = some (tdC b v e).length := by show _ = some 3; kernel_rfl
theorem zeroSt : (Try.prog.info? 34).map (fun i => (i.zero, i.size)) = some (some (.agg (stC default none 0).toArray), 4) := by kernel_rfl
theorem sizeSt (s : Stp1) (ao : Option Addr) (c : Nat) : (Try.prog.info? 34).map (·.size) = some (stC s ao c).length := by show _ = some 4; kernel_rfl
theorem stC_one (s : Stp1) (ao : Option Addr) (c : Nat) : ∀ v ∈ stC s ao c, v.oneCell' = true := by
  intro v hv
  simp only [stC, List.mem_cons, List.not_mem_nil, or_false] at hv
  rcases hv with rfl | rfl | rfl | rfl <;> rfl
theorem tdC_one (ao : Option Addr) (n c : Nat) (v e : Int) : ∀ x ∈ tdC (.slice ao n c) v e, x.oneCell' = true := by
  intro x hx
  simp only [tdC, List.mem_cons, List.not_mem_nil, or_false] at hx
  rcases hx with rfl | rfl | rfl <;> rfl
theorem build_td0 (ao : Option Addr) (n c : Nat) (e : Int) (w : World) : (Instr.build 43 #[(0, .slice ao n c), (2, .int .i64 e)]).run Try.prog w = .ok (.agg (tdC (.slice ao n c) 0 e).toArray) w := by kernel_rfl
theorem build_td1 (e : Int) (w : World) : (Instr.build 43 #[(2, .int .i64 e)]).run Try.prog w = .ok (.agg (tdC (.slice none 0 0) 0 e).toArray) w := by kernel_rfl
theorem build_td2 (v e : Int) (w : World) : (Instr.build 43 #[(1, .int .u64 v), (2, .int .i64 e)]).run Try.prog w = .ok (.agg (tdC (.slice none 0 0) v e).toArray) w := by kernel_rfl
theorem build_td3 (ao : Option Addr) (n c : Nat) (w : World) : (Instr.build 43 #[(0, .slice ao n c)]).run Try.prog w = .ok (.agg (tdC (.slice ao n c) 0 0).toArray) w := by kernel_rfl
theorem build_td4 (w : World) : (Instr.build 43 #[]).run Try.prog w = .ok (.agg (tdC (.slice none 0 0) 0 0).toArray) w := by kernel_rfl
def tdS (s : HSt) (t : Stp1) : HSt :=
  if t.d = 1 then (if hasP s t.p = true then s.opS id ⟨0, t.p, s.size, List.replicate 12 0⟩ else s)
  else if t.d = 2 then wrS s t.p t.z.length t.z
  else if t.d = 3 then s.opS id (tcA 2)
  else if t.d = 4 then s.opS (raiseF t.v) (tcA 3)
  else if t.d = 5 then { s with down := false }
  else s
def tdB (s : HSt) (t : Stp1) : List Int :=
  if t.d = 1 then (if hasP s t.p = true ∧ s.opE = 0 then spoL s t.p.toNat (s.coming s.ops) else []) else if t.d = 7 then (if hasP s t.p = true then agoL s t.p.toNat 0 else []) else []
def tdV (s : HSt) (t : Stp1) : Int := if t.d = 3 then (if s.opE = 0 then s.reg else 0) else 0
def tdE (s : HSt) (t : Stp1) : Int :=
  if t.d = 1 then (if hasP s t.p = true then s.opE else 2) else if t.d = 2 then wrE s t.p t.z.length else if t.d = 3 then s.opE else if t.d = 4 then (if s.opE = 0 ∧ t.v ≤ s.reg then 111 else s.opE) else 0
/-- Bytes that were answered: none, or a new row outside the footprint. -/
def AnsB (w0 : World) (M2 : Nat → Prop) (w' : World) (v : Value) (z : List Int) : Prop :=
  (v = .slice none 0 0 ∧ z = []) ∨ ∃ g, v = .slice (some ⟨g, 0, none⟩) z.length z.length ∧ Blk w' g 5 (u8s z) ∧ ¬ M2 g ∧ w0.heap.size ≤ g ∧ Bytes z ∧ z.length ≤ 4124
theorem AnsB.kept {w0 : World} {M2 S : Nat → Prop} {w w' : World} {v : Value} {z : List Int} (h : AnsB w0 M2 w v z) (hk : Kept S w w') (hS : ∀ b vs, Blk w b 5 vs → w0.heap.size ≤ b → ¬ M2 b → ¬ S b) : AnsB w0 M2 w' v z := by
  rcases h with h | ⟨g, e, b, n, o, r⟩
  · exact .inl h
  · exact .inr ⟨g, e, b.kept hk (hS g _ b o n), n, o, r⟩
theorem AnsB.seen {w0 : World} {M2 : Nat → Prop} {w : World} {v : Value} {z : List Int} (h : AnsB w0 M2 w v z) : ∃ a c, v = .slice a z.length c ∧ Seen w a z.length z := by
  rcases h with ⟨rfl, rfl⟩ | ⟨g, rfl, b, _, _, hb, hl⟩
  · exact ⟨none, 0, rfl, Seen.empty _ _⟩
  · exact ⟨_, _, rfl, seen_blk b hb (by omega)⟩
theorem AnsB.shape {w0 : World} {M2 : Nat → Prop} {w : World} {v : Value} {z : List Int} (h : AnsB w0 M2 w v z) : ∃ a n c, v = .slice a n c := by
  obtain ⟨a, c, e, _⟩ := h.seen
  exact ⟨a, _, c, e⟩
theorem goes_store {M M2 : Nat → Prop} {w w3 w4 : World} (go : Goes M M2 w w3) {tb : Nat} (k : Kept (fun j => j = tb) w3 w4) (ht : w.heap.size ≤ tb) : Goes M M2 w w4 :=
  ⟨go.sub, go.new, ⟨k.os.trans go.kept.os, k.tape.trans go.kept.tape, k.output.trans go.kept.output, Nat.le_trans go.kept.size k.size, fun j hj hM => (k.block j (Nat.lt_of_lt_of_le hj go.kept.size) (by omega)).trans (go.kept.block j hj hM)⟩⟩
theorem hasP_nat {s : HSt} {p : Int} (h : hasP s p = true) : ∃ q : Nat, p = (q : Int) ∧ q < s.pages := by
  simp [hasP] at h
  exact ⟨p.toNat, by omega, by omega⟩
/-- What told answers, and the host behind it. -/
def ToldP (h : Nat) (M : Nat → Prop) (s : HSt) (t : Stp1) (w : World) (e : Ending) (w' : World) : Prop :=
  ∃ v M2, e = .returned (.agg (tdC v (tdV s t) (tdE s t)).toArray) ∧ AnsB w M2 w' v (tdB s t) ∧ HostAt w' M2 h (tdS s t) ∧ Goes M M2 w w'
theorem toldP_mk {h : Nat} {M M2 : Nat → Prop} {s s' : HSt} {t : Stp1} {w w3 w4 : World} {v : Value} {V E : Int} {z : List Int} (tb : Nat) (ts : List Value) (hV : tdV s t = V) (hE : tdE s t = E) (hZ : tdB s t = z) (hS : tdS s t = s') (a : AnsB w M2 w3 v z) (x : HostAt w3 M2 h s') (go : Goes M M2 w w3) (b : Blk w3 tb 43 ts) (nb : ¬ M2 tb) (hb : w.heap.size ≤ tb) (k : Kept (fun j => j = tb) w3 w4) :
    ToldP h M s t w (.returned (.agg (tdC v V E).toArray)) w4 :=
  ⟨v, M2, by rw [hV, hE], by rw [hZ]; exact a.kept k (fun c vs hc _ _ => blk_ne hc b (by decide)), by rw [hS]; exact x.frame (Same.kept k (fun j hj => ⟨x.all j hj, fun e => nb (e ▸ hj)⟩)), goes_store go k hb⟩
set_option maxRecDepth 20000 in
set_option maxHeartbeats 2000000 in
theorem told_read (h : Nat) (s : HSt) (t : Stp1) (ao : Option Addr) (c : Nat) (M : Nat → Prop) (w : World) (x : HostAt w M h s) (hops : s.ops < 3000000000000) (hd : t.d = 1) (hp : hasP s t.p = true) :
    Calls Try.prog 13 #[.pointer (some ⟨h, 0, none⟩), .agg (stC t ao c).toArray] w (ToldP h M s t w) := by
  have X : Hid (HostAt w M h s ∧ s.ops < 3000000000000) := ⟨x, hops⟩
  have AM : Hid (∀ k, M k → k < w.heap.size) := x.all
  obtain ⟨q, hq, hqp⟩ := hasP_nat hp
  have HQ : Hid (t.p = (q : Int) ∧ q < s.pages) := ⟨hq, hqp⟩
  have D : Hid (tdS s t = s.opS id ⟨0, q, s.size, List.replicate 12 0⟩ ∧ tdV s t = 0 ∧ tdE s t = s.opE ∧ tdB s t = if s.opE = 0 then spoL s q (s.coming s.ops) else []) := by
    refine ⟨?_, ?_, ?_, ?_⟩
    · rw [tdS, if_pos hd, if_pos hp, hq]
    · rw [tdV, if_neg (by omega)]
    · rw [tdE, if_pos hd, if_pos hp]
    · rw [tdB, if_pos hd, hq, Int.toNat_natCast]
      by_cases e : s.opE = 0
      · rw [if_pos ⟨by rw [← hq]; exact hp, e⟩, if_pos e]
      · rw [if_neg (fun h => e h.2), if_neg e]
  have q1 : (t.d == 1) = true := by simp [hd]
  clear hd hp hq hqp x hops
  go_enter Try.func13, Try.ntmps13
  go_wp2_with (first | ((with_reducible show wpList _ _ _ (({ dst := some 3, op := _, type := _, pos := _, after := _, guard := _ } : Oper) :: _) _ _); refine wpList_box_new rfl 34 _ rfl (stC t ao c) rfl ?_; intro w1 b1 s1 l1; have z1 : Hid (w1.heap.size = w.heap.size + 1) := s1; clear s1) | ((with_reducible show wpList _ _ _ (({ dst := some 4, op := _, type := _, pos := _, after := _, guard := _ } : Oper) :: _) _ _); refine wpList_alloc_new rfl 43 rfl 3 _ zeroTd ?_; intro w2 b2 s2 l2; have z2 : Hid (w2.heap.size = w1.heap.size + 1) := s2; clear s2; have c0 : w2.cell? ⟨w.heap.size, 0, none⟩ = some (.int .i64 t.d) := (b1.later l2 b1.lt).cell 0; have c1 : w2.cell? ⟨w.heap.size, 1, none⟩ = some (.int .i64 q) := by { rw [← HQ.out.1]; exact (b1.later l2 b1.lt).cell 1 }; have c2 : w2.cell? ⟨w.heap.size, 2, none⟩ = some (.int .u64 t.v) := (b1.later l2 b1.lt).cell 2))
  have V2 : Hid (Below w.heap.size w w2 ∧ Blk w2 w1.heap.size 43 (tdC (.slice none 0 0) 0 0) ∧ ¬ M w1.heap.size ∧ w.heap.size ≤ w1.heap.size) := ⟨below_chain l1 l2 l1.size, b2, fun e => by have := AM.out _ e; have := z1.out; omega, by have := z1.out; omega⟩
  clear b1 b2 l1 l2
  refine (read_good h s q HQ.out.2 M w2 (X.out.1.later V2.out.1) X.out.2).mono ?_
  rintro e w3 ⟨v3, rfl, M2, y3, go3, hn3, hy3⟩
  have A3 : Hid (AnsB w M2 w3 v3 (if s.opE = 0 then spoL s q (s.coming s.ops) else [])) := by
    have G : s.Good := by obtain ⟨_, _, _, _, _, _, z⟩ := X.out.1; exact z.good
    by_cases e : s.opE = 0
    · obtain ⟨g, e1, b, o, n, hb⟩ := hy3 e
      have hl := spoL_length G q (s.coming s.ops)
      have := V2.out.1.size
      have h3 : AnsB w M2 w3 v3 (spoL s q (s.coming s.ops)) := .inr ⟨g, by rw [hl]; exact e1, b, n, by omega, hb, by rw [hl]; exact G.size.2⟩
      rw [if_pos e]; exact h3
    · have h3 : AnsB w M2 w3 v3 [] := .inl ⟨hn3 e, rfl⟩
      rw [if_neg e]; exact h3
  have W3 : Hid (Blk w3 w1.heap.size 43 (tdC (.slice none 0 0) 0 0) ∧ ¬ M2 w1.heap.size ∧ HostAt w3 M2 h (s.opS id ⟨0, q, s.size, List.replicate 12 0⟩) ∧ Goes M M2 w w3) := ⟨(go3.blk V2.out.2.1 V2.out.2.2.1).1, (go3.blk V2.out.2.1 V2.out.2.2.1).2, y3, Goes.later V2.out.1 go3⟩
  obtain ⟨va, vn, vc, rfl⟩ := A3.out.shape
  obtain ⟨E, hE⟩ : ∃ q, s.opE = q := ⟨_, rfl⟩
  rw [hE]
  have HE : Hid (s.opE = E) := hE
  clear y3 go3 hn3 hy3 hE
  go_wp2_with (first | ((with_reducible show wpList _ _ _ (({ dst := some 22, op := _, type := _, pos := _, after := _, guard := _ } : Oper) :: _) _ _); refine wpList_build rfl 43 _ rfl #[(0, .slice va vn vc), (2, .int .i64 E)] (by simp [Act.eval, Act.put]) _ (build_td0 _ _ _ _ _) ?_) | (refine wpList_store_blk rfl 43 43 (.tmp 4) (.tmp 22) rfl _ rfl _ (tdC (.slice va vn vc) 0 E) rfl W3.out.1 rfl (sizeTd _ _ _) (tdC_one _ _ _ _ _) ?_; intro w4 b4 s4 k4))
  exact ret_blk rfl w1.heap.size (tdC (.slice va vn vc) 0 E) _ rfl b4 Try.underlying43 rfl (sizeTd _ _ _) rfl (toldP_mk w1.heap.size _ D.out.2.1 (D.out.2.2.1.trans HE.out) D.out.2.2.2 D.out.1 A3.out W3.out.2.2.1 W3.out.2.2.2 W3.out.1 W3.out.2.1 V2.out.2.2.2 k4)
set_option maxRecDepth 20000 in
set_option maxHeartbeats 2000000 in
theorem told_readx (h : Nat) (s : HSt) (t : Stp1) (ao : Option Addr) (c : Nat) (M : Nat → Prop) (w : World) (x : HostAt w M h s) (hops : s.ops < 3000000000000) (hd : t.d = 1) (hp : hasP s t.p = false) :
    Calls Try.prog 13 #[.pointer (some ⟨h, 0, none⟩), .agg (stC t ao c).toArray] w (ToldP h M s t w) := by
  have X : Hid (HostAt w M h s ∧ s.ops < 3000000000000) := ⟨x, hops⟩
  have AM : Hid (∀ k, M k → k < w.heap.size) := x.all
  have D : Hid (tdS s t = s ∧ tdV s t = 0 ∧ tdE s t = 2 ∧ tdB s t = []) := by
    refine ⟨?_, ?_, ?_, ?_⟩
    · rw [tdS, if_pos hd, if_neg (by rw [hp]; simp)]
    · rw [tdV, if_neg (by omega)]
    · rw [tdE, if_pos hd, if_neg (by rw [hp]; simp)]
    · rw [tdB, if_pos hd, if_neg (fun h => by rw [hp] at h; cases h.1)]
  have HP : Hid (hasP s t.p = false) := hp
  clear hp
  have q1 : (t.d == 1) = true := by simp [hd]
  clear hd x hops
  go_enter Try.func13, Try.ntmps13
  go_wp2_with (first | ((with_reducible show wpList _ _ _ (({ dst := some 3, op := _, type := _, pos := _, after := _, guard := _ } : Oper) :: _) _ _); refine wpList_box_new rfl 34 _ rfl (stC t ao c) rfl ?_; intro w1 b1 s1 l1; have z1 : Hid (w1.heap.size = w.heap.size + 1) := s1; clear s1) | ((with_reducible show wpList _ _ _ (({ dst := some 4, op := _, type := _, pos := _, after := _, guard := _ } : Oper) :: _) _ _); refine wpList_alloc_new rfl 43 rfl 3 _ zeroTd ?_; intro w2 b2 s2 l2; have z2 : Hid (w2.heap.size = w1.heap.size + 1) := s2; clear s2; have c0 : w2.cell? ⟨w.heap.size, 0, none⟩ = some (.int .i64 t.d) := (b1.later l2 b1.lt).cell 0; have c1 : w2.cell? ⟨w.heap.size, 1, none⟩ = some (.int .i64 t.p) := (b1.later l2 b1.lt).cell 1; have c2 : w2.cell? ⟨w.heap.size, 2, none⟩ = some (.int .u64 t.v) := (b1.later l2 b1.lt).cell 2))
  have V2 : Hid (Below w.heap.size w w2 ∧ Blk w2 w1.heap.size 43 (tdC (.slice none 0 0) 0 0) ∧ ¬ M w1.heap.size ∧ w.heap.size ≤ w1.heap.size) := ⟨below_chain l1 l2 l1.size, b2, fun e => by have := AM.out _ e; have := z1.out; omega, by have := z1.out; omega⟩
  clear b1 b2 l1 l2
  refine (read_bad h s t.p M w2 (X.out.1.later V2.out.1) HP.out).mono ?_
  rintro e w3 ⟨rfl, l3⟩
  have W3 : Hid (Blk w3 w1.heap.size 43 (tdC (.slice none 0 0) 0 0) ∧ ¬ M w1.heap.size ∧ HostAt w3 M h s ∧ Goes M M w w3) := ⟨V2.out.2.1.later l3 V2.out.2.1.lt, V2.out.2.2.1, (X.out.1.later V2.out.1).later l3, ⟨fun _ h => h, fun _ h => .inl h, Kept.new M (below_chain V2.out.1 l3 V2.out.1.size)⟩⟩
  clear l3
  go_wp2_with (first | ((with_reducible show wpList _ _ _ (({ dst := some 22, op := _, type := _, pos := _, after := _, guard := _ } : Oper) :: _) _ _); refine wpList_build rfl 43 _ rfl #[(0, .slice none 0 0), (2, .int .i64 2)] (by simp [Act.eval, Act.put]) _ (build_td0 _ _ _ _ _) ?_) | (refine wpList_store_blk rfl 43 43 (.tmp 4) (.tmp 22) rfl _ rfl _ (tdC (.slice none 0 0) 0 2) rfl W3.out.1 rfl (sizeTd _ _ _) (tdC_one _ _ _ _ _) ?_; intro w4 b4 s4 k4))
  exact ret_blk rfl w1.heap.size (tdC (.slice none 0 0) 0 2) _ rfl b4 Try.underlying43 rfl (sizeTd _ _ _) rfl (toldP_mk w1.heap.size _ D.out.2.1 D.out.2.2.1 D.out.2.2.2 D.out.1 (.inl ⟨rfl, rfl⟩) W3.out.2.2.1 W3.out.2.2.2 W3.out.1 W3.out.2.1 V2.out.2.2.2 k4)
set_option maxRecDepth 20000 in
set_option maxHeartbeats 2000000 in
theorem told_ask (h : Nat) (s : HSt) (t : Stp1) (ao : Option Addr) (c : Nat) (M : Nat → Prop) (w : World) (x : HostAt w M h s) (hops : s.ops < 3000000000000) (hd : t.d = 3) :
    Calls Try.prog 13 #[.pointer (some ⟨h, 0, none⟩), .agg (stC t ao c).toArray] w (ToldP h M s t w) := by
  have X : Hid (HostAt w M h s ∧ s.ops < 3000000000000) := ⟨x, hops⟩
  have AM : Hid (∀ k, M k → k < w.heap.size) := x.all
  have D : Hid (tdS s t = s.opS id (tcA 2) ∧ tdV s t = (if s.opE = 0 then s.reg else 0) ∧ tdE s t = s.opE ∧ tdB s t = []) := by
    refine ⟨?_, ?_, ?_, ?_⟩
    · rw [tdS, if_neg (by omega), if_neg (by omega), if_pos hd]
    · rw [tdV, if_pos hd]
    · rw [tdE, if_neg (by omega), if_neg (by omega), if_pos hd]
    · rw [tdB, if_neg (by omega), if_neg (by omega)]
  have q1 : (t.d == 1) = false := by simp [hd]
  have q2 : (t.d == 2) = false := by simp [hd]
  have q3 : (t.d == 3) = true := by simp [hd]
  clear hd x hops
  go_enter Try.func13, Try.ntmps13
  go_wp2_with (first | ((with_reducible show wpList _ _ _ (({ dst := some 3, op := _, type := _, pos := _, after := _, guard := _ } : Oper) :: _) _ _); refine wpList_box_new rfl 34 _ rfl (stC t ao c) rfl ?_; intro w1 b1 s1 l1; have z1 : Hid (w1.heap.size = w.heap.size + 1) := s1; clear s1) | ((with_reducible show wpList _ _ _ (({ dst := some 4, op := _, type := _, pos := _, after := _, guard := _ } : Oper) :: _) _ _); refine wpList_alloc_new rfl 43 rfl 3 _ zeroTd ?_; intro w2 b2 s2 l2; have z2 : Hid (w2.heap.size = w1.heap.size + 1) := s2; clear s2; have c0 : w2.cell? ⟨w.heap.size, 0, none⟩ = some (.int .i64 t.d) := (b1.later l2 b1.lt).cell 0; have c1 : w2.cell? ⟨w.heap.size, 1, none⟩ = some (.int .i64 t.p) := (b1.later l2 b1.lt).cell 1; have c2 : w2.cell? ⟨w.heap.size, 2, none⟩ = some (.int .u64 t.v) := (b1.later l2 b1.lt).cell 2))
  have V2 : Hid (Below w.heap.size w w2 ∧ Blk w2 w1.heap.size 43 (tdC (.slice none 0 0) 0 0) ∧ ¬ M w1.heap.size ∧ w.heap.size ≤ w1.heap.size) := ⟨below_chain l1 l2 l1.size, b2, fun e => by have := AM.out _ e; have := z1.out; omega, by have := z1.out; omega⟩
  clear b1 b2 l1 l2
  refine (ask_any h s M w2 (X.out.1.later V2.out.1) X.out.2).mono ?_
  rintro e w3 ⟨rfl, M2, y3, go3⟩
  have W3 : Hid (Blk w3 w1.heap.size 43 (tdC (.slice none 0 0) 0 0) ∧ ¬ M2 w1.heap.size ∧ HostAt w3 M2 h (s.opS id (tcA 2)) ∧ Goes M M2 w w3) := ⟨(go3.blk V2.out.2.1 V2.out.2.2.1).1, (go3.blk V2.out.2.1 V2.out.2.2.1).2, y3, Goes.later V2.out.1 go3⟩
  clear y3 go3
  obtain ⟨VV, hVV⟩ : ∃ q, (if s.opE = 0 then s.reg else 0) = q := ⟨_, rfl⟩
  obtain ⟨E, hE⟩ : ∃ q, s.opE = q := ⟨_, rfl⟩
  have HE : Hid (s.opE = E ∧ (if s.opE = 0 then s.reg else 0) = VV) := ⟨hE, hVV⟩
  rw [hVV, hE]
  clear hVV hE
  go_wp2_with (first | ((with_reducible show wpList _ _ _ (({ dst := some 42, op := _, type := _, pos := _, after := _, guard := _ } : Oper) :: _) _ _); refine wpList_build rfl 43 _ rfl #[(1, .int .u64 VV), (2, .int .i64 E)] (by simp [Act.eval, Act.put]) _ (build_td2 _ _ _) ?_) | (refine wpList_store_blk rfl 43 43 (.tmp 4) (.tmp 42) rfl _ rfl _ (tdC (.slice none 0 0) VV E) rfl W3.out.1 rfl (sizeTd _ _ _) (tdC_one _ _ _ _ _) ?_; intro w4 b4 s4 k4))
  exact ret_blk rfl w1.heap.size (tdC (.slice none 0 0) VV E) _ rfl b4 Try.underlying43 rfl (sizeTd _ _ _) rfl (toldP_mk w1.heap.size _ (D.out.2.1.trans HE.out.2) (D.out.2.2.1.trans HE.out.1) D.out.2.2.2 D.out.1 (.inl ⟨rfl, rfl⟩) W3.out.2.2.1 W3.out.2.2.2 W3.out.1 W3.out.2.1 V2.out.2.2.2 k4)
set_option maxRecDepth 20000 in
set_option maxHeartbeats 2000000 in
theorem told_raise (h : Nat) (s : HSt) (t : Stp1) (ao : Option Addr) (c : Nat) (M : Nat → Prop) (w : World) (x : HostAt w M h s) (hops : s.ops < 3000000000000) (hd : t.d = 4) (hv : Word t.v) :
    Calls Try.prog 13 #[.pointer (some ⟨h, 0, none⟩), .agg (stC t ao c).toArray] w (ToldP h M s t w) := by
  have X : Hid (HostAt w M h s ∧ s.ops < 3000000000000) := ⟨x, hops⟩
  have AM : Hid (∀ k, M k → k < w.heap.size) := x.all
  have D : Hid (tdS s t = s.opS (raiseF t.v) (tcA 3) ∧ tdV s t = 0 ∧ tdE s t = (if s.opE = 0 ∧ t.v ≤ s.reg then 111 else s.opE) ∧ tdB s t = []) := by
    refine ⟨?_, ?_, ?_, ?_⟩
    · rw [tdS, if_neg (by omega), if_neg (by omega), if_neg (by omega), if_pos hd]
    · rw [tdV, if_neg (by omega)]
    · rw [tdE, if_neg (by omega), if_neg (by omega), if_neg (by omega), if_pos hd]
    · rw [tdB, if_neg (by omega), if_neg (by omega)]
  have q1 : (t.d == 1) = false := by simp [hd]
  have q2 : (t.d == 2) = false := by simp [hd]
  have q3 : (t.d == 3) = false := by simp [hd]
  have q4 : (t.d == 4) = true := by simp [hd]
  clear hd x hops
  go_enter Try.func13, Try.ntmps13
  go_wp2_with (first | ((with_reducible show wpList _ _ _ (({ dst := some 3, op := _, type := _, pos := _, after := _, guard := _ } : Oper) :: _) _ _); refine wpList_box_new rfl 34 _ rfl (stC t ao c) rfl ?_; intro w1 b1 s1 l1; have z1 : Hid (w1.heap.size = w.heap.size + 1) := s1; clear s1) | ((with_reducible show wpList _ _ _ (({ dst := some 4, op := _, type := _, pos := _, after := _, guard := _ } : Oper) :: _) _ _); refine wpList_alloc_new rfl 43 rfl 3 _ zeroTd ?_; intro w2 b2 s2 l2; have z2 : Hid (w2.heap.size = w1.heap.size + 1) := s2; clear s2; have c0 : w2.cell? ⟨w.heap.size, 0, none⟩ = some (.int .i64 t.d) := (b1.later l2 b1.lt).cell 0; have c1 : w2.cell? ⟨w.heap.size, 1, none⟩ = some (.int .i64 t.p) := (b1.later l2 b1.lt).cell 1; have c2 : w2.cell? ⟨w.heap.size, 2, none⟩ = some (.int .u64 t.v) := (b1.later l2 b1.lt).cell 2))
  have V2 : Hid (Below w.heap.size w w2 ∧ Blk w2 w1.heap.size 43 (tdC (.slice none 0 0) 0 0) ∧ ¬ M w1.heap.size ∧ w.heap.size ≤ w1.heap.size) := ⟨below_chain l1 l2 l1.size, b2, fun e => by have := AM.out _ e; have := z1.out; omega, by have := z1.out; omega⟩
  clear b1 b2 l1 l2
  refine (raise_any h s t.v hv M w2 (X.out.1.later V2.out.1) X.out.2).mono ?_
  rintro e w3 ⟨rfl, M2, y3, go3⟩
  have W3 : Hid (Blk w3 w1.heap.size 43 (tdC (.slice none 0 0) 0 0) ∧ ¬ M2 w1.heap.size ∧ HostAt w3 M2 h (s.opS (raiseF t.v) (tcA 3)) ∧ Goes M M2 w w3) := ⟨(go3.blk V2.out.2.1 V2.out.2.2.1).1, (go3.blk V2.out.2.1 V2.out.2.2.1).2, y3, Goes.later V2.out.1 go3⟩
  clear y3 go3
  obtain ⟨E, hE⟩ : ∃ q, (if s.opE = 0 ∧ t.v ≤ s.reg then 111 else s.opE) = q := ⟨_, rfl⟩
  have HE : Hid ((if s.opE = 0 ∧ t.v ≤ s.reg then 111 else s.opE) = E) := hE
  rw [hE]
  clear hE
  go_wp2_with (first | ((with_reducible show wpList _ _ _ (({ dst := some 49, op := _, type := _, pos := _, after := _, guard := _ } : Oper) :: _) _ _); refine wpList_build rfl 43 _ rfl #[(2, .int .i64 E)] (by simp [Act.eval, Act.put]) _ (build_td1 _ _) ?_) | (refine wpList_store_blk rfl 43 43 (.tmp 4) (.tmp 49) rfl _ rfl _ (tdC (.slice none 0 0) 0 E) rfl W3.out.1 rfl (sizeTd _ _ _) (tdC_one _ _ _ _ _) ?_; intro w4 b4 s4 k4))
  exact ret_blk rfl w1.heap.size (tdC (.slice none 0 0) 0 E) _ rfl b4 Try.underlying43 rfl (sizeTd _ _ _) rfl (toldP_mk w1.heap.size _ D.out.2.1 (D.out.2.2.1.trans HE.out) D.out.2.2.2 D.out.1 (.inl ⟨rfl, rfl⟩) W3.out.2.2.1 W3.out.2.2.2 W3.out.1 W3.out.2.1 V2.out.2.2.2 k4)
set_option maxRecDepth 20000 in
set_option maxHeartbeats 2000000 in
theorem told_restart (h : Nat) (s : HSt) (t : Stp1) (ao : Option Addr) (c : Nat) (M : Nat → Prop) (w : World) (x : HostAt w M h s) (hops : s.ops < 3000000000000) (hd : t.d = 5) :
    Calls Try.prog 13 #[.pointer (some ⟨h, 0, none⟩), .agg (stC t ao c).toArray] w (ToldP h M s t w) := by
  have X : Hid (HostAt w M h s ∧ s.ops < 3000000000000) := ⟨x, hops⟩
  have AM : Hid (∀ k, M k → k < w.heap.size) := x.all
  have D : Hid (tdS s t = { s with down := false } ∧ tdV s t = 0 ∧ tdE s t = 0 ∧ tdB s t = []) := by
    refine ⟨?_, ?_, ?_, ?_⟩
    · rw [tdS, if_neg (by omega), if_neg (by omega), if_neg (by omega), if_neg (by omega), if_pos hd]
    · rw [tdV, if_neg (by omega)]
    · rw [tdE, if_neg (by omega), if_neg (by omega), if_neg (by omega), if_neg (by omega)]
    · rw [tdB, if_neg (by omega), if_neg (by omega)]
  have q1 : (t.d == 1) = false := by simp [hd]
  have q2 : (t.d == 2) = false := by simp [hd]
  have q3 : (t.d == 3) = false := by simp [hd]
  have q4 : (t.d == 4) = false := by simp [hd]
  have q5 : (t.d == 5) = true := by simp [hd]
  clear hd x hops
  go_enter Try.func13, Try.ntmps13
  go_wp2_with (first | ((with_reducible show wpList _ _ _ (({ dst := some 3, op := _, type := _, pos := _, after := _, guard := _ } : Oper) :: _) _ _); refine wpList_box_new rfl 34 _ rfl (stC t ao c) rfl ?_; intro w1 b1 s1 l1; have z1 : Hid (w1.heap.size = w.heap.size + 1) := s1; clear s1) | ((with_reducible show wpList _ _ _ (({ dst := some 4, op := _, type := _, pos := _, after := _, guard := _ } : Oper) :: _) _ _); refine wpList_alloc_new rfl 43 rfl 3 _ zeroTd ?_; intro w2 b2 s2 l2; have z2 : Hid (w2.heap.size = w1.heap.size + 1) := s2; clear s2; have c0 : w2.cell? ⟨w.heap.size, 0, none⟩ = some (.int .i64 t.d) := (b1.later l2 b1.lt).cell 0; have c1 : w2.cell? ⟨w.heap.size, 1, none⟩ = some (.int .i64 t.p) := (b1.later l2 b1.lt).cell 1; have c2 : w2.cell? ⟨w.heap.size, 2, none⟩ = some (.int .u64 t.v) := (b1.later l2 b1.lt).cell 2))
  have V2 : Hid (Below w.heap.size w w2 ∧ Blk w2 w1.heap.size 43 (tdC (.slice none 0 0) 0 0) ∧ ¬ M w1.heap.size ∧ w.heap.size ≤ w1.heap.size) := ⟨below_chain l1 l2 l1.size, b2, fun e => by have := AM.out _ e; have := z1.out; omega, by have := z1.out; omega⟩
  clear b1 b2 l1 l2
  refine (restart_any h s M w2 (X.out.1.later V2.out.1)).mono ?_
  rintro e w3 ⟨rfl, y3, k3⟩
  have W3 : Hid (Blk w3 w1.heap.size 43 (tdC (.slice none 0 0) 0 0) ∧ ¬ M w1.heap.size ∧ HostAt w3 M h { s with down := false } ∧ Goes M M w w3) := by
    have mh : M h := by obtain ⟨_, _, _, _, _, _, q⟩ := X.out.1; exact q.mh
    have hh := AM.out h mh
    exact ⟨V2.out.2.1.kept k3 (by have := z1.out; omega), V2.out.2.2.1, y3, Goes.later V2.out.1 ⟨fun _ h => h, fun _ h => .inl h, k3.mono (fun k e => by rw [e]; exact mh)⟩⟩
  clear y3 k3
  go_wp2_with (first | ((with_reducible show wpList _ _ _ (({ dst := some 61, op := _, type := _, pos := _, after := _, guard := _ } : Oper) :: _) _ _); refine wpList_build rfl 43 _ rfl #[] (by simp [Act.eval, Act.put]) _ (build_td4 _) ?_) | (refine wpList_store_blk rfl 43 43 (.tmp 4) (.tmp 61) rfl _ rfl _ (tdC (.slice none 0 0) 0 0) rfl W3.out.1 rfl (sizeTd _ _ _) (tdC_one _ _ _ _ _) ?_; intro w4 b4 s4 k4))
  exact ret_blk rfl w1.heap.size (tdC (.slice none 0 0) 0 0) _ rfl b4 Try.underlying43 rfl (sizeTd _ _ _) rfl (toldP_mk w1.heap.size _ D.out.2.1 D.out.2.2.1 D.out.2.2.2 D.out.1 (.inl ⟨rfl, rfl⟩) W3.out.2.2.1 W3.out.2.2.2 W3.out.1 W3.out.2.1 V2.out.2.2.2 k4)
set_option maxRecDepth 20000 in
set_option maxHeartbeats 2000000 in
theorem told_lies (h : Nat) (s : HSt) (t : Stp1) (ao : Option Addr) (c : Nat) (M : Nat → Prop) (w : World) (x : HostAt w M h s) (hops : s.ops < 3000000000000) (hd : t.d = 7) (hp : hasP s t.p = true) :
    Calls Try.prog 13 #[.pointer (some ⟨h, 0, none⟩), .agg (stC t ao c).toArray] w (ToldP h M s t w) := by
  have X : Hid (HostAt w M h s ∧ s.ops < 3000000000000) := ⟨x, hops⟩
  have AM : Hid (∀ k, M k → k < w.heap.size) := x.all
  obtain ⟨q, hq, hqp⟩ := hasP_nat hp
  have HQ : Hid (t.p = (q : Int) ∧ q < s.pages) := ⟨hq, hqp⟩
  have D : Hid (tdS s t = s ∧ tdV s t = 0 ∧ tdE s t = 0 ∧ tdB s t = agoL s q 0) := by
    refine ⟨?_, ?_, ?_, ?_⟩
    · rw [tdS, if_neg (by omega), if_neg (by omega), if_neg (by omega), if_neg (by omega), if_neg (by omega)]
    · rw [tdV, if_neg (by omega)]
    · rw [tdE, if_neg (by omega), if_neg (by omega), if_neg (by omega), if_neg (by omega)]
    · rw [tdB, if_neg (by omega), if_pos hd, if_pos hp, hq, Int.toNat_natCast]
  clear hp hq hqp
  have q1 : (t.d == 1) = false := by simp [hd]
  have q2 : (t.d == 2) = false := by simp [hd]
  have q3 : (t.d == 3) = false := by simp [hd]
  have q4 : (t.d == 4) = false := by simp [hd]
  have q5 : (t.d == 5) = false := by simp [hd]
  have q7 : (t.d == 7) = true := by simp [hd]
  clear hd x hops
  go_enter Try.func13, Try.ntmps13
  go_wp2_with (first | ((with_reducible show wpList _ _ _ (({ dst := some 3, op := _, type := _, pos := _, after := _, guard := _ } : Oper) :: _) _ _); refine wpList_box_new rfl 34 _ rfl (stC t ao c) rfl ?_; intro w1 b1 s1 l1; have z1 : Hid (w1.heap.size = w.heap.size + 1) := s1; clear s1) | ((with_reducible show wpList _ _ _ (({ dst := some 4, op := _, type := _, pos := _, after := _, guard := _ } : Oper) :: _) _ _); refine wpList_alloc_new rfl 43 rfl 3 _ zeroTd ?_; intro w2 b2 s2 l2; have z2 : Hid (w2.heap.size = w1.heap.size + 1) := s2; clear s2; have c0 : w2.cell? ⟨w.heap.size, 0, none⟩ = some (.int .i64 t.d) := (b1.later l2 b1.lt).cell 0; have c1 : w2.cell? ⟨w.heap.size, 1, none⟩ = some (.int .i64 q) := by { rw [← HQ.out.1]; exact (b1.later l2 b1.lt).cell 1 }; have c2 : w2.cell? ⟨w.heap.size, 2, none⟩ = some (.int .u64 t.v) := (b1.later l2 b1.lt).cell 2))
  have V2 : Hid (Below w.heap.size w w2 ∧ Blk w2 w1.heap.size 43 (tdC (.slice none 0 0) 0 0) ∧ ¬ M w1.heap.size ∧ w.heap.size ≤ w1.heap.size) := ⟨below_chain l1 l2 l1.size, b2, fun e => by have := AM.out _ e; have := z1.out; omega, by have := z1.out; omega⟩
  clear b1 b2 l1 l2
  refine (lies_good h s q HQ.out.2 M w2 (X.out.1.later V2.out.1)).mono ?_
  rintro e w3 ⟨v3, rfl, n3, l3⟩
  have A3 : Hid (AnsB w M w3 v3 (agoL s q 0)) := by
    have G : s.Good := by obtain ⟨_, _, _, _, _, _, z⟩ := X.out.1; exact z.good
    obtain ⟨g, e1, b, o, hb⟩ := n3
    have hl := agoL_length G q 0
    have := V2.out.1.size
    exact .inr ⟨g, e1, b, fun e => by have := AM.out g e; omega, by omega, hb, by rw [hl]; exact G.size.2⟩
  obtain ⟨va, vn, vc, rfl⟩ := A3.out.shape
  clear n3
  have W3 : Hid (Blk w3 w1.heap.size 43 (tdC (.slice none 0 0) 0 0) ∧ ¬ M w1.heap.size ∧ HostAt w3 M h s ∧ Goes M M w w3) := ⟨V2.out.2.1.later l3 V2.out.2.1.lt, V2.out.2.2.1, (X.out.1.later V2.out.1).later l3, ⟨fun _ h => h, fun _ h => .inl h, Kept.new M (below_chain V2.out.1 l3 V2.out.1.size)⟩⟩
  clear l3
  go_wp2_with (first | ((with_reducible show wpList _ _ _ (({ dst := some 60, op := _, type := _, pos := _, after := _, guard := _ } : Oper) :: _) _ _); refine wpList_build rfl 43 _ rfl #[(0, .slice va vn vc)] (by simp [Act.eval, Act.put]) _ (build_td3 _ _ _ _) ?_) | (refine wpList_store_blk rfl 43 43 (.tmp 4) (.tmp 60) rfl _ rfl _ (tdC (.slice va vn vc) 0 0) rfl W3.out.1 rfl (sizeTd _ _ _) (tdC_one _ _ _ _ _) ?_; intro w4 b4 s4 k4))
  exact ret_blk rfl w1.heap.size (tdC (.slice va vn vc) 0 0) _ rfl b4 Try.underlying43 rfl (sizeTd _ _ _) rfl (toldP_mk w1.heap.size _ D.out.2.1 D.out.2.2.1 D.out.2.2.2 D.out.1 A3.out W3.out.2.2.1 W3.out.2.2.2 W3.out.1 W3.out.2.1 V2.out.2.2.2 k4)
set_option maxRecDepth 20000 in
set_option maxHeartbeats 2000000 in
theorem told_liesx (h : Nat) (s : HSt) (t : Stp1) (ao : Option Addr) (c : Nat) (M : Nat → Prop) (w : World) (x : HostAt w M h s) (hops : s.ops < 3000000000000) (hd : t.d = 7) (hp : hasP s t.p = false) :
    Calls Try.prog 13 #[.pointer (some ⟨h, 0, none⟩), .agg (stC t ao c).toArray] w (ToldP h M s t w) := by
  have X : Hid (HostAt w M h s ∧ s.ops < 3000000000000) := ⟨x, hops⟩
  have AM : Hid (∀ k, M k → k < w.heap.size) := x.all
  have D : Hid (tdS s t = s ∧ tdV s t = 0 ∧ tdE s t = 0 ∧ tdB s t = []) := by
    refine ⟨?_, ?_, ?_, ?_⟩
    · rw [tdS, if_neg (by omega), if_neg (by omega), if_neg (by omega), if_neg (by omega), if_neg (by omega)]
    · rw [tdV, if_neg (by omega)]
    · rw [tdE, if_neg (by omega), if_neg (by omega), if_neg (by omega), if_neg (by omega)]
    · rw [tdB, if_neg (by omega), if_pos hd, if_neg (by rw [hp]; simp)]
  have HP : Hid (hasP s t.p = false) := hp
  clear hp
  have q1 : (t.d == 1) = false := by simp [hd]
  have q2 : (t.d == 2) = false := by simp [hd]
  have q3 : (t.d == 3) = false := by simp [hd]
  have q4 : (t.d == 4) = false := by simp [hd]
  have q5 : (t.d == 5) = false := by simp [hd]
  have q7 : (t.d == 7) = true := by simp [hd]
  clear hd x hops
  go_enter Try.func13, Try.ntmps13
  go_wp2_with (first | ((with_reducible show wpList _ _ _ (({ dst := some 3, op := _, type := _, pos := _, after := _, guard := _ } : Oper) :: _) _ _); refine wpList_box_new rfl 34 _ rfl (stC t ao c) rfl ?_; intro w1 b1 s1 l1; have z1 : Hid (w1.heap.size = w.heap.size + 1) := s1; clear s1) | ((with_reducible show wpList _ _ _ (({ dst := some 4, op := _, type := _, pos := _, after := _, guard := _ } : Oper) :: _) _ _); refine wpList_alloc_new rfl 43 rfl 3 _ zeroTd ?_; intro w2 b2 s2 l2; have z2 : Hid (w2.heap.size = w1.heap.size + 1) := s2; clear s2; have c0 : w2.cell? ⟨w.heap.size, 0, none⟩ = some (.int .i64 t.d) := (b1.later l2 b1.lt).cell 0; have c1 : w2.cell? ⟨w.heap.size, 1, none⟩ = some (.int .i64 t.p) := (b1.later l2 b1.lt).cell 1; have c2 : w2.cell? ⟨w.heap.size, 2, none⟩ = some (.int .u64 t.v) := (b1.later l2 b1.lt).cell 2))
  have V2 : Hid (Below w.heap.size w w2 ∧ Blk w2 w1.heap.size 43 (tdC (.slice none 0 0) 0 0) ∧ ¬ M w1.heap.size ∧ w.heap.size ≤ w1.heap.size) := ⟨below_chain l1 l2 l1.size, b2, fun e => by have := AM.out _ e; have := z1.out; omega, by have := z1.out; omega⟩
  clear b1 b2 l1 l2
  refine (lies_bad h s t.p M w2 (X.out.1.later V2.out.1) HP.out).mono ?_
  rintro e w3 ⟨rfl, rfl⟩
  have W3 : Hid (Blk w2 w1.heap.size 43 (tdC (.slice none 0 0) 0 0) ∧ ¬ M w1.heap.size ∧ HostAt w2 M h s ∧ Goes M M w w2) := ⟨V2.out.2.1, V2.out.2.2.1, X.out.1.later V2.out.1, ⟨fun _ h => h, fun _ h => .inl h, Kept.new M V2.out.1⟩⟩
  go_wp2_with (first | ((with_reducible show wpList _ _ _ (({ dst := some 60, op := _, type := _, pos := _, after := _, guard := _ } : Oper) :: _) _ _); refine wpList_build rfl 43 _ rfl #[(0, .slice none 0 0)] (by simp [Act.eval, Act.put]) _ (build_td3 _ _ _ _) ?_) | (refine wpList_store_blk rfl 43 43 (.tmp 4) (.tmp 60) rfl _ rfl _ (tdC (.slice none 0 0) 0 0) rfl W3.out.1 rfl (sizeTd _ _ _) (tdC_one _ _ _ _ _) ?_; intro w4 b4 s4 k4))
  exact ret_blk rfl w1.heap.size (tdC (.slice none 0 0) 0 0) _ rfl b4 Try.underlying43 rfl (sizeTd _ _ _) rfl (toldP_mk w1.heap.size _ D.out.2.1 D.out.2.2.1 D.out.2.2.2 D.out.1 (.inl ⟨rfl, rfl⟩) W3.out.2.2.1 W3.out.2.2.2 W3.out.1 W3.out.2.1 V2.out.2.2.2 k4)
set_option maxRecDepth 20000 in
set_option maxHeartbeats 2000000 in
theorem told_else (h : Nat) (s : HSt) (t : Stp1) (ao : Option Addr) (c : Nat) (M : Nat → Prop) (w : World) (x : HostAt w M h s) (hops : s.ops < 3000000000000) (hd : t.d ≠ 1 ∧ t.d ≠ 2 ∧ t.d ≠ 3 ∧ t.d ≠ 4 ∧ t.d ≠ 5 ∧ t.d ≠ 7) :
    Calls Try.prog 13 #[.pointer (some ⟨h, 0, none⟩), .agg (stC t ao c).toArray] w (ToldP h M s t w) := by
  have X : Hid (HostAt w M h s ∧ s.ops < 3000000000000) := ⟨x, hops⟩
  have AM : Hid (∀ k, M k → k < w.heap.size) := x.all
  have D : Hid (tdS s t = s ∧ tdV s t = 0 ∧ tdE s t = 0 ∧ tdB s t = []) := by
    refine ⟨?_, ?_, ?_, ?_⟩
    · rw [tdS, if_neg (by omega), if_neg (by omega), if_neg (by omega), if_neg (by omega), if_neg (by omega)]
    · rw [tdV, if_neg (by omega)]
    · rw [tdE, if_neg (by omega), if_neg (by omega), if_neg (by omega), if_neg (by omega)]
    · rw [tdB, if_neg (by omega), if_neg (by omega)]
  have q1 : (t.d == 1) = false := by simp [hd]
  have q2 : (t.d == 2) = false := by simp [hd]
  have q3 : (t.d == 3) = false := by simp [hd]
  have q4 : (t.d == 4) = false := by simp [hd]
  have q5 : (t.d == 5) = false := by simp [hd]
  have q7 : (t.d == 7) = false := by simp [hd]
  clear hd x hops
  go_enter Try.func13, Try.ntmps13
  go_wp2_with (first | ((with_reducible show wpList _ _ _ (({ dst := some 3, op := _, type := _, pos := _, after := _, guard := _ } : Oper) :: _) _ _); refine wpList_box_new rfl 34 _ rfl (stC t ao c) rfl ?_; intro w1 b1 s1 l1; have z1 : Hid (w1.heap.size = w.heap.size + 1) := s1; clear s1) | ((with_reducible show wpList _ _ _ (({ dst := some 4, op := _, type := _, pos := _, after := _, guard := _ } : Oper) :: _) _ _); refine wpList_alloc_new rfl 43 rfl 3 _ zeroTd ?_; intro w2 b2 s2 l2; have z2 : Hid (w2.heap.size = w1.heap.size + 1) := s2; clear s2; have c0 : w2.cell? ⟨w.heap.size, 0, none⟩ = some (.int .i64 t.d) := (b1.later l2 b1.lt).cell 0; have c1 : w2.cell? ⟨w.heap.size, 1, none⟩ = some (.int .i64 t.p) := (b1.later l2 b1.lt).cell 1; have c2 : w2.cell? ⟨w.heap.size, 2, none⟩ = some (.int .u64 t.v) := (b1.later l2 b1.lt).cell 2) | ((with_reducible show wpList _ _ _ (({ dst := some 61, op := _, type := _, pos := _, after := _, guard := _ } : Oper) :: _) _ _); refine wpList_build rfl 43 _ rfl #[] (by simp [Act.eval, Act.put]) _ (build_td4 _) ?_) | (refine wpList_store_blk rfl 43 43 (.tmp 4) (.tmp 61) rfl _ rfl _ (tdC (.slice none 0 0) 0 0) rfl b2 rfl (sizeTd _ _ _) (tdC_one _ _ _ _ _) ?_; intro w4 b4 s4 k4))
  have V2 : Hid (Below w.heap.size w w2 ∧ Blk w2 w1.heap.size 43 (tdC (.slice none 0 0) 0 0) ∧ ¬ M w1.heap.size ∧ w.heap.size ≤ w1.heap.size) := ⟨below_chain l1 l2 l1.size, b2, fun e => by have := AM.out _ e; have := z1.out; omega, by have := z1.out; omega⟩
  exact ret_blk rfl w1.heap.size (tdC (.slice none 0 0) 0 0) _ rfl b4 Try.underlying43 rfl (sizeTd _ _ _) rfl (toldP_mk w1.heap.size _ D.out.2.1 D.out.2.2.1 D.out.2.2.2 D.out.1 (.inl ⟨rfl, rfl⟩) (X.out.1.later V2.out.1) ⟨fun _ h => h, fun _ h => .inl h, Kept.new M V2.out.1⟩ V2.out.2.1 V2.out.2.2.1 V2.out.2.2.2 k4)
theorem exec_bld {a : Act} {o : Oper} {w : World} {v : Value} (t : TypeId) (parts : Array (Nat × Operand)) (ho : o.op = .build t parts) (ps : Array (Nat × Value)) (hp : (parts.map fun (i, x) => (i, a.eval x)) = ps) (hr : (Instr.build t ps).run Try.prog w = .ok v w) : (execOp a.eval o).run Try.prog w = .ok (.value v) w := by
  unfold execOp
  simp only [ho, hp, Sem.run_bind, hr, Sem.run_pure, Result.andThen_ok]
set_option maxRecDepth 20000 in
set_option maxHeartbeats 2000000 in
theorem told_write (h : Nat) (s : HSt) (t : Stp1) (ao : Option Addr) (c : Nat) (M : Nat → Prop) (w : World) (x : HostAt w M h s) (hops : s.ops < 3000000000000) (hx : Seen w ao t.z.length t.z) (hd : t.d = 2) (hp : hasP s t.p = true) (hl : t.z.length = s.size) :
    Calls Try.prog 13 #[.pointer (some ⟨h, 0, none⟩), .agg (stC t ao c).toArray] w (ToldP h M s t w) := by
  have X : Hid (HostAt w M h s ∧ s.ops < 3000000000000) := ⟨x, hops⟩
  have AM : Hid (∀ k, M k → k < w.heap.size) := x.all
  obtain ⟨q, hq, hqp⟩ := hasP_nat hp
  have HQ : Hid (t.p = (q : Int) ∧ q < s.pages ∧ t.z.length = s.size) := ⟨hq, hqp, hl⟩
  have HX : Hid (Seen w ao t.z.length t.z) := hx
  obtain ⟨E, hE⟩ : ∃ q, s.opE = q := ⟨_, rfl⟩
  have HE : Hid (s.opE = E) := hE
  have D : Hid (tdS s t = s.opS (fun s => s.wrote q t.z) ⟨1, q, s.size, headL t.z⟩ ∧ tdV s t = 0 ∧ tdE s t = s.opE ∧ tdB s t = []) := by
    refine ⟨?_, ?_, ?_, ?_⟩
    · rw [tdS, if_neg (by omega), if_pos hd, wrS, if_neg (fun h => by
        rcases h with h | h
        · rw [hp] at h; cases h
        · exact h hl), hq, Int.toNat_natCast]
    · rw [tdV, if_neg (by omega)]
    · rw [tdE, if_neg (by omega), if_pos hd, wrE, if_neg (by rw [hp]; simp), if_neg (fun h => h hl)]
    · rw [tdB, if_neg (by omega), if_neg (by omega)]
  have q1 : (t.d == 1) = false := by simp [hd]
  have q2 : (t.d == 2) = true := by simp [hd]
  clear hd hp hq hqp x hops hx hl hE
  go_enter Try.func13, Try.ntmps13
  go_wp2_with (first | ((with_reducible show wpList _ _ _ (({ dst := some 3, op := _, type := _, pos := _, after := _, guard := _ } : Oper) :: _) _ _); refine wpList_box_new rfl 34 _ rfl (stC t ao c) rfl ?_; intro w1 b1 s1 l1; have z1 : Hid (w1.heap.size = w.heap.size + 1) := s1; clear s1) | ((with_reducible show wpList _ _ _ (({ dst := some 4, op := _, type := _, pos := _, after := _, guard := _ } : Oper) :: _) _ _); refine wpList_alloc_new rfl 43 rfl 3 _ zeroTd ?_; intro w2 b2 s2 l2; have z2 : Hid (w2.heap.size = w1.heap.size + 1) := s2; clear s2; have c0 : w2.cell? ⟨w.heap.size, 0, none⟩ = some (.int .i64 t.d) := (b1.later l2 b1.lt).cell 0; have c1 : w2.cell? ⟨w.heap.size, 1, none⟩ = some (.int .i64 q) := by { rw [← HQ.out.1]; exact (b1.later l2 b1.lt).cell 1 }; have c2 : w2.cell? ⟨w.heap.size, 2, none⟩ = some (.int .u64 t.v) := (b1.later l2 b1.lt).cell 2))
  have V2 : Hid (Below w.heap.size w w2 ∧ Blk w2 w1.heap.size 43 (tdC (.slice none 0 0) 0 0) ∧ ¬ M w1.heap.size ∧ w.heap.size ≤ w1.heap.size) := ⟨below_chain l1 l2 l1.size, b2, fun e => by have := AM.out _ e; have := z1.out; omega, by have := z1.out; omega⟩
  have BS : Hid (Blk w2 w.heap.size 34 (stC t ao c) ∧ Seen w2 ao t.z.length t.z) := ⟨b1.later l2 b1.lt, HX.out.later V2.out.1 (Nat.le_refl _)⟩
  clear b1 b2 l1 l2
  refine wp_region_noPanic (till_region 8 (fun W => W.cell? ⟨w.heap.size, 1, none⟩ = some (.int .i64 q) ∧ W.cell? ⟨w.heap.size, 3, none⟩ = some (.slice ao t.z.length c)) (by kernel_rfl) ?_)
  obtain ⟨w3, hw3⟩ : ∃ q, ({ heap := w2.heap, tape := w2.tape, drawn := w2.drawn + 1, os := w2.os, output := w2.output } : World) = q := ⟨_, rfl⟩
  have V3 : Hid (Below w.heap.size w w3 ∧ Blk w3 w1.heap.size 43 (tdC (.slice none 0 0) 0 0) ∧ Blk w3 w.heap.size 34 (stC t ao c) ∧ Seen w3 ao t.z.length t.z) := by rw [← hw3]; exact ⟨⟨V2.out.1.os, V2.out.1.tape, V2.out.1.output, V2.out.1.size, V2.out.1.block⟩, V2.out.2.1, BS.out.1, ⟨BS.out.2.len, BS.out.2.top, BS.out.2.bytes, BS.out.2.cells⟩⟩
  rw [hw3]
  clear hw3
  have hS : (fun W : World => W.cell? ⟨w.heap.size, 1, none⟩ = some (.int .i64 q) ∧ W.cell? ⟨w.heap.size, 3, none⟩ = some (.slice ao t.z.length c)) w3 := ⟨by rw [← HQ.out.1]; exact V3.out.2.2.1.cell 1, V3.out.2.2.1.cell 3⟩
  refine tTake 0 (some 25) (.pointer (some ⟨h, 0, none⟩)) rfl rfl (by kernel_rfl) (by kernel_rfl) (by kernel_rfl) (by decide) (fun _ _ _ h => h) (by rfl) (fun W' => by go_simp) hS ?_
  simp only [Act.put, List.setIfInBounds_toArray, List.set_cons_zero, List.set_cons_succ]
  refine tTake 1 (some 26) (.pointer (some ⟨w.heap.size, 1, none⟩)) rfl rfl (by kernel_rfl) (by kernel_rfl) (by kernel_rfl) (by decide) (fun _ _ _ h => h) (by rfl) (fun W' => by go_simp) hS ?_
  simp only [Act.put, List.setIfInBounds_toArray, List.set_cons_zero, List.set_cons_succ]
  refine tLoad 2 (some 27) (.int .i64 q) rfl rfl (by kernel_rfl) (by kernel_rfl) (by kernel_rfl) (by decide) (by kernel_rfl) (by kernel_rfl) (fun _ _ _ h => h) (by rfl) (fun W' hS' => by obtain ⟨s1, s2⟩ := hS'; go_simp) hS ?_
  simp only [Act.put, List.setIfInBounds_toArray, List.set_cons_zero, List.set_cons_succ]
  refine tTake 3 (some 28) (.pointer (some ⟨w.heap.size, 3, none⟩)) rfl rfl (by kernel_rfl) (by kernel_rfl) (by kernel_rfl) (by decide) (fun _ _ _ h => h) (by rfl) (fun W' => by go_simp) hS ?_
  simp only [Act.put, List.setIfInBounds_toArray, List.set_cons_zero, List.set_cons_succ]
  refine tLoad 4 (some 29) (.slice ao t.z.length c) rfl rfl (by kernel_rfl) (by kernel_rfl) (by kernel_rfl) (by decide) (by kernel_rfl) (by kernel_rfl) (fun _ _ _ h => h) (by rfl) (fun W' hS' => by obtain ⟨s1, s2⟩ := hS'; go_simp) hS ?_
  simp only [Act.put, List.setIfInBounds_toArray, List.set_cons_zero, List.set_cons_succ]
  refine till_ready 5 (by kernel_rfl) rfl (fun K hK => ?_)
  go_simp
  go_wp2_with (go_at_call 27; refine (copyB_any ao t.z.length c t.z w3 V3.out.2.2.2).mono ?_; rintro e w4 ⟨v4, rfl, o4, l4⟩)
  obtain ⟨co, cc, rfl, s4, n4⟩ := own_seen BS.out.2.len BS.out.2.bytes BS.out.2.top o4
  have hS4 : (fun W : World => W.cell? ⟨w.heap.size, 1, none⟩ = some (.int .i64 q) ∧ W.cell? ⟨w.heap.size, 3, none⟩ = some (.slice ao t.z.length c)) w4 := ⟨(l4.cell (p := ⟨w.heap.size, 1, none⟩) V3.out.2.2.1.lt).trans hS.1, (l4.cell (p := ⟨w.heap.size, 3, none⟩) V3.out.2.2.1.lt).trans hS.2⟩
  refine ⟨hS4, ?_⟩
  have V4 : Hid (Below w.heap.size w w4 ∧ Blk w4 w1.heap.size 43 (tdC (.slice none 0 0) 0 0) ∧ Blk w4 w.heap.size 34 (stC t ao c) ∧ Seen w4 co t.z.length t.z ∧ (∀ b o, co = some ⟨b, o, none⟩ → w3.heap.size ≤ b) ∧ w.heap.size ≤ w3.heap.size) := ⟨below_chain V3.out.1 l4 V3.out.1.size, V3.out.2.1.later l4 V3.out.2.1.lt, V3.out.2.2.1.later l4 V3.out.2.2.1.lt, s4, n4, V3.out.1.size⟩
  clear hS hS4 o4 l4 s4 n4
  refine till_ready 6 (by kernel_rfl) rfl (fun K hK => ?_)
  go_simp
  go_wp2_with (go_at_call 34; refine (write_good h s q HQ.out.2.1 co t.z.length cc t.z HQ.out.2.2 M w4 (X.out.1.later V4.out.1) V4.out.2.2.2.1 (fun b o _ e hM => by have := V4.out.2.2.2.2.1 b o e; have := AM.out b hM; have := V4.out.2.2.2.2.2; omega) X.out.2).mono ?_; rintro e w5 ⟨rfl, M2, y5, go5⟩)
  rw [HE.out]
  have W5 : Hid (Blk w5 w1.heap.size 43 (tdC (.slice none 0 0) 0 0) ∧ ¬ M2 w1.heap.size ∧ HostAt w5 M2 h (s.opS (fun s => s.wrote q t.z) ⟨1, q, s.size, headL t.z⟩) ∧ Goes M M2 w w5 ∧ Blk w5 w.heap.size 34 (stC t ao c)) := ⟨(go5.blk V4.out.2.1 V2.out.2.2.1).1, (go5.blk V4.out.2.1 V2.out.2.2.1).2, y5, Goes.later V4.out.1 go5, (go5.blk V4.out.2.2.1 (fun e => by have := AM.out _ e; omega)).1⟩
  clear y5 go5
  have hS5 : (fun W : World => W.cell? ⟨w.heap.size, 1, none⟩ = some (.int .i64 q) ∧ W.cell? ⟨w.heap.size, 3, none⟩ = some (.slice ao t.z.length c)) w5 := ⟨by rw [← HQ.out.1]; exact W5.out.2.2.2.2.cell 1, W5.out.2.2.2.2.cell 3⟩
  refine ⟨hS5, ?_⟩
  refine till_run 7 (some 32) (.agg (tdC (.slice none 0 0) 0 E).toArray) w5 (by kernel_rfl) rfl rfl (by rfl) (exec_bld 43 _ rfl #[(2, .int .i64 E)] (by simp [Act.eval]) (build_td1 E w5)) hS5 ?_
  simp only [Act.put, List.setIfInBounds_toArray, List.set_cons_zero, List.set_cons_succ]
  clear hS5
  refine till_at (by kernel_rfl) ?_
  refine wpAny_ready (rs := [8]) (by kernel_rfl) (by simp) (AllReady.cons rfl (fun K hK => ?_) AllReady.nil)
  rw [if_pos (by rfl)]
  refine wp_store_mid 43 (.tmp 4) (.tmp 32) rfl w1.heap.size 0 (tdC (.slice none 0 0) 0 E).toArray rfl rfl (W5.out.1.there (by simp [tdC])) (by show _ = some 3; kernel_rfl) (all_oneCell_toArray (tdC_one _ _ _ _ _)) ?_
  refine hK _ _ ?_
  clear hK K
  have B6 : Hid (Blk (w5.setCells w1.heap.size 0 (tdC (.slice none 0 0) 0 E)) w1.heap.size 43 (tdC (.slice none 0 0) 0 E) ∧ Kept (fun j => j = w1.heap.size) w5 (w5.setCells w1.heap.size 0 (tdC (.slice none 0 0) 0 E))) := ⟨by have := Blk.setCells (xs := []) (zs := []) (tdC (.slice none 0 0) 0 E) (tdC (.slice none 0 0) 0 0) rfl (by simpa using W5.out.1); simpa using this, (Kept.refl (fun j => j = w1.heap.size) w5).setCells (b := w1.heap.size) rfl _ _⟩
  refine wpAny_done (by kernel_rfl) (NoPanic.normal ?_) _
  go_wp2_with fail
  exact ret_blk rfl w1.heap.size (tdC (.slice none 0 0) 0 E) _ rfl (by simpa using B6.out.1) Try.underlying43 rfl (sizeTd _ _ _) rfl (toldP_mk w1.heap.size _ D.out.2.1 (D.out.2.2.1.trans HE.out) D.out.2.2.2 D.out.1 (.inl ⟨rfl, rfl⟩) W5.out.2.2.1 W5.out.2.2.2.1 W5.out.1 W5.out.2.1 V2.out.2.2.2 (by simpa using B6.out.2))
set_option maxRecDepth 20000 in
set_option maxHeartbeats 2000000 in
theorem told_writex (h : Nat) (s : HSt) (t : Stp1) (ao : Option Addr) (c : Nat) (M : Nat → Prop) (w : World) (x : HostAt w M h s) (hops : s.ops < 3000000000000) (hx : Seen w ao t.z.length t.z) (hd : t.d = 2) (hp : hasP s t.p = false ∨ t.z.length ≠ s.size) :
    Calls Try.prog 13 #[.pointer (some ⟨h, 0, none⟩), .agg (stC t ao c).toArray] w (ToldP h M s t w) := by
  have X : Hid (HostAt w M h s ∧ s.ops < 3000000000000) := ⟨x, hops⟩
  have AM : Hid (∀ k, M k → k < w.heap.size) := x.all
  have HX : Hid (Seen w ao t.z.length t.z) := hx
  obtain ⟨E, hE⟩ : ∃ q, wrE s t.p t.z.length = q := ⟨_, rfl⟩
  have HE : Hid (wrE s t.p t.z.length = E) := hE
  have HP : Hid (hasP s t.p = false ∨ t.z.length ≠ s.size) := hp
  have D : Hid (tdS s t = s ∧ tdV s t = 0 ∧ tdE s t = wrE s t.p t.z.length ∧ tdB s t = []) := by
    refine ⟨?_, ?_, ?_, ?_⟩
    · rw [tdS, if_neg (by omega), if_pos hd, wrS, if_pos hp]
    · rw [tdV, if_neg (by omega)]
    · rw [tdE, if_neg (by omega), if_pos hd]
    · rw [tdB, if_neg (by omega), if_neg (by omega)]
  have q1 : (t.d == 1) = false := by simp [hd]
  have q2 : (t.d == 2) = true := by simp [hd]
  clear hd hp x hops hx hE
  go_enter Try.func13, Try.ntmps13
  go_wp2_with (first | ((with_reducible show wpList _ _ _ (({ dst := some 3, op := _, type := _, pos := _, after := _, guard := _ } : Oper) :: _) _ _); refine wpList_box_new rfl 34 _ rfl (stC t ao c) rfl ?_; intro w1 b1 s1 l1; have z1 : Hid (w1.heap.size = w.heap.size + 1) := s1; clear s1) | ((with_reducible show wpList _ _ _ (({ dst := some 4, op := _, type := _, pos := _, after := _, guard := _ } : Oper) :: _) _ _); refine wpList_alloc_new rfl 43 rfl 3 _ zeroTd ?_; intro w2 b2 s2 l2; have z2 : Hid (w2.heap.size = w1.heap.size + 1) := s2; clear s2; have c0 : w2.cell? ⟨w.heap.size, 0, none⟩ = some (.int .i64 t.d) := (b1.later l2 b1.lt).cell 0; have c1 : w2.cell? ⟨w.heap.size, 1, none⟩ = some (.int .i64 t.p) := (b1.later l2 b1.lt).cell 1; have c2 : w2.cell? ⟨w.heap.size, 2, none⟩ = some (.int .u64 t.v) := (b1.later l2 b1.lt).cell 2))
  have V2 : Hid (Below w.heap.size w w2 ∧ Blk w2 w1.heap.size 43 (tdC (.slice none 0 0) 0 0) ∧ ¬ M w1.heap.size ∧ w.heap.size ≤ w1.heap.size) := ⟨below_chain l1 l2 l1.size, b2, fun e => by have := AM.out _ e; have := z1.out; omega, by have := z1.out; omega⟩
  have BS : Hid (Blk w2 w.heap.size 34 (stC t ao c) ∧ Seen w2 ao t.z.length t.z) := ⟨b1.later l2 b1.lt, HX.out.later V2.out.1 (Nat.le_refl _)⟩
  clear b1 b2 l1 l2
  refine wp_region_noPanic (till_region 8 (fun W => W.cell? ⟨w.heap.size, 1, none⟩ = some (.int .i64 t.p) ∧ W.cell? ⟨w.heap.size, 3, none⟩ = some (.slice ao t.z.length c)) (by kernel_rfl) ?_)
  obtain ⟨w3, hw3⟩ : ∃ q, ({ heap := w2.heap, tape := w2.tape, drawn := w2.drawn + 1, os := w2.os, output := w2.output } : World) = q := ⟨_, rfl⟩
  have V3 : Hid (Below w.heap.size w w3 ∧ Blk w3 w1.heap.size 43 (tdC (.slice none 0 0) 0 0) ∧ Blk w3 w.heap.size 34 (stC t ao c) ∧ Seen w3 ao t.z.length t.z) := by rw [← hw3]; exact ⟨⟨V2.out.1.os, V2.out.1.tape, V2.out.1.output, V2.out.1.size, V2.out.1.block⟩, V2.out.2.1, BS.out.1, ⟨BS.out.2.len, BS.out.2.top, BS.out.2.bytes, BS.out.2.cells⟩⟩
  rw [hw3]
  clear hw3
  have hS : (fun W : World => W.cell? ⟨w.heap.size, 1, none⟩ = some (.int .i64 t.p) ∧ W.cell? ⟨w.heap.size, 3, none⟩ = some (.slice ao t.z.length c)) w3 := ⟨V3.out.2.2.1.cell 1, V3.out.2.2.1.cell 3⟩
  refine tTake 0 (some 25) (.pointer (some ⟨h, 0, none⟩)) rfl rfl (by kernel_rfl) (by kernel_rfl) (by kernel_rfl) (by decide) (fun _ _ _ h => h) (by rfl) (fun W' => by go_simp) hS ?_
  simp only [Act.put, List.setIfInBounds_toArray, List.set_cons_zero, List.set_cons_succ]
  refine tTake 1 (some 26) (.pointer (some ⟨w.heap.size, 1, none⟩)) rfl rfl (by kernel_rfl) (by kernel_rfl) (by kernel_rfl) (by decide) (fun _ _ _ h => h) (by rfl) (fun W' => by go_simp) hS ?_
  simp only [Act.put, List.setIfInBounds_toArray, List.set_cons_zero, List.set_cons_succ]
  refine tLoad 2 (some 27) (.int .i64 t.p) rfl rfl (by kernel_rfl) (by kernel_rfl) (by kernel_rfl) (by decide) (by kernel_rfl) (by kernel_rfl) (fun _ _ _ h => h) (by rfl) (fun W' hS' => by obtain ⟨s1, s2⟩ := hS'; go_simp) hS ?_
  simp only [Act.put, List.setIfInBounds_toArray, List.set_cons_zero, List.set_cons_succ]
  refine tTake 3 (some 28) (.pointer (some ⟨w.heap.size, 3, none⟩)) rfl rfl (by kernel_rfl) (by kernel_rfl) (by kernel_rfl) (by decide) (fun _ _ _ h => h) (by rfl) (fun W' => by go_simp) hS ?_
  simp only [Act.put, List.setIfInBounds_toArray, List.set_cons_zero, List.set_cons_succ]
  refine tLoad 4 (some 29) (.slice ao t.z.length c) rfl rfl (by kernel_rfl) (by kernel_rfl) (by kernel_rfl) (by decide) (by kernel_rfl) (by kernel_rfl) (fun _ _ _ h => h) (by rfl) (fun W' hS' => by obtain ⟨s1, s2⟩ := hS'; go_simp) hS ?_
  simp only [Act.put, List.setIfInBounds_toArray, List.set_cons_zero, List.set_cons_succ]
  refine till_ready 5 (by kernel_rfl) rfl (fun K hK => ?_)
  go_simp
  go_wp2_with (go_at_call 27; refine (copyB_any ao t.z.length c t.z w3 V3.out.2.2.2).mono ?_; rintro e w4 ⟨v4, rfl, o4, l4⟩)
  obtain ⟨co, cc, rfl, s4, n4⟩ := own_seen BS.out.2.len BS.out.2.bytes BS.out.2.top o4
  have hS4 : (fun W : World => W.cell? ⟨w.heap.size, 1, none⟩ = some (.int .i64 t.p) ∧ W.cell? ⟨w.heap.size, 3, none⟩ = some (.slice ao t.z.length c)) w4 := ⟨(l4.cell (p := ⟨w.heap.size, 1, none⟩) V3.out.2.2.1.lt).trans hS.1, (l4.cell (p := ⟨w.heap.size, 3, none⟩) V3.out.2.2.1.lt).trans hS.2⟩
  refine ⟨hS4, ?_⟩
  have V4 : Hid (Below w.heap.size w w4 ∧ Blk w4 w1.heap.size 43 (tdC (.slice none 0 0) 0 0) ∧ Blk w4 w.heap.size 34 (stC t ao c) ∧ Seen w4 co t.z.length t.z ∧ (∀ b o, co = some ⟨b, o, none⟩ → w3.heap.size ≤ b) ∧ w.heap.size ≤ w3.heap.size) := ⟨below_chain V3.out.1 l4 V3.out.1.size, V3.out.2.1.later l4 V3.out.2.1.lt, V3.out.2.2.1.later l4 V3.out.2.2.1.lt, s4, n4, V3.out.1.size⟩
  clear hS hS4 o4 l4 s4 n4
  refine till_ready 6 (by kernel_rfl) rfl (fun K hK => ?_)
  go_simp
  go_wp2_with (go_at_call 34; refine (write_bad h s t.p co t.z.length cc M w4 (X.out.1.later V4.out.1) V4.out.2.2.2.1.top HP.out).mono ?_; rintro e w5 ⟨rfl, l5⟩)
  rw [HE.out]
  have W5 : Hid (Blk w5 w1.heap.size 43 (tdC (.slice none 0 0) 0 0) ∧ ¬ M w1.heap.size ∧ HostAt w5 M h s ∧ Goes M M w w5 ∧ Blk w5 w.heap.size 34 (stC t ao c)) := ⟨V4.out.2.1.later l5 V4.out.2.1.lt, V2.out.2.2.1, (X.out.1.later V4.out.1).later l5, ⟨fun _ h => h, fun _ h => .inl h, Kept.new M (below_chain V4.out.1 l5 V4.out.1.size)⟩, V4.out.2.2.1.later l5 V4.out.2.2.1.lt⟩
  clear l5
  have hS5 : (fun W : World => W.cell? ⟨w.heap.size, 1, none⟩ = some (.int .i64 t.p) ∧ W.cell? ⟨w.heap.size, 3, none⟩ = some (.slice ao t.z.length c)) w5 := ⟨W5.out.2.2.2.2.cell 1, W5.out.2.2.2.2.cell 3⟩
  refine ⟨hS5, ?_⟩
  refine till_run 7 (some 32) (.agg (tdC (.slice none 0 0) 0 E).toArray) w5 (by kernel_rfl) rfl rfl (by rfl) (exec_bld 43 _ rfl #[(2, .int .i64 E)] (by simp [Act.eval]) (build_td1 E w5)) hS5 ?_
  simp only [Act.put, List.setIfInBounds_toArray, List.set_cons_zero, List.set_cons_succ]
  clear hS5
  refine till_at (by kernel_rfl) ?_
  refine wpAny_ready (rs := [8]) (by kernel_rfl) (by simp) (AllReady.cons rfl (fun K hK => ?_) AllReady.nil)
  rw [if_pos (by rfl)]
  refine wp_store_mid 43 (.tmp 4) (.tmp 32) rfl w1.heap.size 0 (tdC (.slice none 0 0) 0 E).toArray rfl rfl (W5.out.1.there (by simp [tdC])) (by show _ = some 3; kernel_rfl) (all_oneCell_toArray (tdC_one _ _ _ _ _)) ?_
  refine hK _ _ ?_
  clear hK K
  have B6 : Hid (Blk (w5.setCells w1.heap.size 0 (tdC (.slice none 0 0) 0 E)) w1.heap.size 43 (tdC (.slice none 0 0) 0 E) ∧ Kept (fun j => j = w1.heap.size) w5 (w5.setCells w1.heap.size 0 (tdC (.slice none 0 0) 0 E))) := ⟨by have := Blk.setCells (xs := []) (zs := []) (tdC (.slice none 0 0) 0 E) (tdC (.slice none 0 0) 0 0) rfl (by simpa using W5.out.1); simpa using this, (Kept.refl (fun j => j = w1.heap.size) w5).setCells (b := w1.heap.size) rfl _ _⟩
  refine wpAny_done (by kernel_rfl) (NoPanic.normal ?_) _
  go_wp2_with fail
  exact ret_blk rfl w1.heap.size (tdC (.slice none 0 0) 0 E) _ rfl (by simpa using B6.out.1) Try.underlying43 rfl (sizeTd _ _ _) rfl (toldP_mk w1.heap.size _ D.out.2.1 (D.out.2.2.1.trans HE.out) D.out.2.2.2 D.out.1 (.inl ⟨rfl, rfl⟩) W5.out.2.2.1 W5.out.2.2.2.1 W5.out.1 W5.out.2.1 V2.out.2.2.2 (by simpa using B6.out.2))
theorem told_any (h : Nat) (s : HSt) (t : Stp1) (ao : Option Addr) (c : Nat) (M : Nat → Prop) (w : World) (x : HostAt w M h s) (hops : s.ops < 3000000000000) (hx : Seen w ao t.z.length t.z) (hv : Word t.v) :
    Calls Try.prog 13 #[.pointer (some ⟨h, 0, none⟩), .agg (stC t ao c).toArray] w (ToldP h M s t w) := by
  by_cases h1 : t.d = 1
  · cases hp : hasP s t.p
    · exact told_readx h s t ao c M w x hops h1 hp
    · exact told_read h s t ao c M w x hops h1 hp
  · by_cases h2 : t.d = 2
    · by_cases hp : hasP s t.p = false ∨ t.z.length ≠ s.size
      · exact told_writex h s t ao c M w x hops hx h2 hp
      · exact told_write h s t ao c M w x hops hx h2 (by cases e : hasP s t.p; exact absurd (.inl e) hp; rfl) (by
          rcases Nat.decEq t.z.length s.size with e | e
          · exact absurd (.inr e) hp
          · exact e)
    · by_cases h3 : t.d = 3
      · exact told_ask h s t ao c M w x hops h3
      · by_cases h4 : t.d = 4
        · exact told_raise h s t ao c M w x hops h4 hv
        · by_cases h5 : t.d = 5
          · exact told_restart h s t ao c M w x hops h5
          · by_cases h7 : t.d = 7
            · cases hp : hasP s t.p
              · exact told_liesx h s t ao c M w x hops h7 hp
              · exact told_lies h s t ao c M w x hops h7 hp
            · exact told_else h s t ao c M w x hops ⟨h1, h2, h3, h4, h5, h7⟩
end Go.Proofs.Ytobcolpdkcppoaa
