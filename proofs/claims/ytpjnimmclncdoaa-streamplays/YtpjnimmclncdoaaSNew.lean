/- Layer stream: New, check, At, Skip. -/
import Derived.Test.YtpjnimmclncdoaaSBlock
namespace Go.Proofs.Ytpjnimmclncdoaa
open Go.RowKit
set_option linter.unusedVariables false
set_option linter.unusedSimpArgs false

theorem sizeStrm : (Try.prog.info? 46).map (·.size) = some 45 := by kernel_rfl
def zeroS : List Value := u8s (List.replicate 44 0) ++ [.int .u64 0]
theorem zeroStrm : (Try.prog.info? 46).map (fun i => (i.zero, i.size)) = some (some (.agg zeroS.toArray), 45) := by kernel_rfl
def sCells (key nonce : List Int) (P : Int) : List Value := u8s key ++ (u8s nonce ++ [Value.int .u64 P])
theorem sCells_length (key nonce : List Int) (P : Int) (hk : key.length = 32) (hn : nonce.length = 12) : (sCells key nonce P).length = 45 := by simp [sCells, u8s, hk, hn]
theorem sCells_one (key nonce : List Int) (P : Int) : ∀ v ∈ sCells key nonce P, v.oneCell' = true := by
  intro v hv
  simp only [sCells, List.mem_append, List.mem_singleton] at hv
  rcases hv with h | h | rfl
  · exact u8s_one _ v h
  · exact u8s_one _ v h
  · rfl
/-- A stream in block g: its key, its nonce, its place. -/
structure StAt (w : World) (g : Nat) (key nonce : List Int) (P : Nat) : Prop where
  blk : Blk w g 46 (sCells key nonce P)
  k32 : key.length = 32
  n12 : nonce.length = 12
  kb : Bytes key
  nb : Bytes nonce
  top : P ≤ 274877906944
theorem wpList_yield {ops : Array Oper} {rest : List Oper} {o : Oper} {a : Act} {Q : Exit → Act → World → Prop} {w : World} (hgd : o.guard = none) (v : Value) (hrun : (execOp a.eval o).run Try.prog w = .ok (.value v) w) (h : wpList Try.prog ops Q rest (a.put o.dst v) w) : wpList Try.prog ops Q (o :: rest) a w := by
  refine wpList_plain hgd fun K hK => ?_
  unfold Oper.wp
  rw [hrun]
  exact hK _ _ h
theorem list_range (l : List Int) (n : Nat) (h : l.length = n) : l = (List.range n).map (fun i => l.getD i 0) := by
  subst h
  apply List.ext_getElem
  · simp
  · intro i h1 h2; simp [List.getD, h1]
theorem build_s0 (f g : Nat → Int) (P : Int) (w : World) : (Instr.build 46 #[(0, .agg (u8s ((List.range 32).map f)).toArray), (1, .agg (u8s ((List.range 12).map g)).toArray), (2, .int .u64 P)]).run Try.prog w = .ok (.agg (sCells ((List.range 32).map f) ((List.range 12).map g) P).toArray) w := by kernel_rfl
theorem build_s (key nonce : List Int) (hk : key.length = 32) (hn : nonce.length = 12) (P : Int) (w : World) : (Instr.build 46 #[(0, .agg (u8s key).toArray), (1, .agg (u8s nonce).toArray), (2, .int .u64 P)]).run Try.prog w = .ok (.agg (sCells key nonce P).toArray) w := by
  rw [list_range key 32 hk, list_range nonce 12 hn]
  exact build_s0 _ _ P w
set_option maxRecDepth 20000 in
set_option maxHeartbeats 1000000 in
theorem new_any (key : List Int) (ctr : Nat) (nonce : List Int) (hk : key.length = 32) (hn : nonce.length = 12) (hkb : Bytes key) (hnb : Bytes nonce) (hc : ctr < 4294967296) (w : World) :
    Calls Try.prog 4 #[.agg (u8s key).toArray, .agg (u8s nonce).toArray, .int .u32 ctr] w fun e w' => ∃ g, e = .returned (.pointer (some ⟨g, 0, none⟩)) ∧ w.heap.size ≤ g ∧ StAt w' g key nonce (64 * ctr) ∧ Below w.heap.size w w' := by
  have HS : Hid (key.length = 32 ∧ nonce.length = 12 ∧ Bytes key ∧ Bytes nonce) := ⟨hk, hn, hkb, hnb⟩
  clear hk hn hkb hnb
  have v1 : IntKind.u64.wrap (ctr : Int) = (ctr : Int) := by simp only [IntKind.wrap, IntKind.bits, IntKind.signed]; simp; omega
  have v2 : IntKind.u64.wrap (64 * (ctr : Int)) = 64 * (ctr : Int) := by simp only [IntKind.wrap, IntKind.bits, IntKind.signed]; simp; omega
  go_enter Try.func4, Try.ntmps4
  go_wp2_with (first | ((with_reducible show wpList _ _ _ ({ dst := some 12, op := _, type := _, pos := _, after := _, guard := _ } :: _) _ _); refine Hid.out ?_) | (refine wpList_box_new rfl 23 _ rfl (u8s key) rfl ?_; intro w1 b1 s1 l1) | (refine wpList_box_new rfl 25 _ rfl (u8s nonce) rfl ?_; intro w2 b2 s2 l2) | (refine wpList_load_blk rfl 23 _ rfl _ rfl (u8s key) _ (by first | exact b1.later l2 (by omega)) Try.underlying23 rfl (by rw [u8s_length, HS.out.1]; exact sizeKey) ?_) | (refine wpList_load_blk rfl 25 _ rfl _ rfl (u8s nonce) _ (by first | exact b2 | (rw [← s1]; exact b2)) Try.underlying25 rfl (by rw [u8s_length, HS.out.2.1]; exact sizeNonce) ?_) | ((with_reducible show wpList _ _ _ ({ dst := some 9, op := _, type := _, pos := _, after := _, guard := _ } :: _) _ _); refine wpList_yield rfl (.int .u32 (ctr : Int)) rfl ?_) | ((with_reducible show wpList _ _ _ ({ dst := some 10, op := _, type := _, pos := _, after := _, guard := _ } :: _) _ _); refine wpList_yield rfl (.int .u64 (ctr : Int)) (by go_simp) ?_) | ((with_reducible show wpList _ _ _ ({ dst := some 11, op := _, type := _, pos := _, after := _, guard := _ } :: _) _ _); refine wpList_yield rfl (.int .u64 (64 * (ctr : Int))) (by go_simp) ?_) | (refine wpList_build rfl 46 _ rfl #[(0, .agg (u8s key).toArray), (1, .agg (u8s nonce).toArray), (2, .int .u64 (64 * (ctr : Int)))] rfl _ (build_s key nonce HS.out.1 HS.out.2.1 _ _) ?_) | (refine wpList_box_new rfl 46 _ rfl (sCells key nonce (64 * (ctr : Int))) rfl ?_; intro w3 b3 s3 l3) | (refine wpList_alloc_new rfl 46 rfl 45 _ zeroStrm ?_; intro w4 b4 s4 l4) | (refine wpList_store_blk rfl 46 46 _ _ rfl _ rfl _ (sCells key nonce (64 * (ctr : Int))) rfl b4 (by rw [sCells_length _ _ _ HS.out.1 HS.out.2.1]; rfl) (by rw [sCells_length _ _ _ HS.out.1 HS.out.2.1]; exact sizeStrm) (sCells_one _ _ _) ?_; intro w5 b5 s5 k5))
  change wpList _ _ _ _ _ _
  refine wpList_build rfl 46 _ rfl #[(0, .agg (u8s key).toArray), (1, .agg (u8s nonce).toArray), (2, .int .u64 (64 * (ctr : Int)))] (by simp [Act.eval]) _ (build_s key nonce HS.out.1 HS.out.2.1 _ _) ?_
  go_wp2_with (first | (refine wpList_box_new rfl 46 _ rfl (sCells key nonce (64 * (ctr : Int))) rfl ?_; intro w3 b3 s3 l3))
  go_ret
  refine ⟨w2.heap.size, by simp [s1, s2], by omega, ⟨by simpa using b3, HS.out.1, HS.out.2.1, HS.out.2.2.1, HS.out.2.2.2, by omega⟩, below_chain (below_chain l1 l2 (by omega)) l3 (by omega)⟩
theorem StAt.place {w : World} {g : Nat} {key nonce : List Int} {P : Nat} (h : StAt w g key nonce P) : w.cell? ⟨g, 44, none⟩ = some (.int .u64 P) := by
  rw [h.blk.cell, sCells, List.getElem?_append_right (by rw [u8s_length, h.k32]; decide), u8s_length, h.k32, List.getElem?_append_right (by rw [u8s_length, h.n12]; decide), u8s_length, h.n12]; rfl
theorem StAt.frozen {w : World} {g : Nat} {key nonce : List Int} {P : Nat} (h : StAt w g key nonce P) (j : Nat) : w.frozen? ⟨g, j, none⟩ = false := h.blk.frozen j
theorem StAt.lt {w : World} {g : Nat} {key nonce : List Int} {P : Nat} (h : StAt w g key nonce P) : g < w.heap.size := h.blk.lt
theorem StAt.later {w w' : World} {g : Nat} {key nonce : List Int} {P : Nat} (h : StAt w g key nonce P) {B : Nat} (hb : Below B w w') (hB : g < B) : StAt w' g key nonce P := ⟨h.blk.later hb hB, h.k32, h.n12, h.kb, h.nb, h.top⟩
theorem StAt.kept {S : Nat → Prop} {w w' : World} {g : Nat} {key nonce : List Int} {P : Nat} (h : StAt w g key nonce P) (hk : Kept S w w') (hS : ¬ S g) : StAt w' g key nonce P := ⟨h.blk.kept hk hS, h.k32, h.n12, h.kb, h.nb, h.top⟩
theorem StAt.drew {w : World} {g : Nat} {key nonce : List Int} {P : Nat} (h : StAt w g key nonce P) : StAt w.drew g key nonce P := ⟨h.blk.drew, h.k32, h.n12, h.kb, h.nb, h.top⟩
theorem StAt.drewN {w : World} {g : Nat} {key nonce : List Int} {P : Nat} (h : StAt w g key nonce P) (n : Nat) : StAt (w.drewN n) g key nonce P := ⟨h.blk.drewN n, h.k32, h.n12, h.kb, h.nb, h.top⟩
theorem StAt.move {w : World} {g : Nat} {key nonce : List Int} {P : Nat} (h : StAt w g key nonce P) (P' : Nat) (ht : P' ≤ 274877906944) : StAt (w.setCell ⟨g, 44, none⟩ (.int .u64 P')) g key nonce P' := by
  refine ⟨?_, h.k32, h.n12, h.kb, h.nb, ht⟩
  have h1 := h.blk.set 44 (.int .u64 P')
  have e : (sCells key nonce P).set 44 (.int .u64 P') = sCells key nonce P' := by
    rw [sCells, List.set_append_right _ _ (by rw [u8s_length, h.k32]; decide), u8s_length, h.k32, List.set_append_right _ _ (by rw [u8s_length, h.n12]; decide), u8s_length, h.n12]; rfl
  rwa [e] at h1
theorem StAt.key {w : World} {g : Nat} {key nonce : List Int} {P : Nat} (h : StAt w g key nonce P) : w.rangeAt g 0 (u8s key) := by
  have := Blk.range (xs := []) (ys := u8s key) (zs := u8s nonce ++ [Value.int .u64 P]) h.blk
  simpa using this
theorem StAt.nonce {w : World} {g : Nat} {key nonce : List Int} {P : Nat} (h : StAt w g key nonce P) : w.rangeAt g 32 (u8s nonce) := by
  have := Blk.range (xs := u8s key) (ys := u8s nonce) (zs := [Value.int .u64 P]) h.blk
  rwa [u8s_length, h.k32] at this
/-- What check says. -/
def chk (n : Int) (P : Nat) : Int := if n < 0 then 2 else if 274877906944 < n + P then 50 else 0
set_option maxRecDepth 20000 in
theorem check_any (g : Nat) (key nonce : List Int) (P : Nat) (n : Int) (hn : -9223372036854775808 ≤ n ∧ n < 9223372036854775808) (w : World) (h : StAt w g key nonce P) :
    Calls Try.prog 15 #[.pointer (some ⟨g, 0, none⟩), .int .i64 n] w fun e w' => e = .returned (.int .i64 (chk n P)) ∧ w = w' := by
  have c1 := h.place
  have ht := h.top
  clear h
  unfold chk
  by_cases h0 : n < 0
  · rw [if_pos h0]
    go_enter Try.func15, Try.ntmps15
    go_wp2
    go_ret
    exact ⟨rfl, rfl⟩
  · rw [if_neg h0]
    have v1 : IntKind.u64.wrap n = n := by simp only [IntKind.wrap, IntKind.bits, IntKind.signed]; simp; omega
    have v2 : IntKind.u64.wrap (274877906944 - (P : Int)) = 274877906944 - (P : Int) := by simp only [IntKind.wrap, IntKind.bits, IntKind.signed]; simp; omega
    by_cases h1 : 274877906944 < n + P
    · rw [if_pos h1]
      have i1 : 274877906944 - (P : Int) < n := by omega
      go_enter Try.func15, Try.ntmps15
      go_wp2
      go_ret
      exact ⟨rfl, rfl⟩
    · rw [if_neg h1]
      have i1 : ¬ 274877906944 - (P : Int) < n := by omega
      go_enter Try.func15, Try.ntmps15
      go_wp2
      go_ret
      exact ⟨rfl, rfl⟩
set_option maxRecDepth 20000 in
theorem check_nil (n : Int) (w : World) : Calls Try.prog 15 #[.pointer none, .int .i64 n] w fun e w' => e = .returned (.int .i64 1) ∧ w = w' := by
  go_enter Try.func15, Try.ntmps15
  go_wp2
  go_ret
  exact ⟨rfl, rfl⟩
theorem at_any (g : Nat) (key nonce : List Int) (P : Nat) (w : World) (h : StAt w g key nonce P) :
    Calls Try.prog 6 #[.pointer (some ⟨g, 0, none⟩)] w fun e w' => e = .returned (.int .u64 P) ∧ w = w' := by
  have c1 := h.place
  go_enter Try.func6, Try.ntmps6
  go_wp2
  go_ret
  exact ⟨rfl, rfl⟩
end Go.Proofs.Ytpjnimmclncdoaa
