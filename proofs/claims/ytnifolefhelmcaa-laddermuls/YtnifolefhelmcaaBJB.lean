import Derived.Test.YtnifolefhelmcaaLdSwap
import Derived.Test.YtnifolefhelmcaaLdClamp
import Derived.Test.YtnifolefhelmcaaBJA
import Derived.Test.YtnifolefhelmcaaFMul
import Derived.Test.YtnifolefhelmcaaFRing
import Derived.Test.YtnifolefhelmcaaRInvP
import Derived.Test.YtnifolefhelmcaaFSquare
import Derived.Test.YtnifolefhelmcaaECInt
import Derived.Test.YtnifolefhelmcaaLdMath
import Derived.Test.YtnifolefhelmcaaFOf
namespace Go.Proofs.Ytnifolefhelmcaa
open Go.RowKit
set_option linter.unusedVariables false
set_option linter.unusedSimpArgs false

/-- A ratio's cells. -/
def rt (a b : List Int) : List Value := u64s a ++ u64s b
theorem rt_length {a b : List Int} (ha : a.length = 5) (hb : b.length = 5) : (rt a b).length = 10 := by simp [rt, u64s_length, ha, hb]
theorem rt_one (a b : List Int) : ∀ v ∈ rt a b, v.oneCell' = true := fun v hv => by
  rcases List.mem_append.1 hv with h | h
  · exact u64s_one _ v h
  · exact u64s_one _ v h
theorem sizeRatio : (Try.prog.info? 103).map (·.size) = some 10 := by kernel_rfl
theorem zeroRatio : (Try.prog.info? 103).map (fun i => (i.zero, i.size)) = some (some (.agg (rt [0, 0, 0, 0, 0] [0, 0, 0, 0, 0]).toArray), 10) := by kernel_rfl
theorem Blk.fst {w : World} {g : Nat} {t : TypeId} {a b : List Int} (h : Blk w g t (rt a b)) : w.rangeAt g 0 (u64s a) := Blk.range (xs := []) (ys := u64s a) (zs := u64s b) h
theorem Blk.snd {w : World} {g : Nat} {t : TypeId} {a b : List Int} (h : Blk w g t (rt a b)) (ha : a.length = 5) : w.rangeAt g 5 (u64s b) := by
  have := Blk.range (xs := u64s a) (ys := u64s b) (zs := []) (by rw [List.append_nil]; exact h)
  rwa [u64s_length, ha] at this
theorem wpList_store_fst {ops : Array Oper} {rest : List Oper} {o : Oper} {a : Act} {Q : Exit → Act → World → Prop} {w : World} (hgd : o.guard = none) (x y : Operand) (ho : o.op = .store 27 x y) (g : Nat) (hx : a.eval x = .pointer (some ⟨g, 0, none⟩))
    (p q r : List Int) (hy : a.eval y = .agg (u64s r).toArray) (hb : Blk w g 103 (rt p q)) (hp : p.length = 5) (hr : r.length = 5)
    (h : ∀ w', Blk w' g 103 (rt r q) → w'.heap.size = w.heap.size → Kept (fun k => k = g) w w' → wpList Try.prog ops Q rest (a.put o.dst undef) w') : wpList Try.prog ops Q (o :: rest) a w := by
  refine wpList_store_mid hgd 27 x y ho g 0 (u64s r).toArray hx hy (hb.there (by simp [rt, u64s_length, hp, hr])) (by simpa [u64s_length, hr] using sizeElem) (all_oneCell_toArray (u64s_one _)) (h _ ?_ (setCells_size ..) ((Kept.refl _ _).setCells (S := fun k => k = g) rfl _ _))
  exact Blk.setCells (xs := []) (zs := u64s q) (u64s r) (u64s p) (by rw [u64s_length, u64s_length, hp, hr]) hb
theorem wpList_store_snd {ops : Array Oper} {rest : List Oper} {o : Oper} {a : Act} {Q : Exit → Act → World → Prop} {w : World} (hgd : o.guard = none) (x y : Operand) (ho : o.op = .store 27 x y) (g : Nat) (hx : a.eval x = .pointer (some ⟨g, 5, none⟩))
    (p q r : List Int) (hy : a.eval y = .agg (u64s r).toArray) (hb : Blk w g 103 (rt p q)) (hp : p.length = 5) (hq : q.length = 5) (hr : r.length = 5)
    (h : ∀ w', Blk w' g 103 (rt p r) → w'.heap.size = w.heap.size → Kept (fun k => k = g) w w' → wpList Try.prog ops Q rest (a.put o.dst undef) w') : wpList Try.prog ops Q (o :: rest) a w := by
  refine wpList_store_mid hgd 27 x y ho g 5 (u64s r).toArray hx hy (hb.there (by simp [rt, u64s_length, hp, hq, hr])) (by simpa [u64s_length, hr] using sizeElem) (all_oneCell_toArray (u64s_one _)) (h _ ?_ (setCells_size ..) ((Kept.refl _ _).setCells (S := fun k => k = g) rfl _ _))
  have := Blk.setCells (xs := u64s p) (zs := []) (u64s r) (u64s q) (by rw [u64s_length, u64s_length, hq, hr]) (by rw [List.append_nil]; exact hb)
  rw [List.append_nil, u64s_length, hp] at this
  exact this
set_option maxRecDepth 20000 in
set_option maxHeartbeats 2000000 in
theorem lswap_any (n : Int) (hn : Word n) (px pz qx qz : List Int) (x2 z2 x3 z3 : Int) (h1 : Fe px x2) (h2 : Fe pz z2) (h3 : Fe qx x3) (h4 : Fe qz z3) (w : World) :
    Calls Try.prog 72 #[.int .u64 n, .agg (rt px pz).toArray, .agg (rt qx qz).toArray] w fun e w' => e = .returned (.tuple #[.agg (bif n % 2 == 1 then rt qx qz else rt px pz).toArray, .agg (bif n % 2 == 1 then rt px pz else rt qx qz).toArray]) ∧ Below w.heap.size w w' := by
  have HX := fswap_any n hn px qx x2 x3 h1 h3
  have HZ := fswap_any n hn pz qz z2 z3 h2 h4
  obtain ⟨c, hc⟩ : ∃ c, (n % 2 == 1) = c := ⟨_, rfl⟩
  rw [hc] at HX HZ ⊢
  have q1 : (bif c then rt qx qz else rt px pz) = rt (bif c then qx else px) (bif c then qz else pz) := by cases c <;> rfl
  have q2 : (bif c then rt px pz else rt qx qz) = rt (bif c then px else qx) (bif c then pz else qz) := by cases c <;> rfl
  rw [q1, q2]
  have l1 : (bif c then qx else px).length = 5 := by cases c; exact h1.len; exact h3.len
  have l2 : (bif c then qz else pz).length = 5 := by cases c; exact h2.len; exact h4.len
  have l3 : (bif c then px else qx).length = 5 := by cases c; exact h3.len; exact h1.len
  have l4 : (bif c then pz else qz).length = 5 := by cases c; exact h4.len; exact h2.len
  generalize (bif c then qx else px) = ax at *
  generalize (bif c then qz else pz) = az at *
  generalize (bif c then px else qx) = bx at *
  generalize (bif c then pz else qz) = bz at *
  have HL : Hid ((px.length = 5 ∧ pz.length = 5 ∧ qx.length = 5 ∧ qz.length = 5) ∧ (ax.length = 5 ∧ az.length = 5 ∧ bx.length = 5 ∧ bz.length = 5)) := ⟨⟨h1.len, h2.len, h3.len, h4.len⟩, l1, l2, l3, l4⟩
  have L5 : Hid (∀ l : List Int, l.length = 5 → (Try.prog.info? 27).map (·.size) = some (u64s l).length) := fun l h => by rw [u64s_length, h]; exact sizeElem
  have L10 : Hid (∀ a b : List Int, a.length = 5 → b.length = 5 → (Try.prog.info? 103).map (·.size) = some (rt a b).length) := fun a b ha hb => by rw [rt_length ha hb]; exact sizeRatio
  clear h1 h2 h3 h4 l1 l2 l3 l4 q1 q2 hc hn
  go_enter Try.func72, Try.ntmps72
  go_wp2_with (first | ((with_reducible show wpList _ _ _ ({ dst := some 11, op := _, type := _, pos := _, after := _, guard := _ } :: _) _ _); refine Hid.out ?_) | (refine wpList_box_new rfl 103 (.tmp 1) rfl (rt px pz) rfl ?_; intro w1 z1 s1 l1) | (refine wpList_box_new rfl 103 (.tmp 2) rfl (rt qx qz) rfl ?_; intro w2 z2 s2 l2) | ((with_reducible show wpList _ _ _ (({ dst := some 6, op := _, type := _, pos := _, after := _, guard := _ } : Oper) :: _) _ _); refine wpList_alloc_new rfl 103 rfl 10 _ zeroRatio ?_; intro w3 z3 s3 l3) | ((with_reducible show wpList _ _ _ (({ dst := some 7, op := _, type := _, pos := _, after := _, guard := _ } : Oper) :: _) _ _); refine wpList_alloc_new rfl 103 rfl 10 _ zeroRatio ?_; intro w4 z4 s4 l4))
  have e2 : w1.heap.size = w.heap.size + 1 := s1
  have e3 : w2.heap.size = w.heap.size + 1 + 1 := by omega
  have e4 : w3.heap.size = w.heap.size + 1 + 1 + 1 := by omega
  rw [e2] at z2
  rw [e3] at z3
  rw [e4] at z4
  have V : Hid (Below w.heap.size w w4 ∧ Blk w4 w.heap.size 103 (rt px pz) ∧ Blk w4 (w.heap.size + 1) 103 (rt qx qz) ∧ Blk w4 (w.heap.size + 1 + 1) 103 (rt [0, 0, 0, 0, 0] [0, 0, 0, 0, 0]) ∧ Blk w4 (w.heap.size + 1 + 1 + 1) 103 (rt [0, 0, 0, 0, 0] [0, 0, 0, 0, 0])) := ⟨below_chain (below_chain (below_chain l1 l2 (by omega)) l3 (by omega)) l4 (by omega), ((z1.later l2 (by omega)).later l3 (by omega)).later l4 (by omega), (z2.later l3 (by omega)).later l4 (by omega), z3.later l4 (by omega), z4⟩
  clear z1 s1 l1 z2 s2 l2 z3 s3 l3 z4 s4 l4 e2 e3 e4
  change wpList _ _ _ _ _ _
  go_wp2_with (first | ((with_reducible show wpList _ _ _ ({ dst := some 22, op := _, type := _, pos := _, after := _, guard := _ } :: _) _ _); refine Hid.out ?_) | ((with_reducible show wpList _ _ _ (({ dst := some 11, op := _, type := _, pos := _, after := _, guard := _ } : Oper) :: _) _ _); refine wpList_load_mid rfl 27 (.tmp 10) rfl w.heap.size 0 rfl (u64s px) _ V.out.2.1.fst Try.underlying27 rfl (L5.out _ HL.out.1.1) ?_) | ((with_reducible show wpList _ _ _ (({ dst := some 13, op := _, type := _, pos := _, after := _, guard := _ } : Oper) :: _) _ _); refine wpList_load_mid rfl 27 (.tmp 12) rfl (w.heap.size + 1) 0 rfl (u64s qx) _ V.out.2.2.1.fst Try.underlying27 rfl (L5.out _ HL.out.1.2.2.1) ?_) | (go_at_call 27; refine (HX _).mono ?_; rintro e w5 ⟨rfl, l5⟩; have V5 : Hid (Below w.heap.size w w5 ∧ Blk w5 w.heap.size 103 (rt px pz) ∧ Blk w5 (w.heap.size + 1) 103 (rt qx qz) ∧ Blk w5 (w.heap.size + 1 + 1) 103 (rt [0, 0, 0, 0, 0] [0, 0, 0, 0, 0]) ∧ Blk w5 (w.heap.size + 1 + 1 + 1) 103 (rt [0, 0, 0, 0, 0] [0, 0, 0, 0, 0])) := ⟨below_chain V.out.1 l5 V.out.1.size, V.out.2.1.later l5 V.out.2.1.lt, V.out.2.2.1.later l5 V.out.2.2.1.lt, V.out.2.2.2.1.later l5 V.out.2.2.2.1.lt, V.out.2.2.2.2.later l5 V.out.2.2.2.2.lt⟩; clear l5) | (refine wpList_store_fst rfl (.tmp 17) (.tmp 15) rfl w.heap.size rfl px pz ax rfl V5.out.2.1 HL.out.1.1 HL.out.2.1 ?_; intro w6 b6 s6 k6) | (refine wpList_store_fst rfl (.tmp 18) (.tmp 16) rfl (w.heap.size + 1) rfl qx qz bx rfl (V5.out.2.2.1.kept k6 (by omega)) HL.out.1.2.2.1 HL.out.2.2.2.1 ?_; intro w7 b7 s7 k7))
  have V7 : Hid (Below w.heap.size w w7 ∧ Blk w7 w.heap.size 103 (rt ax pz) ∧ Blk w7 (w.heap.size + 1) 103 (rt bx qz) ∧ Blk w7 (w.heap.size + 1 + 1) 103 (rt [0, 0, 0, 0, 0] [0, 0, 0, 0, 0]) ∧ Blk w7 (w.heap.size + 1 + 1 + 1) 103 (rt [0, 0, 0, 0, 0] [0, 0, 0, 0, 0])) := ⟨below_kept (below_kept V5.out.1 k6 V5.out.1.size (fun j hj => by omega)) k7 (by rw [s6]; exact V5.out.1.size) (fun j hj => by omega), b6.kept k7 (by omega), b7, (V5.out.2.2.2.1.kept k6 (by omega)).kept k7 (by omega), (V5.out.2.2.2.2.kept k6 (by omega)).kept k7 (by omega)⟩
  clear b6 s6 k6 b7 s7 k7 V5 V
  change wpList _ _ _ _ _ _
  go_wp2_with (first | ((with_reducible show wpList _ _ _ (({ dst := some 22, op := _, type := _, pos := _, after := _, guard := _ } : Oper) :: _) _ _); refine wpList_load_mid rfl 27 (.tmp 21) rfl w.heap.size 5 rfl (u64s pz) _ (V7.out.2.1.snd HL.out.2.1) Try.underlying27 rfl (L5.out _ HL.out.1.2.1) ?_) | ((with_reducible show wpList _ _ _ (({ dst := some 24, op := _, type := _, pos := _, after := _, guard := _ } : Oper) :: _) _ _); refine wpList_load_mid rfl 27 (.tmp 23) rfl (w.heap.size + 1) 5 rfl (u64s qz) _ (V7.out.2.2.1.snd HL.out.2.2.2.1) Try.underlying27 rfl (L5.out _ HL.out.1.2.2.2) ?_) | (go_at_call 27; refine (HZ _).mono ?_; rintro e w8 ⟨rfl, l8⟩; have V8 : Hid (Below w.heap.size w w8 ∧ Blk w8 w.heap.size 103 (rt ax pz) ∧ Blk w8 (w.heap.size + 1) 103 (rt bx qz) ∧ Blk w8 (w.heap.size + 1 + 1) 103 (rt [0, 0, 0, 0, 0] [0, 0, 0, 0, 0]) ∧ Blk w8 (w.heap.size + 1 + 1 + 1) 103 (rt [0, 0, 0, 0, 0] [0, 0, 0, 0, 0])) := ⟨below_chain V7.out.1 l8 V7.out.1.size, V7.out.2.1.later l8 V7.out.2.1.lt, V7.out.2.2.1.later l8 V7.out.2.2.1.lt, V7.out.2.2.2.1.later l8 V7.out.2.2.2.1.lt, V7.out.2.2.2.2.later l8 V7.out.2.2.2.2.lt⟩; clear l8) | (refine wpList_store_snd rfl (.tmp 28) (.tmp 26) rfl w.heap.size rfl ax pz az rfl V8.out.2.1 HL.out.2.1 HL.out.1.2.1 HL.out.2.2.1 ?_; intro w9 b9 s9 k9) | (refine wpList_store_snd rfl (.tmp 29) (.tmp 27) rfl (w.heap.size + 1) rfl bx qz bz rfl (V8.out.2.2.1.kept k9 (by omega)) HL.out.2.2.2.1 HL.out.1.2.2.2 HL.out.2.2.2.2 ?_; intro wr br sr kr))
  have HQ : Hid (Below w.heap.size w wr ∧ Blk wr w.heap.size 103 (rt ax az) ∧ Blk wr (w.heap.size + 1) 103 (rt bx bz) ∧ Blk wr (w.heap.size + 1 + 1) 103 (rt [0, 0, 0, 0, 0] [0, 0, 0, 0, 0]) ∧ Blk wr (w.heap.size + 1 + 1 + 1) 103 (rt [0, 0, 0, 0, 0] [0, 0, 0, 0, 0])) := ⟨below_kept (below_kept V8.out.1 k9 V8.out.1.size (fun j hj => by omega)) kr (by rw [s9]; exact V8.out.1.size) (fun j hj => by omega), b9.kept kr (by omega), br, (V8.out.2.2.2.1.kept k9 (by omega)).kept kr (by omega), (V8.out.2.2.2.2.kept k9 (by omega)).kept kr (by omega)⟩
  clear b9 s9 k9 br sr kr V8 V7
  refine wp_region_noPanic (wp_region_held_drew (S := fun W => Blk W w.heap.size 103 (rt ax az) ∧ Blk W (w.heap.size + 1) 103 (rt bx bz)) (by kernel_rfl) ⟨(HQ.out.2.1).drew, (HQ.out.2.2.1).drew⟩ (fun hH => ?_))
  refine hLoad 0 (some 30) (rt ax az) rfl rfl (by kernel_rfl) (by kernel_rfl) (by kernel_rfl) (fun _ _ _ h => h) (by rfl) 103 (.tmp 4) rfl w.heap.size 0 rfl _ (fun _ h => (h.1).whole) Try.underlying103 rfl (L10.out _ _ HL.out.2.1 HL.out.2.2.1) hH ?_
  simp only [Act.put, List.setIfInBounds_toArray, List.set_cons_zero, List.set_cons_succ]
  refine hLoad 1 (some 31) (rt bx bz) rfl rfl (by kernel_rfl) (by kernel_rfl) (by kernel_rfl) (fun _ _ _ h => h) (by rfl) 103 (.tmp 5) rfl (w.heap.size + 1) 0 rfl _ (fun _ h => (h.2).whole) Try.underlying103 rfl (L10.out _ _ HL.out.2.2.2.1 HL.out.2.2.2.2) hH ?_
  simp only [Act.put, List.setIfInBounds_toArray, List.set_cons_zero, List.set_cons_succ]
  refine wpAnyH_ready (rs := [2]) (by kernel_rfl) (by simp) (AllReadyH.cons rfl (fun K hK => ?_) AllReadyH.nil)
  rw [if_pos (by rfl)]
  refine last_store 103 (.tmp 6) (.tmp 30) rfl rfl (w.heap.size + 1 + 1) rfl 103 _ (rt ax az) rfl (HQ.out.2.2.2.1).drew (by rw [rt_length HL.out.2.1 HL.out.2.2.1]; rfl) (L10.out _ _ HL.out.2.1 HL.out.2.2.1) (rt_one _ _) ?_
  intro y0 b0 s0 k0
  refine hK.out _ _ ⟨(hH.1).kept k0 (by omega), (hH.2).kept k0 (by omega)⟩ (fun hH => ?_)
  clear hK K
  refine wpAnyH_ready (rs := [3]) (by kernel_rfl) (by simp) (AllReadyH.cons rfl (fun K hK => ?_) AllReadyH.nil)
  rw [if_pos (by rfl)]
  refine last_store 103 (.tmp 7) (.tmp 31) rfl rfl (w.heap.size + 1 + 1 + 1) rfl 103 _ (rt bx bz) rfl ((HQ.out.2.2.2.2).drew.kept k0 (by omega)) (by rw [rt_length HL.out.2.2.2.1 HL.out.2.2.2.2]; rfl) (L10.out _ _ HL.out.2.2.2.1 HL.out.2.2.2.2) (rt_one _ _) ?_
  intro y1 b1 s1 k1
  refine hK.out _ _ ⟨(hH.1).kept k1 (by omega), (hH.2).kept k1 (by omega)⟩ (fun hH => ?_)
  clear hK K
  refine wpAnyH_done (by kernel_rfl) (NoPanic.normal ?_) _
  clear hH
  go_wp2_with fail
  have q2 := HQ.out.1.size
  exact ret_blk2 rfl (w.heap.size + 1 + 1) (w.heap.size + 1 + 1 + 1) (rt ax az) (rt bx bz) _ _ rfl rfl (b0.kept k1 (by omega)) b1 Try.underlying103 Try.underlying103 rfl rfl (L10.out _ _ HL.out.2.1 HL.out.2.2.1) (L10.out _ _ HL.out.2.2.2.1 HL.out.2.2.2.2) rfl ⟨rfl, below_kept (below_kept (below_dn HQ.out.1 1) k0 q2 (fun j hj => by omega)) k1 (by rw [s0]; exact q2) (fun j hj => by omega)⟩
end Go.Proofs.Ytnifolefhelmcaa

namespace Go.Proofs.Ytnifolefhelmcaa
open Go.RowKit
set_option linter.unusedVariables false
set_option linter.unusedSimpArgs false

theorem v5_times (a b c d e n : Int) : v5 (a * n) (b * n) (c * n) (d * n) (e * n) = v5 a b c d e * n := by
  unfold v5
  simp only [Int.add_mul, Int.mul_assoc]
theorem times_bd {x n : Int} (hx : Lim x) (hn : 0 ≤ n ∧ n < 4294967296) : 0 ≤ x * n ∧ x * n < 19342813113834066795298816 := by
  have := mb2 hx hn
  refine ⟨this.1, ?_⟩
  have h := this.2
  rw [show (2251799813701632 : Int) * 4294967296 = 9671406556987402141827072 by decide] at h
  omega
set_option maxRecDepth 20000 in
set_option maxHeartbeats 4000000 in
theorem times_any (n : Int) (hn : 0 ≤ n ∧ n < 4294967296) (l : List Int) (x : Int) (hl : Fe l x) (w : World) :
    Calls Try.prog 30 #[.agg (u64s l).toArray, .int .u32 n] w fun e w' => ∃ r, e = .returned (.agg (u64s r).toArray) ∧ Fe r (x * n % PR) ∧ Below w.heap.size w w' := by
  obtain ⟨a0, a1, a2, a3, a4, rfl, ha0, ha1, ha2, ha3, ha4, hx⟩ := hl.parts
  have b0 := times_bd ha0 hn
  have b1 := times_bd ha1 hn
  have b2 := times_bd ha2 hn
  have b3 := times_bd ha3 hn
  have b4 := times_bd ha4 hn
  have hw : Word n := ⟨hn.1, by omega⟩
  have wd : ∀ {z : Int}, Lim z → Word z := fun h => ⟨h.1, by have := h.2; omega⟩
  have HC : Hid ((∀ w, Calls Try.prog 70 #[.int .u64 a0, .int .u64 n] w fun e w' => e = .returned (.agg (u64s (pr (a0 * n))).toArray) ∧ Below w.heap.size w w') ∧ (∀ w, Calls Try.prog 70 #[.int .u64 a1, .int .u64 n] w fun e w' => e = .returned (.agg (u64s (pr (a1 * n))).toArray) ∧ Below w.heap.size w w') ∧ (∀ w, Calls Try.prog 70 #[.int .u64 a2, .int .u64 n] w fun e w' => e = .returned (.agg (u64s (pr (a2 * n))).toArray) ∧ Below w.heap.size w w') ∧ (∀ w, Calls Try.prog 70 #[.int .u64 a3, .int .u64 n] w fun e w' => e = .returned (.agg (u64s (pr (a3 * n))).toArray) ∧ Below w.heap.size w w') ∧ (∀ w, Calls Try.prog 70 #[.int .u64 a4, .int .u64 n] w fun e w' => e = .returned (.agg (u64s (pr (a4 * n))).toArray) ∧ Below w.heap.size w w')) :=
    ⟨fproduct_any a0 n (wd ha0) hw, fproduct_any a1 n (wd ha1) hw, fproduct_any a2 n (wd ha2) hw, fproduct_any a3 n (wd ha3) hw, fproduct_any a4 n (wd ha4) hw⟩
  have HF : Hid (∀ w, Blk w w.heap.size 27 (u64s [a0, a1, a2, a3, a4]) → True) := fun _ _ => trivial
  have HG : Hid (∀ g w, Blk w g 27 (u64s [a0, a1, a2, a3, a4]) → Calls Try.prog 69 #[.pointer (some ⟨g, 0, none⟩), .agg (u64s (pr (a0 * n))).toArray, .agg (u64s (pr (a1 * n))).toArray, .agg (u64s (pr (a2 * n))).toArray, .agg (u64s (pr (a3 * n))).toArray, .agg (u64s (pr (a4 * n))).toArray] w fun e w' => e = .returned (.tuple #[]) ∧ (∃ l, Blk w' g 27 (u64s l) ∧ Fe l (x * n % PR)) ∧ Kept (fun k => k = g) w w') := by
    intro g w hB
    have h := fold_any g a0 a1 a2 a3 a4 (a0 * n) (a1 * n) (a2 * n) (a3 * n) (a4 * n) w hB ⟨b0.1, by omega⟩ ⟨b1.1, by omega⟩ ⟨b2.1, by omega⟩ ⟨b3.1, by omega⟩ ⟨b4.1, by omega⟩
    rw [v5_times, ← pm_l, hx] at h
    exact h
  have e1 : IntKind.u64.wrap n = n := by rw [IntKind.wrap_u64]; omega
  clear hl ha0 ha1 ha2 ha3 ha4 hx b0 b1 b2 b3 b4 hw wd HF hn
  go_enter Try.func30, Try.ntmps30
  go_wp2_with (first | (refine wpList_box_new rfl 27 (.tmp 0) rfl (u64s [a0, a1, a2, a3, a4]) rfl ?_; intro x1 z1 s1 l1) | (refine wpList_alloc_new rfl 27 rfl 5 _ zeroElem ?_; intro x2 z2 s2 l2))
  have e2 : x1.heap.size = w.heap.size + 1 := s1
  rw [e2] at z2
  have WW : Hid (Below w.heap.size w x2 ∧ Blk x2 w.heap.size 27 (u64s [a0, a1, a2, a3, a4]) ∧ Blk x2 (w.heap.size + 1) 27 (u64s [0, 0, 0, 0, 0])) := ⟨below_chain l1 l2 (by omega), z1.later l2 (by omega), z2⟩
  clear z1 s1 l1 z2 s2 l2 e2
  refine region_invP 25 ((.val (.pointer (some ⟨w.heap.size, 0, none⟩))) :: (.val (.pointer (some ⟨w.heap.size, 0, none⟩))) :: (.val (.int .u64 a0)) :: (.val (.int .u64 n)) :: (.val (.agg (u64s (pr (a0 * n))).toArray)) :: (.val (.pointer (some ⟨w.heap.size, 0, none⟩))) :: (.val (.pointer (some ⟨w.heap.size, 1, none⟩))) :: (.val (.int .u64 a1)) :: (.val (.int .u64 n)) :: (.val (.agg (u64s (pr (a1 * n))).toArray)) :: (.val (.pointer (some ⟨w.heap.size, 0, none⟩))) :: (.val (.pointer (some ⟨w.heap.size, 2, none⟩))) :: (.val (.int .u64 a2)) :: (.val (.int .u64 n)) :: (.val (.agg (u64s (pr (a2 * n))).toArray)) :: (.val (.pointer (some ⟨w.heap.size, 0, none⟩))) :: (.val (.pointer (some ⟨w.heap.size, 3, none⟩))) :: (.val (.int .u64 a3)) :: (.val (.int .u64 n)) :: (.val (.agg (u64s (pr (a3 * n))).toArray)) :: (.val (.pointer (some ⟨w.heap.size, 0, none⟩))) :: (.val (.pointer (some ⟨w.heap.size, 4, none⟩))) :: (.val (.int .u64 a4)) :: (.val (.int .u64 n)) :: (.val (.agg (u64s (pr (a4 * n))).toArray)) :: []) (by kernel_rfl) (by kernel_rfl) (by kernel_rfl) [] ⟨.inl rfl, .inl rfl, .inl rfl, .inl rfl, .inl rfl, .inl rfl, .inl rfl, .inl rfl, .inl rfl, .inl rfl, .inl rfl, .inl rfl, .inl rfl, .inl rfl, .inl rfl, .inl rfl, .inl rfl, .inl rfl, .inl rfl, .inl rfl, .inl rfl, .inl rfl, .inl rfl, .inl rfl, .inl rfl, trivial⟩ (by kernel_rfl) ?_ ?_
  · refine Steps'.cons ?_ (Steps'.cons ?_ (Steps'.cons ?_ (Steps'.cons ?_ (Steps'.cons ?_ (Steps'.cons ?_ (Steps'.cons ?_ (Steps'.cons ?_ (Steps'.cons ?_ (Steps'.cons ?_ (Steps'.cons ?_ (Steps'.cons ?_ (Steps'.cons ?_ (Steps'.cons ?_ (Steps'.cons ?_ (Steps'.cons ?_ (Steps'.cons ?_ (Steps'.cons ?_ (Steps'.cons ?_ (Steps'.cons ?_ (Steps'.cons ?_ (Steps'.cons ?_ (Steps'.cons ?_ (Steps'.cons ?_ (Steps'.cons ?_ (Steps'.one _ _ _ _ _ _ _)))))))))))))))))))))))))
    · intro ax wx hb hs hd
      have h2 : ax.tmps.getD 2 undef = (.pointer (some ⟨w.heap.size, 0, none⟩)) := hs 2 (by kernel_rfl)
      refine Does.value (.pointer (some ⟨w.heap.size, 0, none⟩)) ?_ rfl
      clear hs hd
      go_simp
    · intro ax wx hb hs hd
      have h8 : ax.tmps.getD 8 undef = (.pointer (some ⟨w.heap.size, 0, none⟩)) := hd 0 8 rfl (by kernel_rfl) (by decide)
      refine Does.value (.pointer (some ⟨w.heap.size, 0, none⟩)) ?_ rfl
      clear hs hd
      go_simp
    · intro ax wx hb hs hd
      have h9 : ax.tmps.getD 9 undef = (.pointer (some ⟨w.heap.size, 0, none⟩)) := hd 1 9 rfl (by kernel_rfl) (by decide)
      have cx : wx.cell? ⟨w.heap.size, 0, none⟩ = some (.int .u64 a0) := (Blk.later WW.out.2.1 hb (Blk.lt WW.out.2.1)).cell 0
      refine Does.value (.int .u64 a0) ?_ rfl
      clear hs hd
      go_simp
    · intro ax wx hb hs hd
      have h5 : ax.tmps.getD 5 undef = (.int .u64 n) := hs 5 (by kernel_rfl)
      refine Does.value (.int .u64 n) ?_ rfl
      clear hs hd
      go_simp
    · intro ax wx hb hs hd
      have h10 : ax.tmps.getD 10 undef = (.int .u64 a0) := hd 2 10 rfl (by kernel_rfl) (by decide)
      have h11 : ax.tmps.getD 11 undef = (.int .u64 n) := hd 3 11 rfl (by kernel_rfl) (by decide)
      refine Does.call 70 #[(.int .u64 a0), (.int .u64 n)] (by clear hs hd; go_simp) ?_
      refine (HC.out.1 _).mono ?_
      rintro z w' ⟨rfl, l⟩
      exact ⟨_, rfl, rfl, l⟩
    · intro ax wx hb hs hd
      have h2 : ax.tmps.getD 2 undef = (.pointer (some ⟨w.heap.size, 0, none⟩)) := hs 2 (by kernel_rfl)
      refine Does.value (.pointer (some ⟨w.heap.size, 0, none⟩)) ?_ rfl
      clear hs hd
      go_simp
    · intro ax wx hb hs hd
      have h13 : ax.tmps.getD 13 undef = (.pointer (some ⟨w.heap.size, 0, none⟩)) := hd 5 13 rfl (by kernel_rfl) (by decide)
      refine Does.value (.pointer (some ⟨w.heap.size, 1, none⟩)) ?_ rfl
      clear hs hd
      go_simp
    · intro ax wx hb hs hd
      have h14 : ax.tmps.getD 14 undef = (.pointer (some ⟨w.heap.size, 1, none⟩)) := hd 6 14 rfl (by kernel_rfl) (by decide)
      have cx : wx.cell? ⟨w.heap.size, 1, none⟩ = some (.int .u64 a1) := (Blk.later WW.out.2.1 hb (Blk.lt WW.out.2.1)).cell 1
      refine Does.value (.int .u64 a1) ?_ rfl
      clear hs hd
      go_simp
    · intro ax wx hb hs hd
      have h5 : ax.tmps.getD 5 undef = (.int .u64 n) := hs 5 (by kernel_rfl)
      refine Does.value (.int .u64 n) ?_ rfl
      clear hs hd
      go_simp
    · intro ax wx hb hs hd
      have h15 : ax.tmps.getD 15 undef = (.int .u64 a1) := hd 7 15 rfl (by kernel_rfl) (by decide)
      have h16 : ax.tmps.getD 16 undef = (.int .u64 n) := hd 8 16 rfl (by kernel_rfl) (by decide)
      refine Does.call 70 #[(.int .u64 a1), (.int .u64 n)] (by clear hs hd; go_simp) ?_
      refine (HC.out.2.1 _).mono ?_
      rintro z w' ⟨rfl, l⟩
      exact ⟨_, rfl, rfl, l⟩
    · intro ax wx hb hs hd
      have h2 : ax.tmps.getD 2 undef = (.pointer (some ⟨w.heap.size, 0, none⟩)) := hs 2 (by kernel_rfl)
      refine Does.value (.pointer (some ⟨w.heap.size, 0, none⟩)) ?_ rfl
      clear hs hd
      go_simp
    · intro ax wx hb hs hd
      have h18 : ax.tmps.getD 18 undef = (.pointer (some ⟨w.heap.size, 0, none⟩)) := hd 10 18 rfl (by kernel_rfl) (by decide)
      refine Does.value (.pointer (some ⟨w.heap.size, 2, none⟩)) ?_ rfl
      clear hs hd
      go_simp
    · intro ax wx hb hs hd
      have h19 : ax.tmps.getD 19 undef = (.pointer (some ⟨w.heap.size, 2, none⟩)) := hd 11 19 rfl (by kernel_rfl) (by decide)
      have cx : wx.cell? ⟨w.heap.size, 2, none⟩ = some (.int .u64 a2) := (Blk.later WW.out.2.1 hb (Blk.lt WW.out.2.1)).cell 2
      refine Does.value (.int .u64 a2) ?_ rfl
      clear hs hd
      go_simp
    · intro ax wx hb hs hd
      have h5 : ax.tmps.getD 5 undef = (.int .u64 n) := hs 5 (by kernel_rfl)
      refine Does.value (.int .u64 n) ?_ rfl
      clear hs hd
      go_simp
    · intro ax wx hb hs hd
      have h20 : ax.tmps.getD 20 undef = (.int .u64 a2) := hd 12 20 rfl (by kernel_rfl) (by decide)
      have h21 : ax.tmps.getD 21 undef = (.int .u64 n) := hd 13 21 rfl (by kernel_rfl) (by decide)
      refine Does.call 70 #[(.int .u64 a2), (.int .u64 n)] (by clear hs hd; go_simp) ?_
      refine (HC.out.2.2.1 _).mono ?_
      rintro z w' ⟨rfl, l⟩
      exact ⟨_, rfl, rfl, l⟩
    · intro ax wx hb hs hd
      have h2 : ax.tmps.getD 2 undef = (.pointer (some ⟨w.heap.size, 0, none⟩)) := hs 2 (by kernel_rfl)
      refine Does.value (.pointer (some ⟨w.heap.size, 0, none⟩)) ?_ rfl
      clear hs hd
      go_simp
    · intro ax wx hb hs hd
      have h23 : ax.tmps.getD 23 undef = (.pointer (some ⟨w.heap.size, 0, none⟩)) := hd 15 23 rfl (by kernel_rfl) (by decide)
      refine Does.value (.pointer (some ⟨w.heap.size, 3, none⟩)) ?_ rfl
      clear hs hd
      go_simp
    · intro ax wx hb hs hd
      have h24 : ax.tmps.getD 24 undef = (.pointer (some ⟨w.heap.size, 3, none⟩)) := hd 16 24 rfl (by kernel_rfl) (by decide)
      have cx : wx.cell? ⟨w.heap.size, 3, none⟩ = some (.int .u64 a3) := (Blk.later WW.out.2.1 hb (Blk.lt WW.out.2.1)).cell 3
      refine Does.value (.int .u64 a3) ?_ rfl
      clear hs hd
      go_simp
    · intro ax wx hb hs hd
      have h5 : ax.tmps.getD 5 undef = (.int .u64 n) := hs 5 (by kernel_rfl)
      refine Does.value (.int .u64 n) ?_ rfl
      clear hs hd
      go_simp
    · intro ax wx hb hs hd
      have h25 : ax.tmps.getD 25 undef = (.int .u64 a3) := hd 17 25 rfl (by kernel_rfl) (by decide)
      have h26 : ax.tmps.getD 26 undef = (.int .u64 n) := hd 18 26 rfl (by kernel_rfl) (by decide)
      refine Does.call 70 #[(.int .u64 a3), (.int .u64 n)] (by clear hs hd; go_simp) ?_
      refine (HC.out.2.2.2.1 _).mono ?_
      rintro z w' ⟨rfl, l⟩
      exact ⟨_, rfl, rfl, l⟩
    · intro ax wx hb hs hd
      have h2 : ax.tmps.getD 2 undef = (.pointer (some ⟨w.heap.size, 0, none⟩)) := hs 2 (by kernel_rfl)
      refine Does.value (.pointer (some ⟨w.heap.size, 0, none⟩)) ?_ rfl
      clear hs hd
      go_simp
    · intro ax wx hb hs hd
      have h28 : ax.tmps.getD 28 undef = (.pointer (some ⟨w.heap.size, 0, none⟩)) := hd 20 28 rfl (by kernel_rfl) (by decide)
      refine Does.value (.pointer (some ⟨w.heap.size, 4, none⟩)) ?_ rfl
      clear hs hd
      go_simp
    · intro ax wx hb hs hd
      have h29 : ax.tmps.getD 29 undef = (.pointer (some ⟨w.heap.size, 4, none⟩)) := hd 21 29 rfl (by kernel_rfl) (by decide)
      have cx : wx.cell? ⟨w.heap.size, 4, none⟩ = some (.int .u64 a4) := (Blk.later WW.out.2.1 hb (Blk.lt WW.out.2.1)).cell 4
      refine Does.value (.int .u64 a4) ?_ rfl
      clear hs hd
      go_simp
    · intro ax wx hb hs hd
      have h5 : ax.tmps.getD 5 undef = (.int .u64 n) := hs 5 (by kernel_rfl)
      refine Does.value (.int .u64 n) ?_ rfl
      clear hs hd
      go_simp
    · intro ax wx hb hs hd
      have h30 : ax.tmps.getD 30 undef = (.int .u64 a4) := hd 22 30 rfl (by kernel_rfl) (by decide)
      have h31 : ax.tmps.getD 31 undef = (.int .u64 n) := hd 23 31 rfl (by kernel_rfl) (by decide)
      refine Does.call 70 #[(.int .u64 a4), (.int .u64 n)] (by clear hs hd; go_simp) ?_
      refine (HC.out.2.2.2.2 _).mono ?_
      rintro z w' ⟨rfl, l⟩
      exact ⟨_, rfl, rfl, l⟩
  · intro wx hb
    refine @EndsP.val _ _ _ _ _ _ _ _ (.pointer (some ⟨w.heap.size, 0, none⟩)) rfl ?_
    refine @EndsP.val _ _ _ _ _ _ _ _ (.pointer (some ⟨w.heap.size, 0, none⟩)) rfl ?_
    refine @EndsP.val _ _ _ _ _ _ _ _ (.int .u64 a0) rfl ?_
    refine @EndsP.val _ _ _ _ _ _ _ _ (.int .u64 n) rfl ?_
    refine @EndsP.val _ _ _ _ _ _ _ _ (.agg (u64s (pr (a0 * n))).toArray) rfl ?_
    refine @EndsP.val _ _ _ _ _ _ _ _ (.pointer (some ⟨w.heap.size, 0, none⟩)) rfl ?_
    refine @EndsP.val _ _ _ _ _ _ _ _ (.pointer (some ⟨w.heap.size, 1, none⟩)) rfl ?_
    refine @EndsP.val _ _ _ _ _ _ _ _ (.int .u64 a1) rfl ?_
    refine @EndsP.val _ _ _ _ _ _ _ _ (.int .u64 n) rfl ?_
    refine @EndsP.val _ _ _ _ _ _ _ _ (.agg (u64s (pr (a1 * n))).toArray) rfl ?_
    refine @EndsP.val _ _ _ _ _ _ _ _ (.pointer (some ⟨w.heap.size, 0, none⟩)) rfl ?_
    refine @EndsP.val _ _ _ _ _ _ _ _ (.pointer (some ⟨w.heap.size, 2, none⟩)) rfl ?_
    refine @EndsP.val _ _ _ _ _ _ _ _ (.int .u64 a2) rfl ?_
    refine @EndsP.val _ _ _ _ _ _ _ _ (.int .u64 n) rfl ?_
    refine @EndsP.val _ _ _ _ _ _ _ _ (.agg (u64s (pr (a2 * n))).toArray) rfl ?_
    refine @EndsP.val _ _ _ _ _ _ _ _ (.pointer (some ⟨w.heap.size, 0, none⟩)) rfl ?_
    refine @EndsP.val _ _ _ _ _ _ _ _ (.pointer (some ⟨w.heap.size, 3, none⟩)) rfl ?_
    refine @EndsP.val _ _ _ _ _ _ _ _ (.int .u64 a3) rfl ?_
    refine @EndsP.val _ _ _ _ _ _ _ _ (.int .u64 n) rfl ?_
    refine @EndsP.val _ _ _ _ _ _ _ _ (.agg (u64s (pr (a3 * n))).toArray) rfl ?_
    refine @EndsP.val _ _ _ _ _ _ _ _ (.pointer (some ⟨w.heap.size, 0, none⟩)) rfl ?_
    refine @EndsP.val _ _ _ _ _ _ _ _ (.pointer (some ⟨w.heap.size, 4, none⟩)) rfl ?_
    refine @EndsP.val _ _ _ _ _ _ _ _ (.int .u64 a4) rfl ?_
    refine @EndsP.val _ _ _ _ _ _ _ _ (.int .u64 n) rfl ?_
    refine @EndsP.val _ _ _ _ _ _ _ _ (.agg (u64s (pr (a4 * n))).toArray) rfl ?_

    intro hD nf hn
    obtain ⟨mf, rfl⟩ : ∃ mf, nf = mf + 1 := ⟨nf - 1, by have h3 : 1 ≤ nf := hn; omega⟩
    clear hD hn
    simp only [Act.put, List.setIfInBounds_toArray, List.set_cons_zero, List.set_cons_succ]
    have W2 : Hid (Below w.heap.size w wx ∧ Blk wx w.heap.size 27 (u64s [a0, a1, a2, a3, a4]) ∧ Blk wx (w.heap.size + 1) 27 (u64s [0, 0, 0, 0, 0])) := ⟨below_chain WW.out.1 hb WW.out.1.size, WW.out.2.1.later hb WW.out.2.1.lt, WW.out.2.2.later hb WW.out.2.2.lt⟩
    clear WW hb
    refine wpAny_ready (rs := [25]) (by kernel_rfl) (by simp) (AllReady.cons rfl (fun K hK => ?_) AllReady.nil)
    rw [if_pos (by rfl)]
    go_simp
    go_wp2_with (go_at_call 69; refine (HG.out w.heap.size _ W2.out.2.1).mono ?_; rintro e x3 ⟨rfl, ⟨lr, B3, F3⟩, k3⟩; have HR : Hid (Blk x3 w.heap.size 27 (u64s lr) ∧ Fe lr (x * n % PR) ∧ Blk x3 (w.heap.size + 1) 27 (u64s [0, 0, 0, 0, 0]) ∧ Below w.heap.size w x3 ∧ lr.length = 5) := ⟨B3, F3, W2.out.2.2.kept k3 (by omega), below_kept W2.out.1 k3 W2.out.1.size (fun j hj => by omega), F3.len⟩; clear B3 F3 k3)
    refine wpAny_done (by kernel_rfl) (NoPanic.normal ?_) _
    go_wp2_with (first | (refine wpList_load_blk rfl 27 (.tmp 2) rfl w.heap.size rfl (u64s lr) _ HR.out.1 Try.underlying27 rfl (by rw [u64s_length, HR.out.2.2.2.2]; exact sizeElem) ?_) | (refine wpList_store_blk rfl 27 27 _ _ rfl _ rfl _ (u64s lr) rfl HR.out.2.2.1 (by rw [u64s_length, HR.out.2.2.2.2]; rfl) (by rw [u64s_length, HR.out.2.2.2.2]; exact sizeElem) (u64s_one _) ?_; intro y7 b7 s7 k7))
    exact ret_blk rfl (w.heap.size + 1) (u64s lr) _ rfl b7 Try.underlying27 rfl (by rw [u64s_length, HR.out.2.2.2.2]; exact sizeElem) rfl ⟨lr, rfl, HR.out.2.1, below_kept HR.out.2.2.2.1 k7 HR.out.2.2.2.1.size (fun j hj => by omega)⟩
end Go.Proofs.Ytnifolefhelmcaa

namespace Go.Proofs.Ytnifolefhelmcaa
open Go.RowKit
set_option linter.unusedVariables false
set_option linter.unusedSimpArgs false

theorem build_rat (a b : List Int) (ha : a.length = 5) (hb : b.length = 5) (w : World) : (Instr.build 103 #[(0, .agg (u64s a).toArray), (1, .agg (u64s b).toArray)]).run Try.prog w = .ok (.agg (rt a b).toArray) w := by
  obtain ⟨a0, a1, a2, a3, a4, rfl⟩ := five ha
  obtain ⟨b0, b1, b2, b3, b4, rfl⟩ := five hb
  kernel_rfl
/-- A ratio of two numbers. -/
def isR (x z : Int) (v : Value) (w : World) : Prop := ∃ a b, v = .agg (rt a b).toArray ∧ Fe a x ∧ Fe b z
theorem isR_later (x z : Int) : ∀ v w w', Below w.heap.size w w' → isR x z v w → isR x z v w' := fun _ _ _ _ h => h
theorem does_rat {base : Nat} {ρ : Operand → Value} {o : Oper} {w : World} (x y : Operand) (ho : o.op = .build 103 #[(0, x), (1, y)]) (a b : List Int) (hx : ρ x = .agg (u64s a).toArray) (hy : ρ y = .agg (u64s b).toArray) (X Z : Int) (fa : Fe a X) (fb : Fe b Z) : Does base (.any (isR X Z) (isR_later X Z)) ρ o w := by
  refine Does.value (.agg (rt a b).toArray) ?_ ⟨a, b, rfl, fa, fb⟩
  unfold execOp
  simp [ho, hx, hy, Sem.run_bind, build_rat a b fa.len fb.len, Sem.run_pure, Result.andThen_ok]
set_option maxRecDepth 20000 in
set_option maxHeartbeats 8000000 in
theorem step_any (lu px pz qx qz : List Int) (u x2 z2 x3 z3 : Int) (h0 : Fe lu u) (h1 : Fe px x2) (h2 : Fe pz z2) (h3 : Fe qx x3) (h4 : Fe qz z3) (w : World) :
    Calls Try.prog 73 #[.agg (u64s lu).toArray, .agg (rt px pz).toArray, .agg (rt qx qz).toArray] w fun e w' => ∃ a b c d, e = .returned (.tuple #[.agg (rt a b).toArray, .agg (rt c d).toArray]) ∧ (Fe a (stI u x2 z2 x3 z3).1 ∧ Fe b (stI u x2 z2 x3 z3).2.1 ∧ Fe c (stI u x2 z2 x3 z3).2.2.1 ∧ Fe d (stI u x2 z2 x3 z3).2.2.2) ∧ Below w.heap.size w w' := by
  have HP : Hid (Fe lu u ∧ Fe px x2 ∧ Fe pz z2 ∧ Fe qx x3 ∧ Fe qz z3) := ⟨h0, h1, h2, h3, h4⟩
  have HL : Hid (lu.length = 5 ∧ px.length = 5 ∧ pz.length = 5 ∧ qx.length = 5 ∧ qz.length = 5) := ⟨h0.len, h1.len, h2.len, h3.len, h4.len⟩
  have L5 : Hid (∀ l : List Int, l.length = 5 → (Try.prog.info? 27).map (·.size) = some (u64s l).length) := fun l h => by rw [u64s_length, h]; exact sizeElem
  have L10 : Hid (∀ a b : List Int, a.length = 5 → b.length = 5 → (Try.prog.info? 103).map (·.size) = some (rt a b).length) := fun a b ha hb => by rw [rt_length ha hb]; exact sizeRatio
  clear h0 h1 h2 h3 h4
  go_enter Try.func73, Try.ntmps73
  go_wp2_with (first | (refine wpList_box_new rfl 27 (.tmp 0) rfl (u64s lu) rfl ?_; intro w0 b0 s0 l0) | (refine wpList_box_new rfl 103 (.tmp 1) rfl (rt px pz) rfl ?_; intro w1 b1 s1 l1) | (refine wpList_box_new rfl 103 (.tmp 2) rfl (rt qx qz) rfl ?_; intro w2 b2 s2 l2) | ((with_reducible show wpList _ _ _ (({ dst := some 6, op := _, type := _, pos := _, after := _, guard := _ } : Oper) :: _) _ _); refine wpList_alloc_new rfl 103 rfl 10 _ zeroRatio ?_; intro w3 b3 s3 l3) | ((with_reducible show wpList _ _ _ (({ dst := some 7, op := _, type := _, pos := _, after := _, guard := _ } : Oper) :: _) _ _); refine wpList_alloc_new rfl 103 rfl 10 _ zeroRatio ?_; intro w4 b4 s4 l4))
  have e1 : w0.heap.size = w.heap.size + 1 := s0
  have e2 : w1.heap.size = w.heap.size + 1 + 1 := by omega
  have e3 : w2.heap.size = w.heap.size + 1 + 1 + 1 := by omega
  have e4 : w3.heap.size = w.heap.size + 1 + 1 + 1 + 1 := by omega
  rw [e1] at b1
  rw [e2] at b2
  rw [e3] at b3
  rw [e4] at b4
  have V0 : Hid (Below w.heap.size w w4 ∧ Blk w4 w.heap.size 27 (u64s lu) ∧ Blk w4 (w.heap.size + 1) 103 (rt px pz) ∧ Blk w4 (w.heap.size + 1 + 1) 103 (rt qx qz) ∧ Blk w4 (w.heap.size + 1 + 1 + 1) 103 (rt [0, 0, 0, 0, 0] [0, 0, 0, 0, 0]) ∧ Blk w4 (w.heap.size + 1 + 1 + 1 + 1) 103 (rt [0, 0, 0, 0, 0] [0, 0, 0, 0, 0])) := ⟨below_chain (below_chain (below_chain (below_chain l0 l1 (by omega)) l2 (by omega)) l3 (by omega)) l4 (by omega), (((b0.later l1 (by omega)).later l2 (by omega)).later l3 (by omega)).later l4 (by omega), ((b1.later l2 (by omega)).later l3 (by omega)).later l4 (by omega), (b2.later l3 (by omega)).later l4 (by omega), b3.later l4 (by omega), b4⟩
  simp only [Act.put, List.setIfInBounds_toArray, List.set_cons_zero, List.set_cons_succ, e1, e2, e3, e4]
  clear b0 s0 l0 b1 s1 l1 b2 s2 l2 b3 s3 l3 b4 s4 l4 e1 e2 e3 e4
  refine region_invP 12 ((.val (.pointer (some ⟨(w.heap.size + 1), 0, none⟩))) :: (.val (.agg (u64s px).toArray)) :: (.val (.pointer (some ⟨(w.heap.size + 1), 5, none⟩))) :: (.val (.agg (u64s pz).toArray)) :: (.any (isF ((x2 + z2) % PR)) (isF_later ((x2 + z2) % PR))) :: (.val (.pointer (some ⟨(w.heap.size + 1), 0, none⟩))) :: (.val (.agg (u64s px).toArray)) :: (.val (.pointer (some ⟨(w.heap.size + 1), 5, none⟩))) :: (.val (.agg (u64s pz).toArray)) :: (.any (isF ((x2 - z2) % PR)) (isF_later ((x2 - z2) % PR))) :: (.blk 27 (u64s [0, 0, 0, 0, 0])) :: (.blk 27 (u64s [0, 0, 0, 0, 0])) :: []) (by kernel_rfl) (by kernel_rfl) (by kernel_rfl) [8, 9] ⟨.inl rfl, .inl rfl, .inl rfl, .inl rfl, .inl rfl, .inl rfl, .inl rfl, .inl rfl, .inl rfl, .inl rfl, .inr ⟨27, _, 5, rfl, rfl, zeroElem⟩, .inr ⟨27, _, 5, rfl, rfl, zeroElem⟩, trivial⟩ (by kernel_rfl) ?_ ?_
  · refine Steps'.cons ?_ (Steps'.cons ?_ (Steps'.cons ?_ (Steps'.cons ?_ (Steps'.cons ?_ (Steps'.cons ?_ (Steps'.cons ?_ (Steps'.cons ?_ (Steps'.cons ?_ (Steps'.cons ?_ (Steps'.cons ?_ (Steps'.cons ?_ (Steps'.one _ _ _ _ _ _ _))))))))))))
    · intro ax wx hb hs hd
      have h4 : ax.tmps.getD 4 undef = (.pointer (some ⟨(w.heap.size + 1), 0, none⟩)) := hs 4 (by kernel_rfl)
      refine Does.value (.pointer (some ⟨(w.heap.size + 1), 0, none⟩)) ?_ rfl
      clear hs hd
      go_simp
    · intro ax wx hb hs hd
      have h17 : ax.tmps.getD 17 undef = (.pointer (some ⟨(w.heap.size + 1), 0, none⟩)) := hd 0 17 rfl (by kernel_rfl) (by decide)
      exact Does.load 27 (.tmp 17) rfl (w.heap.size + 1) 0 h17 (u64s px) _ (((Blk.later V0.out.2.2.1 hb (Blk.lt V0.out.2.2.1))).fst) Try.underlying27 rfl (L5.out _ HL.out.2.1)
    · intro ax wx hb hs hd
      have h4 : ax.tmps.getD 4 undef = (.pointer (some ⟨(w.heap.size + 1), 0, none⟩)) := hs 4 (by kernel_rfl)
      refine Does.value (.pointer (some ⟨(w.heap.size + 1), 5, none⟩)) ?_ rfl
      clear hs hd
      go_simp
    · intro ax wx hb hs hd
      have h19 : ax.tmps.getD 19 undef = (.pointer (some ⟨(w.heap.size + 1), 5, none⟩)) := hd 2 19 rfl (by kernel_rfl) (by decide)
      exact Does.load 27 (.tmp 19) rfl (w.heap.size + 1) 5 h19 (u64s pz) _ (((Blk.later V0.out.2.2.1 hb (Blk.lt V0.out.2.2.1))).snd HL.out.2.1) Try.underlying27 rfl (L5.out _ HL.out.2.2.1)
    · intro ax wx hb hs hd
      have h18 : ax.tmps.getD 18 undef = (.agg (u64s px).toArray) := hd 1 18 rfl (by kernel_rfl) (by decide)
      have h20 : ax.tmps.getD 20 undef = (.agg (u64s pz).toArray) := hd 3 20 rfl (by kernel_rfl) (by decide)
      refine Does.call 29 #[(.agg (u64s px).toArray), (.agg (u64s pz).toArray)] (by clear hs hd; go_simp) ?_
      refine (add_any _ _ _ _ HP.out.2.1 HP.out.2.2.1 _).mono ?_
      rintro z w' ⟨r, rfl, fr, l⟩
      exact ⟨_, rfl, ⟨r, rfl, fr⟩, l⟩
    · intro ax wx hb hs hd
      have h4 : ax.tmps.getD 4 undef = (.pointer (some ⟨(w.heap.size + 1), 0, none⟩)) := hs 4 (by kernel_rfl)
      refine Does.value (.pointer (some ⟨(w.heap.size + 1), 0, none⟩)) ?_ rfl
      clear hs hd
      go_simp
    · intro ax wx hb hs hd
      have h22 : ax.tmps.getD 22 undef = (.pointer (some ⟨(w.heap.size + 1), 0, none⟩)) := hd 5 22 rfl (by kernel_rfl) (by decide)
      exact Does.load 27 (.tmp 22) rfl (w.heap.size + 1) 0 h22 (u64s px) _ (((Blk.later V0.out.2.2.1 hb (Blk.lt V0.out.2.2.1))).fst) Try.underlying27 rfl (L5.out _ HL.out.2.1)
    · intro ax wx hb hs hd
      have h4 : ax.tmps.getD 4 undef = (.pointer (some ⟨(w.heap.size + 1), 0, none⟩)) := hs 4 (by kernel_rfl)
      refine Does.value (.pointer (some ⟨(w.heap.size + 1), 5, none⟩)) ?_ rfl
      clear hs hd
      go_simp
    · intro ax wx hb hs hd
      have h24 : ax.tmps.getD 24 undef = (.pointer (some ⟨(w.heap.size + 1), 5, none⟩)) := hd 7 24 rfl (by kernel_rfl) (by decide)
      exact Does.load 27 (.tmp 24) rfl (w.heap.size + 1) 5 h24 (u64s pz) _ (((Blk.later V0.out.2.2.1 hb (Blk.lt V0.out.2.2.1))).snd HL.out.2.1) Try.underlying27 rfl (L5.out _ HL.out.2.2.1)
    · intro ax wx hb hs hd
      have h23 : ax.tmps.getD 23 undef = (.agg (u64s px).toArray) := hd 6 23 rfl (by kernel_rfl) (by decide)
      have h25 : ax.tmps.getD 25 undef = (.agg (u64s pz).toArray) := hd 8 25 rfl (by kernel_rfl) (by decide)
      refine Does.call 52 #[(.agg (u64s px).toArray), (.agg (u64s pz).toArray)] (by clear hs hd; go_simp) ?_
      refine (sub_any _ _ _ _ HP.out.2.1 HP.out.2.2.1 _).mono ?_
      rintro z w' ⟨r, rfl, fr, l⟩
      exact ⟨_, rfl, ⟨r, rfl, fr⟩, l⟩
    · intro ax wx hb hs hd
      exact Does.alloc 27 rfl 5 _ zeroElem hb.size
    · intro ax wx hb hs hd
      exact Does.alloc 27 rfl 5 _ zeroElem hb.size
  · intro wx hb
    refine @EndsP.val _ _ _ _ _ _ _ _ (.pointer (some ⟨(w.heap.size + 1), 0, none⟩)) rfl ?_
    refine @EndsP.val _ _ _ _ _ _ _ _ (.agg (u64s px).toArray) rfl ?_
    refine @EndsP.val _ _ _ _ _ _ _ _ (.pointer (some ⟨(w.heap.size + 1), 5, none⟩)) rfl ?_
    refine @EndsP.val _ _ _ _ _ _ _ _ (.agg (u64s pz).toArray) rfl ?_
    refine @EndsP.any _ _ _ _ _ _ _ _ (isF ((x2 + z2) % PR)) (isF_later ((x2 + z2) % PR)) rfl ?_
    intro v4 p4
    refine @EndsP.val _ _ _ _ _ _ _ _ (.pointer (some ⟨(w.heap.size + 1), 0, none⟩)) rfl ?_
    refine @EndsP.val _ _ _ _ _ _ _ _ (.agg (u64s px).toArray) rfl ?_
    refine @EndsP.val _ _ _ _ _ _ _ _ (.pointer (some ⟨(w.heap.size + 1), 5, none⟩)) rfl ?_
    refine @EndsP.val _ _ _ _ _ _ _ _ (.agg (u64s pz).toArray) rfl ?_
    refine @EndsP.any _ _ _ _ _ _ _ _ (isF ((x2 - z2) % PR)) (isF_later ((x2 - z2) % PR)) rfl ?_
    intro v9 p9
    refine @EndsP.blk _ _ _ _ _ _ _ _ 27 (u64s [0, 0, 0, 0, 0]) rfl ?_
    intro g10 hg10 bg10
    refine @EndsP.blk _ _ _ _ _ _ _ _ 27 (u64s [0, 0, 0, 0, 0]) rfl ?_
    intro g11 hg11 bg11
    intro hD nf hn
    obtain ⟨mf, rfl⟩ : ∃ mf, nf = mf + 2 := ⟨nf - 2, by have h3 : 2 ≤ nf := hn; omega⟩
    obtain ⟨la, rfl, F_la⟩ := p4
    obtain ⟨lb, rfl, F_lb⟩ := p9
    have d01 : g10 ≠ g11 := fun e => hD 8 (by simp) 9 (by simp) (by decide) (by subst e; kernel_rfl)
    have N_la : Hid ((u64s la).length = 5) := by rw [u64s_length, F_la.len]; rfl
    have N_lb : Hid ((u64s lb).length = 5) := by rw [u64s_length, F_lb.len]; rfl
    clear hD hn
    simp only [Act.put, List.setIfInBounds_toArray, List.set_cons_zero, List.set_cons_succ]
    refine wpAny_ready (rs := [12]) (by kernel_rfl) (by simp) (AllReady.cons rfl (fun K hK => ?_) AllReady.nil)
    rw [if_pos (by rfl)]
    refine last_store 27 (.tmp 8) (.tmp 21) rfl rfl g10 rfl 27 _ (u64s la) rfl bg10 (by rw [N_la.out]; rfl) (by rw [N_la.out]; exact sizeElem) (u64s_one _) ?_
    intro w0 b0 s0 k0
    refine hK _ _ ?_
    refine wpAny_ready (rs := [13]) (by kernel_rfl) (by simp) (AllReady.cons rfl (fun K hK => ?_) AllReady.nil)
    rw [if_pos (by rfl)]
    refine last_store 27 (.tmp 9) (.tmp 26) rfl rfl g11 rfl 27 _ (u64s lb) rfl (bg11.kept k0 (by omega)) (by rw [N_lb.out]; rfl) (by rw [N_lb.out]; exact sizeElem) (u64s_one _) ?_
    intro w1 b1 s1 k1
    refine hK _ _ ?_
    refine wpAny_done (by kernel_rfl) (NoPanic.normal ?_) _
    have V1 : Hid (Below w.heap.size w w1 ∧ Blk w1 w.heap.size 27 (u64s lu) ∧ Blk w1 (w.heap.size + 1) 103 (rt px pz) ∧ Blk w1 (w.heap.size + 1 + 1) 103 (rt qx qz) ∧ Blk w1 (w.heap.size + 1 + 1 + 1) 103 (rt [0, 0, 0, 0, 0] [0, 0, 0, 0, 0]) ∧ Blk w1 (w.heap.size + 1 + 1 + 1 + 1) 103 (rt [0, 0, 0, 0, 0] [0, 0, 0, 0, 0]) ∧ Blk w1 g10 27 (u64s la) ∧ Blk w1 g11 27 (u64s lb)) := by
      have qb := hb.size
      have qw := V0.out.1.size
      have q0 := V0.out.2.1.lt
      have q1 := V0.out.2.2.1.lt
      have q2 := V0.out.2.2.2.1.lt
      have q3 := V0.out.2.2.2.2.1.lt
      have q4 := V0.out.2.2.2.2.2.lt
      exact ⟨below_kept (below_kept (below_chain V0.out.1 hb (by omega)) k0 (by omega) (fun j hj => by omega)) k1 (by omega) (fun j hj => by omega), (((V0.out.2.1.later hb V0.out.2.1.lt).kept k0 (by omega)).kept k1 (by omega)), (((V0.out.2.2.1.later hb V0.out.2.2.1.lt).kept k0 (by omega)).kept k1 (by omega)), (((V0.out.2.2.2.1.later hb V0.out.2.2.2.1.lt).kept k0 (by omega)).kept k1 (by omega)), (((V0.out.2.2.2.2.1.later hb V0.out.2.2.2.2.1.lt).kept k0 (by omega)).kept k1 (by omega)), (((V0.out.2.2.2.2.2.later hb V0.out.2.2.2.2.2.lt).kept k0 (by omega)).kept k1 (by omega)), (b0.kept k1 (by omega)), b1⟩
    obtain ⟨ga, rfl⟩ : ∃ q, q = g10 := ⟨_, rfl⟩
    obtain ⟨gb, rfl⟩ : ∃ q, q = g11 := ⟨_, rfl⟩
    obtain ⟨yV1, rfl⟩ : ∃ q, q = w1 := ⟨_, rfl⟩
    clear hb V0 hK b0 s0 k0 b1 s1 k1 bg10 hg10 bg11 hg11 d01
    obtain ⟨A, EA⟩ : ∃ z, ((x2 + z2) % PR) = z := ⟨_, rfl⟩
    rw [EA] at F_la
    have QA : Hid (((x2 + z2) % PR) = A) := EA
    have H_la : Hid (Fe la A) := F_la
    clear EA F_la
    obtain ⟨B, EB⟩ : ∃ z, ((x2 - z2) % PR) = z := ⟨_, rfl⟩
    rw [EB] at F_lb
    have QB : Hid (((x2 - z2) % PR) = B) := EB
    have H_lb : Hid (Fe lb B) := F_lb
    clear EB F_lb
    try simp only [Act.put, List.setIfInBounds_toArray, List.set_cons_zero, List.set_cons_succ]
    go_wp2_with fail
    refine region_invP 12 ((.val (.pointer (some ⟨(w.heap.size + 1 + 1), 0, none⟩))) :: (.val (.agg (u64s qx).toArray)) :: (.val (.pointer (some ⟨(w.heap.size + 1 + 1), 5, none⟩))) :: (.val (.agg (u64s qz).toArray)) :: (.any (isF ((x3 + z3) % PR)) (isF_later ((x3 + z3) % PR))) :: (.val (.pointer (some ⟨(w.heap.size + 1 + 1), 0, none⟩))) :: (.val (.agg (u64s qx).toArray)) :: (.val (.pointer (some ⟨(w.heap.size + 1 + 1), 5, none⟩))) :: (.val (.agg (u64s qz).toArray)) :: (.any (isF ((x3 - z3) % PR)) (isF_later ((x3 - z3) % PR))) :: (.blk 27 (u64s [0, 0, 0, 0, 0])) :: (.blk 27 (u64s [0, 0, 0, 0, 0])) :: []) (by kernel_rfl) (by kernel_rfl) (by kernel_rfl) [10, 11] ⟨.inl rfl, .inl rfl, .inl rfl, .inl rfl, .inl rfl, .inl rfl, .inl rfl, .inl rfl, .inl rfl, .inl rfl, .inr ⟨27, _, 5, rfl, rfl, zeroElem⟩, .inr ⟨27, _, 5, rfl, rfl, zeroElem⟩, trivial⟩ (by kernel_rfl) ?_ ?_
    · refine Steps'.cons ?_ (Steps'.cons ?_ (Steps'.cons ?_ (Steps'.cons ?_ (Steps'.cons ?_ (Steps'.cons ?_ (Steps'.cons ?_ (Steps'.cons ?_ (Steps'.cons ?_ (Steps'.cons ?_ (Steps'.cons ?_ (Steps'.cons ?_ (Steps'.one _ _ _ _ _ _ _))))))))))))
      · intro ax wx hb hs hd
        have h5 : ax.tmps.getD 5 undef = (.pointer (some ⟨(w.heap.size + 1 + 1), 0, none⟩)) := hs 5 (by kernel_rfl)
        refine Does.value (.pointer (some ⟨(w.heap.size + 1 + 1), 0, none⟩)) ?_ rfl
        clear hs hd
        go_simp
      · intro ax wx hb hs hd
        have h27 : ax.tmps.getD 27 undef = (.pointer (some ⟨(w.heap.size + 1 + 1), 0, none⟩)) := hd 0 27 rfl (by kernel_rfl) (by decide)
        exact Does.load 27 (.tmp 27) rfl (w.heap.size + 1 + 1) 0 h27 (u64s qx) _ (((Blk.later V1.out.2.2.2.1 hb (Blk.lt V1.out.2.2.2.1))).fst) Try.underlying27 rfl (L5.out _ HL.out.2.2.2.1)
      · intro ax wx hb hs hd
        have h5 : ax.tmps.getD 5 undef = (.pointer (some ⟨(w.heap.size + 1 + 1), 0, none⟩)) := hs 5 (by kernel_rfl)
        refine Does.value (.pointer (some ⟨(w.heap.size + 1 + 1), 5, none⟩)) ?_ rfl
        clear hs hd
        go_simp
      · intro ax wx hb hs hd
        have h29 : ax.tmps.getD 29 undef = (.pointer (some ⟨(w.heap.size + 1 + 1), 5, none⟩)) := hd 2 29 rfl (by kernel_rfl) (by decide)
        exact Does.load 27 (.tmp 29) rfl (w.heap.size + 1 + 1) 5 h29 (u64s qz) _ (((Blk.later V1.out.2.2.2.1 hb (Blk.lt V1.out.2.2.2.1))).snd HL.out.2.2.2.1) Try.underlying27 rfl (L5.out _ HL.out.2.2.2.2)
      · intro ax wx hb hs hd
        have h28 : ax.tmps.getD 28 undef = (.agg (u64s qx).toArray) := hd 1 28 rfl (by kernel_rfl) (by decide)
        have h30 : ax.tmps.getD 30 undef = (.agg (u64s qz).toArray) := hd 3 30 rfl (by kernel_rfl) (by decide)
        refine Does.call 29 #[(.agg (u64s qx).toArray), (.agg (u64s qz).toArray)] (by clear hs hd; go_simp) ?_
        refine (add_any _ _ _ _ HP.out.2.2.2.1 HP.out.2.2.2.2 _).mono ?_
        rintro z w' ⟨r, rfl, fr, l⟩
        exact ⟨_, rfl, ⟨r, rfl, fr⟩, l⟩
      · intro ax wx hb hs hd
        have h5 : ax.tmps.getD 5 undef = (.pointer (some ⟨(w.heap.size + 1 + 1), 0, none⟩)) := hs 5 (by kernel_rfl)
        refine Does.value (.pointer (some ⟨(w.heap.size + 1 + 1), 0, none⟩)) ?_ rfl
        clear hs hd
        go_simp
      · intro ax wx hb hs hd
        have h32 : ax.tmps.getD 32 undef = (.pointer (some ⟨(w.heap.size + 1 + 1), 0, none⟩)) := hd 5 32 rfl (by kernel_rfl) (by decide)
        exact Does.load 27 (.tmp 32) rfl (w.heap.size + 1 + 1) 0 h32 (u64s qx) _ (((Blk.later V1.out.2.2.2.1 hb (Blk.lt V1.out.2.2.2.1))).fst) Try.underlying27 rfl (L5.out _ HL.out.2.2.2.1)
      · intro ax wx hb hs hd
        have h5 : ax.tmps.getD 5 undef = (.pointer (some ⟨(w.heap.size + 1 + 1), 0, none⟩)) := hs 5 (by kernel_rfl)
        refine Does.value (.pointer (some ⟨(w.heap.size + 1 + 1), 5, none⟩)) ?_ rfl
        clear hs hd
        go_simp
      · intro ax wx hb hs hd
        have h34 : ax.tmps.getD 34 undef = (.pointer (some ⟨(w.heap.size + 1 + 1), 5, none⟩)) := hd 7 34 rfl (by kernel_rfl) (by decide)
        exact Does.load 27 (.tmp 34) rfl (w.heap.size + 1 + 1) 5 h34 (u64s qz) _ (((Blk.later V1.out.2.2.2.1 hb (Blk.lt V1.out.2.2.2.1))).snd HL.out.2.2.2.1) Try.underlying27 rfl (L5.out _ HL.out.2.2.2.2)
      · intro ax wx hb hs hd
        have h33 : ax.tmps.getD 33 undef = (.agg (u64s qx).toArray) := hd 6 33 rfl (by kernel_rfl) (by decide)
        have h35 : ax.tmps.getD 35 undef = (.agg (u64s qz).toArray) := hd 8 35 rfl (by kernel_rfl) (by decide)
        refine Does.call 52 #[(.agg (u64s qx).toArray), (.agg (u64s qz).toArray)] (by clear hs hd; go_simp) ?_
        refine (sub_any _ _ _ _ HP.out.2.2.2.1 HP.out.2.2.2.2 _).mono ?_
        rintro z w' ⟨r, rfl, fr, l⟩
        exact ⟨_, rfl, ⟨r, rfl, fr⟩, l⟩
      · intro ax wx hb hs hd
        exact Does.alloc 27 rfl 5 _ zeroElem hb.size
      · intro ax wx hb hs hd
        exact Does.alloc 27 rfl 5 _ zeroElem hb.size
    · intro wx hb
      refine @EndsP.val _ _ _ _ _ _ _ _ (.pointer (some ⟨(w.heap.size + 1 + 1), 0, none⟩)) rfl ?_
      refine @EndsP.val _ _ _ _ _ _ _ _ (.agg (u64s qx).toArray) rfl ?_
      refine @EndsP.val _ _ _ _ _ _ _ _ (.pointer (some ⟨(w.heap.size + 1 + 1), 5, none⟩)) rfl ?_
      refine @EndsP.val _ _ _ _ _ _ _ _ (.agg (u64s qz).toArray) rfl ?_
      refine @EndsP.any _ _ _ _ _ _ _ _ (isF ((x3 + z3) % PR)) (isF_later ((x3 + z3) % PR)) rfl ?_
      intro v4 p4
      refine @EndsP.val _ _ _ _ _ _ _ _ (.pointer (some ⟨(w.heap.size + 1 + 1), 0, none⟩)) rfl ?_
      refine @EndsP.val _ _ _ _ _ _ _ _ (.agg (u64s qx).toArray) rfl ?_
      refine @EndsP.val _ _ _ _ _ _ _ _ (.pointer (some ⟨(w.heap.size + 1 + 1), 5, none⟩)) rfl ?_
      refine @EndsP.val _ _ _ _ _ _ _ _ (.agg (u64s qz).toArray) rfl ?_
      refine @EndsP.any _ _ _ _ _ _ _ _ (isF ((x3 - z3) % PR)) (isF_later ((x3 - z3) % PR)) rfl ?_
      intro v9 p9
      refine @EndsP.blk _ _ _ _ _ _ _ _ 27 (u64s [0, 0, 0, 0, 0]) rfl ?_
      intro g10 hg10 bg10
      refine @EndsP.blk _ _ _ _ _ _ _ _ 27 (u64s [0, 0, 0, 0, 0]) rfl ?_
      intro g11 hg11 bg11
      intro hD nf hn
      obtain ⟨mf, rfl⟩ : ∃ mf, nf = mf + 2 := ⟨nf - 2, by have h3 : 2 ≤ nf := hn; omega⟩
      obtain ⟨lc, rfl, F_lc⟩ := p4
      obtain ⟨ld, rfl, F_ld⟩ := p9
      have d01 : g10 ≠ g11 := fun e => hD 10 (by simp) 11 (by simp) (by decide) (by subst e; kernel_rfl)
      have N_lc : Hid ((u64s lc).length = 5) := by rw [u64s_length, F_lc.len]; rfl
      have N_ld : Hid ((u64s ld).length = 5) := by rw [u64s_length, F_ld.len]; rfl
      clear hD hn
      simp only [Act.put, List.setIfInBounds_toArray, List.set_cons_zero, List.set_cons_succ]
      refine wpAny_ready (rs := [12]) (by kernel_rfl) (by simp) (AllReady.cons rfl (fun K hK => ?_) AllReady.nil)
      rw [if_pos (by rfl)]
      refine last_store 27 (.tmp 10) (.tmp 31) rfl rfl g10 rfl 27 _ (u64s lc) rfl bg10 (by rw [N_lc.out]; rfl) (by rw [N_lc.out]; exact sizeElem) (u64s_one _) ?_
      intro w0 b0 s0 k0
      refine hK _ _ ?_
      refine wpAny_ready (rs := [13]) (by kernel_rfl) (by simp) (AllReady.cons rfl (fun K hK => ?_) AllReady.nil)
      rw [if_pos (by rfl)]
      refine last_store 27 (.tmp 11) (.tmp 36) rfl rfl g11 rfl 27 _ (u64s ld) rfl (bg11.kept k0 (by omega)) (by rw [N_ld.out]; rfl) (by rw [N_ld.out]; exact sizeElem) (u64s_one _) ?_
      intro w1 b1 s1 k1
      refine hK _ _ ?_
      refine wpAny_done (by kernel_rfl) (NoPanic.normal ?_) _
      have V2 : Hid (Below w.heap.size w w1 ∧ Blk w1 w.heap.size 27 (u64s lu) ∧ Blk w1 (w.heap.size + 1) 103 (rt px pz) ∧ Blk w1 (w.heap.size + 1 + 1) 103 (rt qx qz) ∧ Blk w1 (w.heap.size + 1 + 1 + 1) 103 (rt [0, 0, 0, 0, 0] [0, 0, 0, 0, 0]) ∧ Blk w1 (w.heap.size + 1 + 1 + 1 + 1) 103 (rt [0, 0, 0, 0, 0] [0, 0, 0, 0, 0]) ∧ Blk w1 ga 27 (u64s la) ∧ Blk w1 gb 27 (u64s lb) ∧ Blk w1 g10 27 (u64s lc) ∧ Blk w1 g11 27 (u64s ld)) := by
        have qb := hb.size
        have qw := V1.out.1.size
        have q0 := V1.out.2.1.lt
        have q1 := V1.out.2.2.1.lt
        have q2 := V1.out.2.2.2.1.lt
        have q3 := V1.out.2.2.2.2.1.lt
        have q4 := V1.out.2.2.2.2.2.1.lt
        have q5 := V1.out.2.2.2.2.2.2.1.lt
        have q6 := V1.out.2.2.2.2.2.2.2.lt
        exact ⟨below_kept (below_kept (below_chain V1.out.1 hb (by omega)) k0 (by omega) (fun j hj => by omega)) k1 (by omega) (fun j hj => by omega), (((V1.out.2.1.later hb V1.out.2.1.lt).kept k0 (by omega)).kept k1 (by omega)), (((V1.out.2.2.1.later hb V1.out.2.2.1.lt).kept k0 (by omega)).kept k1 (by omega)), (((V1.out.2.2.2.1.later hb V1.out.2.2.2.1.lt).kept k0 (by omega)).kept k1 (by omega)), (((V1.out.2.2.2.2.1.later hb V1.out.2.2.2.2.1.lt).kept k0 (by omega)).kept k1 (by omega)), (((V1.out.2.2.2.2.2.1.later hb V1.out.2.2.2.2.2.1.lt).kept k0 (by omega)).kept k1 (by omega)), (((V1.out.2.2.2.2.2.2.1.later hb V1.out.2.2.2.2.2.2.1.lt).kept k0 (by omega)).kept k1 (by omega)), (((V1.out.2.2.2.2.2.2.2.later hb V1.out.2.2.2.2.2.2.2.lt).kept k0 (by omega)).kept k1 (by omega)), (b0.kept k1 (by omega)), b1⟩
      obtain ⟨gc, rfl⟩ : ∃ q, q = g10 := ⟨_, rfl⟩
      obtain ⟨gd, rfl⟩ : ∃ q, q = g11 := ⟨_, rfl⟩
      obtain ⟨yV2, rfl⟩ : ∃ q, q = w1 := ⟨_, rfl⟩
      clear hb V1 hK b0 s0 k0 b1 s1 k1 bg10 hg10 bg11 hg11 d01
      obtain ⟨C, EC⟩ : ∃ z, ((x3 + z3) % PR) = z := ⟨_, rfl⟩
      rw [EC] at F_lc
      have QC : Hid (((x3 + z3) % PR) = C) := EC
      have H_lc : Hid (Fe lc C) := F_lc
      clear EC F_lc
      obtain ⟨D, ED⟩ : ∃ z, ((x3 - z3) % PR) = z := ⟨_, rfl⟩
      rw [ED] at F_ld
      have QD : Hid (((x3 - z3) % PR) = D) := ED
      have H_ld : Hid (Fe ld D) := F_ld
      clear ED F_ld
      try simp only [Act.put, List.setIfInBounds_toArray, List.set_cons_zero, List.set_cons_succ]
      go_wp2_with fail
      refine region_invP 8 ((.val (.agg (u64s ld).toArray)) :: (.val (.agg (u64s la).toArray)) :: (.any (isF (D * A % PR)) (isF_later (D * A % PR))) :: (.val (.agg (u64s lc).toArray)) :: (.val (.agg (u64s lb).toArray)) :: (.any (isF (C * B % PR)) (isF_later (C * B % PR))) :: (.blk 27 (u64s [0, 0, 0, 0, 0])) :: (.blk 27 (u64s [0, 0, 0, 0, 0])) :: []) (by kernel_rfl) (by kernel_rfl) (by kernel_rfl) [12, 13] ⟨.inl rfl, .inl rfl, .inl rfl, .inl rfl, .inl rfl, .inl rfl, .inr ⟨27, _, 5, rfl, rfl, zeroElem⟩, .inr ⟨27, _, 5, rfl, rfl, zeroElem⟩, trivial⟩ (by kernel_rfl) ?_ ?_
      · refine Steps'.cons ?_ (Steps'.cons ?_ (Steps'.cons ?_ (Steps'.cons ?_ (Steps'.cons ?_ (Steps'.cons ?_ (Steps'.cons ?_ (Steps'.cons ?_ (Steps'.one _ _ _ _ _ _ _))))))))
        · intro ax wx hb hs hd
          have h11 : ax.tmps.getD 11 undef = (.pointer (some ⟨gd, 0, none⟩)) := hs 11 (by kernel_rfl)
          exact Does.load 27 (.tmp 11) rfl gd 0 h11 (u64s ld) _ ((Blk.later V2.out.2.2.2.2.2.2.2.2.2 hb (Blk.lt V2.out.2.2.2.2.2.2.2.2.2)).whole) Try.underlying27 rfl (L5.out _ H_ld.out.len)
        · intro ax wx hb hs hd
          have h8 : ax.tmps.getD 8 undef = (.pointer (some ⟨ga, 0, none⟩)) := hs 8 (by kernel_rfl)
          exact Does.load 27 (.tmp 8) rfl ga 0 h8 (u64s la) _ ((Blk.later V2.out.2.2.2.2.2.2.1 hb (Blk.lt V2.out.2.2.2.2.2.2.1)).whole) Try.underlying27 rfl (L5.out _ H_la.out.len)
        · intro ax wx hb hs hd
          have h37 : ax.tmps.getD 37 undef = (.agg (u64s ld).toArray) := hd 0 37 rfl (by kernel_rfl) (by decide)
          have h38 : ax.tmps.getD 38 undef = (.agg (u64s la).toArray) := hd 1 38 rfl (by kernel_rfl) (by decide)
          refine Does.call 31 #[(.agg (u64s ld).toArray), (.agg (u64s la).toArray)] (by clear hs hd; go_simp) ?_
          refine (mul_any _ _ _ _ H_ld.out H_la.out _).mono ?_
          rintro z w' ⟨r, rfl, fr, l⟩
          exact ⟨_, rfl, ⟨r, rfl, fr⟩, l⟩
        · intro ax wx hb hs hd
          have h10 : ax.tmps.getD 10 undef = (.pointer (some ⟨gc, 0, none⟩)) := hs 10 (by kernel_rfl)
          exact Does.load 27 (.tmp 10) rfl gc 0 h10 (u64s lc) _ ((Blk.later V2.out.2.2.2.2.2.2.2.2.1 hb (Blk.lt V2.out.2.2.2.2.2.2.2.2.1)).whole) Try.underlying27 rfl (L5.out _ H_lc.out.len)
        · intro ax wx hb hs hd
          have h9 : ax.tmps.getD 9 undef = (.pointer (some ⟨gb, 0, none⟩)) := hs 9 (by kernel_rfl)
          exact Does.load 27 (.tmp 9) rfl gb 0 h9 (u64s lb) _ ((Blk.later V2.out.2.2.2.2.2.2.2.1 hb (Blk.lt V2.out.2.2.2.2.2.2.2.1)).whole) Try.underlying27 rfl (L5.out _ H_lb.out.len)
        · intro ax wx hb hs hd
          have h40 : ax.tmps.getD 40 undef = (.agg (u64s lc).toArray) := hd 3 40 rfl (by kernel_rfl) (by decide)
          have h41 : ax.tmps.getD 41 undef = (.agg (u64s lb).toArray) := hd 4 41 rfl (by kernel_rfl) (by decide)
          refine Does.call 31 #[(.agg (u64s lc).toArray), (.agg (u64s lb).toArray)] (by clear hs hd; go_simp) ?_
          refine (mul_any _ _ _ _ H_lc.out H_lb.out _).mono ?_
          rintro z w' ⟨r, rfl, fr, l⟩
          exact ⟨_, rfl, ⟨r, rfl, fr⟩, l⟩
        · intro ax wx hb hs hd
          exact Does.alloc 27 rfl 5 _ zeroElem hb.size
        · intro ax wx hb hs hd
          exact Does.alloc 27 rfl 5 _ zeroElem hb.size
      · intro wx hb
        refine @EndsP.val _ _ _ _ _ _ _ _ (.agg (u64s ld).toArray) rfl ?_
        refine @EndsP.val _ _ _ _ _ _ _ _ (.agg (u64s la).toArray) rfl ?_
        refine @EndsP.any _ _ _ _ _ _ _ _ (isF (D * A % PR)) (isF_later (D * A % PR)) rfl ?_
        intro v2 p2
        refine @EndsP.val _ _ _ _ _ _ _ _ (.agg (u64s lc).toArray) rfl ?_
        refine @EndsP.val _ _ _ _ _ _ _ _ (.agg (u64s lb).toArray) rfl ?_
        refine @EndsP.any _ _ _ _ _ _ _ _ (isF (C * B % PR)) (isF_later (C * B % PR)) rfl ?_
        intro v5 p5
        refine @EndsP.blk _ _ _ _ _ _ _ _ 27 (u64s [0, 0, 0, 0, 0]) rfl ?_
        intro g6 hg6 bg6
        refine @EndsP.blk _ _ _ _ _ _ _ _ 27 (u64s [0, 0, 0, 0, 0]) rfl ?_
        intro g7 hg7 bg7
        intro hD nf hn
        obtain ⟨mf, rfl⟩ : ∃ mf, nf = mf + 2 := ⟨nf - 2, by have h3 : 2 ≤ nf := hn; omega⟩
        obtain ⟨lda, rfl, F_lda⟩ := p2
        obtain ⟨lcb, rfl, F_lcb⟩ := p5
        have d01 : g6 ≠ g7 := fun e => hD 12 (by simp) 13 (by simp) (by decide) (by subst e; kernel_rfl)
        have N_lda : Hid ((u64s lda).length = 5) := by rw [u64s_length, F_lda.len]; rfl
        have N_lcb : Hid ((u64s lcb).length = 5) := by rw [u64s_length, F_lcb.len]; rfl
        clear hD hn
        simp only [Act.put, List.setIfInBounds_toArray, List.set_cons_zero, List.set_cons_succ]
        refine wpAny_ready (rs := [8]) (by kernel_rfl) (by simp) (AllReady.cons rfl (fun K hK => ?_) AllReady.nil)
        rw [if_pos (by rfl)]
        refine last_store 27 (.tmp 12) (.tmp 39) rfl rfl g6 rfl 27 _ (u64s lda) rfl bg6 (by rw [N_lda.out]; rfl) (by rw [N_lda.out]; exact sizeElem) (u64s_one _) ?_
        intro w0 b0 s0 k0
        refine hK _ _ ?_
        refine wpAny_ready (rs := [9]) (by kernel_rfl) (by simp) (AllReady.cons rfl (fun K hK => ?_) AllReady.nil)
        rw [if_pos (by rfl)]
        refine last_store 27 (.tmp 13) (.tmp 42) rfl rfl g7 rfl 27 _ (u64s lcb) rfl (bg7.kept k0 (by omega)) (by rw [N_lcb.out]; rfl) (by rw [N_lcb.out]; exact sizeElem) (u64s_one _) ?_
        intro w1 b1 s1 k1
        refine hK _ _ ?_
        refine wpAny_done (by kernel_rfl) (NoPanic.normal ?_) _
        have V3 : Hid (Below w.heap.size w w1 ∧ Blk w1 w.heap.size 27 (u64s lu) ∧ Blk w1 (w.heap.size + 1) 103 (rt px pz) ∧ Blk w1 (w.heap.size + 1 + 1) 103 (rt qx qz) ∧ Blk w1 (w.heap.size + 1 + 1 + 1) 103 (rt [0, 0, 0, 0, 0] [0, 0, 0, 0, 0]) ∧ Blk w1 (w.heap.size + 1 + 1 + 1 + 1) 103 (rt [0, 0, 0, 0, 0] [0, 0, 0, 0, 0]) ∧ Blk w1 ga 27 (u64s la) ∧ Blk w1 gb 27 (u64s lb) ∧ Blk w1 gc 27 (u64s lc) ∧ Blk w1 gd 27 (u64s ld) ∧ Blk w1 g6 27 (u64s lda) ∧ Blk w1 g7 27 (u64s lcb)) := by
          have qb := hb.size
          have qw := V2.out.1.size
          have q0 := V2.out.2.1.lt
          have q1 := V2.out.2.2.1.lt
          have q2 := V2.out.2.2.2.1.lt
          have q3 := V2.out.2.2.2.2.1.lt
          have q4 := V2.out.2.2.2.2.2.1.lt
          have q5 := V2.out.2.2.2.2.2.2.1.lt
          have q6 := V2.out.2.2.2.2.2.2.2.1.lt
          have q7 := V2.out.2.2.2.2.2.2.2.2.1.lt
          have q8 := V2.out.2.2.2.2.2.2.2.2.2.lt
          exact ⟨below_kept (below_kept (below_chain V2.out.1 hb (by omega)) k0 (by omega) (fun j hj => by omega)) k1 (by omega) (fun j hj => by omega), (((V2.out.2.1.later hb V2.out.2.1.lt).kept k0 (by omega)).kept k1 (by omega)), (((V2.out.2.2.1.later hb V2.out.2.2.1.lt).kept k0 (by omega)).kept k1 (by omega)), (((V2.out.2.2.2.1.later hb V2.out.2.2.2.1.lt).kept k0 (by omega)).kept k1 (by omega)), (((V2.out.2.2.2.2.1.later hb V2.out.2.2.2.2.1.lt).kept k0 (by omega)).kept k1 (by omega)), (((V2.out.2.2.2.2.2.1.later hb V2.out.2.2.2.2.2.1.lt).kept k0 (by omega)).kept k1 (by omega)), (((V2.out.2.2.2.2.2.2.1.later hb V2.out.2.2.2.2.2.2.1.lt).kept k0 (by omega)).kept k1 (by omega)), (((V2.out.2.2.2.2.2.2.2.1.later hb V2.out.2.2.2.2.2.2.2.1.lt).kept k0 (by omega)).kept k1 (by omega)), (((V2.out.2.2.2.2.2.2.2.2.1.later hb V2.out.2.2.2.2.2.2.2.2.1.lt).kept k0 (by omega)).kept k1 (by omega)), (((V2.out.2.2.2.2.2.2.2.2.2.later hb V2.out.2.2.2.2.2.2.2.2.2.lt).kept k0 (by omega)).kept k1 (by omega)), (b0.kept k1 (by omega)), b1⟩
        obtain ⟨gda, rfl⟩ : ∃ q, q = g6 := ⟨_, rfl⟩
        obtain ⟨gcb, rfl⟩ : ∃ q, q = g7 := ⟨_, rfl⟩
        obtain ⟨yV3, rfl⟩ : ∃ q, q = w1 := ⟨_, rfl⟩
        clear hb V2 hK b0 s0 k0 b1 s1 k1 bg6 hg6 bg7 hg7 d01
        obtain ⟨DA, EDA⟩ : ∃ z, (D * A % PR) = z := ⟨_, rfl⟩
        rw [EDA] at F_lda
        have QDA : Hid ((D * A % PR) = DA) := EDA
        have H_lda : Hid (Fe lda DA) := F_lda
        clear EDA F_lda
        obtain ⟨CB, ECB⟩ : ∃ z, (C * B % PR) = z := ⟨_, rfl⟩
        rw [ECB] at F_lcb
        have QCB : Hid ((C * B % PR) = CB) := ECB
        have H_lcb : Hid (Fe lcb CB) := F_lcb
        clear ECB F_lcb
        try simp only [Act.put, List.setIfInBounds_toArray, List.set_cons_zero, List.set_cons_succ]
        go_wp2_with fail
        refine region_invP 6 ((.val (.agg (u64s la).toArray)) :: (.any (isF (A * A % PR)) (isF_later (A * A % PR))) :: (.val (.agg (u64s lb).toArray)) :: (.any (isF (B * B % PR)) (isF_later (B * B % PR))) :: (.blk 27 (u64s [0, 0, 0, 0, 0])) :: (.blk 27 (u64s [0, 0, 0, 0, 0])) :: []) (by kernel_rfl) (by kernel_rfl) (by kernel_rfl) [14, 15] ⟨.inl rfl, .inl rfl, .inl rfl, .inl rfl, .inr ⟨27, _, 5, rfl, rfl, zeroElem⟩, .inr ⟨27, _, 5, rfl, rfl, zeroElem⟩, trivial⟩ (by kernel_rfl) ?_ ?_
        · refine Steps'.cons ?_ (Steps'.cons ?_ (Steps'.cons ?_ (Steps'.cons ?_ (Steps'.cons ?_ (Steps'.cons ?_ (Steps'.one _ _ _ _ _ _ _))))))
          · intro ax wx hb hs hd
            have h8 : ax.tmps.getD 8 undef = (.pointer (some ⟨ga, 0, none⟩)) := hs 8 (by kernel_rfl)
            exact Does.load 27 (.tmp 8) rfl ga 0 h8 (u64s la) _ ((Blk.later V3.out.2.2.2.2.2.2.1 hb (Blk.lt V3.out.2.2.2.2.2.2.1)).whole) Try.underlying27 rfl (L5.out _ H_la.out.len)
          · intro ax wx hb hs hd
            have h43 : ax.tmps.getD 43 undef = (.agg (u64s la).toArray) := hd 0 43 rfl (by kernel_rfl) (by decide)
            refine Does.call 53 #[(.agg (u64s la).toArray)] (by clear hs hd; go_simp) ?_
            refine (square_any _ _ H_la.out _).mono ?_
            rintro z w' ⟨r, rfl, fr, l⟩
            exact ⟨_, rfl, ⟨r, rfl, fr⟩, l⟩
          · intro ax wx hb hs hd
            have h9 : ax.tmps.getD 9 undef = (.pointer (some ⟨gb, 0, none⟩)) := hs 9 (by kernel_rfl)
            exact Does.load 27 (.tmp 9) rfl gb 0 h9 (u64s lb) _ ((Blk.later V3.out.2.2.2.2.2.2.2.1 hb (Blk.lt V3.out.2.2.2.2.2.2.2.1)).whole) Try.underlying27 rfl (L5.out _ H_lb.out.len)
          · intro ax wx hb hs hd
            have h45 : ax.tmps.getD 45 undef = (.agg (u64s lb).toArray) := hd 2 45 rfl (by kernel_rfl) (by decide)
            refine Does.call 53 #[(.agg (u64s lb).toArray)] (by clear hs hd; go_simp) ?_
            refine (square_any _ _ H_lb.out _).mono ?_
            rintro z w' ⟨r, rfl, fr, l⟩
            exact ⟨_, rfl, ⟨r, rfl, fr⟩, l⟩
          · intro ax wx hb hs hd
            exact Does.alloc 27 rfl 5 _ zeroElem hb.size
          · intro ax wx hb hs hd
            exact Does.alloc 27 rfl 5 _ zeroElem hb.size
        · intro wx hb
          refine @EndsP.val _ _ _ _ _ _ _ _ (.agg (u64s la).toArray) rfl ?_
          refine @EndsP.any _ _ _ _ _ _ _ _ (isF (A * A % PR)) (isF_later (A * A % PR)) rfl ?_
          intro v1 p1
          refine @EndsP.val _ _ _ _ _ _ _ _ (.agg (u64s lb).toArray) rfl ?_
          refine @EndsP.any _ _ _ _ _ _ _ _ (isF (B * B % PR)) (isF_later (B * B % PR)) rfl ?_
          intro v3 p3
          refine @EndsP.blk _ _ _ _ _ _ _ _ 27 (u64s [0, 0, 0, 0, 0]) rfl ?_
          intro g4 hg4 bg4
          refine @EndsP.blk _ _ _ _ _ _ _ _ 27 (u64s [0, 0, 0, 0, 0]) rfl ?_
          intro g5 hg5 bg5
          intro hD nf hn
          obtain ⟨mf, rfl⟩ : ∃ mf, nf = mf + 2 := ⟨nf - 2, by have h3 : 2 ≤ nf := hn; omega⟩
          obtain ⟨laa, rfl, F_laa⟩ := p1
          obtain ⟨lbb, rfl, F_lbb⟩ := p3
          have d01 : g4 ≠ g5 := fun e => hD 14 (by simp) 15 (by simp) (by decide) (by subst e; kernel_rfl)
          have N_laa : Hid ((u64s laa).length = 5) := by rw [u64s_length, F_laa.len]; rfl
          have N_lbb : Hid ((u64s lbb).length = 5) := by rw [u64s_length, F_lbb.len]; rfl
          clear hD hn
          simp only [Act.put, List.setIfInBounds_toArray, List.set_cons_zero, List.set_cons_succ]
          refine wpAny_ready (rs := [6]) (by kernel_rfl) (by simp) (AllReady.cons rfl (fun K hK => ?_) AllReady.nil)
          rw [if_pos (by rfl)]
          refine last_store 27 (.tmp 14) (.tmp 44) rfl rfl g4 rfl 27 _ (u64s laa) rfl bg4 (by rw [N_laa.out]; rfl) (by rw [N_laa.out]; exact sizeElem) (u64s_one _) ?_
          intro w0 b0 s0 k0
          refine hK _ _ ?_
          refine wpAny_ready (rs := [7]) (by kernel_rfl) (by simp) (AllReady.cons rfl (fun K hK => ?_) AllReady.nil)
          rw [if_pos (by rfl)]
          refine last_store 27 (.tmp 15) (.tmp 46) rfl rfl g5 rfl 27 _ (u64s lbb) rfl (bg5.kept k0 (by omega)) (by rw [N_lbb.out]; rfl) (by rw [N_lbb.out]; exact sizeElem) (u64s_one _) ?_
          intro w1 b1 s1 k1
          refine hK _ _ ?_
          refine wpAny_done (by kernel_rfl) (NoPanic.normal ?_) _
          have V4 : Hid (Below w.heap.size w w1 ∧ Blk w1 w.heap.size 27 (u64s lu) ∧ Blk w1 (w.heap.size + 1) 103 (rt px pz) ∧ Blk w1 (w.heap.size + 1 + 1) 103 (rt qx qz) ∧ Blk w1 (w.heap.size + 1 + 1 + 1) 103 (rt [0, 0, 0, 0, 0] [0, 0, 0, 0, 0]) ∧ Blk w1 (w.heap.size + 1 + 1 + 1 + 1) 103 (rt [0, 0, 0, 0, 0] [0, 0, 0, 0, 0]) ∧ Blk w1 ga 27 (u64s la) ∧ Blk w1 gb 27 (u64s lb) ∧ Blk w1 gc 27 (u64s lc) ∧ Blk w1 gd 27 (u64s ld) ∧ Blk w1 gda 27 (u64s lda) ∧ Blk w1 gcb 27 (u64s lcb) ∧ Blk w1 g4 27 (u64s laa) ∧ Blk w1 g5 27 (u64s lbb)) := by
            have qb := hb.size
            have qw := V3.out.1.size
            have q0 := V3.out.2.1.lt
            have q1 := V3.out.2.2.1.lt
            have q2 := V3.out.2.2.2.1.lt
            have q3 := V3.out.2.2.2.2.1.lt
            have q4 := V3.out.2.2.2.2.2.1.lt
            have q5 := V3.out.2.2.2.2.2.2.1.lt
            have q6 := V3.out.2.2.2.2.2.2.2.1.lt
            have q7 := V3.out.2.2.2.2.2.2.2.2.1.lt
            have q8 := V3.out.2.2.2.2.2.2.2.2.2.1.lt
            have q9 := V3.out.2.2.2.2.2.2.2.2.2.2.1.lt
            have q10 := V3.out.2.2.2.2.2.2.2.2.2.2.2.lt
            exact ⟨below_kept (below_kept (below_chain V3.out.1 hb (by omega)) k0 (by omega) (fun j hj => by omega)) k1 (by omega) (fun j hj => by omega), (((V3.out.2.1.later hb V3.out.2.1.lt).kept k0 (by omega)).kept k1 (by omega)), (((V3.out.2.2.1.later hb V3.out.2.2.1.lt).kept k0 (by omega)).kept k1 (by omega)), (((V3.out.2.2.2.1.later hb V3.out.2.2.2.1.lt).kept k0 (by omega)).kept k1 (by omega)), (((V3.out.2.2.2.2.1.later hb V3.out.2.2.2.2.1.lt).kept k0 (by omega)).kept k1 (by omega)), (((V3.out.2.2.2.2.2.1.later hb V3.out.2.2.2.2.2.1.lt).kept k0 (by omega)).kept k1 (by omega)), (((V3.out.2.2.2.2.2.2.1.later hb V3.out.2.2.2.2.2.2.1.lt).kept k0 (by omega)).kept k1 (by omega)), (((V3.out.2.2.2.2.2.2.2.1.later hb V3.out.2.2.2.2.2.2.2.1.lt).kept k0 (by omega)).kept k1 (by omega)), (((V3.out.2.2.2.2.2.2.2.2.1.later hb V3.out.2.2.2.2.2.2.2.2.1.lt).kept k0 (by omega)).kept k1 (by omega)), (((V3.out.2.2.2.2.2.2.2.2.2.1.later hb V3.out.2.2.2.2.2.2.2.2.2.1.lt).kept k0 (by omega)).kept k1 (by omega)), (((V3.out.2.2.2.2.2.2.2.2.2.2.1.later hb V3.out.2.2.2.2.2.2.2.2.2.2.1.lt).kept k0 (by omega)).kept k1 (by omega)), (((V3.out.2.2.2.2.2.2.2.2.2.2.2.later hb V3.out.2.2.2.2.2.2.2.2.2.2.2.lt).kept k0 (by omega)).kept k1 (by omega)), (b0.kept k1 (by omega)), b1⟩
          obtain ⟨gaa, rfl⟩ : ∃ q, q = g4 := ⟨_, rfl⟩
          obtain ⟨gbb, rfl⟩ : ∃ q, q = g5 := ⟨_, rfl⟩
          obtain ⟨yV4, rfl⟩ : ∃ q, q = w1 := ⟨_, rfl⟩
          clear hb V3 hK b0 s0 k0 b1 s1 k1 bg4 hg4 bg5 hg5 d01
          obtain ⟨AA, EAA⟩ : ∃ z, (A * A % PR) = z := ⟨_, rfl⟩
          rw [EAA] at F_laa
          have QAA : Hid ((A * A % PR) = AA) := EAA
          have H_laa : Hid (Fe laa AA) := F_laa
          clear EAA F_laa
          obtain ⟨BB, EBB⟩ : ∃ z, (B * B % PR) = z := ⟨_, rfl⟩
          rw [EBB] at F_lbb
          have QBB : Hid ((B * B % PR) = BB) := EBB
          have H_lbb : Hid (Fe lbb BB) := F_lbb
          clear EBB F_lbb
          try simp only [Act.put, List.setIfInBounds_toArray, List.set_cons_zero, List.set_cons_succ]
          have HS := sub_any laa lbb AA BB H_laa.out H_lbb.out
          go_wp2_with (first | ((with_reducible show wpList _ _ _ (({ dst := some 47, op := _, type := _, pos := _, after := _, guard := _ } : Oper) :: _) _ _); refine wpList_load_blk rfl 27 (.tmp 14) rfl gaa rfl (u64s laa) _ V4.out.2.2.2.2.2.2.2.2.2.2.2.2.1 Try.underlying27 rfl (L5.out _ H_laa.out.len) ?_) | ((with_reducible show wpList _ _ _ (({ dst := some 48, op := _, type := _, pos := _, after := _, guard := _ } : Oper) :: _) _ _); refine wpList_load_blk rfl 27 (.tmp 15) rfl gbb rfl (u64s lbb) _ V4.out.2.2.2.2.2.2.2.2.2.2.2.2.2 Try.underlying27 rfl (L5.out _ H_lbb.out.len) ?_) | (go_at_call 52; refine (HS _).mono ?_; rintro e w5 ⟨le, rfl, F_le, l5⟩) | ((with_reducible show wpList _ _ _ (({ dst := some 16, op := _, type := _, pos := _, after := _, guard := _ } : Oper) :: _) _ _); refine wpList_alloc_new rfl 27 rfl 5 _ zeroElem ?_; intro w6 b6 s6 l6) | (refine wpList_store_blk rfl 27 27 _ _ rfl _ rfl _ (u64s le) rfl b6 (by rw [u64s_length, F_le.len]; rfl) (L5.out _ F_le.len) (u64s_one _) ?_; intro w7 b7 s7 k7))
          have V5 : Hid (Below w.heap.size w w7 ∧ Blk w7 w.heap.size 27 (u64s lu) ∧ Blk w7 (w.heap.size + 1) 103 (rt px pz) ∧ Blk w7 (w.heap.size + 1 + 1) 103 (rt qx qz) ∧ Blk w7 (w.heap.size + 1 + 1 + 1) 103 (rt [0, 0, 0, 0, 0] [0, 0, 0, 0, 0]) ∧ Blk w7 (w.heap.size + 1 + 1 + 1 + 1) 103 (rt [0, 0, 0, 0, 0] [0, 0, 0, 0, 0]) ∧ Blk w7 ga 27 (u64s la) ∧ Blk w7 gb 27 (u64s lb) ∧ Blk w7 gc 27 (u64s lc) ∧ Blk w7 gd 27 (u64s ld) ∧ Blk w7 gda 27 (u64s lda) ∧ Blk w7 gcb 27 (u64s lcb) ∧ Blk w7 gaa 27 (u64s laa) ∧ Blk w7 gbb 27 (u64s lbb) ∧ Blk w7 w5.heap.size 27 (u64s le)) := by
            have q0 := V4.out.1.size
            have q1 := l5.size
            have q2 := l6.size
            exact ⟨below_kept (below_chain (below_chain V4.out.1 l5 (by omega)) l6 (by omega)) k7 (by omega) (fun j hj => by omega), (((V4.out.2.1).later l5 (V4.out.2.1).lt).later l6 (by have := (V4.out.2.1).lt; have := l5.size; omega)).kept k7 (by have := (V4.out.2.1).lt; have := l5.size; omega), (((V4.out.2.2.1).later l5 (V4.out.2.2.1).lt).later l6 (by have := (V4.out.2.2.1).lt; have := l5.size; omega)).kept k7 (by have := (V4.out.2.2.1).lt; have := l5.size; omega), (((V4.out.2.2.2.1).later l5 (V4.out.2.2.2.1).lt).later l6 (by have := (V4.out.2.2.2.1).lt; have := l5.size; omega)).kept k7 (by have := (V4.out.2.2.2.1).lt; have := l5.size; omega), (((V4.out.2.2.2.2.1).later l5 (V4.out.2.2.2.2.1).lt).later l6 (by have := (V4.out.2.2.2.2.1).lt; have := l5.size; omega)).kept k7 (by have := (V4.out.2.2.2.2.1).lt; have := l5.size; omega), (((V4.out.2.2.2.2.2.1).later l5 (V4.out.2.2.2.2.2.1).lt).later l6 (by have := (V4.out.2.2.2.2.2.1).lt; have := l5.size; omega)).kept k7 (by have := (V4.out.2.2.2.2.2.1).lt; have := l5.size; omega), (((V4.out.2.2.2.2.2.2.1).later l5 (V4.out.2.2.2.2.2.2.1).lt).later l6 (by have := (V4.out.2.2.2.2.2.2.1).lt; have := l5.size; omega)).kept k7 (by have := (V4.out.2.2.2.2.2.2.1).lt; have := l5.size; omega), (((V4.out.2.2.2.2.2.2.2.1).later l5 (V4.out.2.2.2.2.2.2.2.1).lt).later l6 (by have := (V4.out.2.2.2.2.2.2.2.1).lt; have := l5.size; omega)).kept k7 (by have := (V4.out.2.2.2.2.2.2.2.1).lt; have := l5.size; omega), (((V4.out.2.2.2.2.2.2.2.2.1).later l5 (V4.out.2.2.2.2.2.2.2.2.1).lt).later l6 (by have := (V4.out.2.2.2.2.2.2.2.2.1).lt; have := l5.size; omega)).kept k7 (by have := (V4.out.2.2.2.2.2.2.2.2.1).lt; have := l5.size; omega), (((V4.out.2.2.2.2.2.2.2.2.2.1).later l5 (V4.out.2.2.2.2.2.2.2.2.2.1).lt).later l6 (by have := (V4.out.2.2.2.2.2.2.2.2.2.1).lt; have := l5.size; omega)).kept k7 (by have := (V4.out.2.2.2.2.2.2.2.2.2.1).lt; have := l5.size; omega), (((V4.out.2.2.2.2.2.2.2.2.2.2.1).later l5 (V4.out.2.2.2.2.2.2.2.2.2.2.1).lt).later l6 (by have := (V4.out.2.2.2.2.2.2.2.2.2.2.1).lt; have := l5.size; omega)).kept k7 (by have := (V4.out.2.2.2.2.2.2.2.2.2.2.1).lt; have := l5.size; omega), (((V4.out.2.2.2.2.2.2.2.2.2.2.2.1).later l5 (V4.out.2.2.2.2.2.2.2.2.2.2.2.1).lt).later l6 (by have := (V4.out.2.2.2.2.2.2.2.2.2.2.2.1).lt; have := l5.size; omega)).kept k7 (by have := (V4.out.2.2.2.2.2.2.2.2.2.2.2.1).lt; have := l5.size; omega), (((V4.out.2.2.2.2.2.2.2.2.2.2.2.2.1).later l5 (V4.out.2.2.2.2.2.2.2.2.2.2.2.2.1).lt).later l6 (by have := (V4.out.2.2.2.2.2.2.2.2.2.2.2.2.1).lt; have := l5.size; omega)).kept k7 (by have := (V4.out.2.2.2.2.2.2.2.2.2.2.2.2.1).lt; have := l5.size; omega), (((V4.out.2.2.2.2.2.2.2.2.2.2.2.2.2).later l5 (V4.out.2.2.2.2.2.2.2.2.2.2.2.2.2).lt).later l6 (by have := (V4.out.2.2.2.2.2.2.2.2.2.2.2.2.2).lt; have := l5.size; omega)).kept k7 (by have := (V4.out.2.2.2.2.2.2.2.2.2.2.2.2.2).lt; have := l5.size; omega), b7⟩
          obtain ⟨ge, hge⟩ : ∃ q, w5.heap.size = q := ⟨_, rfl⟩
          rw [hge] at V5 ⊢
          clear b6 s6 l6 b7 s7 k7 l5 hge HS V4
          obtain ⟨E, EE⟩ : ∃ z, ((AA - BB) % PR) = z := ⟨_, rfl⟩
          rw [EE] at F_le
          have QE : Hid (((AA - BB) % PR) = E) := EE
          have H_le : Hid (Fe le E) := F_le
          clear EE F_le
          simp only [Act.put, List.setIfInBounds_toArray, List.set_cons_zero, List.set_cons_succ]
          have DD_V6 : w.heap.size ≠ (w.heap.size + 1) ∧ (w.heap.size + 1 + 1) ≠ (w.heap.size + 1) ∧ (w.heap.size + 1 + 1 + 1) ≠ (w.heap.size + 1) ∧ (w.heap.size + 1 + 1 + 1 + 1) ≠ (w.heap.size + 1) ∧ ga ≠ (w.heap.size + 1) ∧ gb ≠ (w.heap.size + 1) ∧ gc ≠ (w.heap.size + 1) ∧ gd ≠ (w.heap.size + 1) ∧ gda ≠ (w.heap.size + 1) ∧ gcb ≠ (w.heap.size + 1) ∧ gaa ≠ (w.heap.size + 1) ∧ gbb ≠ (w.heap.size + 1) ∧ ge ≠ (w.heap.size + 1) := ⟨blk_ne V5.out.2.1 V5.out.2.2.1 (by decide), by omega, by omega, by omega, blk_ne V5.out.2.2.2.2.2.2.1 V5.out.2.2.1 (by decide), blk_ne V5.out.2.2.2.2.2.2.2.1 V5.out.2.2.1 (by decide), blk_ne V5.out.2.2.2.2.2.2.2.2.1 V5.out.2.2.1 (by decide), blk_ne V5.out.2.2.2.2.2.2.2.2.2.1 V5.out.2.2.1 (by decide), blk_ne V5.out.2.2.2.2.2.2.2.2.2.2.1 V5.out.2.2.1 (by decide), blk_ne V5.out.2.2.2.2.2.2.2.2.2.2.2.1 V5.out.2.2.1 (by decide), blk_ne V5.out.2.2.2.2.2.2.2.2.2.2.2.2.1 V5.out.2.2.1 (by decide), blk_ne V5.out.2.2.2.2.2.2.2.2.2.2.2.2.2.1 V5.out.2.2.1 (by decide), blk_ne V5.out.2.2.2.2.2.2.2.2.2.2.2.2.2.2 V5.out.2.2.1 (by decide)⟩
          refine region_invP 10 ((.val (.agg (u64s laa).toArray)) :: (.val (.agg (u64s lbb).toArray)) :: (.any (isF (AA * BB % PR)) (isF_later (AA * BB % PR))) :: (.val (.agg (u64s le).toArray)) :: (.val (.agg (u64s laa).toArray)) :: (.val (.agg (u64s le).toArray)) :: (.any (isF (E * 121665 % PR)) (isF_later (E * 121665 % PR))) :: (.any (isF ((AA + (E * 121665 % PR)) % PR)) (isF_later ((AA + (E * 121665 % PR)) % PR))) :: (.any (isF (E * ((AA + (E * 121665 % PR)) % PR) % PR)) (isF_later (E * ((AA + (E * 121665 % PR)) % PR) % PR))) :: (.any (isR (AA * BB % PR) (E * ((AA + (E * 121665 % PR)) % PR) % PR)) (isR_later (AA * BB % PR) (E * ((AA + (E * 121665 % PR)) % PR) % PR))) :: []) (by kernel_rfl) (by kernel_rfl) (by kernel_rfl) [] ⟨.inl rfl, .inl rfl, .inl rfl, .inl rfl, .inl rfl, .inl rfl, .inl rfl, .inl rfl, .inl rfl, .inl rfl, trivial⟩ (by kernel_rfl) ?_ ?_
          · refine Steps'.cons ?_ (Steps'.cons ?_ (Steps'.cons ?_ (Steps'.cons ?_ (Steps'.cons ?_ (Steps'.cons ?_ (Steps'.cons ?_ (Steps'.cons ?_ (Steps'.cons ?_ (Steps'.cons ?_ (Steps'.one _ _ _ _ _ _ _))))))))))
            · intro ax wx hb hs hd
              have h14 : ax.tmps.getD 14 undef = (.pointer (some ⟨gaa, 0, none⟩)) := hs 14 (by kernel_rfl)
              exact Does.load 27 (.tmp 14) rfl gaa 0 h14 (u64s laa) _ ((Blk.later V5.out.2.2.2.2.2.2.2.2.2.2.2.2.1 hb (Blk.lt V5.out.2.2.2.2.2.2.2.2.2.2.2.2.1)).whole) Try.underlying27 rfl (L5.out _ H_laa.out.len)
            · intro ax wx hb hs hd
              have h15 : ax.tmps.getD 15 undef = (.pointer (some ⟨gbb, 0, none⟩)) := hs 15 (by kernel_rfl)
              exact Does.load 27 (.tmp 15) rfl gbb 0 h15 (u64s lbb) _ ((Blk.later V5.out.2.2.2.2.2.2.2.2.2.2.2.2.2.1 hb (Blk.lt V5.out.2.2.2.2.2.2.2.2.2.2.2.2.2.1)).whole) Try.underlying27 rfl (L5.out _ H_lbb.out.len)
            · intro ax wx hb hs hd
              have h50 : ax.tmps.getD 50 undef = (.agg (u64s laa).toArray) := hd 0 50 rfl (by kernel_rfl) (by decide)
              have h51 : ax.tmps.getD 51 undef = (.agg (u64s lbb).toArray) := hd 1 51 rfl (by kernel_rfl) (by decide)
              refine Does.call 31 #[(.agg (u64s laa).toArray), (.agg (u64s lbb).toArray)] (by clear hs hd; go_simp) ?_
              refine (mul_any _ _ _ _ H_laa.out H_lbb.out _).mono ?_
              rintro z w' ⟨r, rfl, fr, l⟩
              exact ⟨_, rfl, ⟨r, rfl, fr⟩, l⟩
            · intro ax wx hb hs hd
              have h16 : ax.tmps.getD 16 undef = (.pointer (some ⟨ge, 0, none⟩)) := hs 16 (by kernel_rfl)
              exact Does.load 27 (.tmp 16) rfl ge 0 h16 (u64s le) _ ((Blk.later V5.out.2.2.2.2.2.2.2.2.2.2.2.2.2.2 hb (Blk.lt V5.out.2.2.2.2.2.2.2.2.2.2.2.2.2.2)).whole) Try.underlying27 rfl (L5.out _ H_le.out.len)
            · intro ax wx hb hs hd
              have h14 : ax.tmps.getD 14 undef = (.pointer (some ⟨gaa, 0, none⟩)) := hs 14 (by kernel_rfl)
              exact Does.load 27 (.tmp 14) rfl gaa 0 h14 (u64s laa) _ ((Blk.later V5.out.2.2.2.2.2.2.2.2.2.2.2.2.1 hb (Blk.lt V5.out.2.2.2.2.2.2.2.2.2.2.2.2.1)).whole) Try.underlying27 rfl (L5.out _ H_laa.out.len)
            · intro ax wx hb hs hd
              have h16 : ax.tmps.getD 16 undef = (.pointer (some ⟨ge, 0, none⟩)) := hs 16 (by kernel_rfl)
              exact Does.load 27 (.tmp 16) rfl ge 0 h16 (u64s le) _ ((Blk.later V5.out.2.2.2.2.2.2.2.2.2.2.2.2.2.2 hb (Blk.lt V5.out.2.2.2.2.2.2.2.2.2.2.2.2.2.2)).whole) Try.underlying27 rfl (L5.out _ H_le.out.len)
            · intro ax wx hb hs hd
              have h55 : ax.tmps.getD 55 undef = (.agg (u64s le).toArray) := hd 5 55 rfl (by kernel_rfl) (by decide)
              refine Does.call 30 #[(.agg (u64s le).toArray), (.int .u32 121665)] (by clear hs hd; go_simp) ?_
              refine (times_any 121665 (by decide) _ _ H_le.out _).mono ?_
              rintro z w' ⟨r, rfl, fr, l⟩
              exact ⟨_, rfl, ⟨r, rfl, fr⟩, l⟩
            · intro ax wx hb hs hd
              have h54 : ax.tmps.getD 54 undef = (.agg (u64s laa).toArray) := hd 4 54 rfl (by kernel_rfl) (by decide)
              obtain ⟨l56, h56, f56⟩ : isF (E * 121665 % PR) (ax.tmps.getD 56 undef) wx := hd 6 56 rfl (by kernel_rfl) (by decide)
              refine Does.call 29 #[(.agg (u64s laa).toArray), (.agg (u64s l56).toArray)] (by clear hs hd; go_simp) ?_
              refine (add_any _ _ _ _ H_laa.out f56 _).mono ?_
              rintro z w' ⟨r, rfl, fr, l⟩
              exact ⟨_, rfl, ⟨r, rfl, fr⟩, l⟩
            · intro ax wx hb hs hd
              have h53 : ax.tmps.getD 53 undef = (.agg (u64s le).toArray) := hd 3 53 rfl (by kernel_rfl) (by decide)
              obtain ⟨l57, h57, f57⟩ : isF ((AA + (E * 121665 % PR)) % PR) (ax.tmps.getD 57 undef) wx := hd 7 57 rfl (by kernel_rfl) (by decide)
              refine Does.call 31 #[(.agg (u64s le).toArray), (.agg (u64s l57).toArray)] (by clear hs hd; go_simp) ?_
              refine (mul_any _ _ _ _ H_le.out f57 _).mono ?_
              rintro z w' ⟨r, rfl, fr, l⟩
              exact ⟨_, rfl, ⟨r, rfl, fr⟩, l⟩
            · intro ax wx hb hs hd
              obtain ⟨l52, h52, f52⟩ : isF (AA * BB % PR) (ax.tmps.getD 52 undef) wx := hd 2 52 rfl (by kernel_rfl) (by decide)
              obtain ⟨l58, h58, f58⟩ : isF (E * ((AA + (E * 121665 % PR)) % PR) % PR) (ax.tmps.getD 58 undef) wx := hd 8 58 rfl (by kernel_rfl) (by decide)
              exact does_rat (.tmp 52) (.tmp 58) rfl l52 l58 h52 h58 _ _ f52 f58
          · intro wx hb
            refine @EndsP.val _ _ _ _ _ _ _ _ (.agg (u64s laa).toArray) rfl ?_
            refine @EndsP.val _ _ _ _ _ _ _ _ (.agg (u64s lbb).toArray) rfl ?_
            refine @EndsP.any _ _ _ _ _ _ _ _ (isF (AA * BB % PR)) (isF_later (AA * BB % PR)) rfl ?_
            intro v2 p2
            refine @EndsP.val _ _ _ _ _ _ _ _ (.agg (u64s le).toArray) rfl ?_
            refine @EndsP.val _ _ _ _ _ _ _ _ (.agg (u64s laa).toArray) rfl ?_
            refine @EndsP.val _ _ _ _ _ _ _ _ (.agg (u64s le).toArray) rfl ?_
            refine @EndsP.any _ _ _ _ _ _ _ _ (isF (E * 121665 % PR)) (isF_later (E * 121665 % PR)) rfl ?_
            intro v6 p6
            refine @EndsP.any _ _ _ _ _ _ _ _ (isF ((AA + (E * 121665 % PR)) % PR)) (isF_later ((AA + (E * 121665 % PR)) % PR)) rfl ?_
            intro v7 p7
            refine @EndsP.any _ _ _ _ _ _ _ _ (isF (E * ((AA + (E * 121665 % PR)) % PR) % PR)) (isF_later (E * ((AA + (E * 121665 % PR)) % PR) % PR)) rfl ?_
            intro v8 p8
            refine @EndsP.any _ _ _ _ _ _ _ _ (isR (AA * BB % PR) (E * ((AA + (E * 121665 % PR)) % PR) % PR)) (isR_later (AA * BB % PR) (E * ((AA + (E * 121665 % PR)) % PR) % PR)) rfl ?_
            intro v9 p9
            intro hD nf hn
            obtain ⟨mf, rfl⟩ : ∃ mf, nf = mf + 1 := ⟨nf - 1, by have h3 : 1 ≤ nf := hn; omega⟩
            clear hD hn
            obtain ⟨rx, rz, rfl, F_rx, F_rz⟩ := p9
            simp only [Act.put, List.setIfInBounds_toArray, List.set_cons_zero, List.set_cons_succ]
            refine wpAny_ready (rs := [10]) (by kernel_rfl) (by simp) (AllReady.cons rfl (fun K hK => ?_) AllReady.nil)
            rw [if_pos (by rfl)]
            refine last_store 103 (.tmp 4) (.tmp 59) rfl rfl (w.heap.size + 1) rfl 103 _ (rt rx rz) rfl (Blk.later V5.out.2.2.1 hb (Blk.lt V5.out.2.2.1)) (by rw [rt_length HL.out.2.1 HL.out.2.2.1, rt_length F_rx.len F_rz.len]) (L10.out _ _ F_rx.len F_rz.len) (rt_one _ _) ?_
            intro y6 b6 s6 k6
            refine hK _ _ ?_
            refine wpAny_done (by kernel_rfl) (NoPanic.normal ?_) _
            clear hK
            have D_ : Hid (w.heap.size ≠ (w.heap.size + 1) ∧ (w.heap.size + 1 + 1) ≠ (w.heap.size + 1) ∧ (w.heap.size + 1 + 1 + 1) ≠ (w.heap.size + 1) ∧ (w.heap.size + 1 + 1 + 1 + 1) ≠ (w.heap.size + 1) ∧ ga ≠ (w.heap.size + 1) ∧ gb ≠ (w.heap.size + 1) ∧ gc ≠ (w.heap.size + 1) ∧ gd ≠ (w.heap.size + 1) ∧ gda ≠ (w.heap.size + 1) ∧ gcb ≠ (w.heap.size + 1) ∧ gaa ≠ (w.heap.size + 1) ∧ gbb ≠ (w.heap.size + 1) ∧ ge ≠ (w.heap.size + 1)) := DD_V6
            have V6 : Hid (Below w.heap.size w y6 ∧ Blk y6 w.heap.size 27 (u64s lu) ∧ Blk y6 (w.heap.size + 1) 103 (rt rx rz) ∧ Blk y6 (w.heap.size + 1 + 1) 103 (rt qx qz) ∧ Blk y6 (w.heap.size + 1 + 1 + 1) 103 (rt [0, 0, 0, 0, 0] [0, 0, 0, 0, 0]) ∧ Blk y6 (w.heap.size + 1 + 1 + 1 + 1) 103 (rt [0, 0, 0, 0, 0] [0, 0, 0, 0, 0]) ∧ Blk y6 ga 27 (u64s la) ∧ Blk y6 gb 27 (u64s lb) ∧ Blk y6 gc 27 (u64s lc) ∧ Blk y6 gd 27 (u64s ld) ∧ Blk y6 gda 27 (u64s lda) ∧ Blk y6 gcb 27 (u64s lcb) ∧ Blk y6 gaa 27 (u64s laa) ∧ Blk y6 gbb 27 (u64s lbb) ∧ Blk y6 ge 27 (u64s le)) := ⟨below_kept (below_chain V5.out.1 hb V5.out.1.size) k6 (by have := V5.out.1.size; have := hb.size; omega) (fun j hj => by omega), (Blk.later V5.out.2.1 hb (Blk.lt V5.out.2.1)).kept k6 D_.out.1, b6, (Blk.later V5.out.2.2.2.1 hb (Blk.lt V5.out.2.2.2.1)).kept k6 D_.out.2.1, (Blk.later V5.out.2.2.2.2.1 hb (Blk.lt V5.out.2.2.2.2.1)).kept k6 D_.out.2.2.1, (Blk.later V5.out.2.2.2.2.2.1 hb (Blk.lt V5.out.2.2.2.2.2.1)).kept k6 D_.out.2.2.2.1, (Blk.later V5.out.2.2.2.2.2.2.1 hb (Blk.lt V5.out.2.2.2.2.2.2.1)).kept k6 D_.out.2.2.2.2.1, (Blk.later V5.out.2.2.2.2.2.2.2.1 hb (Blk.lt V5.out.2.2.2.2.2.2.2.1)).kept k6 D_.out.2.2.2.2.2.1, (Blk.later V5.out.2.2.2.2.2.2.2.2.1 hb (Blk.lt V5.out.2.2.2.2.2.2.2.2.1)).kept k6 D_.out.2.2.2.2.2.2.1, (Blk.later V5.out.2.2.2.2.2.2.2.2.2.1 hb (Blk.lt V5.out.2.2.2.2.2.2.2.2.2.1)).kept k6 D_.out.2.2.2.2.2.2.2.1, (Blk.later V5.out.2.2.2.2.2.2.2.2.2.2.1 hb (Blk.lt V5.out.2.2.2.2.2.2.2.2.2.2.1)).kept k6 D_.out.2.2.2.2.2.2.2.2.1, (Blk.later V5.out.2.2.2.2.2.2.2.2.2.2.2.1 hb (Blk.lt V5.out.2.2.2.2.2.2.2.2.2.2.2.1)).kept k6 D_.out.2.2.2.2.2.2.2.2.2.1, (Blk.later V5.out.2.2.2.2.2.2.2.2.2.2.2.2.1 hb (Blk.lt V5.out.2.2.2.2.2.2.2.2.2.2.2.2.1)).kept k6 D_.out.2.2.2.2.2.2.2.2.2.2.1, (Blk.later V5.out.2.2.2.2.2.2.2.2.2.2.2.2.2.1 hb (Blk.lt V5.out.2.2.2.2.2.2.2.2.2.2.2.2.2.1)).kept k6 D_.out.2.2.2.2.2.2.2.2.2.2.2.1, (Blk.later V5.out.2.2.2.2.2.2.2.2.2.2.2.2.2.2 hb (Blk.lt V5.out.2.2.2.2.2.2.2.2.2.2.2.2.2.2)).kept k6 D_.out.2.2.2.2.2.2.2.2.2.2.2.2⟩
            obtain ⟨yV6, rfl⟩ : ∃ q, q = y6 := ⟨_, rfl⟩
            clear V5 hb b6 s6 k6 D_ p2 p6 p7 p8
            have H_rx : Hid (Fe rx (AA * BB % PR)) := F_rx
            have H_rz : Hid (Fe rz (E * ((AA + (E * 121665 % PR)) % PR) % PR)) := F_rz
            clear F_rx F_rz
            clear DD_V6
            try simp only [Act.put, List.setIfInBounds_toArray, List.set_cons_zero, List.set_cons_succ]
            go_wp2_with fail
            have DD_V7 : w.heap.size ≠ (w.heap.size + 1 + 1) ∧ (w.heap.size + 1) ≠ (w.heap.size + 1 + 1) ∧ (w.heap.size + 1 + 1 + 1) ≠ (w.heap.size + 1 + 1) ∧ (w.heap.size + 1 + 1 + 1 + 1) ≠ (w.heap.size + 1 + 1) ∧ ga ≠ (w.heap.size + 1 + 1) ∧ gb ≠ (w.heap.size + 1 + 1) ∧ gc ≠ (w.heap.size + 1 + 1) ∧ gd ≠ (w.heap.size + 1 + 1) ∧ gda ≠ (w.heap.size + 1 + 1) ∧ gcb ≠ (w.heap.size + 1 + 1) ∧ gaa ≠ (w.heap.size + 1 + 1) ∧ gbb ≠ (w.heap.size + 1 + 1) ∧ ge ≠ (w.heap.size + 1 + 1) := ⟨blk_ne V6.out.2.1 V6.out.2.2.2.1 (by decide), by omega, by omega, by omega, blk_ne V6.out.2.2.2.2.2.2.1 V6.out.2.2.2.1 (by decide), blk_ne V6.out.2.2.2.2.2.2.2.1 V6.out.2.2.2.1 (by decide), blk_ne V6.out.2.2.2.2.2.2.2.2.1 V6.out.2.2.2.1 (by decide), blk_ne V6.out.2.2.2.2.2.2.2.2.2.1 V6.out.2.2.2.1 (by decide), blk_ne V6.out.2.2.2.2.2.2.2.2.2.2.1 V6.out.2.2.2.1 (by decide), blk_ne V6.out.2.2.2.2.2.2.2.2.2.2.2.1 V6.out.2.2.2.1 (by decide), blk_ne V6.out.2.2.2.2.2.2.2.2.2.2.2.2.1 V6.out.2.2.2.1 (by decide), blk_ne V6.out.2.2.2.2.2.2.2.2.2.2.2.2.2.1 V6.out.2.2.2.1 (by decide), blk_ne V6.out.2.2.2.2.2.2.2.2.2.2.2.2.2.2 V6.out.2.2.2.1 (by decide)⟩
            refine region_invP 11 ((.val (.agg (u64s lda).toArray)) :: (.val (.agg (u64s lcb).toArray)) :: (.any (isF ((DA + CB) % PR)) (isF_later ((DA + CB) % PR))) :: (.any (isF (((DA + CB) % PR) * ((DA + CB) % PR) % PR)) (isF_later (((DA + CB) % PR) * ((DA + CB) % PR) % PR))) :: (.val (.agg (u64s lu).toArray)) :: (.val (.agg (u64s lda).toArray)) :: (.val (.agg (u64s lcb).toArray)) :: (.any (isF ((DA - CB) % PR)) (isF_later ((DA - CB) % PR))) :: (.any (isF (((DA - CB) % PR) * ((DA - CB) % PR) % PR)) (isF_later (((DA - CB) % PR) * ((DA - CB) % PR) % PR))) :: (.any (isF (u * (((DA - CB) % PR) * ((DA - CB) % PR) % PR) % PR)) (isF_later (u * (((DA - CB) % PR) * ((DA - CB) % PR) % PR) % PR))) :: (.any (isR (((DA + CB) % PR) * ((DA + CB) % PR) % PR) (u * (((DA - CB) % PR) * ((DA - CB) % PR) % PR) % PR)) (isR_later (((DA + CB) % PR) * ((DA + CB) % PR) % PR) (u * (((DA - CB) % PR) * ((DA - CB) % PR) % PR) % PR))) :: []) (by kernel_rfl) (by kernel_rfl) (by kernel_rfl) [] ⟨.inl rfl, .inl rfl, .inl rfl, .inl rfl, .inl rfl, .inl rfl, .inl rfl, .inl rfl, .inl rfl, .inl rfl, .inl rfl, trivial⟩ (by kernel_rfl) ?_ ?_
            · refine Steps'.cons ?_ (Steps'.cons ?_ (Steps'.cons ?_ (Steps'.cons ?_ (Steps'.cons ?_ (Steps'.cons ?_ (Steps'.cons ?_ (Steps'.cons ?_ (Steps'.cons ?_ (Steps'.cons ?_ (Steps'.cons ?_ (Steps'.one _ _ _ _ _ _ _)))))))))))
              · intro ax wx hb hs hd
                have h12 : ax.tmps.getD 12 undef = (.pointer (some ⟨gda, 0, none⟩)) := hs 12 (by kernel_rfl)
                exact Does.load 27 (.tmp 12) rfl gda 0 h12 (u64s lda) _ ((Blk.later V6.out.2.2.2.2.2.2.2.2.2.2.1 hb (Blk.lt V6.out.2.2.2.2.2.2.2.2.2.2.1)).whole) Try.underlying27 rfl (L5.out _ H_lda.out.len)
              · intro ax wx hb hs hd
                have h13 : ax.tmps.getD 13 undef = (.pointer (some ⟨gcb, 0, none⟩)) := hs 13 (by kernel_rfl)
                exact Does.load 27 (.tmp 13) rfl gcb 0 h13 (u64s lcb) _ ((Blk.later V6.out.2.2.2.2.2.2.2.2.2.2.2.1 hb (Blk.lt V6.out.2.2.2.2.2.2.2.2.2.2.2.1)).whole) Try.underlying27 rfl (L5.out _ H_lcb.out.len)
              · intro ax wx hb hs hd
                have h60 : ax.tmps.getD 60 undef = (.agg (u64s lda).toArray) := hd 0 60 rfl (by kernel_rfl) (by decide)
                have h61 : ax.tmps.getD 61 undef = (.agg (u64s lcb).toArray) := hd 1 61 rfl (by kernel_rfl) (by decide)
                refine Does.call 29 #[(.agg (u64s lda).toArray), (.agg (u64s lcb).toArray)] (by clear hs hd; go_simp) ?_
                refine (add_any _ _ _ _ H_lda.out H_lcb.out _).mono ?_
                rintro z w' ⟨r, rfl, fr, l⟩
                exact ⟨_, rfl, ⟨r, rfl, fr⟩, l⟩
              · intro ax wx hb hs hd
                obtain ⟨l62, h62, f62⟩ : isF ((DA + CB) % PR) (ax.tmps.getD 62 undef) wx := hd 2 62 rfl (by kernel_rfl) (by decide)
                refine Does.call 53 #[(.agg (u64s l62).toArray)] (by clear hs hd; go_simp) ?_
                refine (square_any _ _ f62 _).mono ?_
                rintro z w' ⟨r, rfl, fr, l⟩
                exact ⟨_, rfl, ⟨r, rfl, fr⟩, l⟩
              · intro ax wx hb hs hd
                have h3 : ax.tmps.getD 3 undef = (.pointer (some ⟨w.heap.size, 0, none⟩)) := hs 3 (by kernel_rfl)
                exact Does.load 27 (.tmp 3) rfl w.heap.size 0 h3 (u64s lu) _ ((Blk.later V6.out.2.1 hb (Blk.lt V6.out.2.1)).whole) Try.underlying27 rfl (L5.out _ HL.out.1)
              · intro ax wx hb hs hd
                have h12 : ax.tmps.getD 12 undef = (.pointer (some ⟨gda, 0, none⟩)) := hs 12 (by kernel_rfl)
                exact Does.load 27 (.tmp 12) rfl gda 0 h12 (u64s lda) _ ((Blk.later V6.out.2.2.2.2.2.2.2.2.2.2.1 hb (Blk.lt V6.out.2.2.2.2.2.2.2.2.2.2.1)).whole) Try.underlying27 rfl (L5.out _ H_lda.out.len)
              · intro ax wx hb hs hd
                have h13 : ax.tmps.getD 13 undef = (.pointer (some ⟨gcb, 0, none⟩)) := hs 13 (by kernel_rfl)
                exact Does.load 27 (.tmp 13) rfl gcb 0 h13 (u64s lcb) _ ((Blk.later V6.out.2.2.2.2.2.2.2.2.2.2.2.1 hb (Blk.lt V6.out.2.2.2.2.2.2.2.2.2.2.2.1)).whole) Try.underlying27 rfl (L5.out _ H_lcb.out.len)
              · intro ax wx hb hs hd
                have h65 : ax.tmps.getD 65 undef = (.agg (u64s lda).toArray) := hd 5 65 rfl (by kernel_rfl) (by decide)
                have h66 : ax.tmps.getD 66 undef = (.agg (u64s lcb).toArray) := hd 6 66 rfl (by kernel_rfl) (by decide)
                refine Does.call 52 #[(.agg (u64s lda).toArray), (.agg (u64s lcb).toArray)] (by clear hs hd; go_simp) ?_
                refine (sub_any _ _ _ _ H_lda.out H_lcb.out _).mono ?_
                rintro z w' ⟨r, rfl, fr, l⟩
                exact ⟨_, rfl, ⟨r, rfl, fr⟩, l⟩
              · intro ax wx hb hs hd
                obtain ⟨l67, h67, f67⟩ : isF ((DA - CB) % PR) (ax.tmps.getD 67 undef) wx := hd 7 67 rfl (by kernel_rfl) (by decide)
                refine Does.call 53 #[(.agg (u64s l67).toArray)] (by clear hs hd; go_simp) ?_
                refine (square_any _ _ f67 _).mono ?_
                rintro z w' ⟨r, rfl, fr, l⟩
                exact ⟨_, rfl, ⟨r, rfl, fr⟩, l⟩
              · intro ax wx hb hs hd
                have h64 : ax.tmps.getD 64 undef = (.agg (u64s lu).toArray) := hd 4 64 rfl (by kernel_rfl) (by decide)
                obtain ⟨l68, h68, f68⟩ : isF (((DA - CB) % PR) * ((DA - CB) % PR) % PR) (ax.tmps.getD 68 undef) wx := hd 8 68 rfl (by kernel_rfl) (by decide)
                refine Does.call 31 #[(.agg (u64s lu).toArray), (.agg (u64s l68).toArray)] (by clear hs hd; go_simp) ?_
                refine (mul_any _ _ _ _ HP.out.1 f68 _).mono ?_
                rintro z w' ⟨r, rfl, fr, l⟩
                exact ⟨_, rfl, ⟨r, rfl, fr⟩, l⟩
              · intro ax wx hb hs hd
                obtain ⟨l63, h63, f63⟩ : isF (((DA + CB) % PR) * ((DA + CB) % PR) % PR) (ax.tmps.getD 63 undef) wx := hd 3 63 rfl (by kernel_rfl) (by decide)
                obtain ⟨l69, h69, f69⟩ : isF (u * (((DA - CB) % PR) * ((DA - CB) % PR) % PR) % PR) (ax.tmps.getD 69 undef) wx := hd 9 69 rfl (by kernel_rfl) (by decide)
                exact does_rat (.tmp 63) (.tmp 69) rfl l63 l69 h63 h69 _ _ f63 f69
            · intro wx hb
              refine @EndsP.val _ _ _ _ _ _ _ _ (.agg (u64s lda).toArray) rfl ?_
              refine @EndsP.val _ _ _ _ _ _ _ _ (.agg (u64s lcb).toArray) rfl ?_
              refine @EndsP.any _ _ _ _ _ _ _ _ (isF ((DA + CB) % PR)) (isF_later ((DA + CB) % PR)) rfl ?_
              intro v2 p2
              refine @EndsP.any _ _ _ _ _ _ _ _ (isF (((DA + CB) % PR) * ((DA + CB) % PR) % PR)) (isF_later (((DA + CB) % PR) * ((DA + CB) % PR) % PR)) rfl ?_
              intro v3 p3
              refine @EndsP.val _ _ _ _ _ _ _ _ (.agg (u64s lu).toArray) rfl ?_
              refine @EndsP.val _ _ _ _ _ _ _ _ (.agg (u64s lda).toArray) rfl ?_
              refine @EndsP.val _ _ _ _ _ _ _ _ (.agg (u64s lcb).toArray) rfl ?_
              refine @EndsP.any _ _ _ _ _ _ _ _ (isF ((DA - CB) % PR)) (isF_later ((DA - CB) % PR)) rfl ?_
              intro v7 p7
              refine @EndsP.any _ _ _ _ _ _ _ _ (isF (((DA - CB) % PR) * ((DA - CB) % PR) % PR)) (isF_later (((DA - CB) % PR) * ((DA - CB) % PR) % PR)) rfl ?_
              intro v8 p8
              refine @EndsP.any _ _ _ _ _ _ _ _ (isF (u * (((DA - CB) % PR) * ((DA - CB) % PR) % PR) % PR)) (isF_later (u * (((DA - CB) % PR) * ((DA - CB) % PR) % PR) % PR)) rfl ?_
              intro v9 p9
              refine @EndsP.any _ _ _ _ _ _ _ _ (isR (((DA + CB) % PR) * ((DA + CB) % PR) % PR) (u * (((DA - CB) % PR) * ((DA - CB) % PR) % PR) % PR)) (isR_later (((DA + CB) % PR) * ((DA + CB) % PR) % PR) (u * (((DA - CB) % PR) * ((DA - CB) % PR) % PR) % PR)) rfl ?_
              intro v10 p10
              intro hD nf hn
              obtain ⟨mf, rfl⟩ : ∃ mf, nf = mf + 1 := ⟨nf - 1, by have h3 : 1 ≤ nf := hn; omega⟩
              clear hD hn
              obtain ⟨sx, sz, rfl, F_sx, F_sz⟩ := p10
              simp only [Act.put, List.setIfInBounds_toArray, List.set_cons_zero, List.set_cons_succ]
              refine wpAny_ready (rs := [11]) (by kernel_rfl) (by simp) (AllReady.cons rfl (fun K hK => ?_) AllReady.nil)
              rw [if_pos (by rfl)]
              refine last_store 103 (.tmp 5) (.tmp 70) rfl rfl (w.heap.size + 1 + 1) rfl 103 _ (rt sx sz) rfl (Blk.later V6.out.2.2.2.1 hb (Blk.lt V6.out.2.2.2.1)) (by rw [rt_length HL.out.2.2.2.1 HL.out.2.2.2.2, rt_length F_sx.len F_sz.len]) (L10.out _ _ F_sx.len F_sz.len) (rt_one _ _) ?_
              intro y6 b6 s6 k6
              refine hK _ _ ?_
              refine wpAny_done (by kernel_rfl) (NoPanic.normal ?_) _
              clear hK
              have D_ : Hid (w.heap.size ≠ (w.heap.size + 1 + 1) ∧ (w.heap.size + 1) ≠ (w.heap.size + 1 + 1) ∧ (w.heap.size + 1 + 1 + 1) ≠ (w.heap.size + 1 + 1) ∧ (w.heap.size + 1 + 1 + 1 + 1) ≠ (w.heap.size + 1 + 1) ∧ ga ≠ (w.heap.size + 1 + 1) ∧ gb ≠ (w.heap.size + 1 + 1) ∧ gc ≠ (w.heap.size + 1 + 1) ∧ gd ≠ (w.heap.size + 1 + 1) ∧ gda ≠ (w.heap.size + 1 + 1) ∧ gcb ≠ (w.heap.size + 1 + 1) ∧ gaa ≠ (w.heap.size + 1 + 1) ∧ gbb ≠ (w.heap.size + 1 + 1) ∧ ge ≠ (w.heap.size + 1 + 1)) := DD_V7
              have V7 : Hid (Below w.heap.size w y6 ∧ Blk y6 w.heap.size 27 (u64s lu) ∧ Blk y6 (w.heap.size + 1) 103 (rt rx rz) ∧ Blk y6 (w.heap.size + 1 + 1) 103 (rt sx sz) ∧ Blk y6 (w.heap.size + 1 + 1 + 1) 103 (rt [0, 0, 0, 0, 0] [0, 0, 0, 0, 0]) ∧ Blk y6 (w.heap.size + 1 + 1 + 1 + 1) 103 (rt [0, 0, 0, 0, 0] [0, 0, 0, 0, 0]) ∧ Blk y6 ga 27 (u64s la) ∧ Blk y6 gb 27 (u64s lb) ∧ Blk y6 gc 27 (u64s lc) ∧ Blk y6 gd 27 (u64s ld) ∧ Blk y6 gda 27 (u64s lda) ∧ Blk y6 gcb 27 (u64s lcb) ∧ Blk y6 gaa 27 (u64s laa) ∧ Blk y6 gbb 27 (u64s lbb) ∧ Blk y6 ge 27 (u64s le)) := ⟨below_kept (below_chain V6.out.1 hb V6.out.1.size) k6 (by have := V6.out.1.size; have := hb.size; omega) (fun j hj => by omega), (Blk.later V6.out.2.1 hb (Blk.lt V6.out.2.1)).kept k6 D_.out.1, (Blk.later V6.out.2.2.1 hb (Blk.lt V6.out.2.2.1)).kept k6 D_.out.2.1, b6, (Blk.later V6.out.2.2.2.2.1 hb (Blk.lt V6.out.2.2.2.2.1)).kept k6 D_.out.2.2.1, (Blk.later V6.out.2.2.2.2.2.1 hb (Blk.lt V6.out.2.2.2.2.2.1)).kept k6 D_.out.2.2.2.1, (Blk.later V6.out.2.2.2.2.2.2.1 hb (Blk.lt V6.out.2.2.2.2.2.2.1)).kept k6 D_.out.2.2.2.2.1, (Blk.later V6.out.2.2.2.2.2.2.2.1 hb (Blk.lt V6.out.2.2.2.2.2.2.2.1)).kept k6 D_.out.2.2.2.2.2.1, (Blk.later V6.out.2.2.2.2.2.2.2.2.1 hb (Blk.lt V6.out.2.2.2.2.2.2.2.2.1)).kept k6 D_.out.2.2.2.2.2.2.1, (Blk.later V6.out.2.2.2.2.2.2.2.2.2.1 hb (Blk.lt V6.out.2.2.2.2.2.2.2.2.2.1)).kept k6 D_.out.2.2.2.2.2.2.2.1, (Blk.later V6.out.2.2.2.2.2.2.2.2.2.2.1 hb (Blk.lt V6.out.2.2.2.2.2.2.2.2.2.2.1)).kept k6 D_.out.2.2.2.2.2.2.2.2.1, (Blk.later V6.out.2.2.2.2.2.2.2.2.2.2.2.1 hb (Blk.lt V6.out.2.2.2.2.2.2.2.2.2.2.2.1)).kept k6 D_.out.2.2.2.2.2.2.2.2.2.1, (Blk.later V6.out.2.2.2.2.2.2.2.2.2.2.2.2.1 hb (Blk.lt V6.out.2.2.2.2.2.2.2.2.2.2.2.2.1)).kept k6 D_.out.2.2.2.2.2.2.2.2.2.2.1, (Blk.later V6.out.2.2.2.2.2.2.2.2.2.2.2.2.2.1 hb (Blk.lt V6.out.2.2.2.2.2.2.2.2.2.2.2.2.2.1)).kept k6 D_.out.2.2.2.2.2.2.2.2.2.2.2.1, (Blk.later V6.out.2.2.2.2.2.2.2.2.2.2.2.2.2.2 hb (Blk.lt V6.out.2.2.2.2.2.2.2.2.2.2.2.2.2.2)).kept k6 D_.out.2.2.2.2.2.2.2.2.2.2.2.2⟩
              obtain ⟨yV7, rfl⟩ : ∃ q, q = y6 := ⟨_, rfl⟩
              clear V6 hb b6 s6 k6 D_ p2 p3 p7 p8 p9
              have H_sx : Hid (Fe sx (((DA + CB) % PR) * ((DA + CB) % PR) % PR)) := F_sx
              have H_sz : Hid (Fe sz (u * (((DA - CB) % PR) * ((DA - CB) % PR) % PR) % PR)) := F_sz
              clear F_sx F_sz
              clear DD_V7
              try simp only [Act.put, List.setIfInBounds_toArray, List.set_cons_zero, List.set_cons_succ]
              go_wp2_with fail
              refine wp_region_noPanic (wp_region_held_drew (S := fun W => Blk W (w.heap.size + 1) 103 (rt rx rz) ∧ Blk W (w.heap.size + 1 + 1) 103 (rt sx sz)) (by kernel_rfl) ⟨(V7.out.2.2.1).drew, (V7.out.2.2.2.1).drew⟩ (fun hH => ?_))
              refine hLoad 0 (some 71) (rt rx rz) rfl rfl (by kernel_rfl) (by kernel_rfl) (by kernel_rfl) (fun _ _ _ h => h) (by rfl) 103 (.tmp 4) rfl (w.heap.size + 1) 0 rfl _ (fun _ h => (h.1).whole) Try.underlying103 rfl (L10.out _ _ H_rx.out.len H_rz.out.len) hH ?_
              simp only [Act.put, List.setIfInBounds_toArray, List.set_cons_zero, List.set_cons_succ]
              refine hLoad 1 (some 72) (rt sx sz) rfl rfl (by kernel_rfl) (by kernel_rfl) (by kernel_rfl) (fun _ _ _ h => h) (by rfl) 103 (.tmp 5) rfl (w.heap.size + 1 + 1) 0 rfl _ (fun _ h => (h.2).whole) Try.underlying103 rfl (L10.out _ _ H_sx.out.len H_sz.out.len) hH ?_
              simp only [Act.put, List.setIfInBounds_toArray, List.set_cons_zero, List.set_cons_succ]
              refine wpAnyH_ready (rs := [2]) (by kernel_rfl) (by simp) (AllReadyH.cons rfl (fun K hK => ?_) AllReadyH.nil)
              rw [if_pos (by rfl)]
              refine last_store 103 (.tmp 6) (.tmp 71) rfl rfl (w.heap.size + 1 + 1 + 1) rfl 103 _ (rt rx rz) rfl (V7.out.2.2.2.2.1).drew (by rw [rt_length H_rx.out.len H_rz.out.len]; rfl) (L10.out _ _ H_rx.out.len H_rz.out.len) (rt_one _ _) ?_
              intro y0 b0 s0 k0
              refine hK.out _ _ ⟨(hH.1).kept k0 (by omega), (hH.2).kept k0 (by omega)⟩ (fun hH => ?_)
              clear hK K
              refine wpAnyH_ready (rs := [3]) (by kernel_rfl) (by simp) (AllReadyH.cons rfl (fun K hK => ?_) AllReadyH.nil)
              rw [if_pos (by rfl)]
              refine last_store 103 (.tmp 7) (.tmp 72) rfl rfl (w.heap.size + 1 + 1 + 1 + 1) rfl 103 _ (rt sx sz) rfl ((V7.out.2.2.2.2.2.1).drew.kept k0 (by omega)) (by rw [rt_length H_sx.out.len H_sz.out.len]; rfl) (L10.out _ _ H_sx.out.len H_sz.out.len) (rt_one _ _) ?_
              intro y1 b1 s1 k1
              refine hK.out _ _ ⟨(hH.1).kept k1 (by omega), (hH.2).kept k1 (by omega)⟩ (fun hH => ?_)
              clear hK K
              refine wpAnyH_done (by kernel_rfl) (NoPanic.normal ?_) _
              clear hH
              go_wp2_with fail
              have q2 := V7.out.1.size
              exact ret_blk2 rfl (w.heap.size + 1 + 1 + 1) (w.heap.size + 1 + 1 + 1 + 1) (rt rx rz) (rt sx sz) _ _ rfl rfl (b0.kept k1 (by omega)) b1 Try.underlying103 Try.underlying103 rfl rfl (L10.out _ _ H_rx.out.len H_rz.out.len) (L10.out _ _ H_sx.out.len H_sz.out.len) rfl ⟨rx, rz, sx, sz, rfl, by
                have t1 := H_rx.out
                have t2 := H_rz.out
                have t3 := H_sx.out
                have t4 := H_sz.out
                rw [← QE.out, ← QAA.out, ← QBB.out, ← QA.out, ← QB.out] at t2
                rw [← QAA.out, ← QBB.out, ← QA.out, ← QB.out] at t1
                rw [← QDA.out, ← QCB.out, ← QA.out, ← QB.out, ← QC.out, ← QD.out] at t3 t4
                exact ⟨t1, t2, t3, t4⟩, below_kept (below_kept (below_dn V7.out.1 1) k0 q2 (fun j hj => by omega)) k1 (by rw [s0]; exact q2) (fun j hj => by omega)⟩
end Go.Proofs.Ytnifolefhelmcaa

namespace Go.Proofs.Ytnifolefhelmcaa
open Go.RowKit
set_option linter.unusedVariables false
set_option linter.unusedSimpArgs false

set_option maxRecDepth 20000 in
set_option maxHeartbeats 2000000 in
theorem key_any (px pz : List Int) (x z : Int) (h1 : Fe px x) (h2 : Fe pz z) (w : World) :
    Calls Try.prog 74 #[.agg (rt px pz).toArray] w fun e w' => e = .returned (.agg (u8s (leB 32 (x * (inv z) % PR))).toArray) ∧ Below w.heap.size w w' := by
  have HP : Hid (Fe px x ∧ Fe pz z) := ⟨h1, h2⟩
  have L5 : Hid (∀ l : List Int, l.length = 5 → (Try.prog.info? 27).map (·.size) = some (u64s l).length) := fun l h => by rw [u64s_length, h]; exact sizeElem
  clear h1 h2
  go_enter Try.func74, Try.ntmps74
  go_wp2_with (first | (refine wpList_box_new rfl 103 (.tmp 0) rfl (rt px pz) rfl ?_; intro w1 b1 s1 l1) | (refine wpList_alloc_new rfl 58 rfl 32 _ zeroKey ?_; intro w2 b2 s2 l2))
  have e1 : w1.heap.size = w.heap.size + 1 := s1
  rw [e1] at b2
  have V : Hid (Below w.heap.size w w2 ∧ Blk w2 w.heap.size 103 (rt px pz) ∧ Blk w2 (w.heap.size + 1) 58 (u8s (List.replicate 32 0))) := ⟨below_chain l1 l2 (by omega), b1.later l2 (by omega), b2⟩
  simp only [Act.put, List.setIfInBounds_toArray, List.set_cons_zero, List.set_cons_succ, e1]
  clear b1 s1 l1 b2 s2 l2 e1
  refine region_invT ((.val (.pointer (some ⟨w.heap.size, 0, none⟩))) :: (.val (.agg (u64s px).toArray)) :: (.val (.pointer (some ⟨w.heap.size, 5, none⟩))) :: (.val (.agg (u64s pz).toArray)) :: (.any (isF (inv z)) (isF_later (inv z))) :: (.any (isF (x * (inv z) % PR)) (isF_later (x * (inv z) % PR))) :: (.val (.agg (u8s (leB 32 (x * (inv z) % PR))).toArray)) :: []) (by kernel_rfl) (by kernel_rfl) (by kernel_rfl) ?_ ?_
  · refine Steps'.cons ?_ (Steps'.cons ?_ (Steps'.cons ?_ (Steps'.cons ?_ (Steps'.cons ?_ (Steps'.cons ?_ (Steps'.cons ?_ (Steps'.one _ _ _ _ _ _ _)))))))
    · intro ax wx hb hs hd
      have h1 : ax.tmps.getD 1 undef = (.pointer (some ⟨w.heap.size, 0, none⟩)) := hs 1 (by kernel_rfl)
      refine Does.value (.pointer (some ⟨w.heap.size, 0, none⟩)) ?_ rfl
      clear hs hd
      go_simp
    · intro ax wx hb hs hd
      have h3 : ax.tmps.getD 3 undef = (.pointer (some ⟨w.heap.size, 0, none⟩)) := hd 0 3 rfl (by kernel_rfl) (by decide)
      exact Does.load 27 (.tmp 3) rfl w.heap.size 0 h3 (u64s px) _ (((Blk.later V.out.2.1 hb (Blk.lt V.out.2.1))).fst) Try.underlying27 rfl (L5.out _ HP.out.1.len)
    · intro ax wx hb hs hd
      have h1 : ax.tmps.getD 1 undef = (.pointer (some ⟨w.heap.size, 0, none⟩)) := hs 1 (by kernel_rfl)
      refine Does.value (.pointer (some ⟨w.heap.size, 5, none⟩)) ?_ rfl
      clear hs hd
      go_simp
    · intro ax wx hb hs hd
      have h5 : ax.tmps.getD 5 undef = (.pointer (some ⟨w.heap.size, 5, none⟩)) := hd 2 5 rfl (by kernel_rfl) (by decide)
      exact Does.load 27 (.tmp 5) rfl w.heap.size 5 h5 (u64s pz) _ (((Blk.later V.out.2.1 hb (Blk.lt V.out.2.1))).snd HP.out.1.len) Try.underlying27 rfl (L5.out _ HP.out.2.len)
    · intro ax wx hb hs hd
      have h6 : ax.tmps.getD 6 undef = (.agg (u64s pz).toArray) := hd 3 6 rfl (by kernel_rfl) (by decide)
      refine Does.call 54 #[(.agg (u64s pz).toArray)] (by clear hs hd; go_simp) ?_
      refine (finv_any _ _ HP.out.2 _).mono ?_
      rintro z w' ⟨r, rfl, fr, l⟩
      exact ⟨_, rfl, ⟨r, rfl, fr⟩, l⟩
    · intro ax wx hb hs hd
      have h4 : ax.tmps.getD 4 undef = (.agg (u64s px).toArray) := hd 1 4 rfl (by kernel_rfl) (by decide)
      obtain ⟨l7, h7, f7⟩ : isF (inv z) (ax.tmps.getD 7 undef) wx := hd 4 7 rfl (by kernel_rfl) (by decide)
      refine Does.call 31 #[(.agg (u64s px).toArray), (.agg (u64s l7).toArray)] (by clear hs hd; go_simp) ?_
      refine (mul_any _ _ _ _ HP.out.1 f7 _).mono ?_
      rintro z w' ⟨r, rfl, fr, l⟩
      exact ⟨_, rfl, ⟨r, rfl, fr⟩, l⟩
    · intro ax wx hb hs hd
      obtain ⟨l8, h8, f8⟩ : isF (x * (inv z) % PR) (ax.tmps.getD 8 undef) wx := hd 5 8 rfl (by kernel_rfl) (by decide)
      refine Does.call 18 #[(.agg (u64s l8).toArray)] (by clear hs hd; go_simp) ?_
      refine (fbytes_any _ _ f8 _).mono ?_
      rintro z w' ⟨rfl, l⟩
      exact ⟨_, rfl, rfl, l⟩
  · intro wx hb
    refine @Ends.val _ _ _ _ _ _ _ _ _ (.pointer (some ⟨w.heap.size, 0, none⟩)) rfl ?_
    refine @Ends.val _ _ _ _ _ _ _ _ _ (.agg (u64s px).toArray) rfl ?_
    refine @Ends.val _ _ _ _ _ _ _ _ _ (.pointer (some ⟨w.heap.size, 5, none⟩)) rfl ?_
    refine @Ends.val _ _ _ _ _ _ _ _ _ (.agg (u64s pz).toArray) rfl ?_
    refine @Ends.any _ _ _ _ _ _ _ _ _ (isF (inv z)) (isF_later (inv z)) rfl ?_
    intro v4 p4
    refine @Ends.any _ _ _ _ _ _ _ _ _ (isF (x * (inv z) % PR)) (isF_later (x * (inv z) % PR)) rfl ?_
    intro v5 p5
    refine @Ends.val _ _ _ _ _ _ _ _ _ (.agg (u8s (leB 32 (x * (inv z) % PR))).toArray) rfl ?_
    refine @Ends.one _ _ _ _ _ _ _ ?_
    simp only [Act.put, List.setIfInBounds_toArray, List.set_cons_zero, List.set_cons_succ]
    have HN : Hid ((u8s (leB 32 (x * (inv z) % PR))).length = 32) := by show (u8s (leB 32 (x * (inv z) % PR))).length = 32; rw [u8s_length, leB_length]
    refine last_store 58 (.tmp 2) (.tmp 9) rfl rfl (w.heap.size + 1) rfl 58 _ (u8s (leB 32 (x * (inv z) % PR))) rfl (V.out.2.2.later hb V.out.2.2.lt) (by rw [HN.out]; rfl) (by rw [HN.out]; exact sizeKey) (u8s_one _) ?_
    intro y6 b6 s6 k6
    have q1 := V.out.1.size
    have q2 := hb.size
    go_wp2_with fail
    exact ret_blk rfl (w.heap.size + 1) (u8s (leB 32 (x * (inv z) % PR))) _ rfl b6 Try.underlying58 rfl (by rw [HN.out]; exact sizeKey) rfl ⟨rfl, below_kept (below_chain V.out.1 hb q1) k6 (by omega) (fun j hj => by omega)⟩
set_option maxRecDepth 20000 in
set_option maxHeartbeats 8000000 in
theorem lmul_any (ks us : List Int) (hk : ks.length = 32) (bk : Bytes ks) (hu : us.length = 32) (bu : Bytes us) (w : World) :
    Calls Try.prog 32 #[.agg (u8s ks).toArray, .agg (u8s us).toArray] w fun e w' => e = .returned (.agg (u8s (prodL ks us)).toArray) ∧ Below w.heap.size w w' := by
  have HC := clamp_any ks hk bk
  have HO := fof_any us hu bu
  have HN : Hid ((clampL ks).length = 32 ∧ Bytes (clampL ks) ∧ EC.Cl (le (clampL ks)).toNat ∧ ks.length = 32 ∧ us.length = 32 ∧ pubN us = le us % 57896044618658097711785492504343953926634992332820282019728792003956564819968 % PR) := ⟨by rw [clampL_length]; exact hk, clampL_bytes ks bk hk, cl_of ks hk bk, hk, hu, rfl⟩
  have hpn : le us % 57896044618658097711785492504343953926634992332820282019728792003956564819968 % PR = pubN us := rfl
  rw [hpn] at HO
  unfold prodL prodN
  obtain ⟨u, hu2⟩ : ∃ z, pubN us = z := ⟨_, rfl⟩
  rw [hu2] at HO ⊢
  obtain ⟨n, hn⟩ : ∃ z, (le (clampL ks)).toNat = z := ⟨_, rfl⟩
  rw [hn] at HN ⊢
  obtain ⟨ns, hns⟩ : ∃ z, clampL ks = z := ⟨_, rfl⟩
  rw [hns] at HC HN hn
  have HM : Hid ((le ns).toNat = n) := hn
  have HCl : Hid (∀ w, Calls Try.prog 37 #[.agg (u8s ks).toArray] w fun e w' => e = .returned (.agg (u8s ns).toArray) ∧ Below w.heap.size w w') := HC
  have HOf : Hid (∀ w, Calls Try.prog 13 #[.agg (u8s us).toArray] w fun e w' => ∃ r, e = .returned (.agg (u64s r).toArray) ∧ Fe r u ∧ Below w.heap.size w w') := HO
  have L5 : Hid (∀ l : List Int, l.length = 5 → (Try.prog.info? 27).map (·.size) = some (u64s l).length) := fun l h => by rw [u64s_length, h]; exact sizeElem
  have L10 : Hid (∀ a b : List Int, a.length = 5 → b.length = 5 → (Try.prog.info? 103).map (·.size) = some (rt a b).length) := fun a b ha hb => by rw [rt_length ha hb]; exact sizeRatio
  have L32 : Hid (∀ l : List Int, l.length = 32 → (Try.prog.info? 58).map (·.size) = some (u8s l).length) := fun l h => by rw [u8s_length, h]; exact sizeKey
  have HB : Hid ((u8s (leB 32 (mulI n u))).length = 32) := by show (u8s (leB 32 (mulI n u))).length = 32; rw [u8s_length, leB_length]
  clear hk bk hu bu hu2 hn hns HC HO hpn
  go_enter Try.func32, Try.ntmps32
  go_wp2_with (first | (refine wpList_box_new rfl 58 (.tmp 0) rfl (u8s ks) rfl ?_; intro w0 b0 s0 l0) | (refine wpList_box_new rfl 58 (.tmp 1) rfl (u8s us) rfl ?_; intro w1 b1 s1 l1) | (refine wpList_alloc_new rfl 58 rfl 32 _ zeroKey ?_; intro w2 b2 s2 l2))
  have e1 : w0.heap.size = w.heap.size + 1 := s0
  have e2 : w1.heap.size = w.heap.size + 1 + 1 := by omega
  rw [e1] at b1
  rw [e2] at b2
  have V0 : Hid (Below w.heap.size w w2 ∧ Blk w2 w.heap.size 58 (u8s ks) ∧ Blk w2 (w.heap.size + 1) 58 (u8s us) ∧ Blk w2 (w.heap.size + 1 + 1) 58 (u8s (List.replicate 32 0))) := ⟨below_chain (below_chain l0 l1 (by omega)) l2 (by omega), (b0.later l1 (by omega)).later l2 (by omega), b1.later l2 (by omega), b2⟩
  simp only [Act.put, List.setIfInBounds_toArray, List.set_cons_zero, List.set_cons_succ, e1, e2]
  clear b0 s0 l0 b1 s1 l1 b2 s2 l2 e1 e2
  refine region_invP 6 ((.val (.agg (u8s ks).toArray)) :: (.val (.agg (u8s ns).toArray)) :: (.val (.agg (u8s us).toArray)) :: (.any (isF u) (isF_later u)) :: (.blk 58 (u8s (List.replicate 32 0))) :: (.blk 27 (u64s [0, 0, 0, 0, 0])) :: []) (by kernel_rfl) (by kernel_rfl) (by kernel_rfl) [5, 6] ⟨.inl rfl, .inl rfl, .inl rfl, .inl rfl, .inr ⟨58, _, 32, rfl, rfl, zeroKey⟩, .inr ⟨27, _, 5, rfl, rfl, zeroElem⟩, trivial⟩ (by kernel_rfl) ?_ ?_
  · refine Steps'.cons ?_ (Steps'.cons ?_ (Steps'.cons ?_ (Steps'.cons ?_ (Steps'.cons ?_ (Steps'.cons ?_ (Steps'.one _ _ _ _ _ _ _))))))
    · intro ax wx hb hs hd
      have h2 : ax.tmps.getD 2 undef = (.pointer (some ⟨w.heap.size, 0, none⟩)) := hs 2 (by kernel_rfl)
      exact Does.load 58 (.tmp 2) rfl w.heap.size 0 h2 (u8s ks) _ ((Blk.later V0.out.2.1 hb (Blk.lt V0.out.2.1)).whole) Try.underlying58 rfl (L32.out _ HN.out.2.2.2.1)
    · intro ax wx hb hs hd
      have h12 : ax.tmps.getD 12 undef = (.agg (u8s ks).toArray) := hd 0 12 rfl (by kernel_rfl) (by decide)
      refine Does.call 37 #[(.agg (u8s ks).toArray)] (by clear hs hd; go_simp) ?_
      refine (HCl.out _).mono ?_
      rintro z w' ⟨rfl, l⟩
      exact ⟨_, rfl, rfl, l⟩
    · intro ax wx hb hs hd
      have h3 : ax.tmps.getD 3 undef = (.pointer (some ⟨(w.heap.size + 1), 0, none⟩)) := hs 3 (by kernel_rfl)
      exact Does.load 58 (.tmp 3) rfl (w.heap.size + 1) 0 h3 (u8s us) _ ((Blk.later V0.out.2.2.1 hb (Blk.lt V0.out.2.2.1)).whole) Try.underlying58 rfl (L32.out _ HN.out.2.2.2.2.1)
    · intro ax wx hb hs hd
      have h14 : ax.tmps.getD 14 undef = (.agg (u8s us).toArray) := hd 2 14 rfl (by kernel_rfl) (by decide)
      refine Does.call 13 #[(.agg (u8s us).toArray)] (by clear hs hd; go_simp) ?_
      refine (HOf.out _).mono ?_
      rintro z w' ⟨r, rfl, fr, l⟩
      exact ⟨_, rfl, ⟨r, rfl, fr⟩, l⟩
    · intro ax wx hb hs hd
      exact Does.alloc 58 rfl 32 _ zeroKey hb.size
    · intro ax wx hb hs hd
      exact Does.alloc 27 rfl 5 _ zeroElem hb.size
  · intro wx hb
    refine @EndsP.val _ _ _ _ _ _ _ _ (.agg (u8s ks).toArray) rfl ?_
    refine @EndsP.val _ _ _ _ _ _ _ _ (.agg (u8s ns).toArray) rfl ?_
    refine @EndsP.val _ _ _ _ _ _ _ _ (.agg (u8s us).toArray) rfl ?_
    refine @EndsP.any _ _ _ _ _ _ _ _ (isF u) (isF_later u) rfl ?_
    intro v3 p3
    refine @EndsP.blk _ _ _ _ _ _ _ _ 58 (u8s (List.replicate 32 0)) rfl ?_
    intro g4 hg4 bg4
    refine @EndsP.blk _ _ _ _ _ _ _ _ 27 (u64s [0, 0, 0, 0, 0]) rfl ?_
    intro g5 hg5 bg5
    intro hD nf hn
    obtain ⟨mf, rfl⟩ : ∃ mf, nf = mf + 2 := ⟨nf - 2, by have h3 : 2 ≤ nf := hn; omega⟩
    obtain ⟨lu, rfl, F_lu⟩ := p3
    have d01 : g4 ≠ g5 := fun e => hD 5 (by simp) 6 (by simp) (by decide) (by subst e; kernel_rfl)
    clear hD hn
    simp only [Act.put, List.setIfInBounds_toArray, List.set_cons_zero, List.set_cons_succ]
    refine wpAny_ready (rs := [6]) (by kernel_rfl) (by simp) (AllReady.cons rfl (fun K hK => ?_) AllReady.nil)
    rw [if_pos (by rfl)]
    refine last_store 58 (.tmp 5) (.tmp 13) rfl rfl g4 rfl 58 _ (u8s ns) rfl bg4 (by rw [u8s_length, HN.out.1]; rfl) (L32.out _ HN.out.1) (u8s_one _) ?_
    intro w3 b3 s3 k3
    refine hK _ _ ?_
    refine wpAny_ready (rs := [7]) (by kernel_rfl) (by simp) (AllReady.cons rfl (fun K hK => ?_) AllReady.nil)
    rw [if_pos (by rfl)]
    refine last_store 27 (.tmp 6) (.tmp 15) rfl rfl g5 rfl 27 _ (u64s lu) rfl (bg5.kept k3 (by omega)) (by rw [u64s_length, F_lu.len]; rfl) (L5.out _ F_lu.len) (u64s_one _) ?_
    intro w4 b4 s4 k4
    refine hK _ _ ?_
    refine wpAny_done (by kernel_rfl) (NoPanic.normal ?_) _
    have V1 : Hid (Below w.heap.size w w4 ∧ Blk w4 (w.heap.size + 1 + 1) 58 (u8s (List.replicate 32 0)) ∧ Blk w4 g4 58 (u8s ns) ∧ Blk w4 g5 27 (u64s lu) ∧ w.heap.size + 1 + 1 < g4 ∧ w.heap.size + 1 + 1 < g5) := by
      have q0 := V0.out.1.size
      have q1 := V0.out.2.2.2.lt
      have q2 := hb.size
      exact ⟨below_kept (below_kept (below_chain V0.out.1 hb (by omega)) k3 (by omega) (fun j hj => by omega)) k4 (by omega) (fun j hj => by omega), ((V0.out.2.2.2.later hb V0.out.2.2.2.lt).kept k3 (by omega)).kept k4 (by omega), b3.kept k4 (by omega), b4, by omega, by omega⟩
    obtain ⟨gn, rfl⟩ : ∃ q, q = g4 := ⟨_, rfl⟩
    obtain ⟨gx, rfl⟩ : ∃ q, q = g5 := ⟨_, rfl⟩
    have H_lu : Hid (Fe lu u) := F_lu
    clear F_lu V0 hb b3 s3 k3 b4 s4 k4 d01 bg4 hg4 bg5 hg5
    try simp only [Act.put, List.setIfInBounds_toArray, List.set_cons_zero, List.set_cons_succ]
    go_wp2_with (first | ((with_reducible show Calls _ _ #[.int .u64 1] _ _); refine (small_any 1 (by decide) (by decide) _).mono ?_; rintro e w5 ⟨o1, rfl, F_o1, l5⟩) | ((with_reducible show Calls _ _ #[.int .u64 0] _ _); refine (small_any 0 (by decide) (by decide) _).mono ?_; rintro e w6 ⟨o0, rfl, F_o0, l6⟩) | (refine wpList_build rfl 103 _ rfl #[(0, .agg (u64s o1).toArray), (1, .agg (u64s o0).toArray)] (by simp [Act.eval]) _ (build_rat o1 o0 F_o1.len F_o0.len _) ?_) | ((with_reducible show wpList _ _ _ (({ dst := some 7, op := _, type := _, pos := _, after := _, guard := _ } : Oper) :: _) _ _); refine wpList_alloc_new rfl 103 rfl 10 _ zeroRatio ?_; intro w7 b7 s7 l7) | (refine wpList_store_blk rfl 103 103 _ _ rfl _ rfl _ (rt o1 o0) rfl b7 (by rw [rt_length F_o1.len F_o0.len]; rfl) (L10.out _ _ F_o1.len F_o0.len) (rt_one _ _) ?_; intro w8 b8 s8 k8))
    obtain ⟨gl, hgl⟩ : ∃ q, w6.heap.size = q := ⟨_, rfl⟩
    rw [hgl] at b7 b8 k8 ⊢
    have V2 : Hid (Below w.heap.size w w8 ∧ Blk w8 (w.heap.size + 1 + 1) 58 (u8s (List.replicate 32 0)) ∧ Blk w8 gn 58 (u8s ns) ∧ Blk w8 gx 27 (u64s lu) ∧ Blk w8 gl 103 (rt o1 o0) ∧ w.heap.size + 1 + 1 < gn ∧ w.heap.size + 1 + 1 < gx ∧ w.heap.size + 1 + 1 < gl) := by
      obtain ⟨a1, a2, a3, a4, a5, a6⟩ := V1.out
      have q1 := l5.size
      have q2 := l6.size
      have q3 := a2.lt
      have q4 := a3.lt
      have q5 := a4.lt
      have q6 := a1.size
      have q7 := l7.size
      exact ⟨below_kept (below_chain (below_chain (below_chain a1 l5 (by omega)) l6 (by omega)) l7 (by omega)) k8 (by omega) (fun j hj => by omega), (((a2.later l5 (by omega)).later l6 (by omega)).later l7 (by omega)).kept k8 (by omega), (((a3.later l5 (by omega)).later l6 (by omega)).later l7 (by omega)).kept k8 (by omega), (((a4.later l5 (by omega)).later l6 (by omega)).later l7 (by omega)).kept k8 (by omega), b8, a5, a6, by omega⟩
    have H_o : Hid (Fe o1 1 ∧ Fe o0 0) := ⟨F_o1, F_o0⟩
    clear F_o1 F_o0 V1 l5 l6 b7 s7 l7 b8 s8 k8 hgl
    simp only [Act.put, List.setIfInBounds_toArray, List.set_cons_zero, List.set_cons_succ]
    refine region_invP 4 ((.val (.agg (u64s lu).toArray)) :: (.any (isF 1) (isF_later 1)) :: (.any (isR u 1) (isR_later u 1)) :: (.blk 103 (rt [0, 0, 0, 0, 0] [0, 0, 0, 0, 0])) :: []) (by kernel_rfl) (by kernel_rfl) (by kernel_rfl) [] ⟨.inl rfl, .inl rfl, .inl rfl, .inl rfl, trivial⟩ (by kernel_rfl) ?_ ?_
    · refine Steps'.cons ?_ (Steps'.cons ?_ (Steps'.cons ?_ (Steps'.cons ?_ (Steps'.one _ _ _ _ _ _ _))))
      · intro ax wx hb hs hd
        have h6 : ax.tmps.getD 6 undef = (.pointer (some ⟨gx, 0, none⟩)) := hs 6 (by kernel_rfl)
        exact Does.load 27 (.tmp 6) rfl gx 0 h6 (u64s lu) _ (Blk.later V2.out.2.2.2.1 hb (Blk.lt V2.out.2.2.2.1)).whole Try.underlying27 rfl (L5.out _ H_lu.out.len)
      · intro ax wx hb hs hd
        refine Does.call 25 #[(.int .u64 1)] (by clear hs hd; go_simp) ?_
        refine (small_any 1 (by decide) (by decide) _).mono ?_
        rintro z w' ⟨r, rfl, fr, l⟩
        exact ⟨_, rfl, ⟨r, rfl, fr⟩, l⟩
      · intro ax wx hb hs hd
        have h19 : ax.tmps.getD 19 undef = (.agg (u64s lu).toArray) := hd 0 19 rfl (by kernel_rfl) (by decide)
        obtain ⟨l20, h20, f20⟩ : isF 1 (ax.tmps.getD 20 undef) wx := hd 1 20 rfl (by kernel_rfl) (by decide)
        exact does_rat (.tmp 19) (.tmp 20) rfl lu l20 h19 h20 _ _ H_lu.out f20
      · intro ax wx hb hs hd
        exact Does.alloc 103 rfl 10 _ zeroRatio hb.size
    · intro wx hb
      refine @EndsP.val _ _ _ _ _ _ _ _ (.agg (u64s lu).toArray) rfl ?_
      refine @EndsP.any _ _ _ _ _ _ _ _ (isF 1) (isF_later 1) rfl ?_
      intro v1 p1
      refine @EndsP.any _ _ _ _ _ _ _ _ (isR u 1) (isR_later u 1) rfl ?_
      intro v2 p2
      refine @EndsP.blk _ _ _ _ _ _ _ _ 103 (rt [0, 0, 0, 0, 0] [0, 0, 0, 0, 0]) rfl ?_
      intro g3 hg3 bg3
      intro hD nf hn
      obtain ⟨mf, rfl⟩ : ∃ mf, nf = mf + 1 := ⟨nf - 1, by have h3 : 1 ≤ nf := hn; omega⟩
      clear hD hn
      obtain ⟨t1, t2, rfl, F_t1, F_t2⟩ := p2
      simp only [Act.put, List.setIfInBounds_toArray, List.set_cons_zero, List.set_cons_succ]
      refine wpAny_ready (rs := [4]) (by kernel_rfl) (by simp) (AllReady.cons rfl (fun K hK => ?_) AllReady.nil)
      rw [if_pos (by rfl)]
      refine last_store 103 (.tmp 8) (.tmp 21) rfl rfl g3 rfl 103 _ (rt t1 t2) rfl bg3 (by rw [rt_length F_t1.len F_t2.len]; rfl) (L10.out _ _ F_t1.len F_t2.len) (rt_one _ _) ?_
      intro wz b9 s9 k9
      refine hK _ _ ?_
      refine wpAny_done (by kernel_rfl) (NoPanic.normal ?_) _
      clear hK
      have V3 : Hid (Below w.heap.size w wz ∧ Blk wz (w.heap.size + 1 + 1) 58 (u8s (List.replicate 32 0)) ∧ Blk wz gn 58 (u8s ns) ∧ Blk wz gx 27 (u64s lu) ∧ Blk wz gl 103 (rt o1 o0) ∧ Blk wz g3 103 (rt t1 t2) ∧ w.heap.size + 1 + 1 < gn ∧ w.heap.size + 1 + 1 < gx ∧ w.heap.size + 1 + 1 < gl ∧ gl < g3) := by
        obtain ⟨a1, a2, a3, a4, a5, a6, a7, a8⟩ := V2.out
        have q1 := hb.size
        have q3 := a2.lt
        have q4 := a3.lt
        have q5 := a4.lt
        have q8 := a5.lt
        have q6 := a1.size
        exact ⟨below_kept (below_chain a1 hb (by omega)) k9 (by omega) (fun j hj => by omega), (a2.later hb (by omega)).kept k9 (by omega), (a3.later hb (by omega)).kept k9 (by omega), (a4.later hb (by omega)).kept k9 (by omega), (a5.later hb (by omega)).kept k9 (by omega), b9, a6, a7, a8, by omega⟩
      obtain ⟨gu, rfl⟩ : ∃ q, q = g3 := ⟨_, rfl⟩
      have H_t : Hid (Fe t1 u ∧ Fe t2 1) := ⟨F_t1, F_t2⟩
      clear F_t1 F_t2 V2 b9 s9 k9 hb bg3 hg3 p1
      try simp only [Act.put, List.setIfInBounds_toArray, List.set_cons_zero, List.set_cons_succ]
      go_wp2_with fail
      go_loopw [9, 10] (fun s i wr => ∃ (m : Nat) (S : Int) (q : Bool) (a b c d : List Int), m ≤ 255 ∧ i = .int .i64 ((m : Int) - 1) ∧ s = .int .u64 S ∧ (Word S ∧ (S % 2 == 1) = q ∧ (m < 255 → q = n.testBit m) ∧ (m = 255 → q = false)) ∧ Fe4 a b c d (swI q (ladI u n (255 - m))) ∧ Blk wr gl 103 (rt a b) ∧ Blk wr gu 103 (rt c d) ∧ Kept (fun k => k = gl ∨ k = gu) wz wr) (fun _ i _ => ((intOf i) + 1).toNat)
      case atStart => exact ⟨255, 0, false, o1, o0, t1, t2, by omega, rfl, rfl, ⟨⟨by decide, by decide⟩, rfl, by omega, fun _ => rfl⟩, ⟨H_o.out.1, H_o.out.2, H_t.out.1, H_t.out.2⟩, V3.out.2.2.2.2.1, V3.out.2.2.2.2.2.1, Kept.refl _ _⟩
      case round =>
        obtain ⟨m, S, q, a, b, c, d, hm, rfl, rfl, hS, hF, hbl, hbu, hkp⟩ := hrel
        by_cases hlt : 0 < m
        · obtain ⟨t, rfl⟩ : ∃ t, m = t + 1 := ⟨m - 1, by omega⟩
          have i0 : (((t + 1 : Nat) : Int) - 1) = (t : Int) := by omega
          rw [i0]
          obtain ⟨Q, hq⟩ : ∃ Q : Nat, t / 8 = Q := ⟨_, rfl⟩
          obtain ⟨f, hf⟩ : ∃ f : Nat, t % 8 = f := ⟨_, rfl⟩
          have ht : t < 255 := by omega
          have hq32 : Q < 32 := by omega
          have hf8 : f < 8 := by omega
          obtain ⟨X, hXX⟩ : ∃ z, ns.getD Q 0 = z := ⟨_, rfl⟩
          have hX : 0 ≤ X ∧ X < 256 := by have := HN.out.2.1.at Q (by rw [HN.out.1]; exact hq32); omega
          have cE : wr.cell? ⟨gn, Q, none⟩ = some (.int .u8 X) := by
            have := V3.out.2.2.1.kept hkp (fun h => by rcases h with h | h; exact blk_ne V3.out.2.2.1 V3.out.2.2.2.2.1 (by decide) h; exact blk_ne V3.out.2.2.1 V3.out.2.2.2.2.2.1 (by decide) h)
            rw [u8s_cell this Q (by rw [HN.out.1]; exact hq32), hXX]
          have j2 : Int.tdiv (t : Int) 8 = (Q : Int) := by rw [Int.tdiv_eq_ediv_of_nonneg (by omega)]; omega
          have j3 : Int.tmod (t : Int) 8 = (f : Int) := by rw [Int.tmod_eq_emod_of_nonneg (by omega)]; omega
          have j4 : (Q : Int) < 32 := by omega
          have j5 : (0 : Int) ≤ (Q : Int) := by omega
          have j7 : (0 : Int) ≤ (f : Int) := by omega
          have j9 : (0 : Int) ≤ (t : Int) := by omega
          have hD : 0 ≤ X / 2 ^ f ∧ X / 2 ^ f < 256 := by
            have : f = 0 ∨ f = 1 ∨ f = 2 ∨ f = 3 ∨ f = 4 ∨ f = 5 ∨ f = 6 ∨ f = 7 := by omega
            rcases this with rfl | rfl | rfl | rfl | rfl | rfl | rfl | rfl <;> simp only [Int.reducePow] <;> omega
          have hpar : (X / 2 ^ f % 2 == 1) = n.testBit t := by
            have h := bit_of ns HN.out.1 HN.out.2.1 t (by omega)
            rw [hq, hf, hXX, HM.out] at h
            rw [h, tb_of]
          have j8 : IntKind.u64.wrap (X / 2 ^ f) = X / 2 ^ f := by rw [IntKind.wrap_u64]; omega
          obtain ⟨Y, hY⟩ : ∃ z, bits .xor .u64 S (X / 2 ^ f) = z := ⟨_, rfl⟩
          have hYp := xor_par S (X / 2 ^ f) hS.1 ⟨hD.1, by omega⟩
          rw [hY, hS.2.1, hpar] at hYp
          have HSW := lswap_any Y hYp.1 a b c d _ _ _ _ hF.a hF.b hF.c hF.d
          rw [hYp.2] at HSW
          obtain ⟨B, hB⟩ : ∃ z, X / 2 ^ f = z := ⟨_, rfl⟩
          have HR : Hid (∃ a' b' c' d', (bif (q != n.testBit t) then rt c d else rt a b) = rt a' b' ∧ (bif (q != n.testBit t) then rt a b else rt c d) = rt c' d' ∧ Fe4 a' b' c' d' (swI (n.testBit t) (ladI u n (255 - (t + 1))))) := by
            have e := swI_swI q (n.testBit t) (ladI u n (255 - (t + 1)))
            cases hx : (q != n.testBit t)
            · rw [hx] at e
              exact ⟨a, b, c, d, rfl, rfl, by rw [← e]; exact hF⟩
            · rw [hx] at e
              exact ⟨c, d, a, b, rfl, rfl, by rw [← e]; exact ⟨hF.c, hF.d, hF.a, hF.b⟩⟩
          obtain ⟨a', b', c', d', ha', hc', hF'⟩ := HR.out
          rw [ha', hc'] at HSW
          have HST := step_any lu a' b' c' d' u _ _ _ _ H_lu.out hF'.a hF'.b hF'.c hF'.d
          rw [swI_step] at HST
          have hl1 : bstI u (n.testBit t) (ladI u n (255 - (t + 1))) = ladI u n (255 - t) := by
            rw [show 255 - t = 255 - (t + 1) + 1 by omega]
            show _ = bstI u (n.testBit (255 - 1 - (255 - (t + 1)))) (ladI u n (255 - (t + 1)))
            rw [show 255 - 1 - (255 - (t + 1)) = t by omega]
          rw [hl1] at HST
          rw [hB] at hY j8 hD hpar
          have HQ : Hid (Blk wr gl 103 (rt a b) ∧ Blk wr gu 103 (rt c d) ∧ Kept (fun k => k = gl ∨ k = gu) wz wr ∧ (a.length = 5 ∧ b.length = 5 ∧ c.length = 5 ∧ d.length = 5) ∧ (a'.length = 5 ∧ b'.length = 5 ∧ c'.length = 5 ∧ d'.length = 5) ∧ Word B ∧ (B % 2 == 1) = n.testBit t ∧ gl < gu ∧ (gx ≠ gl ∧ gx ≠ gu)) := ⟨hbl, hbu, hkp, ⟨hF.a.len, hF.b.len, hF.c.len, hF.d.len⟩, ⟨hF'.a.len, hF'.b.len, hF'.c.len, hF'.d.len⟩, ⟨hD.1, by omega⟩, hpar, V3.out.2.2.2.2.2.2.2.2.2, blk_ne V3.out.2.2.2.1 V3.out.2.2.2.2.1 (by decide), blk_ne V3.out.2.2.2.1 V3.out.2.2.2.2.2.1 (by decide)⟩
          clear hbl hbu hkp hF hF' hS hpar hYp ha' hc' HR hXX hq hf hl1 hm hlt i0 hD hX
          go_wp2_with (first | ((with_reducible show wpList _ _ _ (({ dst := some 38, op := _, type := _, pos := _, after := _, guard := _ } : Oper) :: _) _ _); refine wpList_load_blk rfl 103 (.tmp 7) rfl gl rfl (rt a b) _ HQ.out.1 Try.underlying103 rfl (L10.out _ _ HQ.out.2.2.2.1.1 HQ.out.2.2.2.1.2.1) ?_) | ((with_reducible show wpList _ _ _ (({ dst := some 39, op := _, type := _, pos := _, after := _, guard := _ } : Oper) :: _) _ _); refine wpList_load_blk rfl 103 (.tmp 8) rfl gu rfl (rt c d) _ HQ.out.2.1 Try.underlying103 rfl (L10.out _ _ HQ.out.2.2.2.1.2.2.1 HQ.out.2.2.2.1.2.2.2) ?_) | (go_at_call 72; refine (HSW _).mono ?_; rintro e x1 ⟨rfl, l1⟩) | (refine wpList_store_blk rfl 103 103 (.tmp 7) (.tmp 41) rfl gl rfl _ (rt a' b') rfl (HQ.out.1.later l1 HQ.out.1.lt) (by rw [rt_length HQ.out.2.2.2.2.1.1 HQ.out.2.2.2.2.1.2.1, rt_length HQ.out.2.2.2.1.1 HQ.out.2.2.2.1.2.1]) (L10.out _ _ HQ.out.2.2.2.2.1.1 HQ.out.2.2.2.2.1.2.1) (rt_one _ _) ?_; intro x2 b2 s2 k2) | (refine wpList_store_blk rfl 103 103 (.tmp 8) (.tmp 42) rfl gu rfl _ (rt c' d') rfl ((HQ.out.2.1.later l1 HQ.out.2.1.lt).kept k2 (by have := HQ.out.2.2.2.2.2.2.2.1; omega)) (by rw [rt_length HQ.out.2.2.2.2.1.2.2.1 HQ.out.2.2.2.2.1.2.2.2, rt_length HQ.out.2.2.2.1.2.2.1 HQ.out.2.2.2.1.2.2.2]) (L10.out _ _ HQ.out.2.2.2.2.1.2.2.1 HQ.out.2.2.2.2.1.2.2.2) (rt_one _ _) ?_; intro x3 b3 s3 k3; have V5 : Hid (Blk x3 gl 103 (rt a' b') ∧ Blk x3 gu 103 (rt c' d') ∧ Blk x3 gx 27 (u64s lu) ∧ Kept (fun k => k = gl ∨ k = gu) wz x3) := ⟨b2.kept k3 (by have := HQ.out.2.2.2.2.2.2.2.1; omega), b3, (((V3.out.2.2.2.1.kept HQ.out.2.2.1 (by have := HQ.out.2.2.2.2.2.2.2.2; omega)).later l1 (by have := (V3.out.2.2.2.1.kept HQ.out.2.2.1 (by have := HQ.out.2.2.2.2.2.2.2.2; omega)).lt; omega)).kept k2 HQ.out.2.2.2.2.2.2.2.2.1).kept k3 HQ.out.2.2.2.2.2.2.2.2.2, ((HQ.out.2.2.1.trans (Kept.new _ l1)).trans (k2.mono (fun k h => .inl h))).trans (k3.mono (fun k h => .inr h))⟩; clear b2 s2 k2 b3 s3 k3 l1) | ((with_reducible show wpList _ _ _ (({ dst := some 45, op := _, type := _, pos := _, after := _, guard := _ } : Oper) :: _) _ _); refine wpList_load_blk rfl 27 (.tmp 6) rfl gx rfl (u64s lu) _ V5.out.2.2.1 Try.underlying27 rfl (L5.out _ H_lu.out.len) ?_) | ((with_reducible show wpList _ _ _ (({ dst := some 46, op := _, type := _, pos := _, after := _, guard := _ } : Oper) :: _) _ _); refine wpList_load_blk rfl 103 (.tmp 7) rfl gl rfl (rt a' b') _ V5.out.1 Try.underlying103 rfl (L10.out _ _ HQ.out.2.2.2.2.1.1 HQ.out.2.2.2.2.1.2.1) ?_) | ((with_reducible show wpList _ _ _ (({ dst := some 47, op := _, type := _, pos := _, after := _, guard := _ } : Oper) :: _) _ _); refine wpList_load_blk rfl 103 (.tmp 8) rfl gu rfl (rt c' d') _ V5.out.2.1 Try.underlying103 rfl (L10.out _ _ HQ.out.2.2.2.2.1.2.2.1 HQ.out.2.2.2.2.1.2.2.2) ?_) | (go_at_call 73; refine (HST _).mono ?_; rintro e x4 ⟨r1, r2, r3, r4, rfl, ⟨F1, F2, F3, F4⟩, l4⟩) | (refine wpList_store_blk rfl 103 103 (.tmp 7) (.tmp 49) rfl gl rfl _ (rt r1 r2) rfl (V5.out.1.later l4 V5.out.1.lt) (by rw [rt_length F1.len F2.len, rt_length HQ.out.2.2.2.2.1.1 HQ.out.2.2.2.2.1.2.1]) (L10.out _ _ F1.len F2.len) (rt_one _ _) ?_; intro x5 b5 s5 k5) | (refine wpList_store_blk rfl 103 103 (.tmp 8) (.tmp 50) rfl gu rfl _ (rt r3 r4) rfl ((V5.out.2.1.later l4 V5.out.2.1.lt).kept k5 (by have := HQ.out.2.2.2.2.2.2.2.1; omega)) (by rw [rt_length F3.len F4.len, rt_length HQ.out.2.2.2.2.1.2.2.1 HQ.out.2.2.2.2.1.2.2.2]) (L10.out _ _ F3.len F4.len) (rt_one _ _) ?_; intro x6 b6 s6 k6))
          go_roundw
          case rel => exact ⟨t, B, n.testBit t, r1, r2, r3, r4, by omega, by go_num, rfl, ⟨HQ.out.2.2.2.2.2.1, HQ.out.2.2.2.2.2.2.1, fun _ => rfl, fun h => by omega⟩, ⟨F1, F2, F3, F4⟩, b5.kept k6 (by have := HQ.out.2.2.2.2.2.2.2.1; omega), b6, ((V5.out.2.2.2.trans (Kept.new _ l4)).trans (k5.mono (fun k h => .inl h))).trans (k6.mono (fun k h => .inr h))⟩
          case measure => simp [intOf]
        · have hm0 : m = 0 := by omega
          subst hm0
          have hq0 : q = false := by
            rw [hS.2.2.1 (by omega), Nat.testBit_zero]
            have := HN.out.2.2.1.by8
            exact decide_eq_false (by omega)
          subst hq0
          have i1 : ¬ (0 ≤ (((0 : Nat) : Int) - 1)) := by omega
          have HK := key_any a b _ _ hF.a hF.b
          have hmul : (swI false (ladI u n (255 - 0))).1 * inv (swI false (ladI u n (255 - 0))).2.1 % PR = mulI n u := rfl
          rw [hmul] at HK
          have HQ : Hid (Blk wr gl 103 (rt a b) ∧ Kept (fun k => k = gl ∨ k = gu) wz wr ∧ a.length = 5 ∧ b.length = 5) := ⟨hbl, hkp, hF.a.len, hF.b.len⟩
          clear hbl hbu hkp hF hS hmul hm hlt
          go_wp2_with (first | ((with_reducible show wpList _ _ _ (({ dst := some 51, op := _, type := _, pos := _, after := _, guard := _ } : Oper) :: _) _ _); refine wpList_load_blk rfl 103 (.tmp 7) rfl gl rfl (rt a b) _ HQ.out.1 Try.underlying103 rfl (L10.out _ _ HQ.out.2.2.1 HQ.out.2.2.2) ?_) | (go_at_call 74; refine (HK _).mono ?_; rintro e x1 ⟨rfl, l1⟩; have V6 : Hid (Below w.heap.size w x1 ∧ Blk x1 (w.heap.size + 1 + 1) 58 (u8s (List.replicate 32 0))) := (by obtain ⟨a1, a2, a3, a4, a5, a6, a7, a8, a9, a10⟩ := V3.out; have h1 := a2.kept HQ.out.2.1 (by omega); exact ⟨below_chain (below_kept a1 HQ.out.2.1 a1.size (fun j hj => by omega)) l1 (by have := HQ.out.2.1.size; have := a1.size; omega), h1.later l1 h1.lt⟩); clear l1) | (refine wpList_store_blk rfl 58 58 (.tmp 4) (.tmp 52) rfl _ rfl _ (u8s (leB 32 (mulI n u))) rfl V6.out.2 (by rw [HB.out]; rfl) (by rw [HB.out]; exact sizeKey) (u8s_one _) ?_; intro y7 b7 s7 k7))
          exact ret_blk rfl (w.heap.size + 1 + 1) (u8s (leB 32 (mulI n u))) _ rfl b7 Try.underlying58 rfl (by rw [HB.out]; exact sizeKey) rfl ⟨rfl, below_kept V6.out.1 k7 V6.out.1.size (fun j hj => by omega)⟩
end Go.Proofs.Ytnifolefhelmcaa

namespace Go.Proofs.Ytnifolefhelmcaa
open Go.RowKit
set_option linter.unusedVariables false
set_option linter.unusedSimpArgs false

/-- The public key 9. -/
def nineL : List Int := 9 :: List.replicate 31 0
theorem build_nine (w : World) : (Instr.build 58 #[(0, .int .u8 9)]).run Try.prog w = .ok (.agg (u8s nineL).toArray) w := by kernel_rfl
theorem nine_len : nineL.length = 32 := rfl
theorem nine_bytes : Bytes nineL := fun z hz => by
  simp only [nineL, List.mem_cons, List.mem_replicate] at hz
  omega
theorem nine_pub : pubN nineL = 9 := by decide +kernel
set_option maxRecDepth 20000 in
set_option maxHeartbeats 1000000 in
theorem base_any (ks : List Int) (hk : ks.length = 32) (bk : Bytes ks) (w : World) :
    Calls Try.prog 39 #[.agg (u8s ks).toArray] w fun e w' => e = .returned (.agg (u8s (prodL ks nineL)).toArray) ∧ Below w.heap.size w w' := by
  have HM := lmul_any ks nineL hk bk nine_len nine_bytes
  have HL : Hid ((u8s (prodL ks nineL)).length = 32 ∧ (Try.prog.info? 58).map (·.size) = some (u8s ks).length) := ⟨by rw [u8s_length, prodL_length], by rw [u8s_length, hk]; exact sizeKey⟩
  obtain ⟨rs, hr⟩ : ∃ z, prodL ks nineL = z := ⟨_, rfl⟩
  rw [hr] at HM HL ⊢
  clear hk bk hr
  go_enter Try.func39, Try.ntmps39
  go_wp2_with (first | (refine wpList_box_new rfl 58 (.tmp 0) rfl (u8s ks) rfl ?_; intro w1 b1 s1 l1) | (refine wpList_alloc_new rfl 58 rfl 32 _ zeroKey ?_; intro w2 b2 s2 l2) | (refine wpList_load_blk rfl 58 (.tmp 1) rfl w.heap.size rfl (u8s ks) _ (b1.later l2 (by omega)) Try.underlying58 rfl HL.out.2 ?_) | (refine wpList_build rfl 58 _ rfl #[(0, .int .u8 9)] (by simp [Act.eval]) _ (build_nine _) ?_) | (go_at_call 32; refine (HM _).mono ?_; rintro e w3 ⟨rfl, l3⟩) | (refine wpList_store_blk rfl 58 58 _ _ rfl (w.heap.size + 1) rfl _ (u8s rs) rfl (by rw [s1] at b2; exact b2.later l3 (by omega)) (by rw [HL.out.1]; rfl) (by rw [HL.out.1]; exact sizeKey) (u8s_one _) ?_; intro y7 b7 s7 k7))
  exact ret_blk rfl (w.heap.size + 1) (u8s rs) _ rfl b7 Try.underlying58 rfl (by rw [HL.out.1]; exact sizeKey) rfl ⟨rfl, below_kept (below_chain (below_chain l1 l2 (by omega)) l3 (by omega)) k7 (by have := l3.size; omega) (fun j hj => by omega)⟩
/-- The mask that says that a product is not 0. -/
def validN (ks us : List Int) : Int := mk (!(prodN ks us == 0))
set_option maxRecDepth 20000 in
set_option maxHeartbeats 2000000 in
theorem agree_any (ks us : List Int) (hk : ks.length = 32) (bk : Bytes ks) (hu : us.length = 32) (bu : Bytes us) (w : World) :
    Calls Try.prog 36 #[.agg (u8s ks).toArray, .agg (u8s us).toArray] w fun e w' => e = .returned (.tuple #[.agg (u8s (prodL ks us)).toArray, .int .u64 (validN ks us)]) ∧ Below w.heap.size w w' := by
  have HM := lmul_any ks us hk bk hu bu
  have HO := fof_any (prodL ks us) (prodL_length _ _) (prodL_bytes _ _)
  have hp : le (prodL ks us) % 57896044618658097711785492504343953926634992332820282019728792003956564819968 % PR = prodN ks us := pub_prod ks us
  rw [hp] at HO
  have HL : Hid ((u8s (prodL ks us)).length = 32 ∧ (Try.prog.info? 58).map (·.size) = some (u8s ks).length ∧ (Try.prog.info? 58).map (·.size) = some (u8s us).length) := ⟨by rw [u8s_length, prodL_length], by rw [u8s_length, hk]; exact sizeKey, by rw [u8s_length, hu]; exact sizeKey⟩
  have HZ := fun l hl => fzero_any l (prodN ks us) hl
  have hN := not_mk (prodN ks us == 0)
  unfold validN
  obtain ⟨rs, hr⟩ : ∃ z, prodL ks us = z := ⟨_, rfl⟩
  rw [hr] at HM HL HO ⊢
  obtain ⟨M, hM⟩ : ∃ z, mk (prodN ks us == 0) = z := ⟨_, rfl⟩
  obtain ⟨V, hV⟩ : ∃ z, mk (!(prodN ks us == 0)) = z := ⟨_, rfl⟩
  rw [hV] at hN ⊢
  rw [hM] at HZ hN
  obtain ⟨x, hx⟩ : ∃ z, prodN ks us = z := ⟨_, rfl⟩
  rw [hx] at HO HZ
  clear hk bk hr hp hM hV hu bu hx
  go_enter Try.func36, Try.ntmps36
  go_wp2_with (first | (refine wpList_box_new rfl 58 (.tmp 0) rfl (u8s ks) rfl ?_; intro w1 b1 s1 l1) | (refine wpList_box_new rfl 58 (.tmp 1) rfl (u8s us) rfl ?_; intro w2 b2 s2 l2) | ((with_reducible show wpList _ _ _ (({ dst := some 4, op := _, type := _, pos := _, after := _, guard := _ } : Oper) :: _) _ _); refine wpList_alloc_new rfl 58 rfl 32 _ zeroKey ?_; intro w3 b3 s3 l3; rw [s1] at b2; rw [s2, s1] at b3) | ((with_reducible show wpList _ _ _ (({ dst := some 7, op := _, type := _, pos := _, after := _, guard := _ } : Oper) :: _) _ _); refine wpList_load_blk rfl 58 (.tmp 2) rfl w.heap.size rfl (u8s ks) _ ((b1.later l2 (by omega)).later l3 (by omega)) Try.underlying58 rfl HL.out.2.1 ?_) | ((with_reducible show wpList _ _ _ (({ dst := some 8, op := _, type := _, pos := _, after := _, guard := _ } : Oper) :: _) _ _); refine wpList_load_blk rfl 58 (.tmp 3) rfl (w.heap.size + 1) rfl (u8s us) _ (b2.later l3 (by omega)) Try.underlying58 rfl HL.out.2.2 ?_) | (go_at_call 32; refine (HM _).mono ?_; rintro e w4 ⟨rfl, l4⟩) | ((with_reducible show wpList _ _ _ (({ dst := some 6, op := _, type := _, pos := _, after := _, guard := _ } : Oper) :: _) _ _); refine wpList_alloc_new rfl 58 rfl 32 _ zeroKey ?_; intro w5 b5 s5 l5) | (refine wpList_store_blk rfl 58 58 (.tmp 6) _ rfl _ rfl _ (u8s rs) rfl b5 (by rw [HL.out.1]; rfl) (by rw [HL.out.1]; exact sizeKey) (u8s_one _) ?_; intro w6 b6 s6 k6))
  obtain ⟨gs, hgs⟩ : ∃ q, w4.heap.size = q := ⟨_, rfl⟩
  have hsz : w3.heap.size = w.heap.size + 1 + 1 + 1 := by omega
  have W : Hid (Below w.heap.size w w6 ∧ Blk w6 gs 58 (u8s rs) ∧ Blk w6 (w.heap.size + 1 + 1) 58 (u8s (List.replicate 32 0)) ∧ w.heap.size + 1 + 1 < gs) := by
    have q1 := l4.size
    have q2 := l5.size
    rw [hgs] at b6 k6
    exact ⟨below_kept (below_chain (below_chain (below_chain (below_chain l1 l2 (by omega)) l3 (by omega)) l4 (by omega)) l5 (by omega)) k6 (by omega) (fun j hj => by omega), b6, ((b3.later l4 (by omega)).later l5 (by omega)).kept k6 (by omega), by omega⟩
  rw [hgs]
  clear b1 s1 l1 b2 s2 l2 b3 s3 l3 l4 b5 s5 l5 b6 s6 k6 hgs hsz
  simp only [Act.put, List.setIfInBounds_toArray, List.set_cons_zero, List.set_cons_succ]
  refine wp_region_noPanic (wp_region_held_drew (S := fun W => Blk W gs 58 (u8s rs)) (by kernel_rfl) (W.out.2.1.drew) (fun hH => ?_))
  refine hLoad 0 (some 10) (u8s rs) rfl rfl (by kernel_rfl) (by kernel_rfl) (by kernel_rfl) (fun _ _ _ h => h) (by rfl) 58 (.tmp 6) rfl gs 0 rfl _ (fun _ h => h.whole) Try.underlying58 rfl (by rw [HL.out.1]; exact sizeKey) hH ?_
  simp only [Act.put, List.setIfInBounds_toArray, List.set_cons_zero, List.set_cons_succ]
  refine hLoad 1 (some 11) (u8s rs) rfl rfl (by kernel_rfl) (by kernel_rfl) (by kernel_rfl) (fun _ _ _ h => h) (by rfl) 58 (.tmp 6) rfl gs 0 rfl _ (fun _ h => h.whole) Try.underlying58 rfl (by rw [HL.out.1]; exact sizeKey) hH ?_
  simp only [Act.put, List.setIfInBounds_toArray, List.set_cons_zero, List.set_cons_succ]
  refine wpAnyH_ready (rs := [2]) (by kernel_rfl) (by simp) (AllReadyH.cons rfl (fun K hK => ?_) AllReadyH.nil)
  go_simp
  go_wp2_with (go_at_call 13; refine (HO _).mono ?_; rintro e x1 ⟨lr, rfl, F1, l1⟩; have L1 : Hid (Below w6.drew.heap.size w6.drew x1) := l1; clear l1)
  refine hK.out _ _ (W.out.2.1.drew.later L1.out W.out.2.1.lt) (fun hH => ?_)
  clear hK K
  have HZ1 := HZ lr F1
  refine wpAnyH_ready (rs := [3]) (by kernel_rfl) (by simp) (AllReadyH.cons rfl (fun K hK => ?_) AllReadyH.nil)
  go_simp
  go_wp2_with (go_at_call 19; refine (HZ1 _).mono ?_; rintro e x2 ⟨rfl, l2⟩; have L2 : Hid (Below w6.drew.heap.size w6.drew x2) := below_chain L1.out l2 L1.out.size; clear l2)
  refine hK.out _ _ (W.out.2.1.drew.later L2.out W.out.2.1.lt) (fun hH => ?_)
  clear hK K
  refine hTake 4 (some 14) (.int .u64 V) rfl rfl (by kernel_rfl) (by kernel_rfl) (by kernel_rfl) (fun _ _ _ h => h) (by rfl) (fun W' hS' => by go_simp; exact hN) hH ?_
  simp only [Act.put, List.setIfInBounds_toArray, List.set_cons_zero, List.set_cons_succ]
  refine wpAnyH_ready (rs := [5]) (by kernel_rfl) (by simp) (AllReadyH.cons rfl (fun K hK => ?_) AllReadyH.nil)
  rw [if_pos (by rfl)]
  have Y0 : Hid (Blk x2 (w.heap.size + 1 + 1) 58 (u8s (List.replicate 32 0)) ∧ Below w.heap.size w x2) := ⟨W.out.2.2.1.drew.later L2.out W.out.2.2.1.lt, below_chain (below_dn W.out.1 1) L2.out W.out.1.size⟩
  refine last_store 58 (.tmp 4) (.tmp 10) rfl rfl (w.heap.size + 1 + 1) rfl 58 _ (u8s rs) rfl Y0.out.1 (by rw [HL.out.1]; rfl) (by rw [HL.out.1]; exact sizeKey) (u8s_one _) ?_
  intro y0 c0 t0 k0
  refine hK.out _ _ (hH.kept k0 (by have := W.out.2.2.2; omega)) (fun hH => ?_)
  clear hK K
  refine hTake 6 (some 5) (.int .u64 V) rfl rfl (by kernel_rfl) (by kernel_rfl) (by kernel_rfl) (fun _ _ _ h => h) (by rfl) (fun W' hS' => by rfl) hH ?_
  simp only [Act.put, List.setIfInBounds_toArray, List.set_cons_zero, List.set_cons_succ]
  refine wpAnyH_done (by kernel_rfl) (NoPanic.normal ?_) _
  clear hH
  go_wp2_with fail
  exact ret_blkt rfl (w.heap.size + 1 + 1) (u8s rs) _ _ rfl rfl c0 Try.underlying58 rfl (by rw [HL.out.1]; exact sizeKey) rfl ⟨rfl, below_kept Y0.out.2 k0 Y0.out.2.size (fun j hj => by omega)⟩
theorem build_255 (w : World) : (Instr.build 58 #[(0, .int .u8 255)]).run Try.prog w = .ok (.agg (u8s (255 :: List.replicate 31 0)).toArray) w := by kernel_rfl
theorem build_w2 (w : World) : (Instr.build 58 #[(0, .int .u8 248), (31, .int .u8 64)]).run Try.prog w = .ok (.agg (u8s (248 :: (List.replicate 30 0 ++ [64]))).toArray) w := by kernel_rfl
set_option maxRecDepth 20000 in
set_option maxHeartbeats 1000000 in
theorem works_any (w : World) : Calls Try.prog 34 #[] w fun e w' => e = .returned (.bool true) ∧ Below w.heap.size w w' := by
  have HC := clamp_any (255 :: List.replicate 31 0) rfl (fun z hz => by simp only [List.mem_cons, List.mem_replicate] at hz; omega)
  rw [show clampL (255 :: List.replicate 31 0) = 248 :: (List.replicate 30 0 ++ [64]) by decide] at HC
  have hq : ∀ wx, (Op.equalIn 10000 58 (.agg (u8s (248 :: (List.replicate 30 0 ++ [64]))).toArray) (.agg (u8s (248 :: (List.replicate 30 0 ++ [64]))).toArray)).run Try.prog wx = .ok true wx := equal32A 58 32 Try.underlying58 9998 _ rfl
  have h1 := build_255
  have h2 := build_w2
  obtain ⟨A, hA⟩ : ∃ z, (255 :: List.replicate 31 0 : List Int) = z := ⟨_, rfl⟩
  obtain ⟨B, hB⟩ : ∃ z, (248 :: (List.replicate 30 0 ++ [64]) : List Int) = z := ⟨_, rfl⟩
  rw [hA] at HC h1
  rw [hB] at HC hq h2
  clear hA hB
  go_enter Try.func34, Try.ntmps34
  go_wp2_with (first | ((with_reducible show wpList _ _ _ (({ dst := some 1, op := _, type := _, pos := _, after := _, guard := _ } : Oper) :: _) _ _); refine wpList_build rfl 58 _ rfl #[(0, .int .u8 255)] (by simp [Act.eval]) _ (h1 _) ?_) | ((with_reducible show wpList _ _ _ (({ dst := some 3, op := _, type := _, pos := _, after := _, guard := _ } : Oper) :: _) _ _); refine wpList_build rfl 58 _ rfl #[(0, .int .u8 248), (31, .int .u8 64)] (by simp [Act.eval]) _ (h2 _) ?_) | (go_at_call 37; refine (HC _).mono ?_; rintro e w1 ⟨rfl, l1⟩))
  go_ret
  exact ⟨rfl, l1⟩
end Go.Proofs.Ytnifolefhelmcaa


namespace Go.Proofs.Ytnifolefhelmcaa
open Go.RowKit
set_option linter.unusedVariables false
set_option linter.unusedSimpArgs false

theorem equalK_no (d : Nat) (zs ys : List Int) (hl : zs.length = 32) (hm : ys.length = 32) (hne : zs ≠ ys) (w : World) : (Op.equalIn (d + 2) 58 (.agg (u8s zs).toArray) (.agg (u8s ys).toArray)).run Try.prog w = .ok false w := by
  have hsz : ∀ w, (sizeOf 5).run Try.prog w = .ok 1 w := fun w => by
    have h := infoB8
    cases hq : Try.prog.info? 5 with
    | none => simp [hq] at h
    | some i => simp [hq] at h; simp [sizeOf, typeInfo, hq, h.2]
  have ht := Try.underlying58
  have he := Try.underlying5
  rw [Op.equalIn]
  simp only [Sem.run_bind, run_underlying ht, Result.andThen_ok, hsz, Std.Legacy.Range.forIn_eq_forIn_range', Std.Legacy.Range.size, Nat.sub_zero, Nat.add_sub_cancel, Nat.div_one]
  have hlr : ∀ i ∈ List.range' 0 32 1, i < 32 := fun i hi => by simpa using (List.mem_range'_1.1 hi).2
  have hex : ∃ i ∈ List.range' 0 32 1, zs.getD i 0 ≠ ys.getD i 0 := by
    apply Classical.byContradiction
    intro hno
    refine hne (List.ext_getElem (by rw [hl, hm]) fun i h1 h2 => ?_)
    have := Classical.not_not.1 fun h => hno ⟨i, List.mem_range'_1.2 ⟨by omega, by omega⟩, h⟩
    simpa [List.getD, h1, h2] using this
  generalize List.range' 0 32 1 = l at hlr hex ⊢
  induction l with
  | nil => obtain ⟨i, hi, _⟩ := hex; cases hi
  | cons i l ih =>
    have hi : i < 32 := hlr i (by simp)
    have px : (Go.part 5 (u8s zs).toArray (i * 1)).run Try.prog w = .ok (.int .u8 (zs.getD i 0)) w := by
      simp [Go.part, isAgg, run_underlying he, u8s, List.getD, List.getElem?_eq_getElem (show i < zs.length by omega)]
    have py : (Go.part 5 (u8s ys).toArray (i * 1)).run Try.prog w = .ok (.int .u8 (ys.getD i 0)) w := by
      simp [Go.part, isAgg, run_underlying he, u8s, List.getD, List.getElem?_eq_getElem (show i < ys.length by omega)]
    by_cases hxy : zs.getD i 0 = ys.getD i 0
    · have pe : (Op.equalIn (d + 1) 5 (.int .u8 (zs.getD i 0)) (.int .u8 (ys.getD i 0))).run Try.prog w = .ok true w := by
        rw [run_equalIn_int w d 5 .u8 .u8 _ _ he, hxy]; simp
      simp only [List.forIn_cons, Sem.run_bind, px, py, pe, Result.andThen_ok]
      simp only [Bool.not_true, Bool.false_eq_true, if_false, Sem.run_pure, Result.andThen_ok]
      refine ih (fun j hj => hlr j (by simp [hj])) ?_
      obtain ⟨j, hj, hd⟩ := hex
      rcases List.mem_cons.1 hj with rfl | hj
      · exact absurd hxy hd
      · exact ⟨j, hj, hd⟩
    · have pe : (Op.equalIn (d + 1) 5 (.int .u8 (zs.getD i 0)) (.int .u8 (ys.getD i 0))).run Try.prog w = .ok false w := by
        rw [run_equalIn_int w d 5 .u8 .u8 _ _ he, show (zs.getD i 0 == ys.getD i 0) = false by rw [beq_eq_false_iff_ne]; exact hxy]
      simp only [List.forIn_cons, Sem.run_bind, px, py, pe, Result.andThen_ok]
      simp
theorem equalK_dec (d : Nat) (zs ys : List Int) (hl : zs.length = 32) (hm : ys.length = 32) (w : World) : (Op.equalIn (d + 2) 58 (.agg (u8s zs).toArray) (.agg (u8s ys).toArray)).run Try.prog w = .ok (decide (zs = ys)) w := by
  by_cases h : zs = ys
  · subst h
    rw [equal32A 58 32 Try.underlying58 d zs hl w]; simp
  · rw [equalK_no d zs ys hl hm h w]; simp [h]
/-- No key. -/
def zK32 : List Int := List.replicate 32 0
theorem build_zero (w : World) : (Instr.build 58 #[]).run Try.prog w = .ok (.agg (u8s zK32).toArray) w := by kernel_rfl
theorem zK_length : zK32.length = 32 := rfl
theorem zK_bytes : Bytes zK32 := fun z hz => by have := (List.mem_replicate.1 hz).2; omega
theorem wpList_build_g {ops : Array Oper} {rest : List Oper} {o : Oper} {a : Act} {Q : Exit → Act → World → Prop} {w : World} (hw : Region.wanted o (yielded ops a.tmps) = true) (t : TypeId) (parts : Array (Nat × Operand)) (ho : o.op = .build t parts) (ps : Array (Nat × Value))
    (hp : (parts.map fun (i, x) => (i, a.eval x)) = ps) (v : Value) (hrun : (Instr.build t ps).run Try.prog w = .ok v w) (h : wpList Try.prog ops Q rest (a.put o.dst v) w) : wpList Try.prog ops Q (o :: rest) a w :=
  wpList_step fun K hK => by
    simp only [hw, if_true]
    unfold Oper.wp execOp
    simp only [ho, hp, Sem.run_bind, hrun, Sem.run_pure, Result.andThen_ok]
    exact hK _ _ h
/-- Products commute. -/
theorem prod_meet (ps bs us : List Int) (ha : ps.length = 32) (hab : Bytes ps) (hb : bs.length = 32) (hbb : Bytes bs) : prodL ps (prodL bs us) = prodL bs (prodL ps us) := by
  unfold prodL prodN
  rw [pub_leB _ (mulI_bd _ _), pub_leB _ (mulI_bd _ _), meetI _ _ _ (cl_of ps ha hab) (cl_of bs hb hbb)]
/-- A secret is not weak. -/
theorem prod_strong (ps bs : List Int) (ha : ps.length = 32) (hab : Bytes ps) (hb : bs.length = 32) (hbb : Bytes bs) : prodN ps (prodL bs nineL) ≠ 0 := by
  unfold prodN
  rw [pub_prod]
  unfold prodN
  rw [nine_pub]
  exact secretI _ _ (cl_of ps ha hab) (cl_of bs hb hbb)
theorem prod_base (ps : List Int) (ha : ps.length = 32) (hab : Bytes ps) : prodN ps nineL ≠ 0 := by
  unfold prodN
  rw [nine_pub]
  exact baseI _ (cl_of ps ha hab)
theorem valid_yes {ks us : List Int} (h : prodN ks us ≠ 0) : validN ks us = 18446744073709551615 := by
  unfold validN
  rw [show (prodN ks us == 0) = false by simpa using h]; rfl
theorem valid_no {ks us : List Int} (h : prodN ks us = 0) : validN ks us = 0 := by
  unfold validN
  rw [h]; rfl
theorem prod_ne {ks us : List Int} (h : prodN ks us ≠ 0) : prodL ks us ≠ zK32 := fun e => h ((prodL_zero ks us).1 e)
end Go.Proofs.Ytnifolefhelmcaa
