/- Joined by program: what the theorem reaches. -/
import Derived.Test.YthlbjkfjkggdoaaGreatDoorJA
import Derived.Test.YthlbjkfjkggdoaaGreatDoorJC
import Derived.Test.YthlbjkfjkggdoaaGreatDoorJD
import Derived.Test.YthlbjkfjkggdoaaGreatDoorJE
import Derived.Test.YthlbjkfjkggdoaaGreatDoorJF
namespace Go.Proofs.YthlbjkfjkggdoaaGreatDoor
open Go.RowKit
set_option linter.unusedVariables false
set_option linter.unusedSimpArgs false
set_option maxRecDepth 20000
set_option maxHeartbeats 8000000
def rt (a b : List Int) : List Value := u64s a ++ u64s b
theorem rt_length {a b : List Int} (ha : a.length = 5) (hb : b.length = 5) : (rt a b).length = 10 := by simp [rt, u64s_length, ha, hb]
theorem rt_one (a b : List Int) : ∀ v ∈ rt a b, v.oneCell' = true := fun v hv => by
 rcases List.mem_append.1 hv with h | h
 ·exact u64s_one _ v h
 ·exact u64s_one _ v h
theorem sizeRatio : (Tryz.prog.info? 120).map (·.size) = some 10 := by kernel_rfl
theorem zeroRatio : (Tryz.prog.info? 120).map (fun i => (i.zero, i.size)) = some (some (.agg (rt [0, 0, 0, 0, 0] [0, 0, 0, 0, 0]).toArray), 10) := by kernel_rfl
theorem Blk.fst {w : World} {g : Nat} {t : TypeId} {a b : List Int} (h : Blk w g t (rt a b)) : w.rangeAt g 0 (u64s a) := Blk.range (xs := []) (ys := u64s a) (zs := u64s b) h
theorem Blk.snd {w : World} {g : Nat} {t : TypeId} {a b : List Int} (h : Blk w g t (rt a b)) (ha : a.length = 5) : w.rangeAt g 5 (u64s b) := by
 have := Blk.range (xs := u64s a) (ys := u64s b) (zs := []) (by rw [List.append_nil]; exact h)
 rwa [u64s_length, ha] at this
theorem wpList_store_fst {ops : Array Oper} {rest : List Oper} {o : Oper} {a : Act} {Q : Exit → Act → World → Prop} {w : World} (hgd : o.guard = none) (x y : Operand) (ho : o.op = .store 116 x y) (g : Nat) (hx : a.eval x = .pointer (some ⟨g, 0, none⟩))
  (p q r : List Int) (hy : a.eval y = .agg (u64s r).toArray) (hb : Blk w g 120 (rt p q)) (hp : p.length = 5) (hr : r.length = 5)
  (h : ∀ w', Blk w' g 120 (rt r q) → w'.heap.size = w.heap.size → Kept (fun k => k = g) w w' → wpList Tryz.prog ops Q rest (a.put o.dst undef) w') : wpList Tryz.prog ops Q (o :: rest) a w := by
 refine wpList_store_mid hgd 116 x y ho g 0 (u64s r).toArray hx hy (hb.there (by simp [rt, u64s_length, hp, hr])) (by simpa [u64s_length, hr] using sizeElem) (all_oneCell_toArray (u64s_one _)) (h _ ?_ (setCells_size ..) ((Kept.refl _ _).setCells (S := fun k => k = g) rfl _ _))
 exact Blk.setCells (xs := []) (zs := u64s q) (u64s r) (u64s p) (by rw [u64s_length, u64s_length, hp, hr]) hb
theorem wpList_store_snd {ops : Array Oper} {rest : List Oper} {o : Oper} {a : Act} {Q : Exit → Act → World → Prop} {w : World} (hgd : o.guard = none) (x y : Operand) (ho : o.op = .store 116 x y) (g : Nat) (hx : a.eval x = .pointer (some ⟨g, 5, none⟩))
  (p q r : List Int) (hy : a.eval y = .agg (u64s r).toArray) (hb : Blk w g 120 (rt p q)) (hp : p.length = 5) (hq : q.length = 5) (hr : r.length = 5)
  (h : ∀ w', Blk w' g 120 (rt p r) → w'.heap.size = w.heap.size → Kept (fun k => k = g) w w' → wpList Tryz.prog ops Q rest (a.put o.dst undef) w') : wpList Tryz.prog ops Q (o :: rest) a w := by
 refine wpList_store_mid hgd 116 x y ho g 5 (u64s r).toArray hx hy (hb.there (by simp [rt, u64s_length, hp, hq, hr])) (by simpa [u64s_length, hr] using sizeElem) (all_oneCell_toArray (u64s_one _)) (h _ ?_ (setCells_size ..) ((Kept.refl _ _).setCells (S := fun k => k = g) rfl _ _))
 have := Blk.setCells (xs := u64s p) (zs := []) (u64s r) (u64s q) (by rw [u64s_length, u64s_length, hq, hr]) (by rw [List.append_nil]; exact hb)
 rw [List.append_nil, u64s_length, hp] at this
 exact this
theorem lswap_any (n : Int) (hn : Word n) (px pz qx qz : List Int) (x2 z2 x3 z3 : Int) (h1 : Fe px x2) (h2 : Fe pz z2) (h3 : Fe qx x3) (h4 : Fe qz z3) (w : World) :
  Calls Tryz.prog 80 #[.int .u64 n, .agg (rt px pz).toArray, .agg (rt qx qz).toArray] w fun e w' => e = .returned (.tuple #[.agg (bif n % 2 == 1 then rt qx qz else rt px pz).toArray, .agg (bif n % 2 == 1 then rt px pz else rt qx qz).toArray]) ∧ Below w.heap.size w w' := by
 have HX := fswap_any n hn px qx x2 x3 h1 h3
 have HZ := fswap_any n hn pz qz z2 z3 h2 h4
 obtain ⟨c, hc⟩ : ∃ c, (n % 2 == 1) = c := ⟨_, rfl⟩
 rw [hc] at HX HZ ⊢
 have q1 : (bif c then rt qx qz else rt px pz) = rt (bif c then qx else px) (bif c then qz else pz) := by cases c <;> rfl
 have q2 : (bif c then rt px pz else rt qx qz) = rt (bif c then px else qx) (bif c then pz else qz) := by cases c <;> rfl
 rw [q1, q2]
 have l1 : (bif c then qx else px).length = 5 := by cases c; exact h1.len; exact h3.len
 have l2 : (bif c then qz else pz).length = 5 := by cases c; exact h2.len; exact h4.len
 have l3 : (bif c then px else qx).length = 5 := by cases c; exact h3.len; exact h1.len
 have l4 : (bif c then pz else qz).length = 5 := by cases c; exact h4.len; exact h2.len
 generalize (bif c then qx else px) = ax at *
 generalize (bif c then qz else pz) = az at *
 generalize (bif c then px else qx) = bx at *
 generalize (bif c then pz else qz) = bz at *
 have HL : Hid ((px.length = 5 ∧ pz.length = 5 ∧ qx.length = 5 ∧ qz.length = 5) ∧ (ax.length = 5 ∧ az.length = 5 ∧ bx.length = 5 ∧ bz.length = 5)) := ⟨⟨h1.len, h2.len, h3.len, h4.len⟩, l1, l2, l3, l4⟩
 have L5 : Hid (∀ l : List Int, l.length = 5 → (Tryz.prog.info? 116).map (·.size) = some (u64s l).length) := fun l h => by rw [u64s_length, h]; exact sizeElem
 have L10 : Hid (∀ a b : List Int, a.length = 5 → b.length = 5 → (Tryz.prog.info? 120).map (·.size) = some (rt a b).length) := fun a b ha hb => by rw [rt_length ha hb]; exact sizeRatio
 clear h1 h2 h3 h4 l1 l2 l3 l4 q1 q2 hc hn
 go_enter Tryz.func80, Tryz.ntmps80
 go_wp2_with (first | ((with_reducible show wpList _ _ _ ({ dst := some 11, op := _, type := _, pos := _, after := _, guard := _ } :: _) _ _); refine Hid.out ?_) | (refine wpList_box_new rfl 120 (.tmp 1) rfl (rt px pz) rfl ?_; intro w1 z1 s1 l1) | (refine wpList_box_new rfl 120 (.tmp 2) rfl (rt qx qz) rfl ?_; intro w2 z2 s2 l2) | ((with_reducible show wpList _ _ _ (({ dst := some 6, op := _, type := _, pos := _, after := _, guard := _ } : Oper) :: _) _ _); refine wpList_alloc_new rfl 120 rfl 10 _ zeroRatio ?_; intro w3 z3 s3 l3) | ((with_reducible show wpList _ _ _ (({ dst := some 7, op := _, type := _, pos := _, after := _, guard := _ } : Oper) :: _) _ _); refine wpList_alloc_new rfl 120 rfl 10 _ zeroRatio ?_; intro w4 z4 s4 l4))
 have e2 : w1.heap.size = w.heap.size + 1 := s1
 have e3 : w2.heap.size = w.heap.size + 1 + 1 := by omega
 have e4 : w3.heap.size = w.heap.size + 1 + 1 + 1 := by omega
 rw [e2] at z2
 rw [e3] at z3
 rw [e4] at z4
 have V : Hid (Below w.heap.size w w4 ∧ Blk w4 w.heap.size 120 (rt px pz) ∧ Blk w4 (w.heap.size + 1) 120 (rt qx qz) ∧ Blk w4 (w.heap.size + 1 + 1) 120 (rt [0, 0, 0, 0, 0] [0, 0, 0, 0, 0]) ∧ Blk w4 (w.heap.size + 1 + 1 + 1) 120 (rt [0, 0, 0, 0, 0] [0, 0, 0, 0, 0])) := ⟨below_chain (below_chain (below_chain l1 l2 (by omega)) l3 (by omega)) l4 (by omega), ((z1.later l2 (by omega)).later l3 (by omega)).later l4 (by omega), (z2.later l3 (by omega)).later l4 (by omega), z3.later l4 (by omega), z4⟩
 clear z1 s1 l1 z2 s2 l2 z3 s3 l3 z4 s4 l4 e2 e3 e4
 change wpList _ _ _ _ _ _
 go_wp2_with (first | ((with_reducible show wpList _ _ _ ({ dst := some 22, op := _, type := _, pos := _, after := _, guard := _ } :: _) _ _); refine Hid.out ?_) | ((with_reducible show wpList _ _ _ (({ dst := some 11, op := _, type := _, pos := _, after := _, guard := _ } : Oper) :: _) _ _); refine wpList_load_mid rfl 116 (.tmp 10) rfl w.heap.size 0 rfl (u64s px) _ V.out.2.1.fst Tryz.underlying116 rfl (L5.out _ HL.out.1.1) ?_) | ((with_reducible show wpList _ _ _ (({ dst := some 13, op := _, type := _, pos := _, after := _, guard := _ } : Oper) :: _) _ _); refine wpList_load_mid rfl 116 (.tmp 12) rfl (w.heap.size + 1) 0 rfl (u64s qx) _ V.out.2.2.1.fst Tryz.underlying116 rfl (L5.out _ HL.out.1.2.2.1) ?_) | (go_at_call 124; refine (HX _).mono ?_; rintro e w5 ⟨rfl, l5⟩; have V5 : Hid (Below w.heap.size w w5 ∧ Blk w5 w.heap.size 120 (rt px pz) ∧ Blk w5 (w.heap.size + 1) 120 (rt qx qz) ∧ Blk w5 (w.heap.size + 1 + 1) 120 (rt [0, 0, 0, 0, 0] [0, 0, 0, 0, 0]) ∧ Blk w5 (w.heap.size + 1 + 1 + 1) 120 (rt [0, 0, 0, 0, 0] [0, 0, 0, 0, 0])) := ⟨below_chain V.out.1 l5 V.out.1.size, V.out.2.1.later l5 V.out.2.1.lt, V.out.2.2.1.later l5 V.out.2.2.1.lt, V.out.2.2.2.1.later l5 V.out.2.2.2.1.lt, V.out.2.2.2.2.later l5 V.out.2.2.2.2.lt⟩; clear l5) | (refine wpList_store_fst rfl (.tmp 17) (.tmp 15) rfl w.heap.size rfl px pz ax rfl V5.out.2.1 HL.out.1.1 HL.out.2.1 ?_; intro w6 b6 s6 k6) | (refine wpList_store_fst rfl (.tmp 18) (.tmp 16) rfl (w.heap.size + 1) rfl qx qz bx rfl (V5.out.2.2.1.kept k6 (by omega)) HL.out.1.2.2.1 HL.out.2.2.2.1 ?_; intro w7 b7 s7 k7))
 have V7 : Hid (Below w.heap.size w w7 ∧ Blk w7 w.heap.size 120 (rt ax pz) ∧ Blk w7 (w.heap.size + 1) 120 (rt bx qz) ∧ Blk w7 (w.heap.size + 1 + 1) 120 (rt [0, 0, 0, 0, 0] [0, 0, 0, 0, 0]) ∧ Blk w7 (w.heap.size + 1 + 1 + 1) 120 (rt [0, 0, 0, 0, 0] [0, 0, 0, 0, 0])) := ⟨below_kept (below_kept V5.out.1 k6 V5.out.1.size (fun j hj => by omega)) k7 (by rw [s6]; exact V5.out.1.size) (fun j hj => by omega), b6.kept k7 (by omega), b7, (V5.out.2.2.2.1.kept k6 (by omega)).kept k7 (by omega), (V5.out.2.2.2.2.kept k6 (by omega)).kept k7 (by omega)⟩
 clear b6 s6 k6 b7 s7 k7 V5 V
 change wpList _ _ _ _ _ _
 go_wp2_with (first | ((with_reducible show wpList _ _ _ (({ dst := some 22, op := _, type := _, pos := _, after := _, guard := _ } : Oper) :: _) _ _); refine wpList_load_mid rfl 116 (.tmp 21) rfl w.heap.size 5 rfl (u64s pz) _ (V7.out.2.1.snd HL.out.2.1) Tryz.underlying116 rfl (L5.out _ HL.out.1.2.1) ?_) | ((with_reducible show wpList _ _ _ (({ dst := some 24, op := _, type := _, pos := _, after := _, guard := _ } : Oper) :: _) _ _); refine wpList_load_mid rfl 116 (.tmp 23) rfl (w.heap.size + 1) 5 rfl (u64s qz) _ (V7.out.2.2.1.snd HL.out.2.2.2.1) Tryz.underlying116 rfl (L5.out _ HL.out.1.2.2.2) ?_) | (go_at_call 124; refine (HZ _).mono ?_; rintro e w8 ⟨rfl, l8⟩; have V8 : Hid (Below w.heap.size w w8 ∧ Blk w8 w.heap.size 120 (rt ax pz) ∧ Blk w8 (w.heap.size + 1) 120 (rt bx qz) ∧ Blk w8 (w.heap.size + 1 + 1) 120 (rt [0, 0, 0, 0, 0] [0, 0, 0, 0, 0]) ∧ Blk w8 (w.heap.size + 1 + 1 + 1) 120 (rt [0, 0, 0, 0, 0] [0, 0, 0, 0, 0])) := ⟨below_chain V7.out.1 l8 V7.out.1.size, V7.out.2.1.later l8 V7.out.2.1.lt, V7.out.2.2.1.later l8 V7.out.2.2.1.lt, V7.out.2.2.2.1.later l8 V7.out.2.2.2.1.lt, V7.out.2.2.2.2.later l8 V7.out.2.2.2.2.lt⟩; clear l8) | (refine wpList_store_snd rfl (.tmp 28) (.tmp 26) rfl w.heap.size rfl ax pz az rfl V8.out.2.1 HL.out.2.1 HL.out.1.2.1 HL.out.2.2.1 ?_; intro w9 b9 s9 k9) | (refine wpList_store_snd rfl (.tmp 29) (.tmp 27) rfl (w.heap.size + 1) rfl bx qz bz rfl (V8.out.2.2.1.kept k9 (by omega)) HL.out.2.2.2.1 HL.out.1.2.2.2 HL.out.2.2.2.2 ?_; intro wr br sr kr))
 have HQ : Hid (Below w.heap.size w wr ∧ Blk wr w.heap.size 120 (rt ax az) ∧ Blk wr (w.heap.size + 1) 120 (rt bx bz) ∧ Blk wr (w.heap.size + 1 + 1) 120 (rt [0, 0, 0, 0, 0] [0, 0, 0, 0, 0]) ∧ Blk wr (w.heap.size + 1 + 1 + 1) 120 (rt [0, 0, 0, 0, 0] [0, 0, 0, 0, 0])) := ⟨below_kept (below_kept V8.out.1 k9 V8.out.1.size (fun j hj => by omega)) kr (by rw [s9]; exact V8.out.1.size) (fun j hj => by omega), b9.kept kr (by omega), br, (V8.out.2.2.2.1.kept k9 (by omega)).kept kr (by omega), (V8.out.2.2.2.2.kept k9 (by omega)).kept kr (by omega)⟩
 clear b9 s9 k9 br sr kr V8 V7
 refine wp_region_noPanic (wp_region_held_drew (S := fun W => Blk W w.heap.size 120 (rt ax az) ∧ Blk W (w.heap.size + 1) 120 (rt bx bz)) (by kernel_rfl) ⟨(HQ.out.2.1).drew, (HQ.out.2.2.1).drew⟩ (fun hH => ?_))
 refine hLoad 0 (some 30) (rt ax az) rfl rfl (by kernel_rfl) (by kernel_rfl) (by kernel_rfl) (fun _ _ _ h => h) (by rfl) 120 (.tmp 4) rfl w.heap.size 0 rfl _ (fun _ h => (h.1).whole) Tryz.underlying120 rfl (L10.out _ _ HL.out.2.1 HL.out.2.2.1) hH ?_
 simp only [Act.put, sA, sB, sC]
 refine hLoad 1 (some 31) (rt bx bz) rfl rfl (by kernel_rfl) (by kernel_rfl) (by kernel_rfl) (fun _ _ _ h => h) (by rfl) 120 (.tmp 5) rfl (w.heap.size + 1) 0 rfl _ (fun _ h => (h.2).whole) Tryz.underlying120 rfl (L10.out _ _ HL.out.2.2.2.1 HL.out.2.2.2.2) hH ?_
 simp only [Act.put, sA, sB, sC]
 refine wpAnyH_ready (rs := [2]) (by kernel_rfl) (by simp) (AllReadyH.cons rfl (fun K hK => ?_) AllReadyH.nil)
 rw [if_pos (by rfl)]
 refine last_store 120 (.tmp 6) (.tmp 30) rfl rfl (w.heap.size + 1 + 1) rfl 120 _ (rt ax az) rfl (HQ.out.2.2.2.1).drew (by rw [rt_length HL.out.2.1 HL.out.2.2.1]; rfl) (L10.out _ _ HL.out.2.1 HL.out.2.2.1) (rt_one _ _) ?_
 intro y0 b0 s0 k0
 refine hK.out _ _ ⟨(hH.1).kept k0 (by omega), (hH.2).kept k0 (by omega)⟩ (fun hH => ?_)
 clear hK K
 refine wpAnyH_ready (rs := [3]) (by kernel_rfl) (by simp) (AllReadyH.cons rfl (fun K hK => ?_) AllReadyH.nil)
 rw [if_pos (by rfl)]
 refine last_store 120 (.tmp 7) (.tmp 31) rfl rfl (w.heap.size + 1 + 1 + 1) rfl 120 _ (rt bx bz) rfl ((HQ.out.2.2.2.2).drew.kept k0 (by omega)) (by rw [rt_length HL.out.2.2.2.1 HL.out.2.2.2.2]; rfl) (L10.out _ _ HL.out.2.2.2.1 HL.out.2.2.2.2) (rt_one _ _) ?_
 intro y1 b1 s1 k1
 refine hK.out _ _ ⟨(hH.1).kept k1 (by omega), (hH.2).kept k1 (by omega)⟩ (fun hH => ?_)
 clear hK K
 refine wpAnyH_done (by kernel_rfl) (NoPanic.normal ?_) _
 clear hH
 go_wp2_with fail
 have q2 := HQ.out.1.size
 exact ret_blk2 rfl (w.heap.size + 1 + 1) (w.heap.size + 1 + 1 + 1) (rt ax az) (rt bx bz) _ _ rfl rfl (b0.kept k1 (by omega)) b1 Tryz.underlying120 Tryz.underlying120 rfl rfl (L10.out _ _ HL.out.2.1 HL.out.2.2.1) (L10.out _ _ HL.out.2.2.2.1 HL.out.2.2.2.2) rfl ⟨rfl, below_kept (below_kept (below_dn HQ.out.1 1) k0 q2 (fun j hj => by omega)) k1 (by rw [s0]; exact q2) (fun j hj => by omega)⟩
theorem v5_times (a b c d e n : Int) : v5 (a * n) (b * n) (c * n) (d * n) (e * n) = v5 a b c d e * n := by
 unfold v5
 simp only [Int.add_mul, Int.mul_assoc]
theorem times_bd {x n : Int} (hx : Lim x) (hn : 0 ≤ n ∧ n < 4294967296) : 0 ≤ x * n ∧ x * n < 19342813113834066795298816 := by
 have := mb2 hx hn
 refine ⟨this.1, ?_⟩
 have h := this.2
 rw [show (2251799813701632 : Int) * 4294967296 = 9671406556987402141827072 by decide] at h
 omega
theorem times_any (n : Int) (hn : 0 ≤ n ∧ n < 4294967296) (l : List Int) (x : Int) (hl : Fe l x) (w : World) :
  Calls Tryz.prog 129 #[.agg (u64s l).toArray, .int .u32 n] w fun e w' => ∃ r, e = .returned (.agg (u64s r).toArray) ∧ Fe r (x * n % PR) ∧ Below w.heap.size w w' := by
 obtain ⟨a0, a1, a2, a3, a4, rfl, ha0, ha1, ha2, ha3, ha4, hx⟩ := hl.parts
 have b0 := times_bd ha0 hn
 have b1 := times_bd ha1 hn
 have b2 := times_bd ha2 hn
 have b3 := times_bd ha3 hn
 have b4 := times_bd ha4 hn
 have hw : Word n := ⟨hn.1, by omega⟩
 have wd : ∀ {z : Int}, Lim z → Word z := fun h => ⟨h.1, by have := h.2; omega⟩
 have HC : Hid ((∀ w, Calls Tryz.prog 168 #[.int .u64 a0, .int .u64 n] w fun e w' => e = .returned (.agg (u64s (pr (a0 * n))).toArray) ∧ Below w.heap.size w w') ∧ (∀ w, Calls Tryz.prog 168 #[.int .u64 a1, .int .u64 n] w fun e w' => e = .returned (.agg (u64s (pr (a1 * n))).toArray) ∧ Below w.heap.size w w') ∧ (∀ w, Calls Tryz.prog 168 #[.int .u64 a2, .int .u64 n] w fun e w' => e = .returned (.agg (u64s (pr (a2 * n))).toArray) ∧ Below w.heap.size w w') ∧ (∀ w, Calls Tryz.prog 168 #[.int .u64 a3, .int .u64 n] w fun e w' => e = .returned (.agg (u64s (pr (a3 * n))).toArray) ∧ Below w.heap.size w w') ∧ (∀ w, Calls Tryz.prog 168 #[.int .u64 a4, .int .u64 n] w fun e w' => e = .returned (.agg (u64s (pr (a4 * n))).toArray) ∧ Below w.heap.size w w')) :=
  ⟨fproduct_any a0 n (wd ha0) hw, fproduct_any a1 n (wd ha1) hw, fproduct_any a2 n (wd ha2) hw, fproduct_any a3 n (wd ha3) hw, fproduct_any a4 n (wd ha4) hw⟩
 have HF : Hid (∀ w, Blk w w.heap.size 116 (u64s [a0, a1, a2, a3, a4]) → True) := fun _ _ => trivial
 have HG : Hid (∀ g w, Blk w g 116 (u64s [a0, a1, a2, a3, a4]) → Calls Tryz.prog 170 #[.pointer (some ⟨g, 0, none⟩), .agg (u64s (pr (a0 * n))).toArray, .agg (u64s (pr (a1 * n))).toArray, .agg (u64s (pr (a2 * n))).toArray, .agg (u64s (pr (a3 * n))).toArray, .agg (u64s (pr (a4 * n))).toArray] w fun e w' => e = .returned (.tuple #[]) ∧ (∃ l, Blk w' g 116 (u64s l) ∧ Fe l (x * n % PR)) ∧ Kept (fun k => k = g) w w') := by
  intro g w hB
  have h := fold_any g a0 a1 a2 a3 a4 (a0 * n) (a1 * n) (a2 * n) (a3 * n) (a4 * n) w hB ⟨b0.1, by omega⟩ ⟨b1.1, by omega⟩ ⟨b2.1, by omega⟩ ⟨b3.1, by omega⟩ ⟨b4.1, by omega⟩
  rw [v5_times, ← pm_l, hx] at h
  exact h
 have e1 : IntKind.u64.wrap n = n := by rw [IntKind.wrap_u64]; omega
 clear hl ha0 ha1 ha2 ha3 ha4 hx b0 b1 b2 b3 b4 hw wd HF hn
 go_enter Tryz.func129, Tryz.ntmps129
 go_wp2_with (first | (refine wpList_box_new rfl 116 (.tmp 0) rfl (u64s [a0, a1, a2, a3, a4]) rfl ?_; intro x1 z1 s1 l1) | (refine wpList_alloc_new rfl 116 rfl 5 _ zeroElem ?_; intro x2 z2 s2 l2))
 have e2 : x1.heap.size = w.heap.size + 1 := s1
 rw [e2] at z2
 have WW : Hid (Below w.heap.size w x2 ∧ Blk x2 w.heap.size 116 (u64s [a0, a1, a2, a3, a4]) ∧ Blk x2 (w.heap.size + 1) 116 (u64s [0, 0, 0, 0, 0])) := ⟨below_chain l1 l2 (by omega), z1.later l2 (by omega), z2⟩
 clear z1 s1 l1 z2 s2 l2 e2
 refine region_invP 25 ((.val (.pointer (some ⟨w.heap.size, 0, none⟩))) :: (.val (.pointer (some ⟨w.heap.size, 0, none⟩))) :: (.val (.int .u64 a0)) :: (.val (.int .u64 n)) :: (.val (.agg (u64s (pr (a0 * n))).toArray)) :: (.val (.pointer (some ⟨w.heap.size, 0, none⟩))) :: (.val (.pointer (some ⟨w.heap.size, 1, none⟩))) :: (.val (.int .u64 a1)) :: (.val (.int .u64 n)) :: (.val (.agg (u64s (pr (a1 * n))).toArray)) :: (.val (.pointer (some ⟨w.heap.size, 0, none⟩))) :: (.val (.pointer (some ⟨w.heap.size, 2, none⟩))) :: (.val (.int .u64 a2)) :: (.val (.int .u64 n)) :: (.val (.agg (u64s (pr (a2 * n))).toArray)) :: (.val (.pointer (some ⟨w.heap.size, 0, none⟩))) :: (.val (.pointer (some ⟨w.heap.size, 3, none⟩))) :: (.val (.int .u64 a3)) :: (.val (.int .u64 n)) :: (.val (.agg (u64s (pr (a3 * n))).toArray)) :: (.val (.pointer (some ⟨w.heap.size, 0, none⟩))) :: (.val (.pointer (some ⟨w.heap.size, 4, none⟩))) :: (.val (.int .u64 a4)) :: (.val (.int .u64 n)) :: (.val (.agg (u64s (pr (a4 * n))).toArray)) :: []) (by kernel_rfl) (by kernel_rfl) (by kernel_rfl) [] ⟨.inl rfl, .inl rfl, .inl rfl, .inl rfl, .inl rfl, .inl rfl, .inl rfl, .inl rfl, .inl rfl, .inl rfl, .inl rfl, .inl rfl, .inl rfl, .inl rfl, .inl rfl, .inl rfl, .inl rfl, .inl rfl, .inl rfl, .inl rfl, .inl rfl, .inl rfl, .inl rfl, .inl rfl, .inl rfl, trivial⟩ (by kernel_rfl) ?_ ?_
 ·refine Steps'.cons ?_ (Steps'.cons ?_ (Steps'.cons ?_ (Steps'.cons ?_ (Steps'.cons ?_ (Steps'.cons ?_ (Steps'.cons ?_ (Steps'.cons ?_ (Steps'.cons ?_ (Steps'.cons ?_ (Steps'.cons ?_ (Steps'.cons ?_ (Steps'.cons ?_ (Steps'.cons ?_ (Steps'.cons ?_ (Steps'.cons ?_ (Steps'.cons ?_ (Steps'.cons ?_ (Steps'.cons ?_ (Steps'.cons ?_ (Steps'.cons ?_ (Steps'.cons ?_ (Steps'.cons ?_ (Steps'.cons ?_ (Steps'.cons ?_ (Steps'.one _ _ _ _ _ _ _)))))))))))))))))))))))))
  ·intro ax wx hb hs hd
   have h2 : ax.tmps.getD 2 undef = (.pointer (some ⟨w.heap.size, 0, none⟩)) := hs 2 (by kernel_rfl)
   exact Does.value _ (by clear hs hd; go_simp) rfl
  ·intro ax wx hb hs hd
   have h8 := vOf (hd 0 8 rfl (by kernel_rfl) (by decide))
   exact Does.value _ (by clear hs hd; go_simp) rfl
  ·intro ax wx hb hs hd
   have h9 := vOf (hd 1 9 rfl (by kernel_rfl) (by decide))
   have cx : wx.cell? ⟨w.heap.size, 0, none⟩ = some (.int .u64 a0) := (Blk.later WW.out.2.1 hb (Blk.lt WW.out.2.1)).cell 0
   exact Does.value _ (by clear hs hd; go_simp) rfl
  ·intro ax wx hb hs hd
   have h5 : ax.tmps.getD 5 undef = (.int .u64 n) := hs 5 (by kernel_rfl)
   exact Does.value _ (by clear hs hd; go_simp) rfl
  ·intro ax wx hb hs hd
   have h10 := vOf (hd 2 10 rfl (by kernel_rfl) (by decide))
   have h11 := vOf (hd 3 11 rfl (by kernel_rfl) (by decide))
   refine Does.call 168 #[(.int .u64 a0), (.int .u64 n)] (by clear hs hd; go_simp) ?_
   refine (HC.out.1 _).mono ?_
   rintro z w' ⟨rfl, l⟩
   exact ⟨_, rfl, rfl, l⟩
  ·intro ax wx hb hs hd
   have h2 : ax.tmps.getD 2 undef = (.pointer (some ⟨w.heap.size, 0, none⟩)) := hs 2 (by kernel_rfl)
   exact Does.value _ (by clear hs hd; go_simp) rfl
  ·intro ax wx hb hs hd
   have h13 := vOf (hd 5 13 rfl (by kernel_rfl) (by decide))
   exact Does.value _ (by clear hs hd; go_simp) rfl
  ·intro ax wx hb hs hd
   have h14 := vOf (hd 6 14 rfl (by kernel_rfl) (by decide))
   have cx : wx.cell? ⟨w.heap.size, 1, none⟩ = some (.int .u64 a1) := (Blk.later WW.out.2.1 hb (Blk.lt WW.out.2.1)).cell 1
   exact Does.value _ (by clear hs hd; go_simp) rfl
  ·intro ax wx hb hs hd
   have h5 : ax.tmps.getD 5 undef = (.int .u64 n) := hs 5 (by kernel_rfl)
   exact Does.value _ (by clear hs hd; go_simp) rfl
  ·intro ax wx hb hs hd
   have h15 := vOf (hd 7 15 rfl (by kernel_rfl) (by decide))
   have h16 := vOf (hd 8 16 rfl (by kernel_rfl) (by decide))
   refine Does.call 168 #[(.int .u64 a1), (.int .u64 n)] (by clear hs hd; go_simp) ?_
   refine (HC.out.2.1 _).mono ?_
   rintro z w' ⟨rfl, l⟩
   exact ⟨_, rfl, rfl, l⟩
  ·intro ax wx hb hs hd
   have h2 : ax.tmps.getD 2 undef = (.pointer (some ⟨w.heap.size, 0, none⟩)) := hs 2 (by kernel_rfl)
   exact Does.value _ (by clear hs hd; go_simp) rfl
  ·intro ax wx hb hs hd
   have h18 := vOf (hd 10 18 rfl (by kernel_rfl) (by decide))
   exact Does.value _ (by clear hs hd; go_simp) rfl
  ·intro ax wx hb hs hd
   have h19 := vOf (hd 11 19 rfl (by kernel_rfl) (by decide))
   have cx : wx.cell? ⟨w.heap.size, 2, none⟩ = some (.int .u64 a2) := (Blk.later WW.out.2.1 hb (Blk.lt WW.out.2.1)).cell 2
   exact Does.value _ (by clear hs hd; go_simp) rfl
  ·intro ax wx hb hs hd
   have h5 : ax.tmps.getD 5 undef = (.int .u64 n) := hs 5 (by kernel_rfl)
   exact Does.value _ (by clear hs hd; go_simp) rfl
  ·intro ax wx hb hs hd
   have h20 := vOf (hd 12 20 rfl (by kernel_rfl) (by decide))
   have h21 := vOf (hd 13 21 rfl (by kernel_rfl) (by decide))
   refine Does.call 168 #[(.int .u64 a2), (.int .u64 n)] (by clear hs hd; go_simp) ?_
   refine (HC.out.2.2.1 _).mono ?_
   rintro z w' ⟨rfl, l⟩
   exact ⟨_, rfl, rfl, l⟩
  ·intro ax wx hb hs hd
   have h2 : ax.tmps.getD 2 undef = (.pointer (some ⟨w.heap.size, 0, none⟩)) := hs 2 (by kernel_rfl)
   exact Does.value _ (by clear hs hd; go_simp) rfl
  ·intro ax wx hb hs hd
   have h23 := vOf (hd 15 23 rfl (by kernel_rfl) (by decide))
   exact Does.value _ (by clear hs hd; go_simp) rfl
  ·intro ax wx hb hs hd
   have h24 := vOf (hd 16 24 rfl (by kernel_rfl) (by decide))
   have cx : wx.cell? ⟨w.heap.size, 3, none⟩ = some (.int .u64 a3) := (Blk.later WW.out.2.1 hb (Blk.lt WW.out.2.1)).cell 3
   exact Does.value _ (by clear hs hd; go_simp) rfl
  ·intro ax wx hb hs hd
   have h5 : ax.tmps.getD 5 undef = (.int .u64 n) := hs 5 (by kernel_rfl)
   exact Does.value _ (by clear hs hd; go_simp) rfl
  ·intro ax wx hb hs hd
   have h25 := vOf (hd 17 25 rfl (by kernel_rfl) (by decide))
   have h26 := vOf (hd 18 26 rfl (by kernel_rfl) (by decide))
   refine Does.call 168 #[(.int .u64 a3), (.int .u64 n)] (by clear hs hd; go_simp) ?_
   refine (HC.out.2.2.2.1 _).mono ?_
   rintro z w' ⟨rfl, l⟩
   exact ⟨_, rfl, rfl, l⟩
  ·intro ax wx hb hs hd
   have h2 : ax.tmps.getD 2 undef = (.pointer (some ⟨w.heap.size, 0, none⟩)) := hs 2 (by kernel_rfl)
   exact Does.value _ (by clear hs hd; go_simp) rfl
  ·intro ax wx hb hs hd
   have h28 := vOf (hd 20 28 rfl (by kernel_rfl) (by decide))
   exact Does.value _ (by clear hs hd; go_simp) rfl
  ·intro ax wx hb hs hd
   have h29 := vOf (hd 21 29 rfl (by kernel_rfl) (by decide))
   have cx : wx.cell? ⟨w.heap.size, 4, none⟩ = some (.int .u64 a4) := (Blk.later WW.out.2.1 hb (Blk.lt WW.out.2.1)).cell 4
   exact Does.value _ (by clear hs hd; go_simp) rfl
  ·intro ax wx hb hs hd
   have h5 : ax.tmps.getD 5 undef = (.int .u64 n) := hs 5 (by kernel_rfl)
   exact Does.value _ (by clear hs hd; go_simp) rfl
  ·intro ax wx hb hs hd
   have h30 := vOf (hd 22 30 rfl (by kernel_rfl) (by decide))
   have h31 := vOf (hd 23 31 rfl (by kernel_rfl) (by decide))
   refine Does.call 168 #[(.int .u64 a4), (.int .u64 n)] (by clear hs hd; go_simp) ?_
   refine (HC.out.2.2.2.2 _).mono ?_
   rintro z w' ⟨rfl, l⟩
   exact ⟨_, rfl, rfl, l⟩
 ·intro wx hb
  iterate 25 refine @EndsP.val _ _ _ _ _ _ _ _ _ rfl ?_
  intro hD nf hn
  obtain ⟨mf, rfl⟩ : ∃ mf, nf = mf + 1 := ⟨nf - 1, by have h3 : 1 ≤ nf := hn; omega⟩
  clear hD hn
  simp only [Act.put, sA, sB, sC]
  have W2 : Hid (Below w.heap.size w wx ∧ Blk wx w.heap.size 116 (u64s [a0, a1, a2, a3, a4]) ∧ Blk wx (w.heap.size + 1) 116 (u64s [0, 0, 0, 0, 0])) := ⟨below_chain WW.out.1 hb WW.out.1.size, WW.out.2.1.later hb WW.out.2.1.lt, WW.out.2.2.later hb WW.out.2.2.lt⟩
  clear WW hb
  refine wpAny_ready (rs := [25]) (by kernel_rfl) (by simp) (AllReady.cons rfl (fun K hK => ?_) AllReady.nil)
  rw [if_pos (by rfl)]
  go_simp
  go_wp2_with (go_at_call 170; refine (HG.out w.heap.size _ W2.out.2.1).mono ?_; rintro e x3 ⟨rfl, ⟨lr, B3, F3⟩, k3⟩; have HR : Hid (Blk x3 w.heap.size 116 (u64s lr) ∧ Fe lr (x * n % PR) ∧ Blk x3 (w.heap.size + 1) 116 (u64s [0, 0, 0, 0, 0]) ∧ Below w.heap.size w x3 ∧ lr.length = 5) := ⟨B3, F3, W2.out.2.2.kept k3 (by omega), below_kept W2.out.1 k3 W2.out.1.size (fun j hj => by omega), F3.len⟩; clear B3 F3 k3)
  refine wpAny_done (by kernel_rfl) (NoPanic.normal ?_) _
  go_wp2_with (first | (refine wpList_load_blk rfl 116 (.tmp 2) rfl w.heap.size rfl (u64s lr) _ HR.out.1 Tryz.underlying116 rfl (by rw [u64s_length, HR.out.2.2.2.2]; exact sizeElem) ?_) | (refine wpList_store_blk rfl 116 116 _ _ rfl _ rfl _ (u64s lr) rfl HR.out.2.2.1 (by rw [u64s_length, HR.out.2.2.2.2]; rfl) (by rw [u64s_length, HR.out.2.2.2.2]; exact sizeElem) (u64s_one _) ?_; intro y7 b7 s7 k7))
  exact ret_blk rfl (w.heap.size + 1) (u64s lr) _ rfl b7 Tryz.underlying116 rfl (by rw [u64s_length, HR.out.2.2.2.2]; exact sizeElem) rfl ⟨lr, rfl, HR.out.2.1, below_kept HR.out.2.2.2.1 k7 HR.out.2.2.2.1.size (fun j hj => by omega)⟩
def phi (x : Int) : Fin EC.PN := ⟨(x % PR).toNat, by unfold PR EC.PN; omega⟩
theorem phi_mod (x : Int) : phi (x % PR) = phi x := Fin.ext (by show (x % PR % PR).toNat = (x % PR).toNat; unfold PR; omega)
theorem phi_add (x y : Int) : phi (x + y) = phi x + phi y := Fin.ext (by
  show ((x + y) % PR).toNat = ((x % PR).toNat + (y % PR).toNat) % EC.PN
  unfold PR EC.PN; omega)
theorem phi_sub (x y : Int) : phi (x - y) = phi x - phi y := Fin.ext (by
  show ((x - y) % PR).toNat = (EC.PN - (y % PR).toNat + (x % PR).toNat) % EC.PN
  unfold PR EC.PN; omega)
theorem phi_mul (x y : Int) : phi (x * y) = phi x * phi y := Fin.ext (by
  show ((x * y) % PR).toNat = ((x % PR).toNat * (y % PR).toNat) % EC.PN
  rw [Int.mul_emod]
  have h1 : 0 ≤ x % PR := Int.emod_nonneg _ (by decide)
  have h2 : 0 ≤ y % PR := Int.emod_nonneg _ (by decide)
  obtain ⟨a, ha⟩ := Int.eq_ofNat_of_zero_le h1
  obtain ⟨b, hb⟩ := Int.eq_ofNat_of_zero_le h2
  rw [ha, hb, Int.toNat_natCast, Int.toNat_natCast, ← Int.natCast_mul]
  generalize a * b = c
  unfold PR EC.PN; omega)
theorem phi_inj {x y : Int} (hx : 0 ≤ x ∧ x < PR) (hy : 0 ≤ y ∧ y < PR) (h : phi x = phi y) : x = y := by
  have h2 : (x % PR).toNat = (y % PR).toNat := congrArg Fin.val h
  unfold PR at *; omega
theorem phi_inv (x : Int) : phi (inv x) = EC.iv (phi x) := Fin.ext (by
  show (x ^ p2 % PR % PR).toNat = (x % PR).toNat ^ (EC.PN - 2) % EC.PN
  rw [show EC.PN - 2 = p2 by decide, ← pow_mod]
  have h1 : 0 ≤ x % PR := Int.emod_nonneg _ (by decide)
  obtain ⟨a, ha⟩ := Int.eq_ofNat_of_zero_le h1
  rw [ha, Int.toNat_natCast]
  generalize p2 = e
  rw [← Int.natCast_pow]
  generalize a ^ e = c
  unfold PR EC.PN; omega)
def stI (u x2 z2 x3 z3 : Int) : Int × Int × Int × Int :=
  (((x2 + z2) % PR * ((x2 + z2) % PR) % PR) * ((x2 - z2) % PR * ((x2 - z2) % PR) % PR) % PR,
   (((x2 + z2) % PR * ((x2 + z2) % PR) % PR) - ((x2 - z2) % PR * ((x2 - z2) % PR) % PR)) % PR * ((((x2 + z2) % PR * ((x2 + z2) % PR) % PR) + ((((x2 + z2) % PR * ((x2 + z2) % PR) % PR) - ((x2 - z2) % PR * ((x2 - z2) % PR) % PR)) % PR * 121665 % PR)) % PR) % PR,
   (((x3 - z3) % PR * ((x2 + z2) % PR) % PR) + ((x3 + z3) % PR * ((x2 - z2) % PR) % PR)) % PR * ((((x3 - z3) % PR * ((x2 + z2) % PR) % PR) + ((x3 + z3) % PR * ((x2 - z2) % PR) % PR)) % PR) % PR,
   u * ((((x3 - z3) % PR * ((x2 + z2) % PR) % PR) - ((x3 + z3) % PR * ((x2 - z2) % PR) % PR)) % PR * ((((x3 - z3) % PR * ((x2 + z2) % PR) % PR) - ((x3 + z3) % PR * ((x2 - z2) % PR) % PR)) % PR) % PR) % PR)
def bstI (u : Int) (b : Bool) (s : Int × Int × Int × Int) : Int × Int × Int × Int :=
  if b then ((stI u s.2.2.1 s.2.2.2 s.1 s.2.1).2.2.1, (stI u s.2.2.1 s.2.2.2 s.1 s.2.1).2.2.2, (stI u s.2.2.1 s.2.2.2 s.1 s.2.1).1, (stI u s.2.2.1 s.2.2.2 s.1 s.2.1).2.1)
  else stI u s.1 s.2.1 s.2.2.1 s.2.2.2
def ladI (u : Int) (n : Nat) : Nat → Int × Int × Int × Int
  | 0 => (1, 0, u, 1)
  | j + 1 => bstI u (n.testBit (255 - 1 - j)) (ladI u n j)
def mulI (n : Nat) (u : Int) : Int := (ladI u n 255).1 * inv (ladI u n 255).2.1 % PR
def phi4 (s : Int × Int × Int × Int) : Fin EC.PN × Fin EC.PN × Fin EC.PN × Fin EC.PN := (phi s.1, phi s.2.1, phi s.2.2.1, phi s.2.2.2)
theorem phi_k : phi 121665 = 121665 := by decide
theorem phi_st (u x2 z2 x3 z3 : Int) : phi4 (stI u x2 z2 x3 z3) = EC.lst 121665 (phi u) (phi x2) (phi z2) (phi x3) (phi z3) := by
  have hc : ∀ a : Fin EC.PN, a * 121665 = 121665 * a := fun a => by generalize (121665 : Fin EC.PN) = k; grind
  unfold phi4 stI EC.lst
  simp only [phi_mod, phi_add, phi_sub, phi_mul, phi_k, hc]
theorem phi_bst (u : Int) (b : Bool) (s : Int × Int × Int × Int) : phi4 (bstI u b s) = EC.bst 121665 (phi u) b (phi4 s) := by
  cases b
  · exact phi_st u _ _ _ _
  · have h := phi_st u s.2.2.1 s.2.2.2 s.1 s.2.1
    show (phi (stI u s.2.2.1 s.2.2.2 s.1 s.2.1).2.2.1, phi (stI u s.2.2.1 s.2.2.2 s.1 s.2.1).2.2.2, phi (stI u s.2.2.1 s.2.2.2 s.1 s.2.1).1, phi (stI u s.2.2.1 s.2.2.2 s.1 s.2.1).2.1) = ((EC.lst 121665 (phi u) (phi s.2.2.1) (phi s.2.2.2) (phi s.1) (phi s.2.1)).2.2.1, (EC.lst 121665 (phi u) (phi s.2.2.1) (phi s.2.2.2) (phi s.1) (phi s.2.1)).2.2.2, (EC.lst 121665 (phi u) (phi s.2.2.1) (phi s.2.2.2) (phi s.1) (phi s.2.1)).1, (EC.lst 121665 (phi u) (phi s.2.2.1) (phi s.2.2.2) (phi s.1) (phi s.2.1)).2.1)
    rw [← h]; rfl
theorem phi_lad (u : Int) (n : Nat) : ∀ j, phi4 (ladI u n j) = EC.lad 121665 (phi u) n 255 j
  | 0 => by show (phi 1, phi 0, phi u, phi 1) = _; rw [show phi 1 = 1 by decide, show phi 0 = 0 by decide]; rfl
  | j + 1 => by
      show phi4 (bstI u (n.testBit (255 - 1 - j)) (ladI u n j)) = EC.bst 121665 (phi u) (n.testBit (255 - 1 - j)) (EC.lad 121665 (phi u) n 255 j)
      rw [phi_bst, phi_lad u n j]
theorem phi_mulI (n : Nat) (u : Int) : phi (mulI n u) = EC.mulU 121665 (phi u) n 255 := by
  unfold mulI EC.mulU
  rw [phi_mod, phi_mul, phi_inv, ← phi_lad]; rfl
theorem mulI_bd (n : Nat) (u : Int) : 0 ≤ mulI n u ∧ mulI n u < PR := ⟨Int.emod_nonneg _ (by decide), Int.emod_lt_of_pos _ (by decide)⟩
theorem meetI (a b : Nat) (u : Int) (ha : EC.Cl a) (hb : EC.Cl b) : mulI a (mulI b u) = mulI b (mulI a u) := by
  refine phi_inj (mulI_bd _ _) (mulI_bd _ _) ?_
  rw [phi_mulI, phi_mulI, phi_mulI, phi_mulI]
  exact EC.meetF (phi u) a b ha.lt hb.lt
theorem phi_zero : phi 0 = 0 := by decide
theorem phi_nine : phi 9 = 9 := by decide
theorem secretI (m n : Nat) (hm : EC.Cl m) (h : EC.Cl n) : mulI m (mulI n 9) ≠ 0 := fun q => EC.secretF m n hm h (by rw [← phi_nine, ← phi_mulI, ← phi_mulI, q, phi_zero])
theorem build_rat (a b : List Int) (ha : a.length = 5) (hb : b.length = 5) (w : World) : (Instr.build 120 #[(0, .agg (u64s a).toArray), (1, .agg (u64s b).toArray)]).run Tryz.prog w = .ok (.agg (rt a b).toArray) w := by
 obtain ⟨a0, a1, a2, a3, a4, rfl⟩ := five ha
 obtain ⟨b0, b1, b2, b3, b4, rfl⟩ := five hb
 kernel_rfl
def isR (x z : Int) (v : Value) (w : World) : Prop := ∃ a b, v = .agg (rt a b).toArray ∧ Fe a x ∧ Fe b z
theorem isR_later (x z : Int) : ∀ v w w', Below w.heap.size w w' → isR x z v w → isR x z v w' := fun _ _ _ _ h => h
theorem does_rat {base : Nat} {ρ : Operand → Value} {o : Oper} {w : World} (x y : Operand) (ho : o.op = .build 120 #[(0, x), (1, y)]) (a b : List Int) (hx : ρ x = .agg (u64s a).toArray) (hy : ρ y = .agg (u64s b).toArray) (X Z : Int) (fa : Fe a X) (fb : Fe b Z) : Does base (.any (isR X Z) (isR_later X Z)) ρ o w := by
 refine Does.value (.agg (rt a b).toArray) ?_ ⟨a, b, rfl, fa, fb⟩
 unfold execOp
 simp [ho, hx, hy, Sem.run_bind, build_rat a b fa.len fb.len, Sem.run_pure, Result.andThen_ok]
theorem step_any (lu px pz qx qz : List Int) (u x2 z2 x3 z3 : Int) (h0 : Fe lu u) (h1 : Fe px x2) (h2 : Fe pz z2) (h3 : Fe qx x3) (h4 : Fe qz z3) (w : World) :
  Calls Tryz.prog 81 #[.agg (u64s lu).toArray, .agg (rt px pz).toArray, .agg (rt qx qz).toArray] w fun e w' => ∃ a b c d, e = .returned (.tuple #[.agg (rt a b).toArray, .agg (rt c d).toArray]) ∧ (Fe a (stI u x2 z2 x3 z3).1 ∧ Fe b (stI u x2 z2 x3 z3).2.1 ∧ Fe c (stI u x2 z2 x3 z3).2.2.1 ∧ Fe d (stI u x2 z2 x3 z3).2.2.2) ∧ Below w.heap.size w w' := by
 have HP : Hid (Fe lu u ∧ Fe px x2 ∧ Fe pz z2 ∧ Fe qx x3 ∧ Fe qz z3) := ⟨h0, h1, h2, h3, h4⟩
 have HL : Hid (lu.length = 5 ∧ px.length = 5 ∧ pz.length = 5 ∧ qx.length = 5 ∧ qz.length = 5) := ⟨h0.len, h1.len, h2.len, h3.len, h4.len⟩
 have L5 : Hid (∀ l : List Int, l.length = 5 → (Tryz.prog.info? 116).map (·.size) = some (u64s l).length) := fun l h => by rw [u64s_length, h]; exact sizeElem
 have L10 : Hid (∀ a b : List Int, a.length = 5 → b.length = 5 → (Tryz.prog.info? 120).map (·.size) = some (rt a b).length) := fun a b ha hb => by rw [rt_length ha hb]; exact sizeRatio
 clear h0 h1 h2 h3 h4
 go_enter Tryz.func81, Tryz.ntmps81
 go_wp2_with (first | (refine wpList_box_new rfl 116 (.tmp 0) rfl (u64s lu) rfl ?_; intro w0 b0 s0 l0) | (refine wpList_box_new rfl 120 (.tmp 1) rfl (rt px pz) rfl ?_; intro w1 b1 s1 l1) | (refine wpList_box_new rfl 120 (.tmp 2) rfl (rt qx qz) rfl ?_; intro w2 b2 s2 l2) | ((with_reducible show wpList _ _ _ (({ dst := some 6, op := _, type := _, pos := _, after := _, guard := _ } : Oper) :: _) _ _); refine wpList_alloc_new rfl 120 rfl 10 _ zeroRatio ?_; intro w3 b3 s3 l3) | ((with_reducible show wpList _ _ _ (({ dst := some 7, op := _, type := _, pos := _, after := _, guard := _ } : Oper) :: _) _ _); refine wpList_alloc_new rfl 120 rfl 10 _ zeroRatio ?_; intro w4 b4 s4 l4))
 have e1 : w0.heap.size = w.heap.size + 1 := s0
 have e2 : w1.heap.size = w.heap.size + 1 + 1 := by omega
 have e3 : w2.heap.size = w.heap.size + 1 + 1 + 1 := by omega
 have e4 : w3.heap.size = w.heap.size + 1 + 1 + 1 + 1 := by omega
 rw [e1] at b1
 rw [e2] at b2
 rw [e3] at b3
 rw [e4] at b4
 have V0 : Hid (Below w.heap.size w w4 ∧ Blk w4 w.heap.size 116 (u64s lu) ∧ Blk w4 (w.heap.size + 1) 120 (rt px pz) ∧ Blk w4 (w.heap.size + 1 + 1) 120 (rt qx qz) ∧ Blk w4 (w.heap.size + 1 + 1 + 1) 120 (rt [0, 0, 0, 0, 0] [0, 0, 0, 0, 0]) ∧ Blk w4 (w.heap.size + 1 + 1 + 1 + 1) 120 (rt [0, 0, 0, 0, 0] [0, 0, 0, 0, 0])) := ⟨below_chain (below_chain (below_chain (below_chain l0 l1 (by omega)) l2 (by omega)) l3 (by omega)) l4 (by omega), (((b0.later l1 (by omega)).later l2 (by omega)).later l3 (by omega)).later l4 (by omega), ((b1.later l2 (by omega)).later l3 (by omega)).later l4 (by omega), (b2.later l3 (by omega)).later l4 (by omega), b3.later l4 (by omega), b4⟩
 simp only [Act.put, sA, sB, sC, e1, e2, e3, e4]
 clear b0 s0 l0 b1 s1 l1 b2 s2 l2 b3 s3 l3 b4 s4 l4 e1 e2 e3 e4
 refine region_invP 12 ((.val (.pointer (some ⟨(w.heap.size + 1), 0, none⟩))) :: (.val (.agg (u64s px).toArray)) :: (.val (.pointer (some ⟨(w.heap.size + 1), 5, none⟩))) :: (.val (.agg (u64s pz).toArray)) :: (.any (isF ((x2 + z2) % PR)) (isF_later ((x2 + z2) % PR))) :: (.val (.pointer (some ⟨(w.heap.size + 1), 0, none⟩))) :: (.val (.agg (u64s px).toArray)) :: (.val (.pointer (some ⟨(w.heap.size + 1), 5, none⟩))) :: (.val (.agg (u64s pz).toArray)) :: (.any (isF ((x2 - z2) % PR)) (isF_later ((x2 - z2) % PR))) :: (.blk 116 (u64s [0, 0, 0, 0, 0])) :: (.blk 116 (u64s [0, 0, 0, 0, 0])) :: []) (by kernel_rfl) (by kernel_rfl) (by kernel_rfl) [8, 9] ⟨.inl rfl, .inl rfl, .inl rfl, .inl rfl, .inl rfl, .inl rfl, .inl rfl, .inl rfl, .inl rfl, .inl rfl, .inr ⟨116, _, 5, rfl, rfl, zeroElem⟩, .inr ⟨116, _, 5, rfl, rfl, zeroElem⟩, trivial⟩ (by kernel_rfl) ?_ ?_
 ·refine Steps'.cons ?_ (Steps'.cons ?_ (Steps'.cons ?_ (Steps'.cons ?_ (Steps'.cons ?_ (Steps'.cons ?_ (Steps'.cons ?_ (Steps'.cons ?_ (Steps'.cons ?_ (Steps'.cons ?_ (Steps'.cons ?_ (Steps'.cons ?_ (Steps'.one _ _ _ _ _ _ _))))))))))))
  ·intro ax wx hb hs hd
   have h4 : ax.tmps.getD 4 undef = (.pointer (some ⟨(w.heap.size + 1), 0, none⟩)) := hs 4 (by kernel_rfl)
   exact Does.value _ (by clear hs hd; go_simp) rfl
  ·intro ax wx hb hs hd
   have h17 := vOf (hd 0 17 rfl (by kernel_rfl) (by decide))
   exact Does.load 116 (.tmp 17) rfl (w.heap.size + 1) 0 h17 (u64s px) _ (((Blk.later V0.out.2.2.1 hb (Blk.lt V0.out.2.2.1))).fst) Tryz.underlying116 rfl (L5.out _ HL.out.2.1)
  ·intro ax wx hb hs hd
   have h4 : ax.tmps.getD 4 undef = (.pointer (some ⟨(w.heap.size + 1), 0, none⟩)) := hs 4 (by kernel_rfl)
   exact Does.value _ (by clear hs hd; go_simp) rfl
  ·intro ax wx hb hs hd
   have h19 := vOf (hd 2 19 rfl (by kernel_rfl) (by decide))
   exact Does.load 116 (.tmp 19) rfl (w.heap.size + 1) 5 h19 (u64s pz) _ (((Blk.later V0.out.2.2.1 hb (Blk.lt V0.out.2.2.1))).snd HL.out.2.1) Tryz.underlying116 rfl (L5.out _ HL.out.2.2.1)
  ·intro ax wx hb hs hd
   have h18 := vOf (hd 1 18 rfl (by kernel_rfl) (by decide))
   have h20 := vOf (hd 3 20 rfl (by kernel_rfl) (by decide))
   refine Does.call 125 #[(.agg (u64s px).toArray), (.agg (u64s pz).toArray)] (by clear hs hd; go_simp) ?_
   refine (add_any _ _ _ _ HP.out.2.1 HP.out.2.2.1 _).mono ?_
   rintro z w' ⟨r, rfl, fr, l⟩
   exact ⟨_, rfl, ⟨r, rfl, fr⟩, l⟩
  ·intro ax wx hb hs hd
   have h4 : ax.tmps.getD 4 undef = (.pointer (some ⟨(w.heap.size + 1), 0, none⟩)) := hs 4 (by kernel_rfl)
   exact Does.value _ (by clear hs hd; go_simp) rfl
  ·intro ax wx hb hs hd
   have h22 := vOf (hd 5 22 rfl (by kernel_rfl) (by decide))
   exact Does.load 116 (.tmp 22) rfl (w.heap.size + 1) 0 h22 (u64s px) _ (((Blk.later V0.out.2.2.1 hb (Blk.lt V0.out.2.2.1))).fst) Tryz.underlying116 rfl (L5.out _ HL.out.2.1)
  ·intro ax wx hb hs hd
   have h4 : ax.tmps.getD 4 undef = (.pointer (some ⟨(w.heap.size + 1), 0, none⟩)) := hs 4 (by kernel_rfl)
   exact Does.value _ (by clear hs hd; go_simp) rfl
  ·intro ax wx hb hs hd
   have h24 := vOf (hd 7 24 rfl (by kernel_rfl) (by decide))
   exact Does.load 116 (.tmp 24) rfl (w.heap.size + 1) 5 h24 (u64s pz) _ (((Blk.later V0.out.2.2.1 hb (Blk.lt V0.out.2.2.1))).snd HL.out.2.1) Tryz.underlying116 rfl (L5.out _ HL.out.2.2.1)
  ·intro ax wx hb hs hd
   have h23 := vOf (hd 6 23 rfl (by kernel_rfl) (by decide))
   have h25 := vOf (hd 8 25 rfl (by kernel_rfl) (by decide))
   refine Does.call 126 #[(.agg (u64s px).toArray), (.agg (u64s pz).toArray)] (by clear hs hd; go_simp) ?_
   refine (sub_any _ _ _ _ HP.out.2.1 HP.out.2.2.1 _).mono ?_
   rintro z w' ⟨r, rfl, fr, l⟩
   exact ⟨_, rfl, ⟨r, rfl, fr⟩, l⟩
  ·intro ax wx hb hs hd
   exact Does.alloc 116 rfl 5 _ zeroElem hb.size
  ·intro ax wx hb hs hd
   exact Does.alloc 116 rfl 5 _ zeroElem hb.size
 ·intro wx hb
  iterate 4 refine @EndsP.val _ _ _ _ _ _ _ _ _ rfl ?_
  refine @EndsP.any _ _ _ _ _ _ _ _ (isF ((x2 + z2) % PR)) (isF_later ((x2 + z2) % PR)) rfl ?_
  intro v4 p4
  iterate 4 refine @EndsP.val _ _ _ _ _ _ _ _ _ rfl ?_
  refine @EndsP.any _ _ _ _ _ _ _ _ (isF ((x2 - z2) % PR)) (isF_later ((x2 - z2) % PR)) rfl ?_
  intro v9 p9
  refine @EndsP.blk _ _ _ _ _ _ _ _ 116 (u64s [0, 0, 0, 0, 0]) rfl ?_
  intro g10 hg10 bg10
  refine @EndsP.blk _ _ _ _ _ _ _ _ 116 (u64s [0, 0, 0, 0, 0]) rfl ?_
  intro g11 hg11 bg11
  intro hD nf hn
  obtain ⟨mf, rfl⟩ : ∃ mf, nf = mf + 2 := ⟨nf - 2, by have h3 : 2 ≤ nf := hn; omega⟩
  obtain ⟨la, rfl, F_la⟩ := p4
  obtain ⟨lb, rfl, F_lb⟩ := p9
  have d01 : g10 ≠ g11 := fun e => hD 8 (by simp) 9 (by simp) (by decide) (by subst e; kernel_rfl)
  have N_la : Hid ((u64s la).length = 5) := by rw [u64s_length, F_la.len]; rfl
  have N_lb : Hid ((u64s lb).length = 5) := by rw [u64s_length, F_lb.len]; rfl
  clear hD hn
  simp only [Act.put, sA, sB, sC]
  refine wpAny_ready (rs := [12]) (by kernel_rfl) (by simp) (AllReady.cons rfl (fun K hK => ?_) AllReady.nil)
  rw [if_pos (by rfl)]
  refine last_store 116 (.tmp 8) (.tmp 21) rfl rfl g10 rfl 116 _ (u64s la) rfl bg10 (by rw [N_la.out]; rfl) (by rw [N_la.out]; exact sizeElem) (u64s_one _) ?_
  intro w0 b0 s0 k0
  refine hK _ _ ?_
  refine wpAny_ready (rs := [13]) (by kernel_rfl) (by simp) (AllReady.cons rfl (fun K hK => ?_) AllReady.nil)
  rw [if_pos (by rfl)]
  refine last_store 116 (.tmp 9) (.tmp 26) rfl rfl g11 rfl 116 _ (u64s lb) rfl (bg11.kept k0 (by omega)) (by rw [N_lb.out]; rfl) (by rw [N_lb.out]; exact sizeElem) (u64s_one _) ?_
  intro w1 b1 s1 k1
  refine hK _ _ ?_
  refine wpAny_done (by kernel_rfl) (NoPanic.normal ?_) _
  have V1 : Hid (Below w.heap.size w w1 ∧ Blk w1 w.heap.size 116 (u64s lu) ∧ Blk w1 (w.heap.size + 1) 120 (rt px pz) ∧ Blk w1 (w.heap.size + 1 + 1) 120 (rt qx qz) ∧ Blk w1 (w.heap.size + 1 + 1 + 1) 120 (rt [0, 0, 0, 0, 0] [0, 0, 0, 0, 0]) ∧ Blk w1 (w.heap.size + 1 + 1 + 1 + 1) 120 (rt [0, 0, 0, 0, 0] [0, 0, 0, 0, 0]) ∧ Blk w1 g10 116 (u64s la) ∧ Blk w1 g11 116 (u64s lb)) := by
   have qb := hb.size
   have qw := V0.out.1.size
   have q0 := V0.out.2.1.lt
   have q1 := V0.out.2.2.1.lt
   have q2 := V0.out.2.2.2.1.lt
   have q3 := V0.out.2.2.2.2.1.lt
   have q4 := V0.out.2.2.2.2.2.lt
   exact ⟨below_kept (below_kept (below_chain V0.out.1 hb (by omega)) k0 (by omega) (fun j hj => by omega)) k1 (by omega) (fun j hj => by omega), (((V0.out.2.1.later hb V0.out.2.1.lt).kept k0 (by omega)).kept k1 (by omega)), (((V0.out.2.2.1.later hb V0.out.2.2.1.lt).kept k0 (by omega)).kept k1 (by omega)), (((V0.out.2.2.2.1.later hb V0.out.2.2.2.1.lt).kept k0 (by omega)).kept k1 (by omega)), (((V0.out.2.2.2.2.1.later hb V0.out.2.2.2.2.1.lt).kept k0 (by omega)).kept k1 (by omega)), (((V0.out.2.2.2.2.2.later hb V0.out.2.2.2.2.2.lt).kept k0 (by omega)).kept k1 (by omega)), (b0.kept k1 (by omega)), b1⟩
  obtain ⟨ga, rfl⟩ : ∃ q, q = g10 := ⟨_, rfl⟩
  obtain ⟨gb, rfl⟩ : ∃ q, q = g11 := ⟨_, rfl⟩
  obtain ⟨yV1, rfl⟩ : ∃ q, q = w1 := ⟨_, rfl⟩
  clear hb V0 hK b0 s0 k0 b1 s1 k1 bg10 hg10 bg11 hg11 d01
  obtain ⟨A, EA⟩ : ∃ z, ((x2 + z2) % PR) = z := ⟨_, rfl⟩
  rw [EA] at F_la
  have QA : Hid (((x2 + z2) % PR) = A) := EA
  have H_la : Hid (Fe la A) := F_la
  clear EA F_la
  obtain ⟨B, EB⟩ : ∃ z, ((x2 - z2) % PR) = z := ⟨_, rfl⟩
  rw [EB] at F_lb
  have QB : Hid (((x2 - z2) % PR) = B) := EB
  have H_lb : Hid (Fe lb B) := F_lb
  clear EB F_lb
  try simp only [Act.put, sA, sB, sC]
  go_wp2_with fail
  refine region_invP 12 ((.val (.pointer (some ⟨(w.heap.size + 1 + 1), 0, none⟩))) :: (.val (.agg (u64s qx).toArray)) :: (.val (.pointer (some ⟨(w.heap.size + 1 + 1), 5, none⟩))) :: (.val (.agg (u64s qz).toArray)) :: (.any (isF ((x3 + z3) % PR)) (isF_later ((x3 + z3) % PR))) :: (.val (.pointer (some ⟨(w.heap.size + 1 + 1), 0, none⟩))) :: (.val (.agg (u64s qx).toArray)) :: (.val (.pointer (some ⟨(w.heap.size + 1 + 1), 5, none⟩))) :: (.val (.agg (u64s qz).toArray)) :: (.any (isF ((x3 - z3) % PR)) (isF_later ((x3 - z3) % PR))) :: (.blk 116 (u64s [0, 0, 0, 0, 0])) :: (.blk 116 (u64s [0, 0, 0, 0, 0])) :: []) (by kernel_rfl) (by kernel_rfl) (by kernel_rfl) [10, 11] ⟨.inl rfl, .inl rfl, .inl rfl, .inl rfl, .inl rfl, .inl rfl, .inl rfl, .inl rfl, .inl rfl, .inl rfl, .inr ⟨116, _, 5, rfl, rfl, zeroElem⟩, .inr ⟨116, _, 5, rfl, rfl, zeroElem⟩, trivial⟩ (by kernel_rfl) ?_ ?_
  ·refine Steps'.cons ?_ (Steps'.cons ?_ (Steps'.cons ?_ (Steps'.cons ?_ (Steps'.cons ?_ (Steps'.cons ?_ (Steps'.cons ?_ (Steps'.cons ?_ (Steps'.cons ?_ (Steps'.cons ?_ (Steps'.cons ?_ (Steps'.cons ?_ (Steps'.one _ _ _ _ _ _ _))))))))))))
   ·intro ax wx hb hs hd
    have h5 : ax.tmps.getD 5 undef = (.pointer (some ⟨(w.heap.size + 1 + 1), 0, none⟩)) := hs 5 (by kernel_rfl)
    exact Does.value _ (by clear hs hd; go_simp) rfl
   ·intro ax wx hb hs hd
    have h27 := vOf (hd 0 27 rfl (by kernel_rfl) (by decide))
    exact Does.load 116 (.tmp 27) rfl (w.heap.size + 1 + 1) 0 h27 (u64s qx) _ (((Blk.later V1.out.2.2.2.1 hb (Blk.lt V1.out.2.2.2.1))).fst) Tryz.underlying116 rfl (L5.out _ HL.out.2.2.2.1)
   ·intro ax wx hb hs hd
    have h5 : ax.tmps.getD 5 undef = (.pointer (some ⟨(w.heap.size + 1 + 1), 0, none⟩)) := hs 5 (by kernel_rfl)
    exact Does.value _ (by clear hs hd; go_simp) rfl
   ·intro ax wx hb hs hd
    have h29 := vOf (hd 2 29 rfl (by kernel_rfl) (by decide))
    exact Does.load 116 (.tmp 29) rfl (w.heap.size + 1 + 1) 5 h29 (u64s qz) _ (((Blk.later V1.out.2.2.2.1 hb (Blk.lt V1.out.2.2.2.1))).snd HL.out.2.2.2.1) Tryz.underlying116 rfl (L5.out _ HL.out.2.2.2.2)
   ·intro ax wx hb hs hd
    have h28 := vOf (hd 1 28 rfl (by kernel_rfl) (by decide))
    have h30 := vOf (hd 3 30 rfl (by kernel_rfl) (by decide))
    refine Does.call 125 #[(.agg (u64s qx).toArray), (.agg (u64s qz).toArray)] (by clear hs hd; go_simp) ?_
    refine (add_any _ _ _ _ HP.out.2.2.2.1 HP.out.2.2.2.2 _).mono ?_
    rintro z w' ⟨r, rfl, fr, l⟩
    exact ⟨_, rfl, ⟨r, rfl, fr⟩, l⟩
   ·intro ax wx hb hs hd
    have h5 : ax.tmps.getD 5 undef = (.pointer (some ⟨(w.heap.size + 1 + 1), 0, none⟩)) := hs 5 (by kernel_rfl)
    exact Does.value _ (by clear hs hd; go_simp) rfl
   ·intro ax wx hb hs hd
    have h32 := vOf (hd 5 32 rfl (by kernel_rfl) (by decide))
    exact Does.load 116 (.tmp 32) rfl (w.heap.size + 1 + 1) 0 h32 (u64s qx) _ (((Blk.later V1.out.2.2.2.1 hb (Blk.lt V1.out.2.2.2.1))).fst) Tryz.underlying116 rfl (L5.out _ HL.out.2.2.2.1)
   ·intro ax wx hb hs hd
    have h5 : ax.tmps.getD 5 undef = (.pointer (some ⟨(w.heap.size + 1 + 1), 0, none⟩)) := hs 5 (by kernel_rfl)
    exact Does.value _ (by clear hs hd; go_simp) rfl
   ·intro ax wx hb hs hd
    have h34 := vOf (hd 7 34 rfl (by kernel_rfl) (by decide))
    exact Does.load 116 (.tmp 34) rfl (w.heap.size + 1 + 1) 5 h34 (u64s qz) _ (((Blk.later V1.out.2.2.2.1 hb (Blk.lt V1.out.2.2.2.1))).snd HL.out.2.2.2.1) Tryz.underlying116 rfl (L5.out _ HL.out.2.2.2.2)
   ·intro ax wx hb hs hd
    have h33 := vOf (hd 6 33 rfl (by kernel_rfl) (by decide))
    have h35 := vOf (hd 8 35 rfl (by kernel_rfl) (by decide))
    refine Does.call 126 #[(.agg (u64s qx).toArray), (.agg (u64s qz).toArray)] (by clear hs hd; go_simp) ?_
    refine (sub_any _ _ _ _ HP.out.2.2.2.1 HP.out.2.2.2.2 _).mono ?_
    rintro z w' ⟨r, rfl, fr, l⟩
    exact ⟨_, rfl, ⟨r, rfl, fr⟩, l⟩
   ·intro ax wx hb hs hd
    exact Does.alloc 116 rfl 5 _ zeroElem hb.size
   ·intro ax wx hb hs hd
    exact Does.alloc 116 rfl 5 _ zeroElem hb.size
  ·intro wx hb
   iterate 4 refine @EndsP.val _ _ _ _ _ _ _ _ _ rfl ?_
   refine @EndsP.any _ _ _ _ _ _ _ _ (isF ((x3 + z3) % PR)) (isF_later ((x3 + z3) % PR)) rfl ?_
   intro v4 p4
   iterate 4 refine @EndsP.val _ _ _ _ _ _ _ _ _ rfl ?_
   refine @EndsP.any _ _ _ _ _ _ _ _ (isF ((x3 - z3) % PR)) (isF_later ((x3 - z3) % PR)) rfl ?_
   intro v9 p9
   refine @EndsP.blk _ _ _ _ _ _ _ _ 116 (u64s [0, 0, 0, 0, 0]) rfl ?_
   intro g10 hg10 bg10
   refine @EndsP.blk _ _ _ _ _ _ _ _ 116 (u64s [0, 0, 0, 0, 0]) rfl ?_
   intro g11 hg11 bg11
   intro hD nf hn
   obtain ⟨mf, rfl⟩ : ∃ mf, nf = mf + 2 := ⟨nf - 2, by have h3 : 2 ≤ nf := hn; omega⟩
   obtain ⟨lc, rfl, F_lc⟩ := p4
   obtain ⟨ld, rfl, F_ld⟩ := p9
   have d01 : g10 ≠ g11 := fun e => hD 10 (by simp) 11 (by simp) (by decide) (by subst e; kernel_rfl)
   have N_lc : Hid ((u64s lc).length = 5) := by rw [u64s_length, F_lc.len]; rfl
   have N_ld : Hid ((u64s ld).length = 5) := by rw [u64s_length, F_ld.len]; rfl
   clear hD hn
   simp only [Act.put, sA, sB, sC]
   refine wpAny_ready (rs := [12]) (by kernel_rfl) (by simp) (AllReady.cons rfl (fun K hK => ?_) AllReady.nil)
   rw [if_pos (by rfl)]
   refine last_store 116 (.tmp 10) (.tmp 31) rfl rfl g10 rfl 116 _ (u64s lc) rfl bg10 (by rw [N_lc.out]; rfl) (by rw [N_lc.out]; exact sizeElem) (u64s_one _) ?_
   intro w0 b0 s0 k0
   refine hK _ _ ?_
   refine wpAny_ready (rs := [13]) (by kernel_rfl) (by simp) (AllReady.cons rfl (fun K hK => ?_) AllReady.nil)
   rw [if_pos (by rfl)]
   refine last_store 116 (.tmp 11) (.tmp 36) rfl rfl g11 rfl 116 _ (u64s ld) rfl (bg11.kept k0 (by omega)) (by rw [N_ld.out]; rfl) (by rw [N_ld.out]; exact sizeElem) (u64s_one _) ?_
   intro w1 b1 s1 k1
   refine hK _ _ ?_
   refine wpAny_done (by kernel_rfl) (NoPanic.normal ?_) _
   have V2 : Hid (Below w.heap.size w w1 ∧ Blk w1 w.heap.size 116 (u64s lu) ∧ Blk w1 (w.heap.size + 1) 120 (rt px pz) ∧ Blk w1 (w.heap.size + 1 + 1) 120 (rt qx qz) ∧ Blk w1 (w.heap.size + 1 + 1 + 1) 120 (rt [0, 0, 0, 0, 0] [0, 0, 0, 0, 0]) ∧ Blk w1 (w.heap.size + 1 + 1 + 1 + 1) 120 (rt [0, 0, 0, 0, 0] [0, 0, 0, 0, 0]) ∧ Blk w1 ga 116 (u64s la) ∧ Blk w1 gb 116 (u64s lb) ∧ Blk w1 g10 116 (u64s lc) ∧ Blk w1 g11 116 (u64s ld)) := by
    have qb := hb.size
    have qw := V1.out.1.size
    have q0 := V1.out.2.1.lt
    have q1 := V1.out.2.2.1.lt
    have q2 := V1.out.2.2.2.1.lt
    have q3 := V1.out.2.2.2.2.1.lt
    have q4 := V1.out.2.2.2.2.2.1.lt
    have q5 := V1.out.2.2.2.2.2.2.1.lt
    have q6 := V1.out.2.2.2.2.2.2.2.lt
    exact ⟨below_kept (below_kept (below_chain V1.out.1 hb (by omega)) k0 (by omega) (fun j hj => by omega)) k1 (by omega) (fun j hj => by omega), (((V1.out.2.1.later hb V1.out.2.1.lt).kept k0 (by omega)).kept k1 (by omega)), (((V1.out.2.2.1.later hb V1.out.2.2.1.lt).kept k0 (by omega)).kept k1 (by omega)), (((V1.out.2.2.2.1.later hb V1.out.2.2.2.1.lt).kept k0 (by omega)).kept k1 (by omega)), (((V1.out.2.2.2.2.1.later hb V1.out.2.2.2.2.1.lt).kept k0 (by omega)).kept k1 (by omega)), (((V1.out.2.2.2.2.2.1.later hb V1.out.2.2.2.2.2.1.lt).kept k0 (by omega)).kept k1 (by omega)), (((V1.out.2.2.2.2.2.2.1.later hb V1.out.2.2.2.2.2.2.1.lt).kept k0 (by omega)).kept k1 (by omega)), (((V1.out.2.2.2.2.2.2.2.later hb V1.out.2.2.2.2.2.2.2.lt).kept k0 (by omega)).kept k1 (by omega)), (b0.kept k1 (by omega)), b1⟩
   obtain ⟨gc, rfl⟩ : ∃ q, q = g10 := ⟨_, rfl⟩
   obtain ⟨gd, rfl⟩ : ∃ q, q = g11 := ⟨_, rfl⟩
   obtain ⟨yV2, rfl⟩ : ∃ q, q = w1 := ⟨_, rfl⟩
   clear hb V1 hK b0 s0 k0 b1 s1 k1 bg10 hg10 bg11 hg11 d01
   obtain ⟨C, EC⟩ : ∃ z, ((x3 + z3) % PR) = z := ⟨_, rfl⟩
   rw [EC] at F_lc
   have QC : Hid (((x3 + z3) % PR) = C) := EC
   have H_lc : Hid (Fe lc C) := F_lc
   clear EC F_lc
   obtain ⟨D, ED⟩ : ∃ z, ((x3 - z3) % PR) = z := ⟨_, rfl⟩
   rw [ED] at F_ld
   have QD : Hid (((x3 - z3) % PR) = D) := ED
   have H_ld : Hid (Fe ld D) := F_ld
   clear ED F_ld
   try simp only [Act.put, sA, sB, sC]
   go_wp2_with fail
   refine region_invP 8 ((.val (.agg (u64s ld).toArray)) :: (.val (.agg (u64s la).toArray)) :: (.any (isF (D * A % PR)) (isF_later (D * A % PR))) :: (.val (.agg (u64s lc).toArray)) :: (.val (.agg (u64s lb).toArray)) :: (.any (isF (C * B % PR)) (isF_later (C * B % PR))) :: (.blk 116 (u64s [0, 0, 0, 0, 0])) :: (.blk 116 (u64s [0, 0, 0, 0, 0])) :: []) (by kernel_rfl) (by kernel_rfl) (by kernel_rfl) [12, 13] ⟨.inl rfl, .inl rfl, .inl rfl, .inl rfl, .inl rfl, .inl rfl, .inr ⟨116, _, 5, rfl, rfl, zeroElem⟩, .inr ⟨116, _, 5, rfl, rfl, zeroElem⟩, trivial⟩ (by kernel_rfl) ?_ ?_
   ·refine Steps'.cons ?_ (Steps'.cons ?_ (Steps'.cons ?_ (Steps'.cons ?_ (Steps'.cons ?_ (Steps'.cons ?_ (Steps'.cons ?_ (Steps'.cons ?_ (Steps'.one _ _ _ _ _ _ _))))))))
    ·intro ax wx hb hs hd
     have h11 : ax.tmps.getD 11 undef = (.pointer (some ⟨gd, 0, none⟩)) := hs 11 (by kernel_rfl)
     exact Does.load 116 (.tmp 11) rfl gd 0 h11 (u64s ld) _ ((Blk.later V2.out.2.2.2.2.2.2.2.2.2 hb (Blk.lt V2.out.2.2.2.2.2.2.2.2.2)).whole) Tryz.underlying116 rfl (L5.out _ H_ld.out.len)
    ·intro ax wx hb hs hd
     have h8 : ax.tmps.getD 8 undef = (.pointer (some ⟨ga, 0, none⟩)) := hs 8 (by kernel_rfl)
     exact Does.load 116 (.tmp 8) rfl ga 0 h8 (u64s la) _ ((Blk.later V2.out.2.2.2.2.2.2.1 hb (Blk.lt V2.out.2.2.2.2.2.2.1)).whole) Tryz.underlying116 rfl (L5.out _ H_la.out.len)
    ·intro ax wx hb hs hd
     have h37 := vOf (hd 0 37 rfl (by kernel_rfl) (by decide))
     have h38 := vOf (hd 1 38 rfl (by kernel_rfl) (by decide))
     refine Does.call 127 #[(.agg (u64s ld).toArray), (.agg (u64s la).toArray)] (by clear hs hd; go_simp) ?_
     refine (mul_any _ _ _ _ H_ld.out H_la.out _).mono ?_
     rintro z w' ⟨r, rfl, fr, l⟩
     exact ⟨_, rfl, ⟨r, rfl, fr⟩, l⟩
    ·intro ax wx hb hs hd
     have h10 : ax.tmps.getD 10 undef = (.pointer (some ⟨gc, 0, none⟩)) := hs 10 (by kernel_rfl)
     exact Does.load 116 (.tmp 10) rfl gc 0 h10 (u64s lc) _ ((Blk.later V2.out.2.2.2.2.2.2.2.2.1 hb (Blk.lt V2.out.2.2.2.2.2.2.2.2.1)).whole) Tryz.underlying116 rfl (L5.out _ H_lc.out.len)
    ·intro ax wx hb hs hd
     have h9 : ax.tmps.getD 9 undef = (.pointer (some ⟨gb, 0, none⟩)) := hs 9 (by kernel_rfl)
     exact Does.load 116 (.tmp 9) rfl gb 0 h9 (u64s lb) _ ((Blk.later V2.out.2.2.2.2.2.2.2.1 hb (Blk.lt V2.out.2.2.2.2.2.2.2.1)).whole) Tryz.underlying116 rfl (L5.out _ H_lb.out.len)
    ·intro ax wx hb hs hd
     have h40 := vOf (hd 3 40 rfl (by kernel_rfl) (by decide))
     have h41 := vOf (hd 4 41 rfl (by kernel_rfl) (by decide))
     refine Does.call 127 #[(.agg (u64s lc).toArray), (.agg (u64s lb).toArray)] (by clear hs hd; go_simp) ?_
     refine (mul_any _ _ _ _ H_lc.out H_lb.out _).mono ?_
     rintro z w' ⟨r, rfl, fr, l⟩
     exact ⟨_, rfl, ⟨r, rfl, fr⟩, l⟩
    ·intro ax wx hb hs hd
     exact Does.alloc 116 rfl 5 _ zeroElem hb.size
    ·intro ax wx hb hs hd
     exact Does.alloc 116 rfl 5 _ zeroElem hb.size
   ·intro wx hb
    iterate 2 refine @EndsP.val _ _ _ _ _ _ _ _ _ rfl ?_
    refine @EndsP.any _ _ _ _ _ _ _ _ (isF (D * A % PR)) (isF_later (D * A % PR)) rfl ?_
    intro v2 p2
    iterate 2 refine @EndsP.val _ _ _ _ _ _ _ _ _ rfl ?_
    refine @EndsP.any _ _ _ _ _ _ _ _ (isF (C * B % PR)) (isF_later (C * B % PR)) rfl ?_
    intro v5 p5
    refine @EndsP.blk _ _ _ _ _ _ _ _ 116 (u64s [0, 0, 0, 0, 0]) rfl ?_
    intro g6 hg6 bg6
    refine @EndsP.blk _ _ _ _ _ _ _ _ 116 (u64s [0, 0, 0, 0, 0]) rfl ?_
    intro g7 hg7 bg7
    intro hD nf hn
    obtain ⟨mf, rfl⟩ : ∃ mf, nf = mf + 2 := ⟨nf - 2, by have h3 : 2 ≤ nf := hn; omega⟩
    obtain ⟨lda, rfl, F_lda⟩ := p2
    obtain ⟨lcb, rfl, F_lcb⟩ := p5
    have d01 : g6 ≠ g7 := fun e => hD 12 (by simp) 13 (by simp) (by decide) (by subst e; kernel_rfl)
    have N_lda : Hid ((u64s lda).length = 5) := by rw [u64s_length, F_lda.len]; rfl
    have N_lcb : Hid ((u64s lcb).length = 5) := by rw [u64s_length, F_lcb.len]; rfl
    clear hD hn
    simp only [Act.put, sA, sB, sC]
    refine wpAny_ready (rs := [8]) (by kernel_rfl) (by simp) (AllReady.cons rfl (fun K hK => ?_) AllReady.nil)
    rw [if_pos (by rfl)]
    refine last_store 116 (.tmp 12) (.tmp 39) rfl rfl g6 rfl 116 _ (u64s lda) rfl bg6 (by rw [N_lda.out]; rfl) (by rw [N_lda.out]; exact sizeElem) (u64s_one _) ?_
    intro w0 b0 s0 k0
    refine hK _ _ ?_
    refine wpAny_ready (rs := [9]) (by kernel_rfl) (by simp) (AllReady.cons rfl (fun K hK => ?_) AllReady.nil)
    rw [if_pos (by rfl)]
    refine last_store 116 (.tmp 13) (.tmp 42) rfl rfl g7 rfl 116 _ (u64s lcb) rfl (bg7.kept k0 (by omega)) (by rw [N_lcb.out]; rfl) (by rw [N_lcb.out]; exact sizeElem) (u64s_one _) ?_
    intro w1 b1 s1 k1
    refine hK _ _ ?_
    refine wpAny_done (by kernel_rfl) (NoPanic.normal ?_) _
    have V3 : Hid (Below w.heap.size w w1 ∧ Blk w1 w.heap.size 116 (u64s lu) ∧ Blk w1 (w.heap.size + 1) 120 (rt px pz) ∧ Blk w1 (w.heap.size + 1 + 1) 120 (rt qx qz) ∧ Blk w1 (w.heap.size + 1 + 1 + 1) 120 (rt [0, 0, 0, 0, 0] [0, 0, 0, 0, 0]) ∧ Blk w1 (w.heap.size + 1 + 1 + 1 + 1) 120 (rt [0, 0, 0, 0, 0] [0, 0, 0, 0, 0]) ∧ Blk w1 ga 116 (u64s la) ∧ Blk w1 gb 116 (u64s lb) ∧ Blk w1 gc 116 (u64s lc) ∧ Blk w1 gd 116 (u64s ld) ∧ Blk w1 g6 116 (u64s lda) ∧ Blk w1 g7 116 (u64s lcb)) := by
     have qb := hb.size
     have qw := V2.out.1.size
     have q0 := V2.out.2.1.lt
     have q1 := V2.out.2.2.1.lt
     have q2 := V2.out.2.2.2.1.lt
     have q3 := V2.out.2.2.2.2.1.lt
     have q4 := V2.out.2.2.2.2.2.1.lt
     have q5 := V2.out.2.2.2.2.2.2.1.lt
     have q6 := V2.out.2.2.2.2.2.2.2.1.lt
     have q7 := V2.out.2.2.2.2.2.2.2.2.1.lt
     have q8 := V2.out.2.2.2.2.2.2.2.2.2.lt
     exact ⟨below_kept (below_kept (below_chain V2.out.1 hb (by omega)) k0 (by omega) (fun j hj => by omega)) k1 (by omega) (fun j hj => by omega), (((V2.out.2.1.later hb V2.out.2.1.lt).kept k0 (by omega)).kept k1 (by omega)), (((V2.out.2.2.1.later hb V2.out.2.2.1.lt).kept k0 (by omega)).kept k1 (by omega)), (((V2.out.2.2.2.1.later hb V2.out.2.2.2.1.lt).kept k0 (by omega)).kept k1 (by omega)), (((V2.out.2.2.2.2.1.later hb V2.out.2.2.2.2.1.lt).kept k0 (by omega)).kept k1 (by omega)), (((V2.out.2.2.2.2.2.1.later hb V2.out.2.2.2.2.2.1.lt).kept k0 (by omega)).kept k1 (by omega)), (((V2.out.2.2.2.2.2.2.1.later hb V2.out.2.2.2.2.2.2.1.lt).kept k0 (by omega)).kept k1 (by omega)), (((V2.out.2.2.2.2.2.2.2.1.later hb V2.out.2.2.2.2.2.2.2.1.lt).kept k0 (by omega)).kept k1 (by omega)), (((V2.out.2.2.2.2.2.2.2.2.1.later hb V2.out.2.2.2.2.2.2.2.2.1.lt).kept k0 (by omega)).kept k1 (by omega)), (((V2.out.2.2.2.2.2.2.2.2.2.later hb V2.out.2.2.2.2.2.2.2.2.2.lt).kept k0 (by omega)).kept k1 (by omega)), (b0.kept k1 (by omega)), b1⟩
    obtain ⟨gda, rfl⟩ : ∃ q, q = g6 := ⟨_, rfl⟩
    obtain ⟨gcb, rfl⟩ : ∃ q, q = g7 := ⟨_, rfl⟩
    obtain ⟨yV3, rfl⟩ : ∃ q, q = w1 := ⟨_, rfl⟩
    clear hb V2 hK b0 s0 k0 b1 s1 k1 bg6 hg6 bg7 hg7 d01
    obtain ⟨DA, EDA⟩ : ∃ z, (D * A % PR) = z := ⟨_, rfl⟩
    rw [EDA] at F_lda
    have QDA : Hid ((D * A % PR) = DA) := EDA
    have H_lda : Hid (Fe lda DA) := F_lda
    clear EDA F_lda
    obtain ⟨CB, ECB⟩ : ∃ z, (C * B % PR) = z := ⟨_, rfl⟩
    rw [ECB] at F_lcb
    have QCB : Hid ((C * B % PR) = CB) := ECB
    have H_lcb : Hid (Fe lcb CB) := F_lcb
    clear ECB F_lcb
    try simp only [Act.put, sA, sB, sC]
    go_wp2_with fail
    refine region_invP 6 ((.val (.agg (u64s la).toArray)) :: (.any (isF (A * A % PR)) (isF_later (A * A % PR))) :: (.val (.agg (u64s lb).toArray)) :: (.any (isF (B * B % PR)) (isF_later (B * B % PR))) :: (.blk 116 (u64s [0, 0, 0, 0, 0])) :: (.blk 116 (u64s [0, 0, 0, 0, 0])) :: []) (by kernel_rfl) (by kernel_rfl) (by kernel_rfl) [14, 15] ⟨.inl rfl, .inl rfl, .inl rfl, .inl rfl, .inr ⟨116, _, 5, rfl, rfl, zeroElem⟩, .inr ⟨116, _, 5, rfl, rfl, zeroElem⟩, trivial⟩ (by kernel_rfl) ?_ ?_
    ·refine Steps'.cons ?_ (Steps'.cons ?_ (Steps'.cons ?_ (Steps'.cons ?_ (Steps'.cons ?_ (Steps'.cons ?_ (Steps'.one _ _ _ _ _ _ _))))))
     ·intro ax wx hb hs hd
      have h8 : ax.tmps.getD 8 undef = (.pointer (some ⟨ga, 0, none⟩)) := hs 8 (by kernel_rfl)
      exact Does.load 116 (.tmp 8) rfl ga 0 h8 (u64s la) _ ((Blk.later V3.out.2.2.2.2.2.2.1 hb (Blk.lt V3.out.2.2.2.2.2.2.1)).whole) Tryz.underlying116 rfl (L5.out _ H_la.out.len)
     ·intro ax wx hb hs hd
      have h43 := vOf (hd 0 43 rfl (by kernel_rfl) (by decide))
      refine Does.call 128 #[(.agg (u64s la).toArray)] (by clear hs hd; go_simp) ?_
      refine (square_any _ _ H_la.out _).mono ?_
      rintro z w' ⟨r, rfl, fr, l⟩
      exact ⟨_, rfl, ⟨r, rfl, fr⟩, l⟩
     ·intro ax wx hb hs hd
      have h9 : ax.tmps.getD 9 undef = (.pointer (some ⟨gb, 0, none⟩)) := hs 9 (by kernel_rfl)
      exact Does.load 116 (.tmp 9) rfl gb 0 h9 (u64s lb) _ ((Blk.later V3.out.2.2.2.2.2.2.2.1 hb (Blk.lt V3.out.2.2.2.2.2.2.2.1)).whole) Tryz.underlying116 rfl (L5.out _ H_lb.out.len)
     ·intro ax wx hb hs hd
      have h45 := vOf (hd 2 45 rfl (by kernel_rfl) (by decide))
      refine Does.call 128 #[(.agg (u64s lb).toArray)] (by clear hs hd; go_simp) ?_
      refine (square_any _ _ H_lb.out _).mono ?_
      rintro z w' ⟨r, rfl, fr, l⟩
      exact ⟨_, rfl, ⟨r, rfl, fr⟩, l⟩
     ·intro ax wx hb hs hd
      exact Does.alloc 116 rfl 5 _ zeroElem hb.size
     ·intro ax wx hb hs hd
      exact Does.alloc 116 rfl 5 _ zeroElem hb.size
    ·intro wx hb
     refine @EndsP.val _ _ _ _ _ _ _ _ (.agg (u64s la).toArray) rfl ?_
     refine @EndsP.any _ _ _ _ _ _ _ _ (isF (A * A % PR)) (isF_later (A * A % PR)) rfl ?_
     intro v1 p1
     refine @EndsP.val _ _ _ _ _ _ _ _ (.agg (u64s lb).toArray) rfl ?_
     refine @EndsP.any _ _ _ _ _ _ _ _ (isF (B * B % PR)) (isF_later (B * B % PR)) rfl ?_
     intro v3 p3
     refine @EndsP.blk _ _ _ _ _ _ _ _ 116 (u64s [0, 0, 0, 0, 0]) rfl ?_
     intro g4 hg4 bg4
     refine @EndsP.blk _ _ _ _ _ _ _ _ 116 (u64s [0, 0, 0, 0, 0]) rfl ?_
     intro g5 hg5 bg5
     intro hD nf hn
     obtain ⟨mf, rfl⟩ : ∃ mf, nf = mf + 2 := ⟨nf - 2, by have h3 : 2 ≤ nf := hn; omega⟩
     obtain ⟨laa, rfl, F_laa⟩ := p1
     obtain ⟨lbb, rfl, F_lbb⟩ := p3
     have d01 : g4 ≠ g5 := fun e => hD 14 (by simp) 15 (by simp) (by decide) (by subst e; kernel_rfl)
     have N_laa : Hid ((u64s laa).length = 5) := by rw [u64s_length, F_laa.len]; rfl
     have N_lbb : Hid ((u64s lbb).length = 5) := by rw [u64s_length, F_lbb.len]; rfl
     clear hD hn
     simp only [Act.put, sA, sB, sC]
     refine wpAny_ready (rs := [6]) (by kernel_rfl) (by simp) (AllReady.cons rfl (fun K hK => ?_) AllReady.nil)
     rw [if_pos (by rfl)]
     refine last_store 116 (.tmp 14) (.tmp 44) rfl rfl g4 rfl 116 _ (u64s laa) rfl bg4 (by rw [N_laa.out]; rfl) (by rw [N_laa.out]; exact sizeElem) (u64s_one _) ?_
     intro w0 b0 s0 k0
     refine hK _ _ ?_
     refine wpAny_ready (rs := [7]) (by kernel_rfl) (by simp) (AllReady.cons rfl (fun K hK => ?_) AllReady.nil)
     rw [if_pos (by rfl)]
     refine last_store 116 (.tmp 15) (.tmp 46) rfl rfl g5 rfl 116 _ (u64s lbb) rfl (bg5.kept k0 (by omega)) (by rw [N_lbb.out]; rfl) (by rw [N_lbb.out]; exact sizeElem) (u64s_one _) ?_
     intro w1 b1 s1 k1
     refine hK _ _ ?_
     refine wpAny_done (by kernel_rfl) (NoPanic.normal ?_) _
     have V4 : Hid (Below w.heap.size w w1 ∧ Blk w1 w.heap.size 116 (u64s lu) ∧ Blk w1 (w.heap.size + 1) 120 (rt px pz) ∧ Blk w1 (w.heap.size + 1 + 1) 120 (rt qx qz) ∧ Blk w1 (w.heap.size + 1 + 1 + 1) 120 (rt [0, 0, 0, 0, 0] [0, 0, 0, 0, 0]) ∧ Blk w1 (w.heap.size + 1 + 1 + 1 + 1) 120 (rt [0, 0, 0, 0, 0] [0, 0, 0, 0, 0]) ∧ Blk w1 ga 116 (u64s la) ∧ Blk w1 gb 116 (u64s lb) ∧ Blk w1 gc 116 (u64s lc) ∧ Blk w1 gd 116 (u64s ld) ∧ Blk w1 gda 116 (u64s lda) ∧ Blk w1 gcb 116 (u64s lcb) ∧ Blk w1 g4 116 (u64s laa) ∧ Blk w1 g5 116 (u64s lbb)) := by
      have qb := hb.size
      have qw := V3.out.1.size
      have q0 := V3.out.2.1.lt
      have q1 := V3.out.2.2.1.lt
      have q2 := V3.out.2.2.2.1.lt
      have q3 := V3.out.2.2.2.2.1.lt
      have q4 := V3.out.2.2.2.2.2.1.lt
      have q5 := V3.out.2.2.2.2.2.2.1.lt
      have q6 := V3.out.2.2.2.2.2.2.2.1.lt
      have q7 := V3.out.2.2.2.2.2.2.2.2.1.lt
      have q8 := V3.out.2.2.2.2.2.2.2.2.2.1.lt
      have q9 := V3.out.2.2.2.2.2.2.2.2.2.2.1.lt
      have q10 := V3.out.2.2.2.2.2.2.2.2.2.2.2.lt
      exact ⟨below_kept (below_kept (below_chain V3.out.1 hb (by omega)) k0 (by omega) (fun j hj => by omega)) k1 (by omega) (fun j hj => by omega), (((V3.out.2.1.later hb V3.out.2.1.lt).kept k0 (by omega)).kept k1 (by omega)), (((V3.out.2.2.1.later hb V3.out.2.2.1.lt).kept k0 (by omega)).kept k1 (by omega)), (((V3.out.2.2.2.1.later hb V3.out.2.2.2.1.lt).kept k0 (by omega)).kept k1 (by omega)), (((V3.out.2.2.2.2.1.later hb V3.out.2.2.2.2.1.lt).kept k0 (by omega)).kept k1 (by omega)), (((V3.out.2.2.2.2.2.1.later hb V3.out.2.2.2.2.2.1.lt).kept k0 (by omega)).kept k1 (by omega)), (((V3.out.2.2.2.2.2.2.1.later hb V3.out.2.2.2.2.2.2.1.lt).kept k0 (by omega)).kept k1 (by omega)), (((V3.out.2.2.2.2.2.2.2.1.later hb V3.out.2.2.2.2.2.2.2.1.lt).kept k0 (by omega)).kept k1 (by omega)), (((V3.out.2.2.2.2.2.2.2.2.1.later hb V3.out.2.2.2.2.2.2.2.2.1.lt).kept k0 (by omega)).kept k1 (by omega)), (((V3.out.2.2.2.2.2.2.2.2.2.1.later hb V3.out.2.2.2.2.2.2.2.2.2.1.lt).kept k0 (by omega)).kept k1 (by omega)), (((V3.out.2.2.2.2.2.2.2.2.2.2.1.later hb V3.out.2.2.2.2.2.2.2.2.2.2.1.lt).kept k0 (by omega)).kept k1 (by omega)), (((V3.out.2.2.2.2.2.2.2.2.2.2.2.later hb V3.out.2.2.2.2.2.2.2.2.2.2.2.lt).kept k0 (by omega)).kept k1 (by omega)), (b0.kept k1 (by omega)), b1⟩
     obtain ⟨gaa, rfl⟩ : ∃ q, q = g4 := ⟨_, rfl⟩
     obtain ⟨gbb, rfl⟩ : ∃ q, q = g5 := ⟨_, rfl⟩
     obtain ⟨yV4, rfl⟩ : ∃ q, q = w1 := ⟨_, rfl⟩
     clear hb V3 hK b0 s0 k0 b1 s1 k1 bg4 hg4 bg5 hg5 d01
     obtain ⟨AA, EAA⟩ : ∃ z, (A * A % PR) = z := ⟨_, rfl⟩
     rw [EAA] at F_laa
     have QAA : Hid ((A * A % PR) = AA) := EAA
     have H_laa : Hid (Fe laa AA) := F_laa
     clear EAA F_laa
     obtain ⟨BB, EBB⟩ : ∃ z, (B * B % PR) = z := ⟨_, rfl⟩
     rw [EBB] at F_lbb
     have QBB : Hid ((B * B % PR) = BB) := EBB
     have H_lbb : Hid (Fe lbb BB) := F_lbb
     clear EBB F_lbb
     try simp only [Act.put, sA, sB, sC]
     have HS := sub_any laa lbb AA BB H_laa.out H_lbb.out
     go_wp2_with (first | ((with_reducible show wpList _ _ _ (({ dst := some 47, op := _, type := _, pos := _, after := _, guard := _ } : Oper) :: _) _ _); refine wpList_load_blk rfl 116 (.tmp 14) rfl gaa rfl (u64s laa) _ V4.out.2.2.2.2.2.2.2.2.2.2.2.2.1 Tryz.underlying116 rfl (L5.out _ H_laa.out.len) ?_) | ((with_reducible show wpList _ _ _ (({ dst := some 48, op := _, type := _, pos := _, after := _, guard := _ } : Oper) :: _) _ _); refine wpList_load_blk rfl 116 (.tmp 15) rfl gbb rfl (u64s lbb) _ V4.out.2.2.2.2.2.2.2.2.2.2.2.2.2 Tryz.underlying116 rfl (L5.out _ H_lbb.out.len) ?_) | (go_at_call 126; refine (HS _).mono ?_; rintro e w5 ⟨le, rfl, F_le, l5⟩) | ((with_reducible show wpList _ _ _ (({ dst := some 16, op := _, type := _, pos := _, after := _, guard := _ } : Oper) :: _) _ _); refine wpList_alloc_new rfl 116 rfl 5 _ zeroElem ?_; intro w6 b6 s6 l6) | (refine wpList_store_blk rfl 116 116 _ _ rfl _ rfl _ (u64s le) rfl b6 (by rw [u64s_length, F_le.len]; rfl) (L5.out _ F_le.len) (u64s_one _) ?_; intro w7 b7 s7 k7))
     have V5 : Hid (Below w.heap.size w w7 ∧ Blk w7 w.heap.size 116 (u64s lu) ∧ Blk w7 (w.heap.size + 1) 120 (rt px pz) ∧ Blk w7 (w.heap.size + 1 + 1) 120 (rt qx qz) ∧ Blk w7 (w.heap.size + 1 + 1 + 1) 120 (rt [0, 0, 0, 0, 0] [0, 0, 0, 0, 0]) ∧ Blk w7 (w.heap.size + 1 + 1 + 1 + 1) 120 (rt [0, 0, 0, 0, 0] [0, 0, 0, 0, 0]) ∧ Blk w7 ga 116 (u64s la) ∧ Blk w7 gb 116 (u64s lb) ∧ Blk w7 gc 116 (u64s lc) ∧ Blk w7 gd 116 (u64s ld) ∧ Blk w7 gda 116 (u64s lda) ∧ Blk w7 gcb 116 (u64s lcb) ∧ Blk w7 gaa 116 (u64s laa) ∧ Blk w7 gbb 116 (u64s lbb) ∧ Blk w7 w5.heap.size 116 (u64s le)) := by
      have q0 := V4.out.1.size
      have q1 := l5.size
      have q2 := l6.size
      exact ⟨below_kept (below_chain (below_chain V4.out.1 l5 (by omega)) l6 (by omega)) k7 (by omega) (fun j hj => by omega), (((V4.out.2.1).later l5 (V4.out.2.1).lt).later l6 (by have := (V4.out.2.1).lt; have := l5.size; omega)).kept k7 (by have := (V4.out.2.1).lt; have := l5.size; omega), (((V4.out.2.2.1).later l5 (V4.out.2.2.1).lt).later l6 (by have := (V4.out.2.2.1).lt; have := l5.size; omega)).kept k7 (by have := (V4.out.2.2.1).lt; have := l5.size; omega), (((V4.out.2.2.2.1).later l5 (V4.out.2.2.2.1).lt).later l6 (by have := (V4.out.2.2.2.1).lt; have := l5.size; omega)).kept k7 (by have := (V4.out.2.2.2.1).lt; have := l5.size; omega), (((V4.out.2.2.2.2.1).later l5 (V4.out.2.2.2.2.1).lt).later l6 (by have := (V4.out.2.2.2.2.1).lt; have := l5.size; omega)).kept k7 (by have := (V4.out.2.2.2.2.1).lt; have := l5.size; omega), (((V4.out.2.2.2.2.2.1).later l5 (V4.out.2.2.2.2.2.1).lt).later l6 (by have := (V4.out.2.2.2.2.2.1).lt; have := l5.size; omega)).kept k7 (by have := (V4.out.2.2.2.2.2.1).lt; have := l5.size; omega), (((V4.out.2.2.2.2.2.2.1).later l5 (V4.out.2.2.2.2.2.2.1).lt).later l6 (by have := (V4.out.2.2.2.2.2.2.1).lt; have := l5.size; omega)).kept k7 (by have := (V4.out.2.2.2.2.2.2.1).lt; have := l5.size; omega), (((V4.out.2.2.2.2.2.2.2.1).later l5 (V4.out.2.2.2.2.2.2.2.1).lt).later l6 (by have := (V4.out.2.2.2.2.2.2.2.1).lt; have := l5.size; omega)).kept k7 (by have := (V4.out.2.2.2.2.2.2.2.1).lt; have := l5.size; omega), (((V4.out.2.2.2.2.2.2.2.2.1).later l5 (V4.out.2.2.2.2.2.2.2.2.1).lt).later l6 (by have := (V4.out.2.2.2.2.2.2.2.2.1).lt; have := l5.size; omega)).kept k7 (by have := (V4.out.2.2.2.2.2.2.2.2.1).lt; have := l5.size; omega), (((V4.out.2.2.2.2.2.2.2.2.2.1).later l5 (V4.out.2.2.2.2.2.2.2.2.2.1).lt).later l6 (by have := (V4.out.2.2.2.2.2.2.2.2.2.1).lt; have := l5.size; omega)).kept k7 (by have := (V4.out.2.2.2.2.2.2.2.2.2.1).lt; have := l5.size; omega), (((V4.out.2.2.2.2.2.2.2.2.2.2.1).later l5 (V4.out.2.2.2.2.2.2.2.2.2.2.1).lt).later l6 (by have := (V4.out.2.2.2.2.2.2.2.2.2.2.1).lt; have := l5.size; omega)).kept k7 (by have := (V4.out.2.2.2.2.2.2.2.2.2.2.1).lt; have := l5.size; omega), (((V4.out.2.2.2.2.2.2.2.2.2.2.2.1).later l5 (V4.out.2.2.2.2.2.2.2.2.2.2.2.1).lt).later l6 (by have := (V4.out.2.2.2.2.2.2.2.2.2.2.2.1).lt; have := l5.size; omega)).kept k7 (by have := (V4.out.2.2.2.2.2.2.2.2.2.2.2.1).lt; have := l5.size; omega), (((V4.out.2.2.2.2.2.2.2.2.2.2.2.2.1).later l5 (V4.out.2.2.2.2.2.2.2.2.2.2.2.2.1).lt).later l6 (by have := (V4.out.2.2.2.2.2.2.2.2.2.2.2.2.1).lt; have := l5.size; omega)).kept k7 (by have := (V4.out.2.2.2.2.2.2.2.2.2.2.2.2.1).lt; have := l5.size; omega), (((V4.out.2.2.2.2.2.2.2.2.2.2.2.2.2).later l5 (V4.out.2.2.2.2.2.2.2.2.2.2.2.2.2).lt).later l6 (by have := (V4.out.2.2.2.2.2.2.2.2.2.2.2.2.2).lt; have := l5.size; omega)).kept k7 (by have := (V4.out.2.2.2.2.2.2.2.2.2.2.2.2.2).lt; have := l5.size; omega), b7⟩
     obtain ⟨ge, hge⟩ : ∃ q, w5.heap.size = q := ⟨_, rfl⟩
     rw [hge] at V5 ⊢
     clear b6 s6 l6 b7 s7 k7 l5 hge HS V4
     obtain ⟨E, EE⟩ : ∃ z, ((AA - BB) % PR) = z := ⟨_, rfl⟩
     rw [EE] at F_le
     have QE : Hid (((AA - BB) % PR) = E) := EE
     have H_le : Hid (Fe le E) := F_le
     clear EE F_le
     simp only [Act.put, sA, sB, sC]
     have DD_V6 : w.heap.size ≠ (w.heap.size + 1) ∧ (w.heap.size + 1 + 1) ≠ (w.heap.size + 1) ∧ (w.heap.size + 1 + 1 + 1) ≠ (w.heap.size + 1) ∧ (w.heap.size + 1 + 1 + 1 + 1) ≠ (w.heap.size + 1) ∧ ga ≠ (w.heap.size + 1) ∧ gb ≠ (w.heap.size + 1) ∧ gc ≠ (w.heap.size + 1) ∧ gd ≠ (w.heap.size + 1) ∧ gda ≠ (w.heap.size + 1) ∧ gcb ≠ (w.heap.size + 1) ∧ gaa ≠ (w.heap.size + 1) ∧ gbb ≠ (w.heap.size + 1) ∧ ge ≠ (w.heap.size + 1) := ⟨blk_ne V5.out.2.1 V5.out.2.2.1 (by decide), by omega, by omega, by omega, blk_ne V5.out.2.2.2.2.2.2.1 V5.out.2.2.1 (by decide), blk_ne V5.out.2.2.2.2.2.2.2.1 V5.out.2.2.1 (by decide), blk_ne V5.out.2.2.2.2.2.2.2.2.1 V5.out.2.2.1 (by decide), blk_ne V5.out.2.2.2.2.2.2.2.2.2.1 V5.out.2.2.1 (by decide), blk_ne V5.out.2.2.2.2.2.2.2.2.2.2.1 V5.out.2.2.1 (by decide), blk_ne V5.out.2.2.2.2.2.2.2.2.2.2.2.1 V5.out.2.2.1 (by decide), blk_ne V5.out.2.2.2.2.2.2.2.2.2.2.2.2.1 V5.out.2.2.1 (by decide), blk_ne V5.out.2.2.2.2.2.2.2.2.2.2.2.2.2.1 V5.out.2.2.1 (by decide), blk_ne V5.out.2.2.2.2.2.2.2.2.2.2.2.2.2.2 V5.out.2.2.1 (by decide)⟩
     refine region_invP 10 ((.val (.agg (u64s laa).toArray)) :: (.val (.agg (u64s lbb).toArray)) :: (.any (isF (AA * BB % PR)) (isF_later (AA * BB % PR))) :: (.val (.agg (u64s le).toArray)) :: (.val (.agg (u64s laa).toArray)) :: (.val (.agg (u64s le).toArray)) :: (.any (isF (E * 121665 % PR)) (isF_later (E * 121665 % PR))) :: (.any (isF ((AA + (E * 121665 % PR)) % PR)) (isF_later ((AA + (E * 121665 % PR)) % PR))) :: (.any (isF (E * ((AA + (E * 121665 % PR)) % PR) % PR)) (isF_later (E * ((AA + (E * 121665 % PR)) % PR) % PR))) :: (.any (isR (AA * BB % PR) (E * ((AA + (E * 121665 % PR)) % PR) % PR)) (isR_later (AA * BB % PR) (E * ((AA + (E * 121665 % PR)) % PR) % PR))) :: []) (by kernel_rfl) (by kernel_rfl) (by kernel_rfl) [] ⟨.inl rfl, .inl rfl, .inl rfl, .inl rfl, .inl rfl, .inl rfl, .inl rfl, .inl rfl, .inl rfl, .inl rfl, trivial⟩ (by kernel_rfl) ?_ ?_
     ·refine Steps'.cons ?_ (Steps'.cons ?_ (Steps'.cons ?_ (Steps'.cons ?_ (Steps'.cons ?_ (Steps'.cons ?_ (Steps'.cons ?_ (Steps'.cons ?_ (Steps'.cons ?_ (Steps'.cons ?_ (Steps'.one _ _ _ _ _ _ _))))))))))
      ·intro ax wx hb hs hd
       have h14 : ax.tmps.getD 14 undef = (.pointer (some ⟨gaa, 0, none⟩)) := hs 14 (by kernel_rfl)
       exact Does.load 116 (.tmp 14) rfl gaa 0 h14 (u64s laa) _ ((Blk.later V5.out.2.2.2.2.2.2.2.2.2.2.2.2.1 hb (Blk.lt V5.out.2.2.2.2.2.2.2.2.2.2.2.2.1)).whole) Tryz.underlying116 rfl (L5.out _ H_laa.out.len)
      ·intro ax wx hb hs hd
       have h15 : ax.tmps.getD 15 undef = (.pointer (some ⟨gbb, 0, none⟩)) := hs 15 (by kernel_rfl)
       exact Does.load 116 (.tmp 15) rfl gbb 0 h15 (u64s lbb) _ ((Blk.later V5.out.2.2.2.2.2.2.2.2.2.2.2.2.2.1 hb (Blk.lt V5.out.2.2.2.2.2.2.2.2.2.2.2.2.2.1)).whole) Tryz.underlying116 rfl (L5.out _ H_lbb.out.len)
      ·intro ax wx hb hs hd
       have h50 := vOf (hd 0 50 rfl (by kernel_rfl) (by decide))
       have h51 := vOf (hd 1 51 rfl (by kernel_rfl) (by decide))
       refine Does.call 127 #[(.agg (u64s laa).toArray), (.agg (u64s lbb).toArray)] (by clear hs hd; go_simp) ?_
       refine (mul_any _ _ _ _ H_laa.out H_lbb.out _).mono ?_
       rintro z w' ⟨r, rfl, fr, l⟩
       exact ⟨_, rfl, ⟨r, rfl, fr⟩, l⟩
      ·intro ax wx hb hs hd
       have h16 : ax.tmps.getD 16 undef = (.pointer (some ⟨ge, 0, none⟩)) := hs 16 (by kernel_rfl)
       exact Does.load 116 (.tmp 16) rfl ge 0 h16 (u64s le) _ ((Blk.later V5.out.2.2.2.2.2.2.2.2.2.2.2.2.2.2 hb (Blk.lt V5.out.2.2.2.2.2.2.2.2.2.2.2.2.2.2)).whole) Tryz.underlying116 rfl (L5.out _ H_le.out.len)
      ·intro ax wx hb hs hd
       have h14 : ax.tmps.getD 14 undef = (.pointer (some ⟨gaa, 0, none⟩)) := hs 14 (by kernel_rfl)
       exact Does.load 116 (.tmp 14) rfl gaa 0 h14 (u64s laa) _ ((Blk.later V5.out.2.2.2.2.2.2.2.2.2.2.2.2.1 hb (Blk.lt V5.out.2.2.2.2.2.2.2.2.2.2.2.2.1)).whole) Tryz.underlying116 rfl (L5.out _ H_laa.out.len)
      ·intro ax wx hb hs hd
       have h16 : ax.tmps.getD 16 undef = (.pointer (some ⟨ge, 0, none⟩)) := hs 16 (by kernel_rfl)
       exact Does.load 116 (.tmp 16) rfl ge 0 h16 (u64s le) _ ((Blk.later V5.out.2.2.2.2.2.2.2.2.2.2.2.2.2.2 hb (Blk.lt V5.out.2.2.2.2.2.2.2.2.2.2.2.2.2.2)).whole) Tryz.underlying116 rfl (L5.out _ H_le.out.len)
      ·intro ax wx hb hs hd
       have h55 := vOf (hd 5 55 rfl (by kernel_rfl) (by decide))
       refine Does.call 129 #[(.agg (u64s le).toArray), (.int .u32 121665)] (by clear hs hd; go_simp) ?_
       refine (times_any 121665 (by decide) _ _ H_le.out _).mono ?_
       rintro z w' ⟨r, rfl, fr, l⟩
       exact ⟨_, rfl, ⟨r, rfl, fr⟩, l⟩
      ·intro ax wx hb hs hd
       have h54 := vOf (hd 4 54 rfl (by kernel_rfl) (by decide))
       obtain ⟨l56, h56, f56⟩ : isF (E * 121665 % PR) (ax.tmps.getD 56 undef) wx := hd 6 56 rfl (by kernel_rfl) (by decide)
       refine Does.call 125 #[(.agg (u64s laa).toArray), (.agg (u64s l56).toArray)] (by clear hs hd; go_simp) ?_
       refine (add_any _ _ _ _ H_laa.out f56 _).mono ?_
       rintro z w' ⟨r, rfl, fr, l⟩
       exact ⟨_, rfl, ⟨r, rfl, fr⟩, l⟩
      ·intro ax wx hb hs hd
       have h53 := vOf (hd 3 53 rfl (by kernel_rfl) (by decide))
       obtain ⟨l57, h57, f57⟩ : isF ((AA + (E * 121665 % PR)) % PR) (ax.tmps.getD 57 undef) wx := hd 7 57 rfl (by kernel_rfl) (by decide)
       refine Does.call 127 #[(.agg (u64s le).toArray), (.agg (u64s l57).toArray)] (by clear hs hd; go_simp) ?_
       refine (mul_any _ _ _ _ H_le.out f57 _).mono ?_
       rintro z w' ⟨r, rfl, fr, l⟩
       exact ⟨_, rfl, ⟨r, rfl, fr⟩, l⟩
      ·intro ax wx hb hs hd
       obtain ⟨l52, h52, f52⟩ : isF (AA * BB % PR) (ax.tmps.getD 52 undef) wx := hd 2 52 rfl (by kernel_rfl) (by decide)
       obtain ⟨l58, h58, f58⟩ : isF (E * ((AA + (E * 121665 % PR)) % PR) % PR) (ax.tmps.getD 58 undef) wx := hd 8 58 rfl (by kernel_rfl) (by decide)
       exact does_rat (.tmp 52) (.tmp 58) rfl l52 l58 h52 h58 _ _ f52 f58
     ·intro wx hb
      iterate 2 refine @EndsP.val _ _ _ _ _ _ _ _ _ rfl ?_
      refine @EndsP.any _ _ _ _ _ _ _ _ (isF (AA * BB % PR)) (isF_later (AA * BB % PR)) rfl ?_
      intro v2 p2
      iterate 3 refine @EndsP.val _ _ _ _ _ _ _ _ _ rfl ?_
      refine @EndsP.any _ _ _ _ _ _ _ _ (isF (E * 121665 % PR)) (isF_later (E * 121665 % PR)) rfl ?_
      intro v6 p6
      refine @EndsP.any _ _ _ _ _ _ _ _ (isF ((AA + (E * 121665 % PR)) % PR)) (isF_later ((AA + (E * 121665 % PR)) % PR)) rfl ?_
      intro v7 p7
      refine @EndsP.any _ _ _ _ _ _ _ _ (isF (E * ((AA + (E * 121665 % PR)) % PR) % PR)) (isF_later (E * ((AA + (E * 121665 % PR)) % PR) % PR)) rfl ?_
      intro v8 p8
      refine @EndsP.any _ _ _ _ _ _ _ _ (isR (AA * BB % PR) (E * ((AA + (E * 121665 % PR)) % PR) % PR)) (isR_later (AA * BB % PR) (E * ((AA + (E * 121665 % PR)) % PR) % PR)) rfl ?_
      intro v9 p9
      intro hD nf hn
      obtain ⟨mf, rfl⟩ : ∃ mf, nf = mf + 1 := ⟨nf - 1, by have h3 : 1 ≤ nf := hn; omega⟩
      clear hD hn
      obtain ⟨rx, rz, rfl, F_rx, F_rz⟩ := p9
      simp only [Act.put, sA, sB, sC]
      refine wpAny_ready (rs := [10]) (by kernel_rfl) (by simp) (AllReady.cons rfl (fun K hK => ?_) AllReady.nil)
      rw [if_pos (by rfl)]
      refine last_store 120 (.tmp 4) (.tmp 59) rfl rfl (w.heap.size + 1) rfl 120 _ (rt rx rz) rfl (Blk.later V5.out.2.2.1 hb (Blk.lt V5.out.2.2.1)) (by rw [rt_length HL.out.2.1 HL.out.2.2.1, rt_length F_rx.len F_rz.len]) (L10.out _ _ F_rx.len F_rz.len) (rt_one _ _) ?_
      intro y6 b6 s6 k6
      refine hK _ _ ?_
      refine wpAny_done (by kernel_rfl) (NoPanic.normal ?_) _
      clear hK
      have D_ : Hid (w.heap.size ≠ (w.heap.size + 1) ∧ (w.heap.size + 1 + 1) ≠ (w.heap.size + 1) ∧ (w.heap.size + 1 + 1 + 1) ≠ (w.heap.size + 1) ∧ (w.heap.size + 1 + 1 + 1 + 1) ≠ (w.heap.size + 1) ∧ ga ≠ (w.heap.size + 1) ∧ gb ≠ (w.heap.size + 1) ∧ gc ≠ (w.heap.size + 1) ∧ gd ≠ (w.heap.size + 1) ∧ gda ≠ (w.heap.size + 1) ∧ gcb ≠ (w.heap.size + 1) ∧ gaa ≠ (w.heap.size + 1) ∧ gbb ≠ (w.heap.size + 1) ∧ ge ≠ (w.heap.size + 1)) := DD_V6
      have V6 : Hid (Below w.heap.size w y6 ∧ Blk y6 w.heap.size 116 (u64s lu) ∧ Blk y6 (w.heap.size + 1) 120 (rt rx rz) ∧ Blk y6 (w.heap.size + 1 + 1) 120 (rt qx qz) ∧ Blk y6 (w.heap.size + 1 + 1 + 1) 120 (rt [0, 0, 0, 0, 0] [0, 0, 0, 0, 0]) ∧ Blk y6 (w.heap.size + 1 + 1 + 1 + 1) 120 (rt [0, 0, 0, 0, 0] [0, 0, 0, 0, 0]) ∧ Blk y6 ga 116 (u64s la) ∧ Blk y6 gb 116 (u64s lb) ∧ Blk y6 gc 116 (u64s lc) ∧ Blk y6 gd 116 (u64s ld) ∧ Blk y6 gda 116 (u64s lda) ∧ Blk y6 gcb 116 (u64s lcb) ∧ Blk y6 gaa 116 (u64s laa) ∧ Blk y6 gbb 116 (u64s lbb) ∧ Blk y6 ge 116 (u64s le)) := ⟨below_kept (below_chain V5.out.1 hb V5.out.1.size) k6 (by have := V5.out.1.size; have := hb.size; omega) (fun j hj => by omega), (Blk.later V5.out.2.1 hb (Blk.lt V5.out.2.1)).kept k6 D_.out.1, b6, (Blk.later V5.out.2.2.2.1 hb (Blk.lt V5.out.2.2.2.1)).kept k6 D_.out.2.1, (Blk.later V5.out.2.2.2.2.1 hb (Blk.lt V5.out.2.2.2.2.1)).kept k6 D_.out.2.2.1, (Blk.later V5.out.2.2.2.2.2.1 hb (Blk.lt V5.out.2.2.2.2.2.1)).kept k6 D_.out.2.2.2.1, (Blk.later V5.out.2.2.2.2.2.2.1 hb (Blk.lt V5.out.2.2.2.2.2.2.1)).kept k6 D_.out.2.2.2.2.1, (Blk.later V5.out.2.2.2.2.2.2.2.1 hb (Blk.lt V5.out.2.2.2.2.2.2.2.1)).kept k6 D_.out.2.2.2.2.2.1, (Blk.later V5.out.2.2.2.2.2.2.2.2.1 hb (Blk.lt V5.out.2.2.2.2.2.2.2.2.1)).kept k6 D_.out.2.2.2.2.2.2.1, (Blk.later V5.out.2.2.2.2.2.2.2.2.2.1 hb (Blk.lt V5.out.2.2.2.2.2.2.2.2.2.1)).kept k6 D_.out.2.2.2.2.2.2.2.1, (Blk.later V5.out.2.2.2.2.2.2.2.2.2.2.1 hb (Blk.lt V5.out.2.2.2.2.2.2.2.2.2.2.1)).kept k6 D_.out.2.2.2.2.2.2.2.2.1, (Blk.later V5.out.2.2.2.2.2.2.2.2.2.2.2.1 hb (Blk.lt V5.out.2.2.2.2.2.2.2.2.2.2.2.1)).kept k6 D_.out.2.2.2.2.2.2.2.2.2.1, (Blk.later V5.out.2.2.2.2.2.2.2.2.2.2.2.2.1 hb (Blk.lt V5.out.2.2.2.2.2.2.2.2.2.2.2.2.1)).kept k6 D_.out.2.2.2.2.2.2.2.2.2.2.1, (Blk.later V5.out.2.2.2.2.2.2.2.2.2.2.2.2.2.1 hb (Blk.lt V5.out.2.2.2.2.2.2.2.2.2.2.2.2.2.1)).kept k6 D_.out.2.2.2.2.2.2.2.2.2.2.2.1, (Blk.later V5.out.2.2.2.2.2.2.2.2.2.2.2.2.2.2 hb (Blk.lt V5.out.2.2.2.2.2.2.2.2.2.2.2.2.2.2)).kept k6 D_.out.2.2.2.2.2.2.2.2.2.2.2.2⟩
      obtain ⟨yV6, rfl⟩ : ∃ q, q = y6 := ⟨_, rfl⟩
      clear V5 hb b6 s6 k6 D_ p2 p6 p7 p8
      have H_rx : Hid (Fe rx (AA * BB % PR)) := F_rx
      have H_rz : Hid (Fe rz (E * ((AA + (E * 121665 % PR)) % PR) % PR)) := F_rz
      clear F_rx F_rz
      clear DD_V6
      try simp only [Act.put, sA, sB, sC]
      go_wp2_with fail
      have DD_V7 : w.heap.size ≠ (w.heap.size + 1 + 1) ∧ (w.heap.size + 1) ≠ (w.heap.size + 1 + 1) ∧ (w.heap.size + 1 + 1 + 1) ≠ (w.heap.size + 1 + 1) ∧ (w.heap.size + 1 + 1 + 1 + 1) ≠ (w.heap.size + 1 + 1) ∧ ga ≠ (w.heap.size + 1 + 1) ∧ gb ≠ (w.heap.size + 1 + 1) ∧ gc ≠ (w.heap.size + 1 + 1) ∧ gd ≠ (w.heap.size + 1 + 1) ∧ gda ≠ (w.heap.size + 1 + 1) ∧ gcb ≠ (w.heap.size + 1 + 1) ∧ gaa ≠ (w.heap.size + 1 + 1) ∧ gbb ≠ (w.heap.size + 1 + 1) ∧ ge ≠ (w.heap.size + 1 + 1) := ⟨blk_ne V6.out.2.1 V6.out.2.2.2.1 (by decide), by omega, by omega, by omega, blk_ne V6.out.2.2.2.2.2.2.1 V6.out.2.2.2.1 (by decide), blk_ne V6.out.2.2.2.2.2.2.2.1 V6.out.2.2.2.1 (by decide), blk_ne V6.out.2.2.2.2.2.2.2.2.1 V6.out.2.2.2.1 (by decide), blk_ne V6.out.2.2.2.2.2.2.2.2.2.1 V6.out.2.2.2.1 (by decide), blk_ne V6.out.2.2.2.2.2.2.2.2.2.2.1 V6.out.2.2.2.1 (by decide), blk_ne V6.out.2.2.2.2.2.2.2.2.2.2.2.1 V6.out.2.2.2.1 (by decide), blk_ne V6.out.2.2.2.2.2.2.2.2.2.2.2.2.1 V6.out.2.2.2.1 (by decide), blk_ne V6.out.2.2.2.2.2.2.2.2.2.2.2.2.2.1 V6.out.2.2.2.1 (by decide), blk_ne V6.out.2.2.2.2.2.2.2.2.2.2.2.2.2.2 V6.out.2.2.2.1 (by decide)⟩
      refine region_invP 11 ((.val (.agg (u64s lda).toArray)) :: (.val (.agg (u64s lcb).toArray)) :: (.any (isF ((DA + CB) % PR)) (isF_later ((DA + CB) % PR))) :: (.any (isF (((DA + CB) % PR) * ((DA + CB) % PR) % PR)) (isF_later (((DA + CB) % PR) * ((DA + CB) % PR) % PR))) :: (.val (.agg (u64s lu).toArray)) :: (.val (.agg (u64s lda).toArray)) :: (.val (.agg (u64s lcb).toArray)) :: (.any (isF ((DA - CB) % PR)) (isF_later ((DA - CB) % PR))) :: (.any (isF (((DA - CB) % PR) * ((DA - CB) % PR) % PR)) (isF_later (((DA - CB) % PR) * ((DA - CB) % PR) % PR))) :: (.any (isF (u * (((DA - CB) % PR) * ((DA - CB) % PR) % PR) % PR)) (isF_later (u * (((DA - CB) % PR) * ((DA - CB) % PR) % PR) % PR))) :: (.any (isR (((DA + CB) % PR) * ((DA + CB) % PR) % PR) (u * (((DA - CB) % PR) * ((DA - CB) % PR) % PR) % PR)) (isR_later (((DA + CB) % PR) * ((DA + CB) % PR) % PR) (u * (((DA - CB) % PR) * ((DA - CB) % PR) % PR) % PR))) :: []) (by kernel_rfl) (by kernel_rfl) (by kernel_rfl) [] ⟨.inl rfl, .inl rfl, .inl rfl, .inl rfl, .inl rfl, .inl rfl, .inl rfl, .inl rfl, .inl rfl, .inl rfl, .inl rfl, trivial⟩ (by kernel_rfl) ?_ ?_
      ·refine Steps'.cons ?_ (Steps'.cons ?_ (Steps'.cons ?_ (Steps'.cons ?_ (Steps'.cons ?_ (Steps'.cons ?_ (Steps'.cons ?_ (Steps'.cons ?_ (Steps'.cons ?_ (Steps'.cons ?_ (Steps'.cons ?_ (Steps'.one _ _ _ _ _ _ _)))))))))))
       ·intro ax wx hb hs hd
        have h12 : ax.tmps.getD 12 undef = (.pointer (some ⟨gda, 0, none⟩)) := hs 12 (by kernel_rfl)
        exact Does.load 116 (.tmp 12) rfl gda 0 h12 (u64s lda) _ ((Blk.later V6.out.2.2.2.2.2.2.2.2.2.2.1 hb (Blk.lt V6.out.2.2.2.2.2.2.2.2.2.2.1)).whole) Tryz.underlying116 rfl (L5.out _ H_lda.out.len)
       ·intro ax wx hb hs hd
        have h13 : ax.tmps.getD 13 undef = (.pointer (some ⟨gcb, 0, none⟩)) := hs 13 (by kernel_rfl)
        exact Does.load 116 (.tmp 13) rfl gcb 0 h13 (u64s lcb) _ ((Blk.later V6.out.2.2.2.2.2.2.2.2.2.2.2.1 hb (Blk.lt V6.out.2.2.2.2.2.2.2.2.2.2.2.1)).whole) Tryz.underlying116 rfl (L5.out _ H_lcb.out.len)
       ·intro ax wx hb hs hd
        have h60 := vOf (hd 0 60 rfl (by kernel_rfl) (by decide))
        have h61 := vOf (hd 1 61 rfl (by kernel_rfl) (by decide))
        refine Does.call 125 #[(.agg (u64s lda).toArray), (.agg (u64s lcb).toArray)] (by clear hs hd; go_simp) ?_
        refine (add_any _ _ _ _ H_lda.out H_lcb.out _).mono ?_
        rintro z w' ⟨r, rfl, fr, l⟩
        exact ⟨_, rfl, ⟨r, rfl, fr⟩, l⟩
       ·intro ax wx hb hs hd
        obtain ⟨l62, h62, f62⟩ : isF ((DA + CB) % PR) (ax.tmps.getD 62 undef) wx := hd 2 62 rfl (by kernel_rfl) (by decide)
        refine Does.call 128 #[(.agg (u64s l62).toArray)] (by clear hs hd; go_simp) ?_
        refine (square_any _ _ f62 _).mono ?_
        rintro z w' ⟨r, rfl, fr, l⟩
        exact ⟨_, rfl, ⟨r, rfl, fr⟩, l⟩
       ·intro ax wx hb hs hd
        have h3 : ax.tmps.getD 3 undef = (.pointer (some ⟨w.heap.size, 0, none⟩)) := hs 3 (by kernel_rfl)
        exact Does.load 116 (.tmp 3) rfl w.heap.size 0 h3 (u64s lu) _ ((Blk.later V6.out.2.1 hb (Blk.lt V6.out.2.1)).whole) Tryz.underlying116 rfl (L5.out _ HL.out.1)
       ·intro ax wx hb hs hd
        have h12 : ax.tmps.getD 12 undef = (.pointer (some ⟨gda, 0, none⟩)) := hs 12 (by kernel_rfl)
        exact Does.load 116 (.tmp 12) rfl gda 0 h12 (u64s lda) _ ((Blk.later V6.out.2.2.2.2.2.2.2.2.2.2.1 hb (Blk.lt V6.out.2.2.2.2.2.2.2.2.2.2.1)).whole) Tryz.underlying116 rfl (L5.out _ H_lda.out.len)
       ·intro ax wx hb hs hd
        have h13 : ax.tmps.getD 13 undef = (.pointer (some ⟨gcb, 0, none⟩)) := hs 13 (by kernel_rfl)
        exact Does.load 116 (.tmp 13) rfl gcb 0 h13 (u64s lcb) _ ((Blk.later V6.out.2.2.2.2.2.2.2.2.2.2.2.1 hb (Blk.lt V6.out.2.2.2.2.2.2.2.2.2.2.2.1)).whole) Tryz.underlying116 rfl (L5.out _ H_lcb.out.len)
       ·intro ax wx hb hs hd
        have h65 := vOf (hd 5 65 rfl (by kernel_rfl) (by decide))
        have h66 := vOf (hd 6 66 rfl (by kernel_rfl) (by decide))
        refine Does.call 126 #[(.agg (u64s lda).toArray), (.agg (u64s lcb).toArray)] (by clear hs hd; go_simp) ?_
        refine (sub_any _ _ _ _ H_lda.out H_lcb.out _).mono ?_
        rintro z w' ⟨r, rfl, fr, l⟩
        exact ⟨_, rfl, ⟨r, rfl, fr⟩, l⟩
       ·intro ax wx hb hs hd
        obtain ⟨l67, h67, f67⟩ : isF ((DA - CB) % PR) (ax.tmps.getD 67 undef) wx := hd 7 67 rfl (by kernel_rfl) (by decide)
        refine Does.call 128 #[(.agg (u64s l67).toArray)] (by clear hs hd; go_simp) ?_
        refine (square_any _ _ f67 _).mono ?_
        rintro z w' ⟨r, rfl, fr, l⟩
        exact ⟨_, rfl, ⟨r, rfl, fr⟩, l⟩
       ·intro ax wx hb hs hd
        have h64 := vOf (hd 4 64 rfl (by kernel_rfl) (by decide))
        obtain ⟨l68, h68, f68⟩ : isF (((DA - CB) % PR) * ((DA - CB) % PR) % PR) (ax.tmps.getD 68 undef) wx := hd 8 68 rfl (by kernel_rfl) (by decide)
        refine Does.call 127 #[(.agg (u64s lu).toArray), (.agg (u64s l68).toArray)] (by clear hs hd; go_simp) ?_
        refine (mul_any _ _ _ _ HP.out.1 f68 _).mono ?_
        rintro z w' ⟨r, rfl, fr, l⟩
        exact ⟨_, rfl, ⟨r, rfl, fr⟩, l⟩
       ·intro ax wx hb hs hd
        obtain ⟨l63, h63, f63⟩ : isF (((DA + CB) % PR) * ((DA + CB) % PR) % PR) (ax.tmps.getD 63 undef) wx := hd 3 63 rfl (by kernel_rfl) (by decide)
        obtain ⟨l69, h69, f69⟩ : isF (u * (((DA - CB) % PR) * ((DA - CB) % PR) % PR) % PR) (ax.tmps.getD 69 undef) wx := hd 9 69 rfl (by kernel_rfl) (by decide)
        exact does_rat (.tmp 63) (.tmp 69) rfl l63 l69 h63 h69 _ _ f63 f69
      ·intro wx hb
       iterate 2 refine @EndsP.val _ _ _ _ _ _ _ _ _ rfl ?_
       refine @EndsP.any _ _ _ _ _ _ _ _ (isF ((DA + CB) % PR)) (isF_later ((DA + CB) % PR)) rfl ?_
       intro v2 p2
       refine @EndsP.any _ _ _ _ _ _ _ _ (isF (((DA + CB) % PR) * ((DA + CB) % PR) % PR)) (isF_later (((DA + CB) % PR) * ((DA + CB) % PR) % PR)) rfl ?_
       intro v3 p3
       iterate 3 refine @EndsP.val _ _ _ _ _ _ _ _ _ rfl ?_
       refine @EndsP.any _ _ _ _ _ _ _ _ (isF ((DA - CB) % PR)) (isF_later ((DA - CB) % PR)) rfl ?_
       intro v7 p7
       refine @EndsP.any _ _ _ _ _ _ _ _ (isF (((DA - CB) % PR) * ((DA - CB) % PR) % PR)) (isF_later (((DA - CB) % PR) * ((DA - CB) % PR) % PR)) rfl ?_
       intro v8 p8
       refine @EndsP.any _ _ _ _ _ _ _ _ (isF (u * (((DA - CB) % PR) * ((DA - CB) % PR) % PR) % PR)) (isF_later (u * (((DA - CB) % PR) * ((DA - CB) % PR) % PR) % PR)) rfl ?_
       intro v9 p9
       refine @EndsP.any _ _ _ _ _ _ _ _ (isR (((DA + CB) % PR) * ((DA + CB) % PR) % PR) (u * (((DA - CB) % PR) * ((DA - CB) % PR) % PR) % PR)) (isR_later (((DA + CB) % PR) * ((DA + CB) % PR) % PR) (u * (((DA - CB) % PR) * ((DA - CB) % PR) % PR) % PR)) rfl ?_
       intro v10 p10
       intro hD nf hn
       obtain ⟨mf, rfl⟩ : ∃ mf, nf = mf + 1 := ⟨nf - 1, by have h3 : 1 ≤ nf := hn; omega⟩
       clear hD hn
       obtain ⟨sx, sz, rfl, F_sx, F_sz⟩ := p10
       simp only [Act.put, sA, sB, sC]
       refine wpAny_ready (rs := [11]) (by kernel_rfl) (by simp) (AllReady.cons rfl (fun K hK => ?_) AllReady.nil)
       rw [if_pos (by rfl)]
       refine last_store 120 (.tmp 5) (.tmp 70) rfl rfl (w.heap.size + 1 + 1) rfl 120 _ (rt sx sz) rfl (Blk.later V6.out.2.2.2.1 hb (Blk.lt V6.out.2.2.2.1)) (by rw [rt_length HL.out.2.2.2.1 HL.out.2.2.2.2, rt_length F_sx.len F_sz.len]) (L10.out _ _ F_sx.len F_sz.len) (rt_one _ _) ?_
       intro y6 b6 s6 k6
       refine hK _ _ ?_
       refine wpAny_done (by kernel_rfl) (NoPanic.normal ?_) _
       clear hK
       have D_ : Hid (w.heap.size ≠ (w.heap.size + 1 + 1) ∧ (w.heap.size + 1) ≠ (w.heap.size + 1 + 1) ∧ (w.heap.size + 1 + 1 + 1) ≠ (w.heap.size + 1 + 1) ∧ (w.heap.size + 1 + 1 + 1 + 1) ≠ (w.heap.size + 1 + 1) ∧ ga ≠ (w.heap.size + 1 + 1) ∧ gb ≠ (w.heap.size + 1 + 1) ∧ gc ≠ (w.heap.size + 1 + 1) ∧ gd ≠ (w.heap.size + 1 + 1) ∧ gda ≠ (w.heap.size + 1 + 1) ∧ gcb ≠ (w.heap.size + 1 + 1) ∧ gaa ≠ (w.heap.size + 1 + 1) ∧ gbb ≠ (w.heap.size + 1 + 1) ∧ ge ≠ (w.heap.size + 1 + 1)) := DD_V7
       have V7 : Hid (Below w.heap.size w y6 ∧ Blk y6 w.heap.size 116 (u64s lu) ∧ Blk y6 (w.heap.size + 1) 120 (rt rx rz) ∧ Blk y6 (w.heap.size + 1 + 1) 120 (rt sx sz) ∧ Blk y6 (w.heap.size + 1 + 1 + 1) 120 (rt [0, 0, 0, 0, 0] [0, 0, 0, 0, 0]) ∧ Blk y6 (w.heap.size + 1 + 1 + 1 + 1) 120 (rt [0, 0, 0, 0, 0] [0, 0, 0, 0, 0]) ∧ Blk y6 ga 116 (u64s la) ∧ Blk y6 gb 116 (u64s lb) ∧ Blk y6 gc 116 (u64s lc) ∧ Blk y6 gd 116 (u64s ld) ∧ Blk y6 gda 116 (u64s lda) ∧ Blk y6 gcb 116 (u64s lcb) ∧ Blk y6 gaa 116 (u64s laa) ∧ Blk y6 gbb 116 (u64s lbb) ∧ Blk y6 ge 116 (u64s le)) := ⟨below_kept (below_chain V6.out.1 hb V6.out.1.size) k6 (by have := V6.out.1.size; have := hb.size; omega) (fun j hj => by omega), (Blk.later V6.out.2.1 hb (Blk.lt V6.out.2.1)).kept k6 D_.out.1, (Blk.later V6.out.2.2.1 hb (Blk.lt V6.out.2.2.1)).kept k6 D_.out.2.1, b6, (Blk.later V6.out.2.2.2.2.1 hb (Blk.lt V6.out.2.2.2.2.1)).kept k6 D_.out.2.2.1, (Blk.later V6.out.2.2.2.2.2.1 hb (Blk.lt V6.out.2.2.2.2.2.1)).kept k6 D_.out.2.2.2.1, (Blk.later V6.out.2.2.2.2.2.2.1 hb (Blk.lt V6.out.2.2.2.2.2.2.1)).kept k6 D_.out.2.2.2.2.1, (Blk.later V6.out.2.2.2.2.2.2.2.1 hb (Blk.lt V6.out.2.2.2.2.2.2.2.1)).kept k6 D_.out.2.2.2.2.2.1, (Blk.later V6.out.2.2.2.2.2.2.2.2.1 hb (Blk.lt V6.out.2.2.2.2.2.2.2.2.1)).kept k6 D_.out.2.2.2.2.2.2.1, (Blk.later V6.out.2.2.2.2.2.2.2.2.2.1 hb (Blk.lt V6.out.2.2.2.2.2.2.2.2.2.1)).kept k6 D_.out.2.2.2.2.2.2.2.1, (Blk.later V6.out.2.2.2.2.2.2.2.2.2.2.1 hb (Blk.lt V6.out.2.2.2.2.2.2.2.2.2.2.1)).kept k6 D_.out.2.2.2.2.2.2.2.2.1, (Blk.later V6.out.2.2.2.2.2.2.2.2.2.2.2.1 hb (Blk.lt V6.out.2.2.2.2.2.2.2.2.2.2.2.1)).kept k6 D_.out.2.2.2.2.2.2.2.2.2.1, (Blk.later V6.out.2.2.2.2.2.2.2.2.2.2.2.2.1 hb (Blk.lt V6.out.2.2.2.2.2.2.2.2.2.2.2.2.1)).kept k6 D_.out.2.2.2.2.2.2.2.2.2.2.1, (Blk.later V6.out.2.2.2.2.2.2.2.2.2.2.2.2.2.1 hb (Blk.lt V6.out.2.2.2.2.2.2.2.2.2.2.2.2.2.1)).kept k6 D_.out.2.2.2.2.2.2.2.2.2.2.2.1, (Blk.later V6.out.2.2.2.2.2.2.2.2.2.2.2.2.2.2 hb (Blk.lt V6.out.2.2.2.2.2.2.2.2.2.2.2.2.2.2)).kept k6 D_.out.2.2.2.2.2.2.2.2.2.2.2.2⟩
       obtain ⟨yV7, rfl⟩ : ∃ q, q = y6 := ⟨_, rfl⟩
       clear V6 hb b6 s6 k6 D_ p2 p3 p7 p8 p9
       have H_sx : Hid (Fe sx (((DA + CB) % PR) * ((DA + CB) % PR) % PR)) := F_sx
       have H_sz : Hid (Fe sz (u * (((DA - CB) % PR) * ((DA - CB) % PR) % PR) % PR)) := F_sz
       clear F_sx F_sz
       clear DD_V7
       try simp only [Act.put, sA, sB, sC]
       go_wp2_with fail
       refine wp_region_noPanic (wp_region_held_drew (S := fun W => Blk W (w.heap.size + 1) 120 (rt rx rz) ∧ Blk W (w.heap.size + 1 + 1) 120 (rt sx sz)) (by kernel_rfl) ⟨(V7.out.2.2.1).drew, (V7.out.2.2.2.1).drew⟩ (fun hH => ?_))
       refine hLoad 0 (some 71) (rt rx rz) rfl rfl (by kernel_rfl) (by kernel_rfl) (by kernel_rfl) (fun _ _ _ h => h) (by rfl) 120 (.tmp 4) rfl (w.heap.size + 1) 0 rfl _ (fun _ h => (h.1).whole) Tryz.underlying120 rfl (L10.out _ _ H_rx.out.len H_rz.out.len) hH ?_
       simp only [Act.put, sA, sB, sC]
       refine hLoad 1 (some 72) (rt sx sz) rfl rfl (by kernel_rfl) (by kernel_rfl) (by kernel_rfl) (fun _ _ _ h => h) (by rfl) 120 (.tmp 5) rfl (w.heap.size + 1 + 1) 0 rfl _ (fun _ h => (h.2).whole) Tryz.underlying120 rfl (L10.out _ _ H_sx.out.len H_sz.out.len) hH ?_
       simp only [Act.put, sA, sB, sC]
       refine wpAnyH_ready (rs := [2]) (by kernel_rfl) (by simp) (AllReadyH.cons rfl (fun K hK => ?_) AllReadyH.nil)
       rw [if_pos (by rfl)]
       refine last_store 120 (.tmp 6) (.tmp 71) rfl rfl (w.heap.size + 1 + 1 + 1) rfl 120 _ (rt rx rz) rfl (V7.out.2.2.2.2.1).drew (by rw [rt_length H_rx.out.len H_rz.out.len]; rfl) (L10.out _ _ H_rx.out.len H_rz.out.len) (rt_one _ _) ?_
       intro y0 b0 s0 k0
       refine hK.out _ _ ⟨(hH.1).kept k0 (by omega), (hH.2).kept k0 (by omega)⟩ (fun hH => ?_)
       clear hK K
       refine wpAnyH_ready (rs := [3]) (by kernel_rfl) (by simp) (AllReadyH.cons rfl (fun K hK => ?_) AllReadyH.nil)
       rw [if_pos (by rfl)]
       refine last_store 120 (.tmp 7) (.tmp 72) rfl rfl (w.heap.size + 1 + 1 + 1 + 1) rfl 120 _ (rt sx sz) rfl ((V7.out.2.2.2.2.2.1).drew.kept k0 (by omega)) (by rw [rt_length H_sx.out.len H_sz.out.len]; rfl) (L10.out _ _ H_sx.out.len H_sz.out.len) (rt_one _ _) ?_
       intro y1 b1 s1 k1
       refine hK.out _ _ ⟨(hH.1).kept k1 (by omega), (hH.2).kept k1 (by omega)⟩ (fun hH => ?_)
       clear hK K
       refine wpAnyH_done (by kernel_rfl) (NoPanic.normal ?_) _
       clear hH
       go_wp2_with fail
       have q2 := V7.out.1.size
       exact ret_blk2 rfl (w.heap.size + 1 + 1 + 1) (w.heap.size + 1 + 1 + 1 + 1) (rt rx rz) (rt sx sz) _ _ rfl rfl (b0.kept k1 (by omega)) b1 Tryz.underlying120 Tryz.underlying120 rfl rfl (L10.out _ _ H_rx.out.len H_rz.out.len) (L10.out _ _ H_sx.out.len H_sz.out.len) rfl ⟨rx, rz, sx, sz, rfl, by
        have t1 := H_rx.out
        have t2 := H_rz.out
        have t3 := H_sx.out
        have t4 := H_sz.out
        rw [← QE.out, ← QAA.out, ← QBB.out, ← QA.out, ← QB.out] at t2
        rw [← QAA.out, ← QBB.out, ← QA.out, ← QB.out] at t1
        rw [← QDA.out, ← QCB.out, ← QA.out, ← QB.out, ← QC.out, ← QD.out] at t3 t4
        exact ⟨t1, t2, t3, t4⟩, below_kept (below_kept (below_dn V7.out.1 1) k0 q2 (fun j hj => by omega)) k1 (by rw [s0]; exact q2) (fun j hj => by omega)⟩
def swI (b : Bool) (s : Int × Int × Int × Int) : Int × Int × Int × Int := if b then (s.2.2.1, s.2.2.2, s.1, s.2.1) else s
theorem swI_step (u : Int) (b : Bool) (s : Int × Int × Int × Int) : stI u (swI b s).1 (swI b s).2.1 (swI b s).2.2.1 (swI b s).2.2.2 = swI b (bstI u b s) := by
 cases b <;> rfl
theorem swI_swI (a b : Bool) (s : Int × Int × Int × Int) : swI (a != b) (swI a s) = swI b s := by
 cases a <;> cases b <;> rfl
structure Fe4 (a b c d : List Int) (s : Int × Int × Int × Int) : Prop where
 a : Fe a s.1
 b : Fe b s.2.1
 c : Fe c s.2.2.1
 d : Fe d s.2.2.2
theorem xor_par (x y : Int) (hx : Word x) (hy : Word y) : Word (bits .xor .u64 x y) ∧ (bits .xor .u64 x y % 2 == 1) = ((x % 2 == 1) != (y % 2 == 1)) := by
 rw [u64_xor x y hx.1 hx.2 hy.1 hy.2]
 have h1 : x.toNat < 2 ^ 64 := by have := hx.2; have := hx.1; omega
 have h2 : y.toNat < 2 ^ 64 := by have := hy.2; have := hy.1; omega
 have h3 := Nat.xor_lt_two_pow h1 h2
 have h4 : (x.toNat ^^^ y.toNat) % 2 = (x.toNat + y.toNat) % 2 := by
  have h := Nat.testBit_xor x.toNat y.toNat 0
  rw [Nat.testBit_zero, Nat.testBit_zero, Nat.testBit_zero] at h
  rcases Nat.mod_two_eq_zero_or_one x.toNat with q | q <;> rcases Nat.mod_two_eq_zero_or_one y.toNat with r | r <;> rcases Nat.mod_two_eq_zero_or_one (x.toNat ^^^ y.toNat) with s | s <;> rw [Nat.add_mod, q, r, s] <;> rw [q, r, s] at h <;> first | rfl | (exfalso; revert h; decide)
 generalize x.toNat ^^^ y.toNat = z at *
 refine ⟨⟨by omega, by omega⟩, ?_⟩
 obtain ⟨a, rfl⟩ := Int.eq_ofNat_of_zero_le hx.1
 obtain ⟨b, rfl⟩ := Int.eq_ofNat_of_zero_le hy.1
 simp only [Int.toNat_natCast] at h4
 have e : ∀ n : Nat, ((n : Int) % 2 == 1) = (n % 2 == 1) := fun n => by
  rcases Nat.mod_two_eq_zero_or_one n with q | q
  ·rw [q, show (n : Int) % 2 = 0 by omega]; rfl
  ·rw [q, show (n : Int) % 2 = 1 by omega]; rfl
 rw [e, e, e, h4]
 rcases Nat.mod_two_eq_zero_or_one a with q | q <;> rcases Nat.mod_two_eq_zero_or_one b with r | r <;> rw [q, r, Nat.add_mod, q, r] <;> rfl
theorem clampL_bytes (ks : List Int) (hb : Bytes ks) (hl : ks.length = 32) : Bytes (clampL ks) := by
 have h0 := hb.at 0 (by omega)
 have h1 := hb.at 31 (by omega)
 intro z hz
 unfold clampL at hz
 rcases List.mem_or_eq_of_mem_set hz with h | h
 ·rcases List.mem_or_eq_of_mem_set h with h | h
  ·exact hb z h
  ·omega
 ·omega
theorem le_cons (a : Int) (l : List Int) : le (a :: l) = a + 256 * le l := rfl
theorem ends (ks : List Int) (hl : ks.length = 32) : ∃ a m z, ks = a :: (m ++ [z]) ∧ m.length = 30 := by
 match ks, hl with
 | a :: l, h =>
  have h1 : l.length = 31 := by simpa using h
  refine ⟨a, l.take 30, l.getD 30 0, ?_, by simp [h1]⟩
  have e : l = l.take 30 ++ l.drop 30 := (List.take_append_drop 30 l).symm
  have e2 : l.drop 30 = [l.getD 30 0] := by
   have h2 : (l.drop 30).length = 1 := by simp [h1]
   match hd : l.drop 30, h2 with
   | [z], _ =>
    have : l[30]? = some z := by rw [show (30 : Nat) = 30 + 0 from rfl, ← List.getElem?_drop, hd]; rfl
    simp [List.getD, this]
  rw [← e2, ← e]
theorem clamp_ends (a z : Int) (m : List Int) (hm : m.length = 30) : clampL (a :: (m ++ [z])) = (a - a % 8) :: (m ++ [z % 64 + 64]) := by
 unfold clampL
 have e : (a :: (m ++ [z])).getD 31 0 = z := by
  simp [List.getD, List.getElem?_append_right, hm]
 rw [e]
 show ((a - a % 8) :: (m ++ [z])).set 31 (z % 64 + 64) = _
 rw [List.set_cons_succ, List.set_append_right _ _ (by omega), hm]
 rfl
theorem le_last (m : List Int) (z : Int) : le (m ++ [z]) = le m + 256 ^ m.length * z := by
 induction m with
 | nil => show z + 256 * 0 = 0 + 256 ^ 0 * z; rw [Int.pow_zero]; omega
 | cons a m ih =>
  show a + 256 * le (m ++ [z]) = a + 256 * le m + 256 ^ (m.length + 1) * z
  rw [ih, Int.mul_add, Int.pow_succ, Int.mul_comm (256 ^ m.length) 256, Int.mul_assoc]; omega
theorem le_ends (a z : Int) (m : List Int) (hm : m.length = 30) : le (a :: (m ++ [z])) = a + 256 * le m + 452312848583266388373324160190187140051835877600158453279131187530910662656 * z := by
 rw [le_cons, le_last, hm, Int.mul_add, ← Int.mul_assoc]
 rw [show (256 : Int) * 256 ^ 30 = 452312848583266388373324160190187140051835877600158453279131187530910662656 by decide]; omega
theorem cl_of (ks : List Int) (hl : ks.length = 32) (hb : Bytes ks) : EC.Cl (le (clampL ks)).toNat := by
 obtain ⟨a, m, z, rfl, hm⟩ := ends ks hl
 have ha := hb a (by simp)
 have hz := hb z (by simp)
 have hmb : Bytes m := fun y hy => hb y (by simp [hy])
 have h1 := le_bd m hmb
 rw [hm, show (256 : Int) ^ 30 = 1766847064778384329583297500742918515827483896875618958121606201292619776 by decide] at h1
 rw [clamp_ends a z m hm, le_ends _ _ m hm]
 generalize le m = L at *
 refine ⟨?_, ?_, ?_⟩
 ·rw [show (2 : Nat) ^ 255 = 57896044618658097711785492504343953926634992332820282019728792003956564819968 by decide]; omega
 ·rw [show (2 : Nat) ^ 254 = 28948022309329048855892746252171976963317496166410141009864396001978282409984 by decide]; omega
 ·omega
def pubN (us : List Int) : Int := le us % 57896044618658097711785492504343953926634992332820282019728792003956564819968 % PR
def prodN (ks us : List Int) : Int := mulI (le (clampL ks)).toNat (pubN us)
def prodL (ks us : List Int) : List Int := leB 32 (prodN ks us)
theorem prodN_bd (ks us : List Int) : 0 ≤ prodN ks us ∧ prodN ks us < PR := mulI_bd _ _
theorem pub_leB (x : Int) (h : 0 ≤ x ∧ x < PR) : pubN (leB 32 x) = x := by
 unfold pubN
 rw [le_leB, show (256 : Int) ^ 32 = 115792089237316195423570985008687907853269984665640564039457584007913129639936 by decide]
 unfold PR at *
 omega
theorem pub_prod (ks us : List Int) : pubN (prodL ks us) = prodN ks us := pub_leB _ (prodN_bd _ _)
theorem prodL_length (ks us : List Int) : (prodL ks us).length = 32 := leB_length _ _
theorem prodL_bytes (ks us : List Int) : Bytes (prodL ks us) := leB_bytes _ _
theorem tb_of (n m : Nat) : n.testBit m = (((n / 2 ^ m % 2 : Nat) : Int) == 1) := by
 rw [Nat.testBit_eq_decide_div_mod_eq]
 rcases Nat.mod_two_eq_zero_or_one (n / 2 ^ m) with q | q <;> rw [q] <;> rfl
end Go.Proofs.YthlbjkfjkggdoaaGreatDoor
