/- Layer ladder: ratios (two numbers in a struct), swap, key. -/
import Derived.Test.YtnifolefhelmcaaLdSwap
import Derived.Test.YtnifolefhelmcaaLdClamp
import Derived.Test.YtnifolefhelmcaaFInv
import Derived.Test.YtnifolefhelmcaaFAwake
namespace Go.Proofs.Ytnifolefhelmcaa
open Go.RowKit
set_option linter.unusedVariables false
set_option linter.unusedSimpArgs false

/-- A ratio's cells. -/
def rt (a b : List Int) : List Value := u64s a ++ u64s b
theorem rt_length {a b : List Int} (ha : a.length = 5) (hb : b.length = 5) : (rt a b).length = 10 := by simp [rt, u64s_length, ha, hb]
theorem rt_one (a b : List Int) : ∀ v ∈ rt a b, v.oneCell' = true := fun v hv => by
  rcases List.mem_append.1 hv with h | h
  · exact u64s_one _ v h
  · exact u64s_one _ v h
theorem sizeRatio : (Try.prog.info? 103).map (·.size) = some 10 := by kernel_rfl
theorem zeroRatio : (Try.prog.info? 103).map (fun i => (i.zero, i.size)) = some (some (.agg (rt [0, 0, 0, 0, 0] [0, 0, 0, 0, 0]).toArray), 10) := by kernel_rfl
theorem Blk.fst {w : World} {g : Nat} {t : TypeId} {a b : List Int} (h : Blk w g t (rt a b)) : w.rangeAt g 0 (u64s a) := Blk.range (xs := []) (ys := u64s a) (zs := u64s b) h
theorem Blk.snd {w : World} {g : Nat} {t : TypeId} {a b : List Int} (h : Blk w g t (rt a b)) (ha : a.length = 5) : w.rangeAt g 5 (u64s b) := by
  have := Blk.range (xs := u64s a) (ys := u64s b) (zs := []) (by rw [List.append_nil]; exact h)
  rwa [u64s_length, ha] at this
theorem wpList_store_fst {ops : Array Oper} {rest : List Oper} {o : Oper} {a : Act} {Q : Exit → Act → World → Prop} {w : World} (hgd : o.guard = none) (x y : Operand) (ho : o.op = .store 27 x y) (g : Nat) (hx : a.eval x = .pointer (some ⟨g, 0, none⟩))
    (p q r : List Int) (hy : a.eval y = .agg (u64s r).toArray) (hb : Blk w g 103 (rt p q)) (hp : p.length = 5) (hr : r.length = 5)
    (h : ∀ w', Blk w' g 103 (rt r q) → w'.heap.size = w.heap.size → Kept (fun k => k = g) w w' → wpList Try.prog ops Q rest (a.put o.dst undef) w') : wpList Try.prog ops Q (o :: rest) a w := by
  refine wpList_store_mid hgd 27 x y ho g 0 (u64s r).toArray hx hy (hb.there (by simp [rt, u64s_length, hp, hr])) (by simpa [u64s_length, hr] using sizeElem) (all_oneCell_toArray (u64s_one _)) (h _ ?_ (setCells_size ..) ((Kept.refl _ _).setCells (S := fun k => k = g) rfl _ _))
  exact Blk.setCells (xs := []) (zs := u64s q) (u64s r) (u64s p) (by rw [u64s_length, u64s_length, hp, hr]) hb
theorem wpList_store_snd {ops : Array Oper} {rest : List Oper} {o : Oper} {a : Act} {Q : Exit → Act → World → Prop} {w : World} (hgd : o.guard = none) (x y : Operand) (ho : o.op = .store 27 x y) (g : Nat) (hx : a.eval x = .pointer (some ⟨g, 5, none⟩))
    (p q r : List Int) (hy : a.eval y = .agg (u64s r).toArray) (hb : Blk w g 103 (rt p q)) (hp : p.length = 5) (hq : q.length = 5) (hr : r.length = 5)
    (h : ∀ w', Blk w' g 103 (rt p r) → w'.heap.size = w.heap.size → Kept (fun k => k = g) w w' → wpList Try.prog ops Q rest (a.put o.dst undef) w') : wpList Try.prog ops Q (o :: rest) a w := by
  refine wpList_store_mid hgd 27 x y ho g 5 (u64s r).toArray hx hy (hb.there (by simp [rt, u64s_length, hp, hq, hr])) (by simpa [u64s_length, hr] using sizeElem) (all_oneCell_toArray (u64s_one _)) (h _ ?_ (setCells_size ..) ((Kept.refl _ _).setCells (S := fun k => k = g) rfl _ _))
  have := Blk.setCells (xs := u64s p) (zs := []) (u64s r) (u64s q) (by rw [u64s_length, u64s_length, hq, hr]) (by rw [List.append_nil]; exact hb)
  rw [List.append_nil, u64s_length, hp] at this
  exact this
set_option maxRecDepth 20000 in
set_option maxHeartbeats 2000000 in
theorem lswap_any (n : Int) (hn : Word n) (px pz qx qz : List Int) (x2 z2 x3 z3 : Int) (h1 : Fe px x2) (h2 : Fe pz z2) (h3 : Fe qx x3) (h4 : Fe qz z3) (w : World) :
    Calls Try.prog 72 #[.int .u64 n, .agg (rt px pz).toArray, .agg (rt qx qz).toArray] w fun e w' => e = .returned (.tuple #[.agg (bif n % 2 == 1 then rt qx qz else rt px pz).toArray, .agg (bif n % 2 == 1 then rt px pz else rt qx qz).toArray]) ∧ Below w.heap.size w w' := by
  have HX := fswap_any n hn px qx x2 x3 h1 h3
  have HZ := fswap_any n hn pz qz z2 z3 h2 h4
  obtain ⟨c, hc⟩ : ∃ c, (n % 2 == 1) = c := ⟨_, rfl⟩
  rw [hc] at HX HZ ⊢
  have q1 : (bif c then rt qx qz else rt px pz) = rt (bif c then qx else px) (bif c then qz else pz) := by cases c <;> rfl
  have q2 : (bif c then rt px pz else rt qx qz) = rt (bif c then px else qx) (bif c then pz else qz) := by cases c <;> rfl
  rw [q1, q2]
  have l1 : (bif c then qx else px).length = 5 := by cases c; exact h1.len; exact h3.len
  have l2 : (bif c then qz else pz).length = 5 := by cases c; exact h2.len; exact h4.len
  have l3 : (bif c then px else qx).length = 5 := by cases c; exact h3.len; exact h1.len
  have l4 : (bif c then pz else qz).length = 5 := by cases c; exact h4.len; exact h2.len
  generalize (bif c then qx else px) = ax at *
  generalize (bif c then qz else pz) = az at *
  generalize (bif c then px else qx) = bx at *
  generalize (bif c then pz else qz) = bz at *
  have HL : Hid ((px.length = 5 ∧ pz.length = 5 ∧ qx.length = 5 ∧ qz.length = 5) ∧ (ax.length = 5 ∧ az.length = 5 ∧ bx.length = 5 ∧ bz.length = 5)) := ⟨⟨h1.len, h2.len, h3.len, h4.len⟩, l1, l2, l3, l4⟩
  have L5 : Hid (∀ l : List Int, l.length = 5 → (Try.prog.info? 27).map (·.size) = some (u64s l).length) := fun l h => by rw [u64s_length, h]; exact sizeElem
  have L10 : Hid (∀ a b : List Int, a.length = 5 → b.length = 5 → (Try.prog.info? 103).map (·.size) = some (rt a b).length) := fun a b ha hb => by rw [rt_length ha hb]; exact sizeRatio
  clear h1 h2 h3 h4 l1 l2 l3 l4 q1 q2 hc hn
  go_enter Try.func72, Try.ntmps72
  go_wp2_with (first | ((with_reducible show wpList _ _ _ ({ dst := some 11, op := _, type := _, pos := _, after := _, guard := _ } :: _) _ _); refine Hid.out ?_) | (refine wpList_box_new rfl 103 (.tmp 1) rfl (rt px pz) rfl ?_; intro w1 z1 s1 l1) | (refine wpList_box_new rfl 103 (.tmp 2) rfl (rt qx qz) rfl ?_; intro w2 z2 s2 l2) | ((with_reducible show wpList _ _ _ (({ dst := some 6, op := _, type := _, pos := _, after := _, guard := _ } : Oper) :: _) _ _); refine wpList_alloc_new rfl 103 rfl 10 _ zeroRatio ?_; intro w3 z3 s3 l3) | ((with_reducible show wpList _ _ _ (({ dst := some 7, op := _, type := _, pos := _, after := _, guard := _ } : Oper) :: _) _ _); refine wpList_alloc_new rfl 103 rfl 10 _ zeroRatio ?_; intro w4 z4 s4 l4))
  have e2 : w1.heap.size = w.heap.size + 1 := s1
  have e3 : w2.heap.size = w.heap.size + 1 + 1 := by omega
  have e4 : w3.heap.size = w.heap.size + 1 + 1 + 1 := by omega
  rw [e2] at z2
  rw [e3] at z3
  rw [e4] at z4
  have V : Hid (Below w.heap.size w w4 ∧ Blk w4 w.heap.size 103 (rt px pz) ∧ Blk w4 (w.heap.size + 1) 103 (rt qx qz) ∧ Blk w4 (w.heap.size + 1 + 1) 103 (rt [0, 0, 0, 0, 0] [0, 0, 0, 0, 0]) ∧ Blk w4 (w.heap.size + 1 + 1 + 1) 103 (rt [0, 0, 0, 0, 0] [0, 0, 0, 0, 0])) := ⟨below_chain (below_chain (below_chain l1 l2 (by omega)) l3 (by omega)) l4 (by omega), ((z1.later l2 (by omega)).later l3 (by omega)).later l4 (by omega), (z2.later l3 (by omega)).later l4 (by omega), z3.later l4 (by omega), z4⟩
  clear z1 s1 l1 z2 s2 l2 z3 s3 l3 z4 s4 l4 e2 e3 e4
  change wpList _ _ _ _ _ _
  go_wp2_with (first | ((with_reducible show wpList _ _ _ ({ dst := some 22, op := _, type := _, pos := _, after := _, guard := _ } :: _) _ _); refine Hid.out ?_) | ((with_reducible show wpList _ _ _ (({ dst := some 11, op := _, type := _, pos := _, after := _, guard := _ } : Oper) :: _) _ _); refine wpList_load_mid rfl 27 (.tmp 10) rfl w.heap.size 0 rfl (u64s px) _ V.out.2.1.fst Try.underlying27 rfl (L5.out _ HL.out.1.1) ?_) | ((with_reducible show wpList _ _ _ (({ dst := some 13, op := _, type := _, pos := _, after := _, guard := _ } : Oper) :: _) _ _); refine wpList_load_mid rfl 27 (.tmp 12) rfl (w.heap.size + 1) 0 rfl (u64s qx) _ V.out.2.2.1.fst Try.underlying27 rfl (L5.out _ HL.out.1.2.2.1) ?_) | (go_at_call 27; refine (HX _).mono ?_; rintro e w5 ⟨rfl, l5⟩; have V5 : Hid (Below w.heap.size w w5 ∧ Blk w5 w.heap.size 103 (rt px pz) ∧ Blk w5 (w.heap.size + 1) 103 (rt qx qz) ∧ Blk w5 (w.heap.size + 1 + 1) 103 (rt [0, 0, 0, 0, 0] [0, 0, 0, 0, 0]) ∧ Blk w5 (w.heap.size + 1 + 1 + 1) 103 (rt [0, 0, 0, 0, 0] [0, 0, 0, 0, 0])) := ⟨below_chain V.out.1 l5 V.out.1.size, V.out.2.1.later l5 V.out.2.1.lt, V.out.2.2.1.later l5 V.out.2.2.1.lt, V.out.2.2.2.1.later l5 V.out.2.2.2.1.lt, V.out.2.2.2.2.later l5 V.out.2.2.2.2.lt⟩; clear l5) | (refine wpList_store_fst rfl (.tmp 17) (.tmp 15) rfl w.heap.size rfl px pz ax rfl V5.out.2.1 HL.out.1.1 HL.out.2.1 ?_; intro w6 b6 s6 k6) | (refine wpList_store_fst rfl (.tmp 18) (.tmp 16) rfl (w.heap.size + 1) rfl qx qz bx rfl (V5.out.2.2.1.kept k6 (by omega)) HL.out.1.2.2.1 HL.out.2.2.2.1 ?_; intro w7 b7 s7 k7))
  have V7 : Hid (Below w.heap.size w w7 ∧ Blk w7 w.heap.size 103 (rt ax pz) ∧ Blk w7 (w.heap.size + 1) 103 (rt bx qz) ∧ Blk w7 (w.heap.size + 1 + 1) 103 (rt [0, 0, 0, 0, 0] [0, 0, 0, 0, 0]) ∧ Blk w7 (w.heap.size + 1 + 1 + 1) 103 (rt [0, 0, 0, 0, 0] [0, 0, 0, 0, 0])) := ⟨below_kept (below_kept V5.out.1 k6 V5.out.1.size (fun j hj => by omega)) k7 (by rw [s6]; exact V5.out.1.size) (fun j hj => by omega), b6.kept k7 (by omega), b7, (V5.out.2.2.2.1.kept k6 (by omega)).kept k7 (by omega), (V5.out.2.2.2.2.kept k6 (by omega)).kept k7 (by omega)⟩
  clear b6 s6 k6 b7 s7 k7 V5 V
  change wpList _ _ _ _ _ _
  go_wp2_with (first | ((with_reducible show wpList _ _ _ (({ dst := some 22, op := _, type := _, pos := _, after := _, guard := _ } : Oper) :: _) _ _); refine wpList_load_mid rfl 27 (.tmp 21) rfl w.heap.size 5 rfl (u64s pz) _ (V7.out.2.1.snd HL.out.2.1) Try.underlying27 rfl (L5.out _ HL.out.1.2.1) ?_) | ((with_reducible show wpList _ _ _ (({ dst := some 24, op := _, type := _, pos := _, after := _, guard := _ } : Oper) :: _) _ _); refine wpList_load_mid rfl 27 (.tmp 23) rfl (w.heap.size + 1) 5 rfl (u64s qz) _ (V7.out.2.2.1.snd HL.out.2.2.2.1) Try.underlying27 rfl (L5.out _ HL.out.1.2.2.2) ?_) | (go_at_call 27; refine (HZ _).mono ?_; rintro e w8 ⟨rfl, l8⟩; have V8 : Hid (Below w.heap.size w w8 ∧ Blk w8 w.heap.size 103 (rt ax pz) ∧ Blk w8 (w.heap.size + 1) 103 (rt bx qz) ∧ Blk w8 (w.heap.size + 1 + 1) 103 (rt [0, 0, 0, 0, 0] [0, 0, 0, 0, 0]) ∧ Blk w8 (w.heap.size + 1 + 1 + 1) 103 (rt [0, 0, 0, 0, 0] [0, 0, 0, 0, 0])) := ⟨below_chain V7.out.1 l8 V7.out.1.size, V7.out.2.1.later l8 V7.out.2.1.lt, V7.out.2.2.1.later l8 V7.out.2.2.1.lt, V7.out.2.2.2.1.later l8 V7.out.2.2.2.1.lt, V7.out.2.2.2.2.later l8 V7.out.2.2.2.2.lt⟩; clear l8) | (refine wpList_store_snd rfl (.tmp 28) (.tmp 26) rfl w.heap.size rfl ax pz az rfl V8.out.2.1 HL.out.2.1 HL.out.1.2.1 HL.out.2.2.1 ?_; intro w9 b9 s9 k9) | (refine wpList_store_snd rfl (.tmp 29) (.tmp 27) rfl (w.heap.size + 1) rfl bx qz bz rfl (V8.out.2.2.1.kept k9 (by omega)) HL.out.2.2.2.1 HL.out.1.2.2.2 HL.out.2.2.2.2 ?_; intro wr br sr kr))
  have HQ : Hid (Below w.heap.size w wr ∧ Blk wr w.heap.size 103 (rt ax az) ∧ Blk wr (w.heap.size + 1) 103 (rt bx bz) ∧ Blk wr (w.heap.size + 1 + 1) 103 (rt [0, 0, 0, 0, 0] [0, 0, 0, 0, 0]) ∧ Blk wr (w.heap.size + 1 + 1 + 1) 103 (rt [0, 0, 0, 0, 0] [0, 0, 0, 0, 0])) := ⟨below_kept (below_kept V8.out.1 k9 V8.out.1.size (fun j hj => by omega)) kr (by rw [s9]; exact V8.out.1.size) (fun j hj => by omega), b9.kept kr (by omega), br, (V8.out.2.2.2.1.kept k9 (by omega)).kept kr (by omega), (V8.out.2.2.2.2.kept k9 (by omega)).kept kr (by omega)⟩
  clear b9 s9 k9 br sr kr V8 V7
  refine wp_region_noPanic (wp_region_held_drew (S := fun W => Blk W w.heap.size 103 (rt ax az) ∧ Blk W (w.heap.size + 1) 103 (rt bx bz)) (by kernel_rfl) ⟨(HQ.out.2.1).drew, (HQ.out.2.2.1).drew⟩ (fun hH => ?_))
  refine hLoad 0 (some 30) (rt ax az) rfl rfl (by kernel_rfl) (by kernel_rfl) (by kernel_rfl) (fun _ _ _ h => h) (by rfl) 103 (.tmp 4) rfl w.heap.size 0 rfl _ (fun _ h => (h.1).whole) Try.underlying103 rfl (L10.out _ _ HL.out.2.1 HL.out.2.2.1) hH ?_
  simp only [Act.put, List.setIfInBounds_toArray, List.set_cons_zero, List.set_cons_succ]
  refine hLoad 1 (some 31) (rt bx bz) rfl rfl (by kernel_rfl) (by kernel_rfl) (by kernel_rfl) (fun _ _ _ h => h) (by rfl) 103 (.tmp 5) rfl (w.heap.size + 1) 0 rfl _ (fun _ h => (h.2).whole) Try.underlying103 rfl (L10.out _ _ HL.out.2.2.2.1 HL.out.2.2.2.2) hH ?_
  simp only [Act.put, List.setIfInBounds_toArray, List.set_cons_zero, List.set_cons_succ]
  refine wpAnyH_ready (rs := [2]) (by kernel_rfl) (by simp) (AllReadyH.cons rfl (fun K hK => ?_) AllReadyH.nil)
  rw [if_pos (by rfl)]
  refine last_store 103 (.tmp 6) (.tmp 30) rfl rfl (w.heap.size + 1 + 1) rfl 103 _ (rt ax az) rfl (HQ.out.2.2.2.1).drew (by rw [rt_length HL.out.2.1 HL.out.2.2.1]; rfl) (L10.out _ _ HL.out.2.1 HL.out.2.2.1) (rt_one _ _) ?_
  intro y0 b0 s0 k0
  refine hK.out _ _ ⟨(hH.1).kept k0 (by omega), (hH.2).kept k0 (by omega)⟩ (fun hH => ?_)
  clear hK K
  refine wpAnyH_ready (rs := [3]) (by kernel_rfl) (by simp) (AllReadyH.cons rfl (fun K hK => ?_) AllReadyH.nil)
  rw [if_pos (by rfl)]
  refine last_store 103 (.tmp 7) (.tmp 31) rfl rfl (w.heap.size + 1 + 1 + 1) rfl 103 _ (rt bx bz) rfl ((HQ.out.2.2.2.2).drew.kept k0 (by omega)) (by rw [rt_length HL.out.2.2.2.1 HL.out.2.2.2.2]; rfl) (L10.out _ _ HL.out.2.2.2.1 HL.out.2.2.2.2) (rt_one _ _) ?_
  intro y1 b1 s1 k1
  refine hK.out _ _ ⟨(hH.1).kept k1 (by omega), (hH.2).kept k1 (by omega)⟩ (fun hH => ?_)
  clear hK K
  refine wpAnyH_done (by kernel_rfl) (NoPanic.normal ?_) _
  clear hH
  go_wp2_with fail
  have q2 := HQ.out.1.size
  exact ret_blk2 rfl (w.heap.size + 1 + 1) (w.heap.size + 1 + 1 + 1) (rt ax az) (rt bx bz) _ _ rfl rfl (b0.kept k1 (by omega)) b1 Try.underlying103 Try.underlying103 rfl rfl (L10.out _ _ HL.out.2.1 HL.out.2.2.1) (L10.out _ _ HL.out.2.2.2.1 HL.out.2.2.2.2) rfl ⟨rfl, below_kept (below_kept (below_dn HQ.out.1 1) k0 q2 (fun j hj => by omega)) k1 (by rw [s0]; exact q2) (fun j hj => by omega)⟩
end Go.Proofs.Ytnifolefhelmcaa
