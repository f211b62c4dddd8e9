/- The walk of DeriveKeys. -/
import Derived.Test.YtiimjhahblmggaaDoorVKSame
import Derived.Test.YtiimjhahblmggaaDoorVWorks
import Derived.Test.YtiimjhahblmggaaDoorDCopy
import Derived.Test.YtiimjhahblmggaaDoorVDraw
namespace Go.Proofs.YtiimjhahblmggaaDoor.deriveKeys
open Go.RowKit
set_option linter.unusedVariables false
set_option linter.unusedSimpArgs false

def kyL (z : Int) : List Int := z :: zer 31
theorem buildK1 (w : World) : (Instr.build 65 #[(0, .int .u8 1)]).run Tryd.prog w = .ok (.agg (u8s (kyL 1)).toArray) w := by kernel_rfl
theorem buildK2 (w : World) : (Instr.build 65 #[(0, .int .u8 2)]).run Tryd.prog w = .ok (.agg (u8s (kyL 2)).toArray) w := by kernel_rfl
theorem wpList_append_run {ops : Array Oper} {rest : List Oper} {o : Oper} {a : Act} {Q : Exit → Act → World → Prop} {w : World} (hgd : o.guard = none) (s x : Operand) (t ty : TypeId) (ho : o.op = .call { callee := .builtin .append, args := #[s, x], argTypes := #[t, t] }) (hty : o.type = ty)
    (va vb : Value) (hs : a.eval s = va) (hx : a.eval x = vb) (v' : Value) (w' : World) (hr : (Builtin.append_ #[t, t] ty #[va, vb]).run Tryd.prog w = .ok v' w') (h : wpList Tryd.prog ops Q rest (a.put o.dst v') w') : wpList Tryd.prog ops Q (o :: rest) a w := by
  refine wpList_plain hgd fun K hK => ?_
  subst hty
  unfold Oper.wp execOp
  simp only [ho, resolve, invoke, builtin, Sem.run_bind, Sem.run_pure, Result.andThen_ok, List.map_toArray, List.map_cons, List.map_nil, hs, hx, hr]
  exact hK _ _ h
/-- A row of m keys in block g with no room behind them, or nil. -/
def Own1 (w : World) (vo : Option Addr) (g m : Nat) : Prop := (vo = none ∧ m = 0) ∨ (vo = some ⟨g, 0, none⟩ ∧ ∃ vs, Blk w g 65 vs ∧ vs.length = 32 * m)
theorem own1_of {w : World} {base m : Nat} {vo : Option Addr} {xs : List Value} (h : w.ownsRow base 65 32 (.slice vo m m) m xs) : ∃ g, Own1 w vo g m ∧ (vo ≠ none → base ≤ g ∧ g < w.heap.size) := by
  rcases h.2 with ⟨h1, h2⟩ | ⟨g, cap, cur, e, hg, hh, hc, hm, hs, ht⟩
  · cases h1
    exact ⟨0, .inl ⟨rfl, rfl⟩, fun h => absurd rfl h⟩
  · cases e
    exact ⟨g, .inr ⟨rfl, cur.toList, by unfold Blk; simpa using hh, by simpa [Nat.mul_comm] using hs⟩, fun _ => ⟨hg, lt_of_block hh⟩⟩
/-- The first one more: the row moves. -/
theorem first {w : World} {g m : Nat} {vs : List Value} (h : Blk w g 65 vs) (hl : vs.length = 32 * m) (hm : m ≤ 255) (C : List Int) (hC : C.length = 32) :
    ∃ v w', (Builtin.append_ #[60, 60] 60 #[.slice (some ⟨g, 0, none⟩) m m, .slice (some ⟨w.heap.size, 0, none⟩) 1 1]).run Tryd.prog (w.alloc (.cells (u8s C).toArray 65)) = .ok v w' ∧ (∃ xs, w'.ownsRow w.heap.size 65 32 v (m + 1) xs) ∧ Below w.heap.size w w' := by
  obtain ⟨i0, hi, hz0, hz1, hz2⟩ := info_parts info_Key
  obtain ⟨w0, hw0⟩ : ∃ q, w.alloc (.cells (u8s C).toArray 65) = q := ⟨_, rfl⟩
  have b0 : Below w.heap.size w w0 := by rw [← hw0]; exact (Below.refl _ _).alloc (Nat.le_refl _) _
  have n0 : Blk w0 w.heap.size 65 (u8s C) := by rw [← hw0]; exact heap_alloc_new w _
  have g0 := h.later b0 h.lt
  rw [hw0]
  have hcell : ∀ {W : World} {B : Nat} {ls : List Value}, Blk W B 65 ls → ∀ j v, ls[j]? = some v → W.cell? ((⟨B, 0, none⟩ : Addr).add j) = some v := fun hB j v hv => by rw [add_mid, Nat.zero_add, hB.cell]; exact hv
  have hr := run_append_grow (P := Tryd.prog) (w := w0) 60 60 65 i0 (.agg (u8s (zer 32)).toArray) Tryd.underlying60 hi hz0 ⟨g, 0, none⟩ m m vs (by rw [hl, hz1, Nat.mul_comm]) (hcell g0) ⟨w.heap.size, 0, none⟩ 1 1 (u8s C) (by rw [hz1, u8s_length, hC]) (hcell n0) (by omega) (by omega) (growslice_fits (by omega) (by rw [hz2]; omega))
  have hge := grownCap_ge w0 (m + 1) m 65
  have hle := grownCap_le_maxLen w0 (m + 1) m 65 (by unfold maxLen; omega)
  have hsz := b0.size
  refine ⟨_, _, hr, ⟨vs ++ u8s C, by rw [List.length_append, hl, u8s_length, hC]; omega, .inr ⟨w0.heap.size, _, _, rfl, hsz, heap_alloc_new w0.drew _, hge, hle, ?_, ?_⟩⟩, below_chain b0 (below_ahead (k := 1) ((Below.refl _ (w0.drewN 1)).alloc (Nat.le_refl _) _)) hsz⟩
  · simp [Builtin.zeroCells, Value.cells, hl, u8s_length, hC, zer_length]; omega
  · rw [Array.toList_append, List.take_append_of_le_length (by simp [hl, u8s_length, hC, zer_length]; omega), List.take_of_length_le (by simp [hl, u8s_length, hC, zer_length]; omega)]
    simp
theorem cut32 (vs : List Value) (m k : Nat) (hl : vs.length = 32 * m) (hk : k < m) : ∃ xs ys zs, vs = xs ++ (ys ++ zs) ∧ xs.length = k * 32 ∧ ys.length = 32 :=
  ⟨vs.take (k * 32), (vs.drop (k * 32)).take 32, (vs.drop (k * 32)).drop 32, by rw [List.take_append_drop, List.take_append_drop], by simp; omega, by simp; omega⟩
set_option maxRecDepth 20000 in
set_option maxHeartbeats 4000000 in
theorem walk (so : Option Addr) (sn sc : Nat) (salt : List Int) (xo : Option Addr) (xn xc : Nat) (sec : List Int) (io : Option Addr) (im ic : Nat) (info : List Int) (N : Int) (w : World) (hd : Dr w so sn sc salt xo xn xc sec io im ic info) (hK : KTab w) :
    Calls Tryd.prog 6 #[.agg #[.slice so sn sc, .slice xo xn xc, .slice io im ic, .int .i64 N]] w fun e w' => e = .returned (.bool true) ∧ Below w.heap.size w w' := by
  have HX : Hid (Dr w so sn sc salt xo xn xc sec io im ic info ∧ KTab w) := ⟨hd, hK⟩
  obtain ⟨m, hm⟩ : ∃ m, nK N = m := ⟨_, rfl⟩
  obtain ⟨E, hE⟩ : ∃ E, exps (mac salt sec) info (32 * nK N) = E := ⟨_, rfl⟩
  obtain ⟨c, hc⟩ : ∃ c, ccE N 255 = c := ⟨_, rfl⟩
  have hm2 : m ≤ 255 := by rw [← hm]; exact nK_le N
  have HM : Hid (nK N = m ∧ exps (mac salt sec) info (32 * nK N) = E ∧ ccE N 255 = c) := ⟨hm, hE, hc⟩
  obtain ⟨i0, hi0, hz0, hz1, hz2⟩ := info_parts info_Key
  clear hd hK hm hE hc
  go_enter Tryd.func6, Tryd.ntmps6
  go_wp2_with (first | (refine wpList_box_new rfl 51 _ rfl (dC so sn sc xo xn xc io im ic N) rfl ?_; intro w1 b1 s1 l1; have e0 : w1.cell? ⟨w.heap.size, 0, none⟩ = some (.slice so sn sc) := b1.cell 0; have e1 : w1.cell? ⟨w.heap.size, 1, none⟩ = some (.slice xo xn xc) := b1.cell 1; have e2 : w1.cell? ⟨w.heap.size, 2, none⟩ = some (.slice io im ic) := b1.cell 2; have e3 : w1.cell? ⟨w.heap.size, 3, none⟩ = some (.int .i64 N) := b1.cell 3; have D1 := HX.out.1.later l1) | (go_at_call 22; refine (wrong_any N 255 _).mono ?_; rintro e _ ⟨rfl, rfl⟩; rw [HM.out.2.2]) | (go_at_call 29; refine (rkeys_all so sn sc salt xo xn xc sec io im ic info N w1 D1.fs D1.fs0 D1.fsn D1.fx D1.fx0 D1.fxn D1.fi D1.fi0 D1.fim).mono ?_; rintro e w2 ⟨wo, wc, rfl, K2, l2⟩; rw [HM.out.1] at K2 ⊢; have b2 := b1.later l2 b1.lt; have e0 : w2.cell? ⟨w.heap.size, 0, none⟩ = some (.slice so sn sc) := b2.cell 0; have e1 : w2.cell? ⟨w.heap.size, 1, none⟩ = some (.slice xo xn xc) := b2.cell 1; have e2 : w2.cell? ⟨w.heap.size, 2, none⟩ = some (.slice io im ic) := b2.cell 2; have e3 : w2.cell? ⟨w.heap.size, 3, none⟩ = some (.int .i64 N) := b2.cell 3; have D2 := D1.later l2; have T2 := (HX.out.2.below l1 HX.out.2.lt).below l2 (HX.out.2.below l1 HX.out.2.lt).lt) | ((with_reducible show Calls _ _ _ w2 _); go_at_call 30; refine (vkeys_all so sn sc salt xo xn xc sec io im ic info N w2 D2.fs D2.fsc D2.fx D2.fxc D2.fi D2.fic T2).mono ?_; rintro e w3 ⟨vo, rfl, K3, O3, l3⟩; rw [HM.out.1] at K3 O3 ⊢; rw [HM.out.2.2]; have b3 := b2.later l3 b2.lt; have e0 : w3.cell? ⟨w.heap.size, 0, none⟩ = some (.slice so sn sc) := b3.cell 0; have e1 : w3.cell? ⟨w.heap.size, 1, none⟩ = some (.slice xo xn xc) := b3.cell 1; have e2 : w3.cell? ⟨w.heap.size, 2, none⟩ = some (.slice io im ic) := b3.cell 2; have e3 : w3.cell? ⟨w.heap.size, 3, none⟩ = some (.int .i64 N) := b3.cell 3; have D3 := D2.later l3; have T3 := T2.below l3 T2.lt) | ((with_reducible show Calls _ _ _ w3 _); go_at_call 30; refine (vkeys_all so sn sc salt xo xn xc sec io im ic info N w3 D3.fs D3.fsc D3.fx D3.fxc D3.fi D3.fic T3).mono ?_; rintro e w4 ⟨uo, rfl, K4, O4, l4⟩; rw [HM.out.1] at K4 O4 ⊢; rw [HM.out.2.2]) | ((with_reducible show Calls _ _ _ w4 _); go_at_call 31; refine (vsame_yes vo wo m m wc _ w4 (K3.later l4 (Nat.le_refl _)) ((K2.later l3 (Nat.le_refl _)).later l4 (Nat.le_refl _)) hm2).mono ?_; rintro e w5 ⟨rfl, l5⟩) | ((with_reducible show Calls _ _ _ w5 _); go_at_call 31; refine (vsame_yes uo wo m m wc _ w5 (K4.later l5 (Nat.le_refl _)) (((K2.later l3 (Nat.le_refl _)).later l4 (Nat.le_refl _)).later l5 (Nat.le_refl _)) hm2).mono ?_; rintro e w6 ⟨rfl, l6⟩))
  rw [← HM.out.1] at K2 K3 K4 O3 O4
  have z1 := l1.size
  have z2 := l2.size
  have z3 := l3.size
  have z4 := l4.size
  have z5 := l5.size
  have z6 := l6.size
  obtain ⟨g1, og1, hg1⟩ := own1_of O3
  have W6 : Hid (KeysAt w6 wo (nK N) E ∧ KeysAt w6 uo (nK N) E ∧ Own1 w6 vo g1 (nK N) ∧ (vo ≠ none → w2.heap.size ≤ g1 ∧ g1 < w3.heap.size) ∧ Below w.heap.size w w6 ∧ (∀ b o, 0 < nK N → wo = some ⟨b, o, none⟩ → b < w2.heap.size) ∧ (∀ b o, 0 < nK N → uo = some ⟨b, o, none⟩ → w3.heap.size ≤ b ∧ b < w4.heap.size)) := by
    rw [← HM.out.2.1]
    refine ⟨(((K2.later l3 (Nat.le_refl _)).later l4 (Nat.le_refl _)).later l5 (Nat.le_refl _)).later l6 (Nat.le_refl _), (K4.later l5 (Nat.le_refl _)).later l6 (Nat.le_refl _), ?_, hg1, ?_, fun b o h0 e => ?_, fun b o h0 e => ?_⟩
    · rcases og1 with h | ⟨e, vs, hb, hl⟩
      · exact .inl h
      · have hlt1 := hb.lt
        exact .inr ⟨e, vs, ((hb.later l4 hb.lt).later l5 (by omega)).later l6 (by omega), hl⟩
    · exact below_chain (below_chain (below_chain (below_chain (below_chain l1 l2 z1) l3 (by omega)) l4 (by omega)) l5 (by omega)) l6 (by omega)
    · obtain ⟨b', o', e', hlt, _⟩ := K2.cells h0
      rw [e] at e'
      cases e'
      exact hlt
    · exact O4.lt b (by rw [e]; rfl)
  rw [HM.out.1] at W6
  clear K2 K3 K4 O3 O4 og1 hg1 b1 b2 b3 e0 e1 e2 e3 D1 D2 D3 T2 T3 l1 l2 l3 l4 l5 l6
  go_loopw [9] (fun i wr => ∃ k : Nat, k ≤ m ∧ i = .int .i64 k ∧ Own1 wr vo g1 m ∧ Kept (fun b => vo ≠ none ∧ b = g1) w6 wr) (fun i _ => m - (intOf i).toNat)
  case atStart => exact ⟨0, Nat.zero_le _, rfl, W6.out.2.2.1, Kept.refl _ _⟩
  case round =>
    obtain ⟨k, hk, rfl, ho, hkp⟩ := hrel
    by_cases hlt : k < m
    · rcases ho with ⟨_, h0⟩ | ⟨rfl, vs, hb, hl⟩
      · omega
      · obtain ⟨xs, ys, zs, rfl, hxl, hyl⟩ := cut32 vs m k hl hlt
        have HB : Hid (Blk wr g1 65 (xs ++ (ys ++ zs)) ∧ Kept (fun b => some (⟨g1, 0, none⟩ : Addr) ≠ none ∧ b = g1) w6 wr ∧ (xs ++ (ys ++ zs)).length = 32 * m ∧ ys.length = 32 ∧ xs.length = k * 32) := ⟨hb, hkp, hl, hyl, hxl⟩
        have i1 : (0 : Int) ≤ (k : Int) := by omega
        have i2 : (k : Int) < (m : Int) := by omega
        clear hb hkp hl hyl hxl
        go_wp2_with (first | (refine wpList_build rfl 65 _ rfl #[(0, .int .u8 1)] (by rfl) _ (buildK1 _) ?_) | (refine wpList_store_part rfl 65 65 _ _ rfl g1 (k * 32) (by first | rfl | simp [Act.put, Act.eval]) xs ys zs (u8s (kyL 1)) rfl HB.out.1 HB.out.2.2.2.2 (by rw [HB.out.2.2.2.1]; rfl) sizeKey (u8s_one _) ?_; intro w7 b7 s7 k7))
        exact ⟨⟨k + 1, by omega, by go_num, .inr ⟨rfl, _, b7, by have := HB.out.2.2.1; have := HB.out.2.2.2.1; simp only [List.length_append, u8s_length] at *; show _ + (32 + _) = _; omega⟩, HB.out.2.1.trans (k7.mono fun b e => ⟨by simp, e⟩)⟩, by simp [intOf]; omega⟩
    · obtain rfl : k = m := by omega
      have W7 : Hid (KeysAt wr wo k E ∧ KeysAt wr uo k E ∧ Own1 wr vo g1 k ∧ Below w.heap.size w wr ∧ w6.heap.size ≤ wr.heap.size) := by
        refine ⟨W6.out.1.kept hkp fun b o h0 e => ?_, W6.out.2.1.kept hkp fun b o h0 e => ?_, ho, below_kept W6.out.2.2.2.2.1 hkp (by omega) (fun j hj hs => ?_), hkp.size⟩
        · rintro ⟨h1, rfl⟩
          have := W6.out.2.2.2.1 h1
          have := W6.out.2.2.2.2.2.1 _ o h0 e
          omega
        · rintro ⟨h1, rfl⟩
          have := W6.out.2.2.2.1 h1
          have := W6.out.2.2.2.2.2.2 _ o h0 e
          omega
        · obtain ⟨h1, rfl⟩ := hs
          have := W6.out.2.2.2.1 h1
          omega
      clear ho hkp
      obtain ⟨w7, rfl⟩ : ∃ w7, w7 = wr := ⟨_, rfl⟩
      go_wp2
      go_loopw [5, 10] (fun v i wr => ∃ j : Nat, j ≤ 70 ∧ i = .int .i64 j ∧ ((j = 0 ∧ v = .slice vo k k ∧ wr = w7) ∨ ∃ xs, wr.ownsRow w7.heap.size 65 32 v (k + j) xs) ∧ Below w7.heap.size w7 wr) (fun _ i _ => 70 - (intOf i).toNat)
      case atStart => exact ⟨0, Nat.zero_le _, rfl, .inl ⟨rfl, rfl, rfl⟩, Below.refl _ _⟩
      case round =>
        obtain ⟨j, hj, rfl, ho, hbel⟩ := hrel
        by_cases hl7 : j < 70
        · have bk := build_key (kyL 2) rfl
          rcases ho with ⟨rfl, rfl, rfl⟩ | ⟨xs, ho⟩
          · rcases W7.out.2.2.1 with ⟨rfl, h0⟩ | ⟨rfl, vs, hb, hl⟩
            · clear hbel
              have ho : wr.ownsRow wr.heap.size 65 32 (.slice none k k) (k + 0) [] := by rw [h0]; exact World.ownsRow_nil _ _ _ _
              clear h0
              go_wp2_with (first | (refine wpList_build rfl 65 _ rfl #[(0, .int .u8 2)] (by rfl) _ (buildK2 _) ?_) | (refine wpList_buildSlice rfl 60 1 _ rfl #[(0, .agg (u8s (kyL 2)).toArray)] (by rfl) _ _ (bk _) ?_) | (at_builtin; refine wpList_append_own _ rfl _ _ 60 rfl wr.heap.size 65 i0 (.agg (u8s (zer 32)).toArray) 32 32 Tryd.underlying60 hi0 hz0 hz1 hz2 rfl (by decide) _ _ _ rfl (ho.alloc _) ⟨wr.heap.size, 0, none⟩ 1 1 (u8s (kyL 2)) rfl rfl ?c1 ?c2 ?c3 ?c4 ?c5 ?_))
              case c1 =>
                intro j u hj
                rw [add_mid, Nat.zero_add]
                have h : (wr.alloc (.cells (u8s (kyL 2)).toArray 65)).heap[wr.heap.size]? = some (.cells (u8s (kyL 2)).toArray 65 (0, 0)) := heap_alloc_new wr _
                show (wr.alloc (.cells (u8s (kyL 2)).toArray 65)).cell? ⟨wr.heap.size, j, none⟩ = some u
                rw [cell_of_row _ _ j _ 65 (0, 0) h]
                simpa using hj
              case c2 => exact u8s_one _
              case c3 => unfold maxLen; omega
              case c4 => omega
              case c5 => first | (simp; done) | (simp; omega)
              intro v' w8 hown' hgrow _
              have R2 : Below wr.heap.size wr w8 := ((Below.refl _ _).alloc (Nat.le_refl _) _).grown hgrow (by first | (simp; done) | (simp; omega)) (fun q hq => (ho.lt q hq).1)
              clear hgrow ho
              go_wp2
              exact ⟨⟨0 + 1, by omega, by go_num, .inr ⟨_, hown'⟩, R2⟩, by first | (simp [intOf]; done) | (simp [intOf]; omega)⟩
            · obtain ⟨v', w8, hr, ⟨ys, hy⟩, l8⟩ := first hb hl hm2 (kyL 2) rfl
              have HF : Hid (wr.heap.size = wr.heap.size) := rfl
              clear hb hl hbel
              go_wp2_with (first | (refine wpList_build rfl 65 _ rfl #[(0, .int .u8 2)] (by rfl) _ (buildK2 _) ?_) | (refine wpList_buildSlice rfl 60 1 _ rfl #[(0, .agg (u8s (kyL 2)).toArray)] (by rfl) _ _ (bk _) ?_) | (at_builtin; refine wpList_append_run rfl _ _ 60 60 rfl rfl _ _ rfl rfl v' w8 hr ?_))
              exact ⟨⟨0 + 1, by omega, by go_num, .inr ⟨_, hy⟩, l8⟩, by simp [intOf]⟩
          · have zb := hbel.size
            go_wp2_with (first | (refine wpList_build rfl 65 _ rfl #[(0, .int .u8 2)] (by rfl) _ (buildK2 _) ?_) | (refine wpList_buildSlice rfl 60 1 _ rfl #[(0, .agg (u8s (kyL 2)).toArray)] (by rfl) _ _ (bk _) ?_) | (at_builtin; refine wpList_append_own _ rfl _ _ 60 rfl w7.heap.size 65 i0 (.agg (u8s (zer 32)).toArray) 32 32 Tryd.underlying60 hi0 hz0 hz1 hz2 rfl (by decide) _ _ _ rfl (ho.alloc _) ⟨wr.heap.size, 0, none⟩ 1 1 (u8s (kyL 2)) rfl rfl ?c1 ?c2 ?c3 ?c4 ?c5 ?_))
            case c1 =>
              intro j u hj
              rw [add_mid, Nat.zero_add]
              have h : (wr.alloc (.cells (u8s (kyL 2)).toArray 65)).heap[wr.heap.size]? = some (.cells (u8s (kyL 2)).toArray 65 (0, 0)) := heap_alloc_new wr _
              show (wr.alloc (.cells (u8s (kyL 2)).toArray 65)).cell? ⟨wr.heap.size, j, none⟩ = some u
              rw [cell_of_row _ _ j _ 65 (0, 0) h]
              simpa using hj
            case c2 => exact u8s_one _
            case c3 => unfold maxLen; omega
            case c4 => omega
            case c5 => first | (simp; done) | (simp; omega)
            intro v' w8 hown' hgrow _
            have R2 : Below w7.heap.size w7 w8 := (hbel.alloc zb _).grown hgrow (by first | (simp; done) | (simp; omega)) (fun q hq => (ho.lt q hq).1)
            clear hgrow ho
            go_wp2
            exact ⟨⟨j + 1, by omega, by go_num, .inr ⟨_, hown'⟩, R2⟩, by first | (simp [intOf]; done) | (simp [intOf]; omega)⟩
        · obtain rfl : j = 70 := by omega
          have HB : Hid (Below w7.heap.size w7 wr) := hbel
          clear ho hbel
          go_wp2_with (first | (go_at_call 31; refine (vsame_yes uo wo k k wc E wr (W7.out.2.1.later HB.out (Nat.le_refl _)) (W7.out.1.later HB.out (Nat.le_refl _)) hm2).mono ?_; rintro e w8 ⟨rfl, l8⟩) | (go_at_call 18; refine (works_any w8 ((HX.out.2.below (below_chain W7.out.2.2.2.1 HB.out (by have := W7.out.2.2.2.1.size; omega)) HX.out.2.lt).below l8 (HX.out.2.below (below_chain W7.out.2.2.2.1 HB.out (by have := W7.out.2.2.2.1.size; omega)) HX.out.2.lt).lt)).mono ?_; rintro e w9 ⟨rfl, l9⟩))
          go_ret
          have y1 := W7.out.2.2.2.1.size
          have y2 := HB.out.size
          have y3 := l8.size
          exact ⟨rfl, below_chain (below_chain (below_chain W7.out.2.2.2.1 HB.out y1) l8 (by omega)) l9 (by omega)⟩
end Go.Proofs.YtiimjhahblmggaaDoor.deriveKeys
