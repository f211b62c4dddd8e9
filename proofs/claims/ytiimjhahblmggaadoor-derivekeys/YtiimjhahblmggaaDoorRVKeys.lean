/- The document's answer for layer derive (trystref04): Drawn, Keys. -/
import Derived.Test.YtiimjhahblmggaaDoorRVExpand
import Derived.Test.YtiimjhahblmggaaDoorVKeys
namespace Go.Proofs.YtiimjhahblmggaaDoor
open Go.RowKit
set_option linter.unusedVariables false
set_option linter.unusedSimpArgs false

set_option maxRecDepth 20000 in
theorem drawn_any (so : Option Addr) (sn sc : Nat) (salt : List Int) (xo : Option Addr) (xn xc : Nat) (sec : List Int) (io : Option Addr) (im ic : Nat) (info : List Int) (N : Nat) (hN : N ≤ 8160) (w : World) (hs : Seen w so sn salt) (hsc : so = none → sc = 0) (hsn : sn ≤ 1048576) (hx : Seen w xo xn sec) (hxc : xo = none → xc = 0) (hxn : xn ≤ 1048576) (hi : Seen w io im info) (hic : io = none → ic = 0) (him : im ≤ 1048576) :
    Calls Tryd.prog 40 #[.slice so sn sc, .slice xo xn xc, .slice io im ic, .int .i64 N] w fun e w' => ∃ vo cap, e = .returned (.slice vo N cap) ∧ Seen w' vo N (exps (mac salt sec) info N) ∧ Below w.heap.size w w' := by
  have HX : Hid (Seen w so sn salt ∧ Seen w xo xn sec ∧ Seen w io im info) := ⟨hs, hx, hi⟩
  clear hs hx hi
  go_enter Tryd.func40, Tryd.ntmps40
  go_wp2_with (first | (go_at_call 23; refine (rextract_any so sn sc salt xo xn xc sec _ HX.out.1 hsc (by omega) HX.out.2.1 hxc (by omega)).mono ?_; rintro e w1 ⟨rfl, l1⟩) | (go_at_call 24; refine (rexpand_any _ (mac_length _ _) (mac_bytes _ _) io im ic info N hN _ (HX.out.2.2.later l1 (Nat.le_refl _)) hic him).mono ?_; rintro e w2 ⟨vo, cap, rfl, s2, l2⟩))
  go_ret
  exact ⟨vo, cap, rfl, s2, below_chain l1 l2 l1.size⟩
set_option maxRecDepth 20000 in
theorem build_key0 (f : Nat → Int) (w : World) : (Instr.buildSlice 60 1 #[(0, .agg (u8s ((List.range 32).map f)).toArray)]).run Tryd.prog w = .ok (.slice (some ⟨w.heap.size, 0, none⟩) 1 1) (w.alloc (.cells (u8s ((List.range 32).map f)).toArray 65)) := by kernel_rfl
theorem build_key (C : List Int) (hC : C.length = 32) (w : World) : (Instr.buildSlice 60 1 #[(0, .agg (u8s C).toArray)]).run Tryd.prog w = .ok (.slice (some ⟨w.heap.size, 0, none⟩) 1 1) (w.alloc (.cells (u8s C).toArray 65)) := by
  have e : C = (List.range 32).map (fun i => C.getD i 0) := by
    apply List.ext_getElem
    · simp [hC]
    · intro i h1 h2
      simp [List.getD, h1]
  rw [e]
  exact build_key0 _ w
/-- A new row of parts. -/
theorem wpList_buildSlice {ops : Array Oper} {rest : List Oper} {o : Oper} {a : Act} {Q : Exit → Act → World → Prop} {w : World} (hgd : o.guard = none) (t : TypeId) (m : Nat) (parts : Array (Nat × Operand)) (ho : o.op = .buildSlice t m parts) (ps : Array (Nat × Value))
    (hp : (parts.map fun (i, x) => (i, a.eval x)) = ps) (v : Value) (w' : World) (hrun : (Instr.buildSlice t m ps).run Tryd.prog w = .ok v w') (h : wpList Tryd.prog ops Q rest (a.put o.dst v) w') : wpList Tryd.prog ops Q (o :: rest) a w := by
  refine wpList_plain hgd fun K hK => ?_
  unfold Oper.wp execOp
  simp only [ho, hp, Sem.run_bind, hrun, Sem.run_pure, Result.andThen_ok]
  exact hK _ _ h
theorem zeroKey : (Tryd.prog.info? 65).map (fun i => (i.zero, i.size)) = some (some (.agg (u8s (zer 32)).toArray), 32) := by kernel_rfl
theorem sizeKey : (Tryd.prog.info? 65).map (·.size) = some 32 := by kernel_rfl
theorem own_kept0 {S : Nat → Prop} {w w' : World} {base : Nat} {e : TypeId} {size : Nat} {v : Value} {n : Nat} {xs : List Value} (h : w.ownsRow base e size v n xs) (hk : Kept S w w') (hS : ∀ k, v.ownBlock = some k → ¬ S k) : w'.ownsRow base e size v n xs := by
  refine ⟨h.1, ?_⟩
  rcases h.2 with h0 | ⟨g, cap, cur, rfl, hg, hh, r⟩
  · exact .inl h0
  · exact .inr ⟨g, cap, cur, rfl, hg, by rw [hk.block g (lt_of_block hh) (hS g rfl)]; exact hh, r⟩
/-- Keys as data: their bytes, one key behind the other. -/
structure KeysAt (w : World) (vo : Option Addr) (n : Nat) (E : List Int) : Prop where
  len : E.length = 32 * n
  cells : 0 < n → ∃ b o, vo = some ⟨b, o, none⟩ ∧ b < w.heap.size ∧ ∀ t, t < 32 * n → w.cell? ⟨b, o + t, none⟩ = some (.int .u8 (E.getD t 0))
set_option maxRecDepth 20000 in
set_option maxHeartbeats 1000000 in
theorem rkeys_any (so : Option Addr) (sn sc : Nat) (salt : List Int) (xo : Option Addr) (xn xc : Nat) (sec : List Int) (io : Option Addr) (im ic : Nat) (info : List Int) (n : Nat) (hn : n ≤ 255) (w : World) (hs : Seen w so sn salt) (hsc : so = none → sc = 0) (hsn : sn ≤ 1048576) (hx : Seen w xo xn sec) (hxc : xo = none → xc = 0) (hxn : xn ≤ 1048576) (hi : Seen w io im info) (hic : io = none → ic = 0) (him : im ≤ 1048576) :
    Calls Tryd.prog 29 #[.slice so sn sc, .slice xo xn xc, .slice io im ic, .int .i64 n] w fun e w' => ∃ vo cap, e = .returned (.slice vo n cap) ∧ KeysAt w' vo n (exps (mac salt sec) info (32 * n)) ∧ Below w.heap.size w w' := by
  have HX : Hid (Seen w so sn salt ∧ Seen w xo xn sec ∧ Seen w io im info) := ⟨hs, hx, hi⟩
  have HE : Hid (ccE n 255 = 0) := by show ccE n 255 = 0; unfold ccE; rw [if_neg (by omega), if_neg (by omega)]
  obtain ⟨i0, hi0, hz0, hz1, hz2⟩ := info_parts info_Key
  obtain ⟨E, hE⟩ : ∃ E, exps (mac salt sec) info (32 * n) = E := ⟨_, rfl⟩
  have HEE : Hid (exps (mac salt sec) info (32 * n) = E ∧ E.length = 32 * n) := ⟨hE, by rw [← hE]; exact exps_length _ _ _⟩
  clear hs hx hi hE
  have HE32 : Hid (32 * (n : Int) = ((32 * n : Nat) : Int)) := by show _ = _; omega
  go_enter Tryd.func29, Tryd.ntmps29
  go_wp2_with (first | (go_at_call 22; refine (wrong_any n 255 _).mono ?_; rintro e _ ⟨rfl, rfl⟩; rw [HE.out]) | (go_at_call 40; rw [HE32.out]; refine (drawn_any so sn sc salt xo xn xc sec io im ic info (32 * n) (by omega) _ HX.out.1 hsc hsn HX.out.2.1 hxc hxn HX.out.2.2 hic him).mono ?_; rintro e w1 ⟨bo, bc, rfl, s1, l1⟩; rw [HEE.out.1] at s1))
  have H1 : Hid (Seen w1 bo (32 * n) E ∧ Below w.heap.size w w1) := ⟨s1, l1⟩
  clear s1 l1
  go_loopw [9, 11] (fun v i wr => ∃ k : Nat, k ≤ n ∧ i = .int .i64 k ∧ wr.ownsRow w1.heap.size 65 32 v k (u8s (E.take (32 * k))) ∧ Below w1.heap.size w1 wr) (fun _ i _ => n - (intOf i).toNat)
  case atStart => exact ⟨0, Nat.zero_le _, rfl, World.ownsRow_nil _ _ _ _, Below.refl _ _⟩
  case round =>
    obtain ⟨k, hk, rfl, hown, hbel⟩ := hrel
    have hEl := HEE.out.2
    by_cases hlt : k < n
    · obtain ⟨b, o, rfl, hb, hc⟩ := H1.out.1.cells (by omega)
      obtain ⟨C, hC⟩ : ∃ C, (E.drop (32 * k)).take 32 = C := ⟨_, rfl⟩
      have HC : Hid (C.length = 32 ∧ u8s (E.take (32 * (k + 1))) = u8s (E.take (32 * k)) ++ u8s C ∧ ∀ t, t < 32 → C.getD t 0 = E.getD (32 * k + t) 0) := ⟨by rw [← hC]; simp; omega, by rw [show 32 * (k + 1) = 32 * k + 32 by omega, List.take_add, hC]; simp [u8s], fun t ht => by rw [← hC]; simp [List.getD, List.getElem?_take, List.getElem?_drop, ht]⟩
      have HCc : Hid (∀ W, Below w1.heap.size w1 W → ∀ t, t < 32 * n → W.cell? ⟨b, o + t, none⟩ = some (.int .u8 (E.getD t 0))) := fun W hW t ht => (hW.cell (p := ⟨b, o + t, none⟩) hb).trans (hc t ht)
      have HO : Hid (wr.ownsRow w1.heap.size 65 32 u9 k (u8s (E.take (32 * k))) ∧ Below w1.heap.size w1 wr) := ⟨hown, hbel⟩
      have i1 : (0 : Int) ≤ (k : Int) := by omega
      have i2 : (k : Int) < (n : Int) := by omega
      clear hown hbel hEl hc hC
      obtain ⟨w2, rfl⟩ : ∃ w2, w2 = wr := ⟨_, rfl⟩
      go_wp2_with (first | (refine wpList_alloc_new rfl 65 rfl 32 _ zeroKey ?_; intro w3 b3 s3 l3; have G3 : Hid (Blk w3 w2.heap.size 65 (u8s (zer 32)) ∧ Below w2.heap.size w2 w3 ∧ w3.heap.size = w2.heap.size + 1) := ⟨b3, l3, s3⟩; clear b3 l3 s3))
      go_loopw [13] (fun j wr => ∃ t : Nat, t ≤ 32 ∧ j = .int .i64 t ∧ Blk wr w2.heap.size 65 (u8s (C.take t ++ zer (32 - t))) ∧ Kept (fun q => q = w2.heap.size) w3 wr) (fun j _ => 32 - (intOf j).toNat)
      case atStart => exact ⟨0, by decide, rfl, G3.out.1, Kept.refl _ _⟩
      case round =>
        obtain ⟨t, ht, rfl, hB, hkp⟩ := hrel
        have hCl := HC.out.1
        have z2 := HO.out.2.size
        have bW : Below w1.heap.size w1 wr := below_kept (below_chain HO.out.2 G3.out.2.1 z2) hkp (by have := G3.out.2.2; omega) (fun j hj => by omega)
        by_cases hlt2 : t < 32
        · have c1 := HCc.out wr bW (32 * k + t) (by omega)
          rw [← HC.out.2.2 t hlt2] at c1
          have cs := u8s_cell hB t (by simp [zer_length]; omega)
          have fs := hB.frozen t
          obtain ⟨y, hy⟩ : ∃ y, C.getD t 0 = y := ⟨_, rfl⟩
          rw [hy] at c1
          have R1 := hB.set t (.int .u8 y)
          have E1 : (C.take t ++ zer (32 - t)).set t y = C.take (t + 1) ++ zer (32 - (t + 1)) := by
            have q : (C.take t).length = t := by simp; omega
            have e2 : C.take (t + 1) = C.take t ++ [y] := by
              rw [List.take_succ_eq_append_getElem (by omega), ← hy]
              congr 1
              simp [List.getD, show t < C.length by omega]
            rw [e2, List.set_append_right _ _ (by omega), q, Nat.sub_self, show 32 - t = (32 - (t + 1)) + 1 by omega, zer, List.replicate_succ, List.set_cons_zero, List.append_assoc]
            rfl
          rw [u8s_set, E1] at R1
          have HR : Hid (Blk (wr.setCell ⟨w2.heap.size, t, none⟩ (.int .u8 y)) w2.heap.size 65 (u8s (C.take (t + 1) ++ zer (32 - (t + 1)))) ∧ Kept (fun q => q = w2.heap.size) w3 (wr.setCell ⟨w2.heap.size, t, none⟩ (.int .u8 y))) := ⟨R1, hkp.setCell (S := fun q => q = w2.heap.size) rfl _⟩
          have j1 : (0 : Int) ≤ (t : Int) := by omega
          have j2 : (t : Int) < 32 := by omega
          have j3 : (32 * (k : Int) + (t : Int)) < 32 * (n : Int) := by omega
          have j4 : (32 * (k : Int) + (t : Int)).toNat = 32 * k + t := by omega
          clear hB hkp R1 E1 hy hCl z2 bW
          go_wp2
          exact ⟨⟨t + 1, by omega, by go_num, HR.out.1, HR.out.2⟩, by simp [intOf]; omega⟩
        · obtain rfl : t = 32 := by omega
          rw [Nat.sub_self, show zer 0 = [] from rfl, List.append_nil, List.take_of_length_le (by omega)] at hB
          have HB2 : Hid (Blk wr w2.heap.size 65 (u8s C) ∧ Below w1.heap.size w1 wr) := ⟨hB, bW⟩
          have ho4 : wr.ownsRow w1.heap.size 65 32 u9 k (u8s (E.take (32 * k))) := by
            have := ownsRow_below HO.out.1 G3.out.2.1
            exact own_kept0 this hkp (fun q hq e => by have := (HO.out.1.lt q hq).2; omega)
          have uK : (Tryd.prog.info? 65).map (·.size) = some (u8s C).length := by rw [u8s_length, hCl]; exact sizeKey
          rw [show ((32 : Nat) : Int) = 32 from rfl]
          have zr := bW.size
          clear hB hkp hCl z2 bW
          have bk := build_key C HC.out.1
          obtain ⟨w4, rfl⟩ : ∃ w4, w4 = wr := ⟨_, rfl⟩
          go_wp2_with (first | (refine wpList_load_blk rfl 65 _ rfl _ rfl (u8s C) _ HB2.out.1 Tryd.underlying65 rfl uK ?_) | (refine wpList_buildSlice rfl 60 1 #[(0, .tmp 42)] rfl #[(0, .agg (u8s C).toArray)] (by simp [Act.put, Act.eval]) _ _ (bk _) ?_) | (at_builtin; refine wpList_append_own _ rfl _ _ 60 rfl w1.heap.size 65 i0 (.agg (u8s (zer 32)).toArray) 32 32 Tryd.underlying60 hi0 hz0 hz1 hz2 rfl (by decide) _ _ _ rfl (ho4.alloc _) ⟨w4.heap.size, 0, none⟩ 1 1 (u8s C) rfl (by rw [u8s_length, HC.out.1]) ?c1 ?c2 ?c3 ?c4 ?c5 ?_))
          case c1 =>
            intro j u hj
            rw [add_mid, Nat.zero_add]
            have h : (w4.alloc (.cells (u8s C).toArray 65)).heap[w4.heap.size]? = some (.cells (u8s C).toArray 65 (0, 0)) := heap_alloc_new w4 _
            rw [cell_of_row _ _ j _ 65 (0, 0) h]
            simpa using hj
          case c2 => exact u8s_one _
          case c3 => unfold maxLen; omega
          case c4 => omega
          case c5 => simp; omega
          intro v' w5 hown' hgrow _
          rw [← HC.out.2.1] at hown'
          have R2 : Below w1.heap.size w1 w5 := (HB2.out.2.alloc zr _).grown hgrow (by simp; omega) (fun j hj => (ho4.lt j hj).1)
          clear hgrow ho4
          go_wp2
          exact ⟨⟨k + 1, by omega, by go_num, hown', R2⟩, by simp [intOf]; omega⟩
    · obtain rfl : k = n := by omega
      rw [List.take_of_length_le (by omega)] at hown
      have HF : Hid (∃ vo cap, u9 = .slice vo k cap ∧ KeysAt wr vo k E ∧ Below w.heap.size w wr) := by
        have bW := below_chain H1.out.2 hbel H1.out.2.size
        rcases hown.2 with ⟨h0, h1⟩ | ⟨g, cap, cur, h0, hg, hh, hc, hm, hs, ht⟩
        · exact ⟨none, 0, by rw [h0, h1], ⟨hEl, fun h => by omega⟩, bW⟩
        · refine ⟨_, cap, h0, ⟨hEl, fun h => ⟨g, 0, rfl, lt_of_block hh, fun t ht2 => ?_⟩⟩, bW⟩
          rw [cell_of_row _ _ _ _ _ _ hh, Nat.zero_add]
          have e : (cur.toList.take (k * 32))[t]? = (u8s E)[t]? := by rw [ht]
          rw [List.getElem?_take, if_pos (by omega)] at e
          simp only [Array.getElem?_toList] at e
          rw [e]
          simp [u8s, List.getD, show t < E.length by omega]
      obtain ⟨vo, cap, hv, hF⟩ := HF.out
      subst hv
      have HF2 : Hid (KeysAt wr vo k E ∧ Below w.heap.size w wr) := hF
      clear hown hbel hEl hF HF
      go_wp2
      go_ret
      first
        | exact ⟨_, _, rfl, by rw [HEE.out.1]; exact HF2.out.1, HF2.out.2⟩
        | exact ⟨_, ⟨_, rfl⟩, by rw [HEE.out.1]; exact HF2.out.1, HF2.out.2⟩
end Go.Proofs.YtiimjhahblmggaaDoor
