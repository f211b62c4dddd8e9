/- The document's answer for layer derive (trystref04): Expand. -/
import Derived.Test.YtiimjhahblmggaaDoorRVList
namespace Go.Proofs.YtiimjhahblmggaaDoor
open Go.RowKit
set_option linter.unusedVariables false
set_option linter.unusedSimpArgs false

set_option maxRecDepth 20000 in
theorem rexpand_bad (prk : List Int) (io : Option Addr) (im ic : Nat) (N : Int) (w : World) (h : ccE N 8160 ≠ 0) :
    Calls Tryd.prog 24 #[.agg (u8s prk).toArray, .slice io im ic, .int .i64 N] w fun e w' => e = .returned (.slice none 0 0) ∧ Below w.heap.size w w' := by
  have h2 : (ccE N 8160 == 0) = false := by simpa using h
  obtain ⟨E, hE⟩ : ∃ E, ccE N 8160 = E := ⟨_, rfl⟩
  have HE : Hid (ccE N 8160 = E) := hE
  rw [hE] at h2 h
  clear hE
  go_enter Tryd.func24, Tryd.ntmps24
  go_wp2_with (first | (refine wpList_box_new rfl 28 _ rfl (u8s prk) rfl ?_; intro w1 b1 s1 l1) | (go_at_call 22; refine (wrong_any N 8160 _).mono ?_; rintro e _ ⟨rfl, rfl⟩; rw [HE.out]))
  go_ret
  exact ⟨rfl, l1⟩
set_option maxRecDepth 20000 in
set_option maxHeartbeats 1000000 in
theorem rexpand_any (prk : List Int) (hp : prk.length = 32) (hpb : Bytes prk) (io : Option Addr) (im ic : Nat) (info : List Int) (N : Nat) (hN : N ≤ 8160) (w : World) (hx : Seen w io im info) (hic : io = none → ic = 0) (him : im ≤ 1048576) :
    Calls Tryd.prog 24 #[.agg (u8s prk).toArray, .slice io im ic, .int .i64 N] w fun e w' => ∃ vo cap, e = .returned (.slice vo N cap) ∧ Seen w' vo N (exps prk info N) ∧ Below w.heap.size w w' := by
  have HX : Hid (Seen w io im info ∧ prk.length = 32 ∧ Bytes prk) := ⟨hx, hp, hpb⟩
  have HL : Hid (info.length = im) := hx.len
  have HE : Hid (ccE N 8160 = 0) := by show ccE N 8160 = 0; unfold ccE; rw [if_neg (by omega), if_neg (by omega)]
  obtain ⟨i0, hi, hz0, hz1, hz2⟩ := info_parts info_byte
  clear hx hp hpb
  go_enter Tryd.func24, Tryd.ntmps24
  go_wp2_with (first | (refine wpList_box_new rfl 28 _ rfl (u8s prk) rfl ?_; intro w1 b1 s1 l1; have Z1 : Hid (w1.heap.size = w.heap.size + 1) := s1; clear s1) | (go_at_call 22; refine (wrong_any N 8160 _).mono ?_; rintro e _ ⟨rfl, rfl⟩; rw [HE.out]))
  have HB : Hid (Blk w1 w.heap.size 28 (u8s prk) ∧ Below w.heap.size w w1) := ⟨b1, l1⟩
  clear b1 l1
  go_loopw [7, 8, 9] (fun v tv i wr => ∃ (k : Nat) (oo to : Option Addr) (oc tc : Nat), 32 * k ≤ N + 31 ∧ i = .int .i64 ((k : Int) + 1) ∧ v = .slice oo (32 * k) oc ∧ wr.ownsRow w.heap.size 5 1 v (32 * k) ((expA prk info k).map (Value.int .u8)) ∧ tv = .slice to (expT prk info k).length tc ∧ Seen wr to (expT prk info k).length (expT prk info k) ∧ (to = none → tc = 0) ∧ Blk wr w.heap.size 28 (u8s prk) ∧ Below w.heap.size w wr) (fun v _ _ _ => match v with | .slice _ l _ => N + 32 - l | _ => 0)
  case atStart => exact ⟨0, none, none, 0, 0, by omega, rfl, rfl, World.ownsRow_nil _ _ _ _, rfl, Seen.empty _ _, fun _ => rfl, HB.out⟩
  case round =>
    obtain ⟨k, oo, to, oc, tc, hk, rfl, rfl, hown, rfl, hts, htc, hP, hbel⟩ := hrel
    by_cases hlt : 32 * k < N
    · have ht0 : (expT prk info k).length ≤ 32 := by
        cases k with
        | zero => exact Nat.zero_le _
        | succ k => rw [expT_length]; exact Nat.le_refl _
      obtain ⟨T, hT⟩ : ∃ T, expT prk info k = T := ⟨_, rfl⟩
      obtain ⟨T1, hT1⟩ : ∃ T1, expT prk info (k + 1) = T1 := ⟨_, rfl⟩
      obtain ⟨X, hX⟩ : ∃ X : Int, ((k : Int) + 1) % 256 = X := ⟨_, rfl⟩
      have hTb : Bytes T := by rw [← hT]; exact expT_bytes _ _ _
      rw [hT] at hts ht0 ⊢
      have HT : Hid (mac prk (T ++ info ++ [X]) = T1 ∧ T1.length = 32 ∧ Bytes T1 ∧ (T ++ info ++ [X]).length = T.length + im + 1 ∧ Bytes (T ++ info ++ [X]) ∧ T1 = expT prk info (k + 1)) := ⟨by rw [← hT1, ← hT, ← hX]; simp [expT], by rw [← hT1]; exact expT_length _ _ _, by rw [← hT1]; exact expT_bytes _ _ _, by simp [HL.out]; omega, bytes_app (bytes_app hTb HX.out.1.bytes) (by intro z hz; simp at hz; omega), hT1.symm⟩
      have HA : Hid (expA prk info (k + 1) = expA prk info k ++ T1 ∧ (expA prk info k).length = 32 * k) := ⟨by rw [expA, hT1], expA_length _ _ _⟩
      obtain ⟨A, hA⟩ : ∃ A, expA prk info k = A := ⟨_, rfl⟩
      rw [hA] at hown HA
      have H0 : Hid (wr.ownsRow w.heap.size 5 1 (.slice oo (32 * k) oc) (32 * k) (A.map (Value.int .u8)) ∧ Seen wr to T.length T ∧ Blk wr w.heap.size 28 (u8s prk) ∧ Below w.heap.size w wr) := ⟨hown, hts, hP, hbel⟩
      have oE : (wr.alloc (.cells #[] 5)).ownsRow wr.heap.size 5 1 (.slice (some ⟨wr.heap.size, 0, none⟩) 0 0) 0 [] := own_made wr 0 (by decide) #[] rfl
      have lE : Below wr.heap.size wr (wr.alloc (.cells #[] 5)) := (Below.refl _ _).alloc (Nat.le_refl _) _
      have i1 : (32 * (k : Int)) < (N : Int) := by omega
      have i1' : ((32 * k : Nat) : Int) < (N : Int) := by omega
      have hX2 : IntKind.u8.wrap ((k : Int) + 1) = X := by rw [IntKind.wrap_u8]; exact hX
      have u2 : (Tryd.prog.info? 28).map (·.size) = some (u8s prk).length := by rw [u8s_length, HX.out.2.1]; exact sizeAH
      clear hown hts hP hbel hT hT1 hTb hA
      go_wp2_with (first | (at_builtin; refine wpList_append_seen rfl _ _ rfl wr.heap.size _ 0 [] rfl oE to T.length tc T rfl (H0.out.2.1.later lE (Nat.le_refl _)) htc (by omega) (by simp) ?_; intro v2 w2 o2 g2; rw [List.nil_append, Nat.zero_add] at o2; have L2 : Hid (Below wr.heap.size wr w2) := lE.grown g2 (by simp) (fun j hj => (oE.lt j hj).1); clear g2) | (at_builtin; refine wpList_append_seen rfl _ _ rfl wr.heap.size _ T.length _ rfl o2 io im ic info rfl ((HX.out.1.later H0.out.2.2.2 (Nat.le_refl _)).later L2.out (Nat.le_refl _)) hic (by omega) L2.out.size ?_; intro v3 w3 o3 g3; rw [← List.map_append] at o3; have L3 : Hid (Below wr.heap.size wr w3) := L2.out.grown g3 L2.out.size (fun j hj => (o2.lt j hj).1); clear g3) | (refine wpList_load_blk rfl 28 _ rfl _ rfl (u8s prk) _ (H0.out.2.2.1.later L3.out H0.out.2.2.1.lt) Tryd.underlying28 rfl u2 ?_) | ((with_reducible show Calls _ _ _ w3 _); go_at_call 38; refine (rlist_any prk HX.out.2.1 _).mono ?_; rintro e w4 ⟨v4, rfl, o4, l4⟩; rw [← HX.out.2.1] at o4; obtain ⟨po, pc, rfl, s4, hpc, hpn, hpb, _⟩ := own_data HX.out.2.2 (by rw [HX.out.2.1]; decide) o4; have o3' := ownsRow_below o3 l4; have L4 : Hid (Below wr.heap.size wr w4 ∧ w3.heap.size ≤ w4.heap.size) := ⟨below_chain L3.out l4 L3.out.size, l4.size⟩; clear o4 l4; have z4 := L4.out.1.size) | (at_builtin; refine wpList_append_own _ rfl _ _ 22 rfl wr.heap.size 5 i0 (.int .u8 0) 1 1 Tryd.underlying22 hi hz0 hz1 hz2 rfl (by decide) _ _ _ rfl (o3'.alloc _) ⟨w4.heap.size, 0, none⟩ 1 1 [.int .u8 X] rfl rfl ?c1 ?c2 ?c3 ?c4 ?c5 ?_))
      case c1 => exact one_new _ _ _
      case c2 => intro u hu; simp at hu; subst hu; rfl
      case c3 => unfold maxLen; omega
      case c4 => omega
      case c5 => simp; omega
      intro v5 w5 o5 g5 _
      have L5 : Hid (Below wr.heap.size wr w5) := (L4.out.1.alloc L4.out.1.size _).grown g5 (by simp; omega) (fun j hj => (o3'.lt j hj).1)
      have S5 : Seen w5 po prk.length prk := (s4.later ((Below.refl _ _).alloc (Nat.le_refl _) (.cells #[.int .u8 X] 5)) (Nat.le_refl _)).kept (Kept.ofGrown0 g5) (fun b o _ e hS => by have := (o3.lt b hS).2; have := (hpb b o e).1; omega)
      rw [show (T.map (Value.int .u8) ++ (info.map (Value.int .u8) ++ [Value.int .u8 X])) = (T ++ info ++ [X]).map (Value.int .u8) by simp, ← HT.out.2.2.2.1] at o5
      obtain ⟨xo, xc, rfl, s5, hxc, hxn, _, _⟩ := own_data HT.out.2.2.2.2.1 (by rw [HT.out.2.2.2.1]; omega) o5
      obtain ⟨Y, hY⟩ : ∃ Y, T ++ info ++ [X] = Y := ⟨_, rfl⟩
      rw [hY] at s5 HT
      have H5 : Hid (Seen w5 po prk.length prk ∧ (po = none → pc = 0) ∧ Seen w5 xo Y.length Y ∧ (xo = none → xc = 0)) := ⟨S5, hpn, s5, hxn⟩
      have z5 := L5.out.size
      rw [hY]
      clear o5 g5 S5 s5 hxc hxn s4 hpc hpn hpb o3 o3' z4 hY oE lE o2
      have HYl : Hid (Y.length = T.length + im + 1) := HT.out.2.2.2.1
      go_wp2_with (first | (go_at_call 11; refine (rvsum_any po prk.length pc prk xo Y.length xc Y _ H5.out.1 H5.out.2.1 (by rw [HX.out.2.1]; decide) H5.out.2.2.1 H5.out.2.2.2 (by have := HYl.out; omega)).mono ?_; rintro e w6 ⟨rfl, l6⟩; rw [HT.out.1]; have L6 : Hid (Below wr.heap.size wr w6) := below_chain L5.out l6 L5.out.size; clear l6) | (go_at_call 38; refine (rlist_any T1 HT.out.2.1 _).mono ?_; rintro e w7 ⟨v7, rfl, o7, l7⟩; rw [← HT.out.2.1] at o7; obtain ⟨qo, qc, rfl, s7, hqc, hqn, hqb, _⟩ := own_data HT.out.2.2.1 (by rw [HT.out.2.1]; decide) o7; have L7 : Hid (Below wr.heap.size wr w7 ∧ wr.heap.size ≤ w6.heap.size ∧ w6.heap.size ≤ w7.heap.size) := ⟨below_chain L6.out l7 L6.out.size, L6.out.size, l7.size⟩; clear o7 l7) | (at_builtin; refine wpList_append_seen rfl _ _ rfl w.heap.size _ (32 * k) _ rfl (ownsRow_below H0.out.1 L7.out.1) qo T1.length qc T1 rfl s7 hqn (by have := HT.out.2.1; omega) (by have := H0.out.2.2.2.size; have := L7.out.1.size; omega) ?_; intro v8 w8 o8 g8))
      rw [← List.map_append, ← HA.out.1, HT.out.2.1, show 32 * k + 32 = 32 * (k + 1) by omega] at o8
      have H8 : Hid (w8.ownsRow w.heap.size 5 1 v8 (32 * (k + 1)) ((expA prk info (k + 1)).map (Value.int .u8)) ∧ Seen w8 qo T1.length T1 ∧ (qo = none → qc = 0) ∧ Blk w8 w.heap.size 28 (u8s prk) ∧ Below w.heap.size w w8) := by
        have hlo := H0.out.1.lt
        have zz := L7.out
        have B7 := below_chain H0.out.2.2.2 zz.1 H0.out.2.2.2.size
        have bP := H0.out.2.2.1.later zz.1 H0.out.2.2.1.lt
        have oo7 := ownsRow_below H0.out.1 zz.1
        exact ⟨o8, s7.kept (Kept.ofGrown0 g8) (fun b o _ e hS => by have := (hlo b hS).2; have := (hqb b o e).1; omega), hqn, bP.kept (Kept.ofGrown0 g8) (own_ne0 oo7 bP (by decide)), B7.grown g8 B7.size (fun j hj => (oo7.lt j hj).1)⟩
      obtain ⟨oo', oc', rfl⟩ : ∃ oo' oc', v8 = .slice oo' (32 * (k + 1)) oc' := by
        rcases own_len (expA_length _ _ _) H8.out.1 with ⟨_, h0⟩ | ⟨g, cap, rfl, _⟩
        · omega
        · exact ⟨_, _, rfl⟩
      clear o8 g8 s7 hqc hqn hqb
      go_wp2
      refine ⟨⟨k + 1, oo', qo, oc', qc, by omega, by go_num, rfl, H8.out.1, by rw [← HT.out.2.2.2.2.2], by rw [← HT.out.2.2.2.2.2]; exact H8.out.2.1, H8.out.2.2.1, H8.out.2.2.2.1, H8.out.2.2.2.2⟩, by show N + 32 - 32 * (k + 1) < N + 32 - 32 * k; omega⟩
    · have hA := expA_length prk info k
      rw [← hA] at hown
      obtain ⟨vo, vc, e, sv, hvc, _, _, _⟩ := own_data (expA_bytes _ _ _) (by omega) hown
      simp only [Value.slice.injEq] at e
      obtain ⟨rfl, _, rfl⟩ := e
      rw [hA] at sv hvc
      have q := sv.sub 0 N oc (Nat.zero_le _) (by omega) hvc
      rw [Nat.sub_zero, List.drop_zero, expA_take prk info ((N + 31) / 32) k N (by omega) (by omega)] at q
      have HF : Hid (Seen wr (subA oo 0 oc) N (exps prk info N) ∧ Below w.heap.size w wr) := ⟨q, hbel⟩
      have g1 := sl_h oo (32 * k) oc N (by omega)
      have i1 : ¬ (32 * (k : Int)) < (N : Int) := by omega
      have i1' : ¬ ((32 * k : Nat) : Int) < (N : Int) := by omega
      clear q sv hown hts hP hbel hA
      go_wp2
      go_ret
      exact ⟨subA oo 0 oc, ⟨oc, rfl⟩, HF.out.1, HF.out.2⟩
end Go.Proofs.YtiimjhahblmggaaDoor
