/- Layer derive: Check. -/
import Derived.Test.YtiimjhahblmggaaDoorVSum
import Derived.Laws.BitsAllLaws
namespace Go.Proofs.YtiimjhahblmggaaDoor
open Go.RowKit
set_option linter.unusedVariables false
set_option linter.unusedSimpArgs false

theorem take_same_succ (xs ys : List Int) (k : Nat) (hx : k < xs.length) (hy : k < ys.length) : (xs.take (k + 1) = ys.take (k + 1)) ↔ (xs.take k = ys.take k ∧ xs.getD k 0 = ys.getD k 0) := by
  rw [List.take_succ_eq_append_getElem hx, List.take_succ_eq_append_getElem hy]
  have e1 : xs.getD k 0 = xs[k] := by simp [List.getD, hx]
  have e2 : ys.getD k 0 = ys[k] := by simp [List.getD, hy]
  rw [e1, e2]
  constructor
  · intro h
    have := List.append_inj h (by simp; omega)
    simpa using this
  · rintro ⟨h1, h2⟩; rw [h1, h2]
theorem orxor_bd (u x y : Int) (hu : 0 ≤ u ∧ u < 256) (hx : 0 ≤ x ∧ x < 256) (hy : 0 ≤ y ∧ y < 256) :
    (0 ≤ bits .or .u8 u (bits .xor .u8 x y) ∧ bits .or .u8 u (bits .xor .u8 x y) < 256) ∧ (bits .or .u8 u (bits .xor .u8 x y) = 0 ↔ (u = 0 ∧ x = y)) := by
  have h1 : x.toNat ^^^ y.toNat < 2 ^ 8 := Nat.xor_lt_two_pow (by omega) (by omega)
  rw [u8_xor x y hx.1 hx.2 hy.1 hy.2, u8_or u _ hu.1 hu.2 (by omega) (by omega)]
  have h2 : u.toNat ||| ((x.toNat ^^^ y.toNat : Nat) : Int).toNat < 2 ^ 8 := Nat.or_lt_two_pow (by omega) (by omega)
  refine ⟨by omega, ?_⟩
  rw [Int.toNat_natCast]
  constructor
  · intro h
    have h3 : u.toNat ≤ u.toNat ||| (x.toNat ^^^ y.toNat) := Nat.left_le_or
    have h4 : (x.toNat ^^^ y.toNat) ≤ u.toNat ||| (x.toNat ^^^ y.toNat) := Nat.right_le_or
    have h5 : x.toNat ^^^ y.toNat = 0 := by omega
    have e : x.toNat = y.toNat := by
      have := congrArg (· ^^^ y.toNat) h5
      simpa [Nat.xor_assoc] using this
    omega
  · rintro ⟨rfl, rfl⟩; simp
set_option maxRecDepth 20000 in
theorem idx_AH (zs : List Int) (hl : zs.length = 32) (k : Nat) (hk : k < 32) (w : World) : (Instr.index 28 (.agg (u8s zs).toArray) (.int .i64 k)).run Tryd.prog w = .ok (.int .u8 (zs.getD k 0)) w := by
  have hsz : ∀ w, (sizeOf 5).run Tryd.prog w = .ok 1 w := fun w => by
    have h := infoByte
    cases hq : Tryd.prog.info? 5 with
    | none => simp [hq] at h
    | some i => simp [hq] at h; simp [sizeOf, typeInfo, hq, h.2]
  have px : (part 5 (u8s zs).toArray (k * 1)).run Tryd.prog w = .ok (.int .u8 (zs.getD k 0)) w := by
    simp [part, isAgg, run_underlying Tryd.underlying5, u8s, List.getD, List.getElem?_eq_getElem (show k < zs.length by omega)]
  rw [Nat.mul_one] at px
  simp [Instr.index, run_underlying Tryd.underlying28, asIntOf, hsz, hk, px]
set_option maxRecDepth 20000 in
set_option maxHeartbeats 1000000 in
theorem check_any (ko : Option Addr) (kn kc : Nat) (key cs : List Int) (ao : Option Addr) (n c : Nat) (pss : List (List Int)) (w : World) (hcs : cs.length = 32) (hcb : Bytes cs) (hk : Seen w ko kn key) (hkc : kn ≤ kc) (hx : SeenP w ao n pss) (hn : n ≤ 140737488355328) (hm : pss.flatten.length < 4611686018427387904) (hK : KTab w) :
    Calls Tryd.prog 13 #[.slice ko kn kc, .agg (u8s cs).toArray, .slice ao n c] w fun e w' => e = .returned (.bool (decide (mac key pss.flatten = cs))) ∧ Below w.heap.size w w' := by
  have HX : Hid (SeenP w ao n pss ∧ Seen w ko kn key ∧ kn ≤ kc ∧ KTab w ∧ pss.flatten.length < 4611686018427387904 ∧ cs.length = 32 ∧ Bytes cs) := ⟨hx, hk, hkc, hK, hm, hcs, hcb⟩
  clear hx hm hK hk hkc hcs hcb
  go_enter Tryd.func13, Tryd.ntmps13
  go_wp2_with (first | (refine wpList_box_new rfl 28 _ rfl (u8s cs) rfl ?_; intro w1 b1 s1 l1; have Z1 : Hid (w1.heap.size = w.heap.size + 1) := s1; clear s1) | (go_at_call 12; refine (vsum_any ko kn kc key ao n c pss _ (HX.out.2.1.later l1 (Nat.le_refl _)) HX.out.2.2.1 (HX.out.1.later l1 (Nat.le_refl _)) hn HX.out.2.2.2.2.1 (HX.out.2.2.2.1.below l1 HX.out.2.2.2.1.lt)).mono ?_; rintro e w2 ⟨rfl, l2⟩))
  obtain ⟨R, hR⟩ : ∃ R, mac key pss.flatten = R := ⟨_, rfl⟩
  rw [hR]
  have HRe : Hid (mac key pss.flatten = R) := hR
  have HR : Hid (R.length = 32 ∧ Bytes R) := ⟨by rw [← hR]; exact mac_length _ _, by rw [← hR]; exact mac_bytes _ _⟩
  have HB : Hid (Blk w2 w.heap.size 28 (u8s cs) ∧ Below w.heap.size w w2) := by
    have := Z1.out
    exact ⟨b1.later l2 (by omega), below_chain l1 l2 (by omega)⟩
  clear b1 l1 l2 hR
  go_loopw [7, 13] (fun v i wr => ∃ (k : Nat) (U : Int), k ≤ 32 ∧ i = .int .i64 k ∧ v = .int .u8 U ∧ (0 ≤ U ∧ U < 256) ∧ (U = 0 ↔ R.take k = cs.take k) ∧ w2 = wr) (fun _ i _ => 32 - (intOf i).toNat)
  case atStart => exact ⟨0, 0, by decide, rfl, rfl, by decide, by simp, rfl⟩
  case round =>
    obtain ⟨k, U, hk, rfl, rfl, hU, hUe, rfl⟩ := hrel
    have lR := HR.out.1
    have lC := HX.out.2.2.2.2.2.1
    by_cases hlt : k < 32
    · have f1 := idx_AH R lR k hlt
      have c1 := u8s_cell HB.out.1 k (by omega)
      have bR := HR.out.2.at k (by omega)
      have bC := HX.out.2.2.2.2.2.2.at k (by omega)
      have ts := take_same_succ R cs k (by omega) (by omega)
      obtain ⟨X, hX⟩ : ∃ X, R.getD k 0 = X := ⟨_, rfl⟩
      obtain ⟨Y, hY⟩ : ∃ Y, cs.getD k 0 = Y := ⟨_, rfl⟩
      rw [hX] at f1 bR ts
      rw [hY] at c1 bC ts
      have ob := orxor_bd U X Y hU bR bC
      have HI : Hid ((0 ≤ bits .or .u8 U (bits .xor .u8 X Y) ∧ bits .or .u8 U (bits .xor .u8 X Y) < 256) ∧ (bits .or .u8 U (bits .xor .u8 X Y) = 0 ↔ R.take (k + 1) = cs.take (k + 1))) := ⟨ob.1, by rw [ob.2, ts, hUe]⟩
      have i1 : (0 : Int) ≤ (k : Int) := by omega
      have i2 : (k : Int) < 32 := by omega
      clear hX hY ob ts hU hUe bR bC lR lC
      go_wp2
      exact ⟨⟨k + 1, _, by omega, by go_num, rfl, HI.out.1, HI.out.2, trivial⟩, by simp [intOf]; omega⟩
    · obtain rfl : k = 32 := by omega
      rw [List.take_of_length_le (by omega), List.take_of_length_le (by omega)] at hUe
      have HE : Hid (decide (R = cs) = (U == 0)) := by
        show _ = _
        by_cases h : U = 0
        · rw [decide_eq_true (hUe.1 h), h]; rfl
        · rw [decide_eq_false (fun e => h (hUe.2 e))]; simp [h]
      clear hUe hU lR lC
      go_wp2
      go_ret
      exact ⟨by rw [HRe.out, HE.out]; rfl, HB.out.2⟩
theorem check_yes (ko : Option Addr) (kn kc : Nat) (key : List Int) (ao : Option Addr) (n c : Nat) (pss : List (List Int)) (w : World) (hk : Seen w ko kn key) (hkc : kn ≤ kc) (hx : SeenP w ao n pss) (hn : n ≤ 140737488355328) (hm : pss.flatten.length < 4611686018427387904) (hK : KTab w) :
    Calls Tryd.prog 13 #[.slice ko kn kc, .agg (u8s (mac key pss.flatten)).toArray, .slice ao n c] w fun e w' => e = .returned (.bool true) ∧ Below w.heap.size w w' :=
  (check_any ko kn kc key _ ao n c pss w (mac_length _ _) (mac_bytes _ _) hk hkc hx hn hm hK).mono fun e w' ⟨he, hb⟩ => ⟨by rw [he]; simp, hb⟩
end Go.Proofs.YtiimjhahblmggaaDoor
