/- The walk of DerivePieces. -/
import Derived.Test.YtkchkeoemlpjmabDoorVWorks
import Derived.Test.YtkchkeoemlpjmabDoorVCheck
import Derived.Test.YtkchkeoemlpjmabDoorVRows
import Derived.Test.YtkchkeoemlpjmabDoorRTwin
import Derived.Test.YtkchkeoemlpjmabDoorDHeld
import Derived.Test.YtkchkeoemlpjmabDoorVSlice
namespace Go.Proofs.YtkchkeoemlpjmabDoor.derivePieces
open Go.RowKit
set_option linter.unusedVariables false
set_option linter.unusedSimpArgs false

theorem rem_some (z : Int) (n a : Nat) (ha : a ≤ n) (hn : n ≤ 1048576) : ∃ r : Nat, Value.int .u64 ((IntKind.u64.wrap z).tmod ((n : Int) - (a : Int) + 1)) = Value.int .u64 (r : Int) ∧ a + r ≤ n ∧ Value.int .i64 (wrap64 (r : Int)) = Value.int .i64 (r : Int) ∧ Value.int .u64 (IntKind.u64.wrap ((n : Int) - (a : Int) + 1)) = Value.int .u64 ((n : Int) - (a : Int) + 1) := by
  have h1 : 0 ≤ IntKind.u64.wrap z := by rw [IntKind.wrap_u64]; omega
  have h2 := Int.emod_nonneg (IntKind.u64.wrap z) (show (n : Int) - (a : Int) + 1 ≠ 0 by omega)
  have h3 := Int.emod_lt_of_pos (IntKind.u64.wrap z) (show (0 : Int) < (n : Int) - (a : Int) + 1 by omega)
  obtain ⟨x, hx⟩ : ∃ x, IntKind.u64.wrap z % ((n : Int) - (a : Int) + 1) = x := ⟨_, rfl⟩
  rw [hx] at h2 h3
  have e : (IntKind.u64.wrap z).tmod ((n : Int) - (a : Int) + 1) = x := by rw [Int.tmod_eq_emod_of_nonneg h1]; exact hx
  clear hx h1
  have e2 : ((x.toNat : Nat) : Int) = x := by clear e; omega
  refine ⟨x.toNat, by rw [e, e2], by clear e; omega, ?_, ?_⟩
  · rw [show wrap64 ((x.toNat : Nat) : Int) = ((x.toNat : Nat) : Int) by clear e; unfold wrap64; omega]
  · rw [show IntKind.u64.wrap ((n : Int) - (a : Int) + 1) = (n : Int) - (a : Int) + 1 by clear e; rw [IntKind.wrap_u64]; omega]
theorem check_yes1 (ko : Option Addr) (kn kc : Nat) (key : List Int) (ao : Option Addr) (n c : Nat) (zs : List Int) (w : World) (hk : Seen w ko kn key) (hkc : kn ≤ kc) (hx : SeenP w ao n [zs]) (hm : zs.length < 4611686018427387904) (hK : KTab w) :
    Calls Tryd.prog 12 #[.slice ko kn kc, .agg (u8s (mac key zs)).toArray, .slice ao n c] w fun e w' => e = .returned (.bool true) ∧ Below w.heap.size w w' := by
  have h := check_yes ko kn kc key ao n c [zs] w hk hkc hx (by have := hx.len; simp at this; omega) (by simpa using hm) hK
  rw [show ([zs] : List (List Int)).flatten = zs by simp] at h
  exact h
/-- Numbers as data. -/
structure SeenI (w : World) (ao : Option Addr) (n : Nat) : Prop where
  cells : ∀ i, i < n → ∃ b o z, ao = some ⟨b, o, none⟩ ∧ b < w.heap.size ∧ w.cell? ⟨b, o + i, none⟩ = some (.int .i64 z)
theorem SeenI.later {w w' : World} {ao : Option Addr} {n : Nat} (h : SeenI w ao n) {B : Nat} (hb : Below B w w') (hB : w.heap.size ≤ B) : SeenI w' ao n :=
  ⟨fun i hi => by
    obtain ⟨b, o, z, e, hl, hc⟩ := h.cells i hi
    exact ⟨b, o, z, e, Nat.lt_of_lt_of_le hl hb.size, (hb.cell (p := ⟨b, o + i, none⟩) (Nat.lt_of_lt_of_le hl hB)).trans hc⟩⟩

set_option maxRecDepth 20000 in
set_option maxHeartbeats 4000000 in
theorem walk (ko : Option Addr) (kn kc : Nat) (key : List Int) (ao : Option Addr) (n c : Nat) (zs : List Int) (qo : Option Addr) (qn qc : Nat) (w : World) (hk : Seen w ko kn key) (hkc : kn ≤ kc) (hx : Seen w ao n zs) (hc : n ≤ c) (hn : n ≤ 1048576) (hq : SeenI w qo qn) (hqn : qn ≤ 1048576) (hK : KTab w) :
    Calls Tryd.prog 3 #[.slice ko kn kc, .slice ao n c, .slice qo qn qc] w fun e w' => e = .returned (.bool true) ∧ Below w.heap.size w w' := by
  have HX : Hid (Seen w ko kn key ∧ kn ≤ kc ∧ Seen w ao n zs ∧ n ≤ c ∧ KTab w) := ⟨hk, hkc, hx, hc, hK⟩
  have HL : Hid (key.length = kn ∧ zs.length = n) := ⟨hk.len, hx.len⟩
  have HI : Hid (SeenI w qo qn) := hq
  have hkt := hk.top
  have q0 := hK.lt
  clear hk hkc hx hc hK hq
  obtain ⟨iB, hiB, hB0, hB1, hB2⟩ := info_parts info_bytes
  go_enter Tryd.func3, Tryd.ntmps3
  go_wp2_with (first | ((with_reducible show Calls _ _ _ w _); go_at_call 7; refine (vnew_any ko kn kc key _ HX.out.1 HX.out.2.1 HX.out.2.2.2.2).mono ?_; rintro e w1 ⟨P, g, g', rfl, hP, hg, hg', m1, l1⟩) | (go_at_call 7; refine (vnew_any ko kn kc key _ (HX.out.1.later l1 (Nat.le_refl _)) HX.out.2.1 (HX.out.2.2.2.2.below l1 q0)).mono ?_; rintro e w2 ⟨Q, h, h', rfl, hQ, hh, hh', m2, l2⟩))
  have HB : Hid (MacAt w2 P g g' key (zs.take 0) ∧ MacAt w2 Q h h' key [] ∧ Below w.heap.size w w2 ∧ (w.heap.size ≤ P ∧ w.heap.size ≤ g ∧ w.heap.size ≤ g' ∧ w.heap.size ≤ Q ∧ w.heap.size ≤ h ∧ w.heap.size ≤ h') ∧ (P ≠ h ∧ g ≠ h ∧ g' ≠ h ∧ Q ≠ g ∧ h' ≠ g)) := by
    have x1 := m1.blk.lt; have x2 := m1.kd.lts; have x3 := l1.size
    exact ⟨m1.now l2, m2, below_chain l1 l2 x3, by omega, by omega⟩
  clear hP hg hg' m1 l1 hQ hh hh' m2 l2
  go_loopw [9, 10, 11] (fun v at' i wr => ∃ (k a : Nat) (pss : List (List Int)) (hd : List Value) (tb : List Int), k ≤ qn ∧ a ≤ n ∧ i = .int .i64 k ∧ at' = .int .i64 a ∧ pss.length = k ∧ pss.flatten = zs.take a ∧ (∀ p ∈ pss, Bytes p ∧ p.length ≤ n) ∧ OwnH w.heap.size wr v k pss hd ∧ MacAt wr P g g' key (zs.take a) ∧ MacAt wr Q h h' key tb ∧ tb.length = 3 * k ∧ Below w.heap.size w wr) (fun _ _ i _ => qn - (intOf i).toNat)
  case atStart => exact ⟨0, 0, [], [], [], Nat.zero_le _, Nat.zero_le _, rfl, rfl, rfl, by simp, by simp, ⟨World.ownsRow_nil _ _ _ _, fun j h => by omega⟩, HB.out.1, HB.out.2.1, rfl, HB.out.2.2.1⟩
  case round =>
    obtain ⟨k, a, pss, hd, tb, hk, ha, rfl, rfl, hpl, hpf, hpb, hown, hm1, hm2, htb, hbel⟩ := hrel
    have HZ : Hid (zs.length = n ∧ Bytes zs) := ⟨HL.out.2, HX.out.2.2.1.bytes⟩
    by_cases hlt : k < qn
    · obtain ⟨b0, o0, z, rfl, hb0, hc0⟩ := HI.out.cells k hlt
      have c1 := (hbel.cell (p := ⟨b0, o0 + k, none⟩) hb0).trans hc0
      obtain ⟨r, hr, hbn, f1, f0⟩ := rem_some z n a ha hn
      have hnc := HX.out.2.2.2.1
      have g1 := sl_lh ao n c a (a + r) (Nat.le_add_right _ _) (by omega)
      rw [Nat.add_sub_cancel_left, show ((a + r : Nat) : Int) = (a : Int) + (r : Int) by omega] at g1
      obtain ⟨p, hp⟩ : ∃ p, (zs.drop a).take r = p := ⟨_, rfl⟩
      have HS : Hid (∀ W, Below w.heap.size w W → Seen W (subA ao a c) r p) := fun W hW => by
        have q := (HX.out.2.2.1.sub a (a + r) c (Nat.le_add_right _ _) hbn hnc).later hW (Nat.le_refl _)
        rw [Nat.add_sub_cancel_left, hp] at q
        exact q
      have HP : Hid (p.length = r ∧ Bytes p ∧ zs.take (a + r) = zs.take a ++ p) := ⟨by rw [← hp]; simp; have := HZ.out.1; omega, by rw [← hp]; exact bytes_take (bytes_drop HZ.out.2 _) _, by rw [← hp, ← List.take_add]⟩
      have HH : Hid (OwnH w.heap.size wr u9 k pss hd ∧ MacAt wr P g g' key (zs.take a) ∧ MacAt wr Q h h' key tb ∧ Below w.heap.size w wr ∧ pss.length = k ∧ pss.flatten = zs.take a ∧ (∀ p ∈ pss, Bytes p ∧ p.length ≤ n) ∧ tb.length = 3 * k) := ⟨hown, hm1, hm2, hbel, hpl, hpf, hpb, htb⟩
      have i1 : (0 : Int) ≤ (k : Int) := by omega
      have i2 : (k : Int) < (qn : Int) := by omega
      have hsz := hbel.size
      clear hown hm1 hm2 hbel hpl hpf hpb htb hc0 hp
      go_wp2_with (first | ((with_reducible show Calls _ _ _ wr _); go_at_call 8; refine (twin_any (subA ao a c) r (c - a) p _ (HS.out _ HH.out.2.2.2.1)).mono ?_; rintro e w3 ⟨v3, rfl, o3, l3⟩; rw [← HP.out.1] at o3; obtain ⟨uo, uc, rfl, s3, huc, _, hub, _⟩ := own_data HP.out.2.1 (by rw [HP.out.1]; omega) o3; clear o3; have ho3 := ownsRow_below HH.out.1.outer l3; have z3 := l3.size) | (at_builtin; refine wpList_append_own _ rfl _ _ 26 rfl w.heap.size 22 iB (.slice none 0 0) 1 24 Tryd.underlying26 hiB hB0 hB1 hB2 rfl (by decide) _ _ _ rfl (ho3.alloc _) ⟨w3.heap.size, 0, none⟩ 1 1 [.slice uo p.length uc] rfl rfl ?c1 ?c2 ?c3 ?c4 ?c5 ?_))
      case c1 => exact one_new _ _ _
      case c2 => intro u hu; simp at hu; subst hu; rfl
      case c3 => unfold maxLen; omega
      case c4 => omega
      case c5 => simp; omega
      · intro v4 w4 hown' hgrow _
        have R := own_list_more HH.out.2.2.2.2.1 HH.out.2.2.2.1 HH.out.1 l3 huc hub s3 hown' hgrow
        have M1 := HH.out.2.1.grown l3 ho3 hgrow
        have M2 := HH.out.2.2.1.grown l3 ho3 hgrow
        have H4 : Hid (OwnH w.heap.size w4 v4 (k + 1) (pss ++ [p]) (hd ++ [.slice uo p.length uc]) ∧ MacAt w4 P g g' key (zs.take a) ∧ MacAt w4 Q h h' key tb ∧ Below w.heap.size w w4) := ⟨R.1, M1, M2, R.2⟩
        clear R M1 M2 hown' hgrow ho3 s3 huc hub l3 z3
        have HM : Hid (p.length ≤ 1048576 ∧ (zs.take a).length + p.length < 9223372036854775744) := by
          have := HP.out.1; have := HZ.out.1
          refine ⟨by omega, ?_⟩
          rw [List.length_take]; omega
        go_wp2_with (first | (go_at_call 8; refine (twin_any (subA ao a c) r (c - a) p _ (HS.out _ H4.out.2.2.2)).mono ?_; rintro e w5 ⟨v5, rfl, o5, l5⟩; rw [← HP.out.1] at o5; obtain ⟨xo, xc, rfl, s5, hxc, _, hxb, _⟩ := own_data HP.out.2.1 (by have := HM.out.1; omega) o5; clear o5; have H5 : Hid (OwnH w.heap.size w5 v4 (k + 1) (pss ++ [p]) (hd ++ [.slice uo p.length uc]) ∧ MacAt w5 P g g' key (zs.take a) ∧ MacAt w5 Q h h' key tb ∧ Below w.heap.size w w5 ∧ Seen w5 xo p.length p ∧ p.length ≤ xc ∧ (∀ b o, 0 < p.length → xo = some ⟨b, o, none⟩ → b ≠ g)) := (by have hgl := H4.out.2.1.kd.lts.1; exact ⟨H4.out.1.below l5, H4.out.2.1.now l5, H4.out.2.2.1.now l5, below_chain H4.out.2.2.2 l5 H4.out.2.2.2.size, s5, hxc, fun b o _ e => by have := (hxb b o e).1; omega⟩); clear s5 hxc hxb l5) | ((with_reducible show Calls _ _ #[.pointer (some ⟨P, 0, none⟩), _] _ _); go_at_call 9; refine (mwrite_any P g g' key (zs.take a) xo p.length xc p _ H5.out.2.1 H5.out.2.2.2.2.1 H5.out.2.2.2.2.2.1 H5.out.2.2.2.2.2.2 (HX.out.2.2.2.2.below H5.out.2.2.2.1 q0) (by have := HB.out.2.2.2.1; omega) HM.out.2).mono ?_; rintro e w6 ⟨rfl, m6, k6⟩; have H6 : Hid (OwnH w.heap.size w6 v4 (k + 1) (pss ++ [p]) (hd ++ [.slice uo p.length uc]) ∧ MacAt w6 P g g' key (zs.take a ++ p) ∧ MacAt w6 Q h h' key tb ∧ Below w.heap.size w w6) := (by obtain ⟨⟨y1, y2, y3, y4, y5, y6⟩, y7, y8, y9, y10, y11⟩ := HB.out.2.2.2; exact ⟨H5.out.1.kept k6 (fun b e => by subst e; exact H5.out.2.1.kd.inn.blk), m6, H5.out.2.2.1.kept k6 (by omega) (by omega) (by omega), below_kept H5.out.2.2.2.1 k6 H5.out.2.2.2.1.size (fun j hj => by omega)⟩); clear m6 k6) | (go_at_call 9; refine (mwrite_any Q h h' key tb _ 3 3 [1, 2, 3] _ (H6.out.2.2.1.now ((Below.refl _ _).alloc (Nat.le_refl _) _)) (Seen.of_row (n := 3) (RowAt.new w6 [1, 2, 3]) (by decide) (by decide) (by intro z hz; simp at hz; omega)) (Nat.le_refl _) (fun b o _ e => by have := H6.out.2.2.1.kd.lts.1; simp at e; omega) (HX.out.2.2.2.2.below (H6.out.2.2.2.alloc H6.out.2.2.2.size _) q0) (by have := HB.out.2.2.2.1; omega) (by have := HH.out.2.2.2.2.2.2.2; omega)).mono ?_; rintro e w7 ⟨rfl, m7, k7⟩; have H7 : Hid (OwnH w.heap.size w7 v4 (k + 1) (pss ++ [p]) (hd ++ [.slice uo p.length uc]) ∧ MacAt w7 P g g' key (zs.take a ++ p) ∧ MacAt w7 Q h h' key (tb ++ [1, 2, 3]) ∧ Below w.heap.size w w7) := (by obtain ⟨⟨y1, y2, y3, y4, y5, y6⟩, y7, y8, y9, y10, y11⟩ := HB.out.2.2.2; have BA := (Below.refl w6.heap.size w6).alloc (Nat.le_refl _) (.cells #[.int .u8 1, .int .u8 2, .int .u8 3] 5); have BB := H6.out.2.2.2.alloc H6.out.2.2.2.size (.cells #[.int .u8 1, .int .u8 2, .int .u8 3] 5); exact ⟨(H6.out.1.below BA).kept k7 (fun b e => by subst e; exact (H6.out.2.2.1.now BA).kd.inn.blk), (H6.out.2.1.now BA).kept k7 (by omega) (by omega) (by omega), m7, below_kept BB k7 BB.size (fun j hj => by omega)⟩); clear m7 k7))
        refine ⟨⟨k + 1, a + r, pss ++ [p], _, tb ++ [1, 2, 3], by omega, by omega, by go_num, by go_num, by simp [HH.out.2.2.2.2.1], by rw [List.flatten_append, HH.out.2.2.2.2.2.1, HP.out.2.2]; simp, ?_, H7.out.1, by rw [HP.out.2.2]; exact H7.out.2.1, H7.out.2.2.1, by simp [HH.out.2.2.2.2.2.2.2]; omega, H7.out.2.2.2⟩, by simp [intOf]; omega⟩
        intro x hx
        rcases List.mem_append.1 hx with hx | hx
        · exact HH.out.2.2.2.2.2.2.1 x hx
        · obtain rfl := List.mem_singleton.1 hx
          exact ⟨HP.out.2.1, by have := HP.out.1; omega⟩
    · obtain rfl : k = qn := by omega
      have hnc := HX.out.2.2.2.1
      have g1 := sl_l ao n c a ha
      obtain ⟨p, hp⟩ : ∃ p, zs.drop a = p := ⟨_, rfl⟩
      have HS : Hid (∀ W, Below w.heap.size w W → Seen W (subA ao a c) (n - a) p) := fun W hW => by
        have q := (HX.out.2.2.1.sub a n c ha (Nat.le_refl _) hnc).later hW (Nat.le_refl _)
        rw [hp, List.take_of_length_le (by rw [← hp, List.length_drop, HZ.out.1]; exact Nat.le_refl _)] at q
        exact q
      have HP : Hid (p.length = n - a ∧ Bytes p ∧ zs.take a ++ p = zs) := ⟨by rw [← hp, List.length_drop, HZ.out.1], by rw [← hp]; exact bytes_drop HZ.out.2 _, by rw [← hp]; exact List.take_append_drop _ _⟩
      have HH : Hid (OwnH w.heap.size wr u9 k pss hd ∧ MacAt wr P g g' key (zs.take a) ∧ Below w.heap.size w wr ∧ pss.length = k ∧ pss.flatten = zs.take a ∧ (∀ p ∈ pss, Bytes p ∧ p.length ≤ n)) := ⟨hown, hm1, hbel, hpl, hpf, hpb⟩
      have hsz := hbel.size
      clear hown hm1 hm2 hbel hpl hpf hpb htb hp
      go_wp2_with (first | ((with_reducible show Calls _ _ _ wr _); go_at_call 8; refine (twin_any (subA ao a c) (n - a) (c - a) p _ (HS.out _ HH.out.2.2.1)).mono ?_; rintro e w3 ⟨v3, rfl, o3, l3⟩; rw [← HP.out.1] at o3; obtain ⟨uo, uc, rfl, s3, huc, _, hub, _⟩ := own_data HP.out.2.1 (by rw [HP.out.1]; omega) o3; clear o3; have ho3 := ownsRow_below HH.out.1.outer l3; have z3 := l3.size) | (at_builtin; refine wpList_append_own _ rfl _ _ 26 rfl w.heap.size 22 iB (.slice none 0 0) 1 24 Tryd.underlying26 hiB hB0 hB1 hB2 rfl (by decide) _ _ _ rfl (ho3.alloc _) ⟨w3.heap.size, 0, none⟩ 1 1 [.slice uo p.length uc] rfl rfl ?c1 ?c2 ?c3 ?c4 ?c5 ?_))
      case c1 => exact one_new _ _ _
      case c2 => intro u hu; simp at hu; subst hu; rfl
      case c3 => unfold maxLen; omega
      case c4 => omega
      case c5 => simp; omega
      intro v4 w4 hown' hgrow _
      have R := own_list_more HH.out.2.2.2.1 HH.out.2.2.1 HH.out.1 l3 huc hub s3 hown' hgrow
      have M1 := HH.out.2.1.grown l3 ho3 hgrow
      have HJ : Hid ((pss ++ [p]).length = k + 1 ∧ ∀ j, j < k + 1 → Bytes ((pss ++ [p]).getD j []) ∧ ((pss ++ [p]).getD j []).length ≤ 140737488355328) := ⟨by simp [HH.out.2.2.2.1], fun j hj => by
        rcases Nat.lt_or_ge j pss.length with hl | hl
        · rw [getD_app pss p j hl]
          have e : pss.getD j [] = pss[j] := by simp [List.getD, hl]
          have := HH.out.2.2.2.2.2 _ (List.getElem_mem hl)
          rw [e]; exact ⟨this.1, by omega⟩
        · rw [getD_last pss p j (by have := HH.out.2.2.2.1; omega)]
          exact ⟨HP.out.2.1, by have := HP.out.1; omega⟩⟩
      obtain ⟨yo, yc, rfl, _, hyc⟩ := R.1.data HJ.out.1 HJ.out.2
      have H4 : Hid (OwnH w.heap.size w4 (.slice yo (k + 1) yc) (k + 1) (pss ++ [p]) (hd ++ [.slice uo p.length uc]) ∧ k + 1 ≤ yc ∧ MacAt w4 P g g' key (zs.take a) ∧ Below w.heap.size w w4 ∧ (pss ++ [p]).flatten = zs) := ⟨R.1, hyc, M1, R.2, by rw [List.flatten_append, HH.out.2.2.2.2.1]; simpa using HP.out.2.2⟩
      obtain ⟨prs, hprs⟩ : ∃ prs, pss ++ [p] = prs := ⟨_, rfl⟩
      rw [hprs] at H4 HJ
      clear R M1 hown' hgrow ho3 s3 huc hub l3 z3 hyc hprs
      have HM : Hid (p.length ≤ 1048576 ∧ (zs.take a).length + p.length < 9223372036854775744 ∧ zs.length < 4611686018427387904) := by
        have := HP.out.1; have := HZ.out.1
        refine ⟨by omega, ?_, by omega⟩
        rw [List.length_take]; omega
      have heq : ∀ wx, (Op.equalIn 10000 34 (.agg (u8s (mac key zs)).toArray) (.agg (u8s (mac key zs)).toArray)).run Tryd.prog wx = .ok true wx := equal_self 9998 (mac key zs) (mac_length _ _)
      go_wp2_with (first | (go_at_call 8; refine (twin_any (subA ao a c) (n - a) (c - a) p _ (HS.out _ H4.out.2.2.2.1)).mono ?_; rintro e w5 ⟨v5, rfl, o5, l5⟩; rw [← HP.out.1] at o5; obtain ⟨xo, xc, rfl, s5, hxc, _, hxb, _⟩ := own_data HP.out.2.1 (by have := HM.out.1; omega) o5; clear o5; have H5 : Hid (OwnH w.heap.size w5 (.slice yo (k + 1) yc) (k + 1) prs (hd ++ [.slice uo p.length uc]) ∧ MacAt w5 P g g' key (zs.take a) ∧ Below w.heap.size w w5 ∧ Seen w5 xo p.length p ∧ p.length ≤ xc ∧ (∀ b o, 0 < p.length → xo = some ⟨b, o, none⟩ → b ≠ g)) := (by have hgl := H4.out.2.2.1.kd.lts.1; exact ⟨H4.out.1.below l5, H4.out.2.2.1.now l5, below_chain H4.out.2.2.2.1 l5 H4.out.2.2.2.1.size, s5, hxc, fun b o _ e => by have := (hxb b o e).1; omega⟩); clear s5 hxc hxb l5) | (go_at_call 9; refine (mwrite_any P g g' key (zs.take a) xo p.length xc p _ H5.out.2.1 H5.out.2.2.2.1 H5.out.2.2.2.2.1 H5.out.2.2.2.2.2 (HX.out.2.2.2.2.below H5.out.2.2.1 q0) (by have := HB.out.2.2.2.1; omega) HM.out.2.1).mono ?_; rintro e w6 ⟨rfl, m6, k6⟩; rw [HP.out.2.2] at m6; have H6 : Hid (SeenP w6 yo (k + 1) prs ∧ MacAt w6 P g g' key zs ∧ Below w.heap.size w w6) := (by obtain ⟨⟨y1, y2, y3, y4, y5, y6⟩, y7, y8, y9, y10, y11⟩ := HB.out.2.2.2; have O6 := H5.out.1.kept k6 (fun b e => by subst e; exact H5.out.2.1.kd.inn.blk); obtain ⟨a1, a2, a3, a4, _⟩ := O6.data HJ.out.1 HJ.out.2; simp only [Value.slice.injEq] at a3; obtain ⟨rfl, _, rfl⟩ := a3; exact ⟨a4, m6, below_kept H5.out.2.2.1 k6 H5.out.2.2.1.size (fun j hj => by omega)⟩); clear m6 k6) | (go_at_call 10; refine (vsum_any ko kn kc key _ 1 1 [zs] _ (HX.out.1.later (H6.out.2.2.alloc H6.out.2.2.size _) (Nat.le_refl _)) HX.out.2.1 (seenP1 w6 ao n c zs (HX.out.2.2.1.later H6.out.2.2 (Nat.le_refl _)) HX.out.2.2.2.1) (by decide) (by rw [show ([zs] : List (List Int)).flatten = zs by simp]; exact HM.out.2.2) (HX.out.2.2.2.2.below (H6.out.2.2.alloc H6.out.2.2.size _) q0)).mono ?_; rintro e w7 ⟨rfl, l7⟩; rw [show ([zs] : List (List Int)).flatten = zs by simp]; have G7 : Hid (Below w6.heap.size w6 w7) := below_chain ((Below.refl w6.heap.size w6).alloc (Nat.le_refl _) (.cells #[.slice ao n c] 22)) l7 (by simp); clear l7) | (refine wpList_alloc_new rfl 34 rfl 32 _ zeroAH ?_; intro w8 b8 s8 l8; have Z8 : Hid (w8.heap.size = w7.heap.size + 1) := s8; clear s8) | (refine wpList_store_blk rfl 34 34 _ _ rfl _ rfl _ (u8s (mac key zs)) rfl b8 (by rw [u8s_length, mac_length, u8s_length, zer_length]) (by rw [u8s_length, mac_length]; exact sizeAH) (u8s_one _) ?_; intro w9 b9 s9 k9; have G9 : Hid (Blk w9 w7.heap.size 34 (u8s (mac key zs)) ∧ Below w6.heap.size w6 w9 ∧ w7.heap.size < w9.heap.size) := (by have := Z8.out; have q := G7.out.size; exact ⟨b9, below_kept (below_chain G7.out l8 (by omega)) k9 (by omega) (fun j hj => by omega), by omega⟩); clear b9 s9 k9 b8 l8))
      have HG : Hid (∀ W, Below w9.heap.size w9 W → KTab W ∧ Seen W ko kn key ∧ Seen W ao n zs ∧ MacAt W P g g' key zs ∧ SeenP W yo (k + 1) prs ∧ W.rangeAt w7.heap.size 0 (u8s (mac key zs)) ∧ Below w.heap.size w W) := fun W hW => by
        obtain ⟨x1, x2, x3⟩ := G9.out
        have B6 := H6.out.2.2
        have z6 := B6.size
        have BW := below_chain x2 hW x2.size
        have BA := below_chain B6 BW z6
        exact ⟨HX.out.2.2.2.2.below BA q0, HX.out.1.later BA (Nat.le_refl _), HX.out.2.2.1.later BA (Nat.le_refl _), H6.out.2.1.now BW, H6.out.1.later BW (Nat.le_refl _), fun i v hv => by rw [Nat.zero_add, (x1.later hW x3).cell]; exact hv, BA⟩
      have u2 : (Tryd.prog.info? 34).map (·.size) = some (u8s (mac key zs)).length := by rw [u8s_length, mac_length]; exact sizeAH
      have HE : Hid (prs.flatten = zs ∧ ([zs] : List (List Int)).flatten = zs) := ⟨H4.out.2.2.2.2, by simp⟩
      clear g1
      simp only [Act.put, List.setIfInBounds_toArray, List.set_cons_zero, List.set_cons_succ]
      have L0 : Hid (Below w9.heap.size w9 w9.drew) := below_dn (Below.refl _ _) 1
      refine wp_region_noPanic (wp_region_held_drew (S := fun W => W.rangeAt w7.heap.size 0 (u8s (mac key zs))) (by kernel_rfl) ((HG.out _ L0.out).2.2.2.2.2.1) (fun hH => ?_))
      refine hTake 0 (some 81) (Value.pointer (some { block := P, off := 0 })) rfl rfl (by kernel_rfl) (by kernel_rfl) (by kernel_rfl) (fun _ _ _ h => h) (by rfl) (fun W' hS' => by rfl) hH ?_
      simp only [Act.put, List.setIfInBounds_toArray, List.set_cons_zero, List.set_cons_succ]
      refine hLoad 2 (some 83) (u8s (mac key zs)) rfl rfl (by kernel_rfl) (by kernel_rfl) (by kernel_rfl) (fun _ _ _ h => h) (by rfl) 34 (.tmp 13) rfl w7.heap.size 0 rfl _ (fun _ h => h) Tryd.underlying34 rfl u2 hH ?_
      simp only [Act.put, List.setIfInBounds_toArray, List.set_cons_zero, List.set_cons_succ]
      refine wpAnyH_ready (rs := [1]) (by kernel_rfl) (by simp) (AllReadyH.cons rfl (fun K hK => ?_) AllReadyH.nil)
      go_simp
      go_wp2_with (go_at_call 11; refine (msum_any P g g' key zs _ (HG.out _ L0.out).2.2.2.1 (HG.out _ L0.out).1).mono ?_; rintro e x1 ⟨rfl, lx⟩; have L1 : Hid (Below w9.heap.size w9 x1) := below_chain L0.out lx L0.out.size; clear lx)
      refine hK.out _ _ ((HG.out _ L1.out).2.2.2.2.2.1) (fun hH => ?_)
      clear hK K
      refine hTake 3 (some 84) (.bool true) rfl rfl (by kernel_rfl) (by kernel_rfl) (by kernel_rfl) (fun _ _ _ h => h) (by rfl) (fun W' hS' => by go_simp) hH ?_
      simp only [Act.put, List.setIfInBounds_toArray, List.set_cons_zero, List.set_cons_succ]
      refine hTake 4 (some 85) (.bool true) rfl rfl (by kernel_rfl) (by kernel_rfl) (by kernel_rfl) (fun _ _ _ h => h) (by rfl) (fun W' hS' => by rfl) hH ?_
      simp only [Act.put, List.setIfInBounds_toArray, List.set_cons_zero, List.set_cons_succ]
      refine hTake 5 (some 86) (Value.slice ko kn kc) rfl rfl (by kernel_rfl) (by kernel_rfl) (by kernel_rfl) (fun _ _ _ h => h) (by rfl) (fun W' hS' => by rfl) hH ?_
      simp only [Act.put, List.setIfInBounds_toArray, List.set_cons_zero, List.set_cons_succ]
      refine hTake 6 (some 87) (Value.slice yo (k + 1) yc) rfl rfl (by kernel_rfl) (by kernel_rfl) (by kernel_rfl) (fun _ _ _ h => h) (by rfl) (fun W' hS' => by rfl) hH ?_
      simp only [Act.put, List.setIfInBounds_toArray, List.set_cons_zero, List.set_cons_succ]
      refine hLoad 8 (some 89) (u8s (mac key zs)) rfl rfl (by kernel_rfl) (by kernel_rfl) (by kernel_rfl) (fun _ _ _ h => h) (by rfl) 34 (.tmp 13) rfl w7.heap.size 0 rfl _ (fun _ h => h) Tryd.underlying34 rfl u2 hH ?_
      simp only [Act.put, List.setIfInBounds_toArray, List.set_cons_zero, List.set_cons_succ]
      refine wpAnyH_ready (rs := [7]) (by kernel_rfl) (by simp) (AllReadyH.cons rfl (fun K hK => ?_) AllReadyH.nil)
      go_simp
      go_wp2_with (go_at_call 10; refine (vsum_any ko kn kc key yo (k + 1) yc prs _ (HG.out _ L1.out).2.1 HX.out.2.1 (HG.out _ L1.out).2.2.2.2.1 (by omega) (by rw [HE.out.1]; exact HM.out.2.2) (HG.out _ L1.out).1).mono ?_; rintro e x2 ⟨rfl, lx⟩; rw [HE.out.1]; have L2 : Hid (Below w9.heap.size w9 x2) := below_chain L1.out lx L1.out.size; clear lx)
      refine hK.out _ _ ((HG.out _ L2.out).2.2.2.2.2.1) (fun hH => ?_)
      clear hK K
      refine hTake 9 (some 90) (.bool true) rfl rfl (by kernel_rfl) (by kernel_rfl) (by kernel_rfl) (fun _ _ _ h => h) (by rfl) (fun W' hS' => by go_simp) hH ?_
      simp only [Act.put, List.setIfInBounds_toArray, List.set_cons_zero, List.set_cons_succ]
      refine hTake 10 (some 91) (.bool true) rfl rfl (by kernel_rfl) (by kernel_rfl) (by kernel_rfl) (fun _ _ _ h => h) (by rfl) (fun W' hS' => by rfl) hH ?_
      simp only [Act.put, List.setIfInBounds_toArray, List.set_cons_zero, List.set_cons_succ]
      refine hTake 11 (some 92) (.bool true) rfl rfl (by kernel_rfl) (by kernel_rfl) (by kernel_rfl) (fun _ _ _ h => h) (by rfl) (fun W' hS' => by rfl) hH ?_
      simp only [Act.put, List.setIfInBounds_toArray, List.set_cons_zero, List.set_cons_succ]
      refine hTake 12 (some 93) (Value.slice ko kn kc) rfl rfl (by kernel_rfl) (by kernel_rfl) (by kernel_rfl) (fun _ _ _ h => h) (by rfl) (fun W' hS' => by rfl) hH ?_
      simp only [Act.put, List.setIfInBounds_toArray, List.set_cons_zero, List.set_cons_succ]
      refine hLoad 13 (some 94) (u8s (mac key zs)) rfl rfl (by kernel_rfl) (by kernel_rfl) (by kernel_rfl) (fun _ _ _ h => h) (by rfl) 34 (.tmp 13) rfl w7.heap.size 0 rfl _ (fun _ h => h) Tryd.underlying34 rfl u2 hH ?_
      simp only [Act.put, List.setIfInBounds_toArray, List.set_cons_zero, List.set_cons_succ]
      refine hTake 14 (some 95) (Value.slice ao n c) rfl rfl (by kernel_rfl) (by kernel_rfl) (by kernel_rfl) (fun _ _ _ h => h) (by rfl) (fun W' hS' => by rfl) hH ?_
      simp only [Act.put, List.setIfInBounds_toArray, List.set_cons_zero, List.set_cons_succ]
      refine wpAnyH_ready (rs := [15]) (by kernel_rfl) (by simp) (AllReadyH.cons rfl (fun K hK => ?_) AllReadyH.nil)
      go_simp
      have L3 : Hid (Below w9.heap.size w9 (x2.alloc (.cells #[(Value.slice ao n c)] 22))) := L2.out.alloc L2.out.size _
      refine hK.out _ _ ((HG.out _ L3.out).2.2.2.2.2.1) (fun hH => ?_)
      clear hK K
      refine wpAnyH_ready (rs := [16]) (by kernel_rfl) (by simp) (AllReadyH.cons rfl (fun K hK => ?_) AllReadyH.nil)
      go_simp
      go_wp2_with (go_at_call 12; refine (check_yes1 ko kn kc key _ 1 1 zs _ (HG.out _ L3.out).2.1 HX.out.2.1 (seenP1 x2 ao n c zs (HG.out _ L2.out).2.2.1 HX.out.2.2.2.1) HM.out.2.2 (HG.out _ L3.out).1).mono ?_; rintro e x4 ⟨rfl, lx⟩; have L4 : Hid (Below w9.heap.size w9 x4) := below_chain L3.out lx L3.out.size; clear lx)
      refine hK.out _ _ ((HG.out _ L4.out).2.2.2.2.2.1) (fun hH => ?_)
      clear hK K
      refine hTake 17 (some 98) (.bool true) rfl rfl (by kernel_rfl) (by kernel_rfl) (by kernel_rfl) (fun _ _ _ h => h) (by rfl) (fun W' hS' => by rfl) hH ?_
      simp only [Act.put, List.setIfInBounds_toArray, List.set_cons_zero, List.set_cons_succ]
      refine hTake 18 (some 99) (.bool true) rfl rfl (by kernel_rfl) (by kernel_rfl) (by kernel_rfl) (fun _ _ _ h => h) (by rfl) (fun W' hS' => by rfl) hH ?_
      simp only [Act.put, List.setIfInBounds_toArray, List.set_cons_zero, List.set_cons_succ]
      refine hTake 19 (some 100) (Value.slice ko kn kc) rfl rfl (by kernel_rfl) (by kernel_rfl) (by kernel_rfl) (fun _ _ _ h => h) (by rfl) (fun W' hS' => by rfl) hH ?_
      simp only [Act.put, List.setIfInBounds_toArray, List.set_cons_zero, List.set_cons_succ]
      refine hTake 20 (some 101) (Value.slice ao n c) rfl rfl (by kernel_rfl) (by kernel_rfl) (by kernel_rfl) (fun _ _ _ h => h) (by rfl) (fun W' hS' => by rfl) hH ?_
      simp only [Act.put, List.setIfInBounds_toArray, List.set_cons_zero, List.set_cons_succ]
      refine hLoad 22 (some 103) (u8s (mac key zs)) rfl rfl (by kernel_rfl) (by kernel_rfl) (by kernel_rfl) (fun _ _ _ h => h) (by rfl) 34 (.tmp 13) rfl w7.heap.size 0 rfl _ (fun _ h => h) Tryd.underlying34 rfl u2 hH ?_
      simp only [Act.put, List.setIfInBounds_toArray, List.set_cons_zero, List.set_cons_succ]
      refine wpAnyH_ready (rs := [21]) (by kernel_rfl) (by simp) (AllReadyH.cons rfl (fun K hK => ?_) AllReadyH.nil)
      go_simp
      go_wp2_with (go_at_call 13; refine (extract_any ko kn kc key ao n c zs _ (HG.out _ L4.out).2.1 HX.out.2.1 (HG.out _ L4.out).2.2.1 HX.out.2.2.2.1 (HG.out _ L4.out).1).mono ?_; rintro e x5 ⟨rfl, lx⟩; have L5 : Hid (Below w9.heap.size w9 x5) := below_chain L4.out lx L4.out.size; clear lx)
      refine hK.out _ _ ((HG.out _ L5.out).2.2.2.2.2.1) (fun hH => ?_)
      clear hK K
      refine hTake 23 (some 104) (.bool true) rfl rfl (by kernel_rfl) (by kernel_rfl) (by kernel_rfl) (fun _ _ _ h => h) (by rfl) (fun W' hS' => by go_simp) hH ?_
      simp only [Act.put, List.setIfInBounds_toArray, List.set_cons_zero, List.set_cons_succ]
      refine hTake 24 (some 105) (.bool true) rfl rfl (by kernel_rfl) (by kernel_rfl) (by kernel_rfl) (fun _ _ _ h => h) (by rfl) (fun W' hS' => by rfl) hH ?_
      simp only [Act.put, List.setIfInBounds_toArray, List.set_cons_zero, List.set_cons_succ]
      refine hTake 25 (some 106) (.bool true) rfl rfl (by kernel_rfl) (by kernel_rfl) (by kernel_rfl) (fun _ _ _ h => h) (by rfl) (fun W' hS' => by rfl) hH ?_
      simp only [Act.put, List.setIfInBounds_toArray, List.set_cons_zero, List.set_cons_succ]
      refine wpAnyH_ready (rs := [26]) (by kernel_rfl) (by simp) (AllReadyH.cons rfl (fun K hK => ?_) AllReadyH.nil)
      go_simp
      go_wp2_with (go_at_call 14; refine (works_any _ (HG.out _ L5.out).1).mono ?_; rintro e x6 ⟨rfl, lx⟩; have L6 : Hid (Below w9.heap.size w9 x6) := below_chain L5.out lx L5.out.size; clear lx)
      refine hK.out _ _ ((HG.out _ L6.out).2.2.2.2.2.1) (fun hH => ?_)
      clear hK K
      refine hTake 27 (some 108) (.bool true) rfl rfl (by kernel_rfl) (by kernel_rfl) (by kernel_rfl) (fun _ _ _ h => h) (by rfl) (fun W' hS' => by rfl) hH ?_
      simp only [Act.put, List.setIfInBounds_toArray, List.set_cons_zero, List.set_cons_succ]
      refine hTake 28 (some 6) (.bool true) rfl rfl (by kernel_rfl) (by kernel_rfl) (by kernel_rfl) (fun _ _ _ h => h) (by rfl) (fun W' hS' => by rfl) hH ?_
      simp only [Act.put, List.setIfInBounds_toArray, List.set_cons_zero, List.set_cons_succ]
      refine wpAnyH_done (by kernel_rfl) (NoPanic.normal ?_) _
      clear hH
      go_wp2
      go_ret
      exact ⟨rfl, (HG.out _ L6.out).2.2.2.2.2.2⟩
end Go.Proofs.YtkchkeoemlpjmabDoor.derivePieces
