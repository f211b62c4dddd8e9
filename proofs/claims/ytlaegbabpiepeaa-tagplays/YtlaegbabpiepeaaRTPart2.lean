/- The document's part from the bit 130 on, by value. -/
import Derived.Test.YtlaegbabpiepeaaRTPart
namespace Go.Proofs.Ytlaegbabpiepeaa
open Go.RowKit
set_option linter.unusedVariables false
set_option linter.unusedSimpArgs false

def hiP (ds : List Int) (k : Nat) : List Int := highL ((ds.take k).drop 16)
theorem hiP_length (ds : List Int) (k : Nat) (hk : k ≤ ds.length) : (hiP ds k).length = k - 16 := by
  rw [hiP, highL_length, List.length_drop, List.length_take, Nat.min_eq_left hk]
theorem hiP_bytes (ds : List Int) (k : Nat) (h : Bytes ds) : Bytes (hiP ds k) := highL_bytes _ (bytes_drop (bytes_take h _) _)
theorem hiP_less (ds : List Int) (k : Nat) (h : k ≤ 16) : hiP ds k = [] := by
  rw [hiP, List.drop_eq_nil_of_le (by rw [List.length_take]; omega)]; rfl
theorem hiP_at (ds : List Int) (hk : 16 < ds.length) : hiP ds (16 + 1) = hiP ds 16 ++ [ds.getD 16 0 / 4] := by
  rw [hiP_less ds 16 (by omega), hiP, List.take_succ_eq_append_getElem hk, List.drop_append_of_le_length (by rw [List.length_take]; omega), List.drop_eq_nil_of_le (by rw [List.length_take]; omega)]
  simp [highL, List.getD, hk]
theorem hiP_more (ds : List Int) (k : Nat) (hk : k < ds.length) (h : 16 < k) : hiP ds (k + 1) = (hiP ds k).set (k - 17) ((hiP ds k).getD (k - 17) 0 + ds.getD k 0 % 4 * 64) ++ [ds.getD k 0 / 4] := by
  have e : ds.getD k 0 = ds[k] := by simp [List.getD, hk]
  have hl : ((ds.take k).drop 16).length = k - 16 := by rw [List.length_drop, List.length_take, Nat.min_eq_left (by omega)]
  rw [hiP, List.take_succ_eq_append_getElem hk, List.drop_append_of_le_length (by rw [List.length_take]; omega), highL_snoc _ _ (by omega), hl, e]
  rfl
set_option maxHeartbeats 2000000 in
set_option maxRecDepth 20000 in
theorem part_high (ao : Option Addr) (n c : Nat) (ds : List Int) (w : World) (hx : SeenN w ao n ds) (hb : Bytes ds) :
    Calls Try.prog 39 #[.slice ao n c, .bool true] w fun e w' => ∃ v, e = .returned v ∧ isN (highL (ds.drop 16)) v w' ∧ Below w.heap.size w w' := by
  have ht := hx.top
  have HX : Hid (SeenN w ao n ds ∧ Bytes ds ∧ ds.length = n) := ⟨hx, hb, hx.len⟩
  obtain ⟨i0, hi, hz0, hz1, hz2⟩ := info_parts info_int
  clear hx hb
  go_enter Try.func39, Try.ntmps39
  go_wp2_with fail
  go_loopw [5, 6] (fun v i wr => ∃ k : Nat, k ≤ n ∧ i = .int .i64 k ∧ wr.ownsRow w.heap.size 3 1 v (hiP ds k).length (i64s (hiP ds k)) ∧ Below w.heap.size w wr) (fun _ i _ => n - (intOf i).toNat)
  case atStart => exact ⟨0, Nat.zero_le _, rfl, by rw [hiP_less ds 0 (by omega)]; exact World.ownsRow_nil _ _ _ _, Below.refl _ _⟩
  case round =>
    obtain ⟨k, hk, rfl, hown, hbel⟩ := hrel
    by_cases hlt : k < n
    · obtain ⟨b, o, rfl, hb, hc⟩ := HX.out.1.cells (by omega)
      have c1 := (hbel.cell (p := ⟨b, o + k, none⟩) hb).trans (hc k hlt)
      have hkd : k < ds.length := by rw [HX.out.2.2]; exact hlt
      have hD0 := HX.out.2.1.at k hkd
      have i1 : (0 : Int) ≤ (k : Int) := by omega
      have i2 : (k : Int) < (n : Int) := by omega
      have hsz := hbel.size
      have hll := hiP_length ds k (by omega)
      rcases (by omega : k < 16 ∨ k = 16 ∨ 16 < k) with h16 | rfl | h16
      · have HE : Hid (hiP ds (k + 1) = hiP ds k) := by
          show _ = _
          rw [hiP_less ds k (by omega), hiP_less ds (k + 1) (by omega)]
        have i3 : (k : Int) < 16 := by omega
        have i4 : ((k : Int) == 16) = false := by rw [beq_eq_false_iff_ne]; omega
        have i5 : ¬ (16 : Int) < (k : Int) := by omega
        have HO : Hid (wr.ownsRow w.heap.size 3 1 u5 (hiP ds k).length (i64s (hiP ds k)) ∧ Below w.heap.size w wr) := ⟨hown, hbel⟩
        clear hc hkd hown hbel c1 hll
        go_wp2_with fail
        exact ⟨⟨k + 1, by omega, by go_num, by rw [HE.out]; exact HO.out.1, HO.out.2⟩, by simp [intOf]; omega⟩
      · have HE : Hid (hiP ds (16 + 1) = hiP ds 16 ++ [ds.getD 16 0 / 4]) := hiP_at ds hkd
        obtain ⟨D, hD⟩ : ∃ D, ds.getD 16 0 = D := ⟨_, rfl⟩
        rw [hD] at c1 HE hD0
        have q2 := (tq4 D hD0.1).1
        generalize hiP ds 16 = Q at hown HE hll
        have HLL : Hid (Q.length = 16 - 16) := hll
        clear hc hD hkd hll
        go_wp2_with (at_builtin; refine wpList_append_own _ rfl _ _ 66 rfl w.heap.size 3 i0 (.int .i64 0) 1 8 Try.underlying66 hi hz0 hz1 hz2 rfl (by decide) _ _ _ rfl (hown.alloc _) ⟨wr.heap.size, 0, none⟩ 1 1 [.int .i64 (D / 4)] rfl rfl ?c1 ?c2 ?c3 ?c4 ?c5 ?_)
        try case c1 => exact one_new _ _ _
        case c2 => first | rfl | (intro u hu; simp at hu; subst hu; rfl)
        case c3 => have := HLL.out; unfold maxLen; omega
        case c4 => have := HLL.out; omega
        case c5 => have := HLL.out; first | omega | (simp; omega)
        · intro v' w1 hown' hgrow _
          have R := ownN_more hbel hown hown' hgrow
          clear hown' hgrow hown hbel c1
          go_wp2_with fail
          exact ⟨⟨16 + 1, by omega, by go_num, by rw [HE.out]; exact R.1, R.2⟩, by simp [intOf]; omega⟩
      · have HE := hiP_more ds k hkd h16
        obtain ⟨D, hD⟩ : ∃ D, ds.getD k 0 = D := ⟨_, rfl⟩
        rw [hD] at c1 HE hD0
        have HQ : Hid (Bytes (hiP ds k)) := hiP_bytes ds k HX.out.2.1
        obtain ⟨Q, hQ⟩ : ∃ Q, hiP ds k = Q := ⟨_, rfl⟩
        rw [hQ] at hown HE hll HQ
        rcases ownN rfl hown with ⟨_, h0, _⟩ | ⟨g, cap, rfl, hr, hg, hcap, hmax⟩
        · exfalso; omega
        obtain ⟨P, hP⟩ : ∃ P, k = P + 17 := ⟨k - 17, by omega⟩
        have hkP : k - 17 = P := by omega
        rw [hkP] at HE
        have hPl : P < Q.length := by omega
        have cQ := hr.cell P hPl
        have fQ := hr.frozen P
        have bQ := HQ.out.at P hPl
        have hgl := hr.lt
        obtain ⟨Z, hZ⟩ : ∃ Z, Q.getD P 0 = Z := ⟨_, rfl⟩
        rw [hZ] at cQ HE bQ
        have q1 := (tq4 D hD0.1).1
        have q2 := (tq4 D hD0.1).2
        have i3 : ¬ (k : Int) < 16 := by omega
        have i4 : ((k : Int) == 16) = false := by rw [beq_eq_false_iff_ne]; omega
        have i5 : (16 : Int) < (k : Int) := by omega
        have i6 : (k : Int) - 17 = (P : Int) := by omega
        have i7 : (0 : Int) ≤ (P : Int) := by omega
        have i8 : (P : Int) < (Q.length : Int) := by omega
        have w0' : IntKind.i64.wrap ((k : Int) - 17) = (P : Int) := by rw [IntKind.wrap_i64]; omega
        have w1' : IntKind.i64.wrap (D % 4 * 64) = D % 4 * 64 := by rw [IntKind.wrap_i64]; omega
        have w2' : IntKind.i64.wrap (Z + D % 4 * 64) = Z + D % 4 * 64 := by rw [IntKind.wrap_i64]; omega
        have hrs := (hr.set P hPl (Z + D % 4 * 64)).drew
        have hbs : Below w.heap.size w (wr.setCell ⟨g, P, none⟩ (.int .i64 (Z + D % 4 * 64))).drew := below_kept hbel (((Kept.refl (fun x => x = g) wr).setCell (p := ⟨g, P, none⟩) rfl _).drew) hbel.size (fun j hj => by omega)
        have cD : (wr.setCell ⟨g, P, none⟩ (.int .i64 (Z + D % 4 * 64))).drew.cell? ⟨b, o + k, none⟩ = some (.int .i64 D) := by
          refine Eq.trans ?_ c1
          exact (((Kept.refl (fun x => x = g) wr).setCell (p := ⟨g, P, none⟩) rfl _).drew).cell (p := ⟨b, o + k, none⟩) (by show b < _; omega) (by show ¬ b = g; omega)
        obtain ⟨W, hW⟩ : ∃ W, (wr.setCell ⟨g, P, none⟩ (.int .i64 (Z + D % 4 * 64))).drew = W := ⟨_, rfl⟩
        rw [hW] at hrs hbs cD
        have HW : Hid ((wr.setCell ⟨g, P, none⟩ (.int .i64 (Z + D % 4 * 64))).drew = W) := hW
        have hown2 := hrs.own (base := w.heap.size) (n := (Q.set P (Z + D % 4 * 64)).length) rfl hg hmax
        rw [show (Q.set P (Z + D % 4 * 64)).length = Q.length by simp] at hown2
        have HE2 : Hid (hiP ds (k + 1) = Q.set P (Z + D % 4 * 64) ++ [D / 4] ∧ hiP ds k = Q ∧ k = P + 17) := ⟨HE, hQ, hP⟩
        have HLL : Hid (Q.length = k - 16) := hll
        clear hc hkd hown hD hQ HE hr hW hZ hP hkP hgl hll
        go_wp2_with fail
        go_region
        all_goals
          rw [HW.out]
          have hsW := hbs.size
          go_wp2_with (at_builtin; refine wpList_append_own _ rfl _ _ 66 rfl w.heap.size 3 i0 (.int .i64 0) 1 8 Try.underlying66 hi hz0 hz1 hz2 rfl (by decide) _ _ _ rfl (hown2.alloc _) ⟨W.heap.size, 0, none⟩ 1 1 [.int .i64 (D / 4)] rfl rfl ?c1 ?c2 ?c3 ?c4 ?c5 ?_)
          try case c1 => exact one_new _ _ _
          case c2 => first | rfl | (intro u hu; simp at hu; subst hu; rfl)
          case c3 => have := HLL.out; unfold maxLen; omega
          case c4 => have := HLL.out; omega
          case c5 => have := HLL.out; first | omega | (simp; omega)
          · intro v' w1 hown' hgrow _
            rw [show Q.length = (Q.set P (Z + D % 4 * 64)).length by simp] at hown2 hown'
            have R := ownN_more hbs hown2 hown' hgrow
            clear hown' hgrow hown2 hbel c1 hbs
            go_wp2_with fail
            exact ⟨⟨k + 1, by omega, by go_num, by rw [HE2.out.1]; exact R.1, R.2⟩, by simp [intOf]; omega⟩
    · obtain rfl : n = k := by omega
      have hll := hiP_length ds n (by rw [HX.out.2.2]; omega)
      have e : hiP ds n = highL (ds.drop 16) := by rw [hiP, List.take_of_length_le (by rw [HX.out.2.2]; omega)]
      have hby := hiP_bytes ds n HX.out.2.1
      rw [e] at hown hby hll
      have HO : Hid (isN (highL (ds.drop 16)) u5 wr ∧ Below w.heap.size w wr) := ⟨isN_own rfl (by omega) (small_of_bytes hby) hown, hbel⟩
      clear hown hbel e hby hll
      go_wp2_with fail
      go_ret
      exact ⟨_, rfl, HO.out⟩
end Go.Proofs.Ytlaegbabpiepeaa
