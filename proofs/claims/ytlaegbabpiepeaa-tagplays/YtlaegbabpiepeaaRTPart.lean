/- The document's part and nought, by value. -/
import Derived.Test.YtlaegbabpiepeaaRTMul
namespace Go.Proofs.Ytlaegbabpiepeaa
open Go.RowKit
set_option linter.unusedVariables false
set_option linter.unusedSimpArgs false

theorem le_dec {ds : List Int} (h : Bytes ds) : (∀ d ∈ ds, d = 0) ↔ le ds = 0 := (le_zero (bytes_nn h)).symm
set_option maxHeartbeats 1000000 in
set_option maxRecDepth 20000 in
theorem nought_any (ao : Option Addr) (n c : Nat) (ds : List Int) (w : World) (hx : SeenN w ao n ds) (hb : Bytes ds) :
    Calls Try.prog 40 #[.slice ao n c] w fun e w' => e = .returned (.bool (decide (le ds = 0))) ∧ w = w' := by
  have ht := hx.top
  have HX : Hid (SeenN w ao n ds ∧ Bytes ds ∧ ds.length = n) := ⟨hx, hb, hx.len⟩
  clear hx hb
  go_enter Try.func40, Try.ntmps40
  go_wp2_with fail
  go_loopw [3] (fun i wr => ∃ k : Nat, k ≤ n ∧ i = .int .i64 k ∧ wr = w ∧ ∀ j, j < k → ds.getD j 0 = 0) (fun i _ => n - (intOf i).toNat)
  case atStart => exact ⟨0, Nat.zero_le _, rfl, rfl, fun j hj => by omega⟩
  case round =>
    obtain ⟨k, hk, rfl, rfl, hz⟩ := hrel
    by_cases hlt : k < n
    · obtain ⟨b, o, rfl, hb, hc⟩ := HX.out.1.cells (by omega)
      have c1 := hc k hlt
      have i1 : (0 : Int) ≤ (k : Int) := by omega
      have i2 : (k : Int) < (n : Int) := by omega
      obtain ⟨D, HD⟩ : ∃ D, Hid (ds.getD k 0 = D) := ⟨_, rfl⟩
      rw [HD.out] at c1
      have HZ : Hid (∀ j, j < k → ds.getD j 0 = 0) := hz
      clear hc hz
      by_cases h0 : D = 0
      · subst h0
        go_wp2_with fail
        refine ⟨⟨k + 1, by omega, by go_num, by first | rfl | trivial, fun j hj => ?_⟩, by simp [intOf]; omega⟩
        rcases (by omega : j < k ∨ j = k) with h | rfl
        · exact HZ.out j h
        · exact HD.out
      · have q0 : (D != 0) = true := by simp [h0]
        have HE : Hid (decide (le ds = 0) = false) := by
          show _ = _
          apply decide_eq_false
          intro h
          have := (le_dec HX.out.2.1).2 h (ds.getD k 0) (by
            have e : ds.getD k 0 = ds[k]'(by rw [HX.out.2.2]; exact hlt) := by simp [List.getD, show k < ds.length by rw [HX.out.2.2]; exact hlt]
            rw [e]; exact List.getElem_mem _)
          rw [HD.out] at this
          exact h0 this
        clear h0
        go_wp2_with fail
        go_ret
        exact ⟨by rw [HE.out]; rfl, rfl⟩
    · obtain rfl : n = k := by omega
      have HE : Hid (decide (le ds = 0) = true) := by
        show _ = _
        apply decide_eq_true
        refine (le_dec HX.out.2.1).1 fun d hd => ?_
        obtain ⟨j, hj, rfl⟩ := List.getElem_of_mem hd
        have := hz j (by rw [← HX.out.2.2]; exact hj)
        simpa [List.getD, hj] using this
      clear hz
      go_wp2_with fail
      go_ret
      exact ⟨by rw [HE.out]; rfl, rfl⟩
theorem low_less (ds : List Int) (k : Nat) (hk : k < ds.length) (h : k < 16) : lowL (ds.take (k + 1)) = lowL (ds.take k) ++ [ds.getD k 0] := by
  have e : ds.getD k 0 = ds[k] := by simp [List.getD, hk]
  rw [e, lowL, lowL, List.length_take, List.length_take, if_neg (by omega), if_neg (by omega), List.append_nil, List.append_nil, List.take_take, List.take_take, Nat.min_eq_right (by omega), Nat.min_eq_right (by omega), List.take_succ_eq_append_getElem hk]
theorem low_at (ds : List Int) (hk : 16 < ds.length) : lowL (ds.take (16 + 1)) = lowL (ds.take 16) ++ [ds.getD 16 0 % 4] := by
  rw [lowL, lowL, List.length_take, List.length_take, if_pos (by omega), if_neg (by omega), List.append_nil, List.take_take, List.take_take]
  have e : (ds.take (16 + 1)).getD 16 0 = ds.getD 16 0 := by simp [List.getD]
  rw [e]; rfl
theorem low_more (ds : List Int) (k : Nat) (hk : k < ds.length) (h : 16 < k) : lowL (ds.take (k + 1)) = lowL (ds.take k) := by
  rw [lowL, lowL, List.length_take, List.length_take, if_pos (by omega), if_pos (by omega), List.take_take, List.take_take, Nat.min_eq_left (by omega), Nat.min_eq_left (by omega)]
  have e1 : (ds.take (k + 1)).getD 16 0 = ds.getD 16 0 := by simp [List.getD, List.getElem?_take, show 16 < k + 1 by omega]
  have e2 : (ds.take k).getD 16 0 = ds.getD 16 0 := by simp [List.getD, List.getElem?_take, h]
  rw [e1, e2]
theorem tq4 (c : Int) (h : 0 ≤ c) : c.tdiv 4 = c / 4 ∧ c.tmod 4 = c % 4 := ⟨Int.tdiv_eq_ediv_of_nonneg h, Int.tmod_eq_emod_of_nonneg h⟩
set_option maxHeartbeats 1000000 in
set_option maxRecDepth 20000 in
theorem part_low (ao : Option Addr) (n c : Nat) (ds : List Int) (w : World) (hx : SeenN w ao n ds) (hb : Bytes ds) :
    Calls Try.prog 39 #[.slice ao n c, .bool false] w fun e w' => ∃ v, e = .returned v ∧ isN (lowL ds) v w' ∧ Below w.heap.size w w' := by
  have ht := hx.top
  have HX : Hid (SeenN w ao n ds ∧ Bytes ds ∧ ds.length = n) := ⟨hx, hb, hx.len⟩
  obtain ⟨i0, hi, hz0, hz1, hz2⟩ := info_parts info_int
  clear hx hb
  go_enter Try.func39, Try.ntmps39
  go_wp2_with fail
  go_loopw [5, 6] (fun v i wr => ∃ k : Nat, k ≤ n ∧ i = .int .i64 k ∧ wr.ownsRow w.heap.size 3 1 v (lowL (ds.take k)).length (i64s (lowL (ds.take k))) ∧ Below w.heap.size w wr) (fun _ i _ => n - (intOf i).toNat)
  case atStart => exact ⟨0, Nat.zero_le _, rfl, World.ownsRow_nil _ _ _ _, Below.refl _ _⟩
  case round =>
    obtain ⟨k, hk, rfl, hown, hbel⟩ := hrel
    by_cases hlt : k < n
    · obtain ⟨b, o, rfl, hb, hc⟩ := HX.out.1.cells (by omega)
      have c1 := (hbel.cell (p := ⟨b, o + k, none⟩) hb).trans (hc k hlt)
      have hkd : k < ds.length := by rw [HX.out.2.2]; exact hlt
      have hD0 := HX.out.2.1.at k hkd
      have i1 : (0 : Int) ≤ (k : Int) := by omega
      have i2 : (k : Int) < (n : Int) := by omega
      have hsz := hbel.size
      have hll := lowL_length (ds.take k)
      rcases (by omega : k < 16 ∨ k = 16 ∨ 16 < k) with h16 | rfl | h16
      · have HE : Hid (lowL (ds.take (k + 1)) = lowL (ds.take k) ++ [ds.getD k 0]) := low_less ds k hkd h16
        have i3 : (k : Int) < 16 := by omega
        obtain ⟨D, hD⟩ : ∃ D, ds.getD k 0 = D := ⟨_, rfl⟩
        rw [hD] at c1 HE hD0
        generalize lowL (ds.take k) = Q at hown HE hll
        clear hc hD hkd
        go_wp2_with (at_builtin; refine wpList_append_own _ rfl _ _ 66 rfl w.heap.size 3 i0 (.int .i64 0) 1 8 Try.underlying66 hi hz0 hz1 hz2 rfl (by decide) _ _ _ rfl (hown.alloc _) ⟨wr.heap.size, 0, none⟩ 1 1 [.int .i64 D] rfl rfl ?c1 ?c2 ?c3 ?c4 ?c5 ?_)
        try case c1 => exact one_new _ _ _
        case c2 => first | rfl | (intro u hu; simp at hu; subst hu; rfl)
        case c3 => unfold maxLen; omega
        case c4 => omega
        case c5 => first | omega | (simp; omega)
        · intro v' w1 hown' hgrow _
          have R := ownN_more hbel hown hown' hgrow
          clear hown' hgrow hown hbel c1
          go_wp2_with fail
          exact ⟨⟨k + 1, by omega, by go_num, by rw [HE.out]; exact R.1, R.2⟩, by simp [intOf]; omega⟩
      · have HE : Hid (lowL (ds.take (16 + 1)) = lowL (ds.take 16) ++ [ds.getD 16 0 % 4]) := low_at ds hkd
        obtain ⟨D, hD⟩ : ∃ D, ds.getD 16 0 = D := ⟨_, rfl⟩
        rw [hD] at c1 HE hD0
        have q2 := (tq4 D hD0.1).2
        generalize lowL (ds.take 16) = Q at hown HE hll
        clear hc hD hkd
        go_wp2_with (at_builtin; refine wpList_append_own _ rfl _ _ 66 rfl w.heap.size 3 i0 (.int .i64 0) 1 8 Try.underlying66 hi hz0 hz1 hz2 rfl (by decide) _ _ _ rfl (hown.alloc _) ⟨wr.heap.size, 0, none⟩ 1 1 [.int .i64 (D % 4)] rfl rfl ?c1 ?c2 ?c3 ?c4 ?c5 ?_)
        try case c1 => exact one_new _ _ _
        case c2 => first | rfl | (intro u hu; simp at hu; subst hu; rfl)
        case c3 => unfold maxLen; omega
        case c4 => omega
        case c5 => first | omega | (simp; omega)
        · intro v' w1 hown' hgrow _
          have R := ownN_more hbel hown hown' hgrow
          clear hown' hgrow hown hbel c1
          go_wp2_with fail
          exact ⟨⟨16 + 1, by omega, by go_num, by rw [HE.out]; exact R.1, R.2⟩, by simp [intOf]; omega⟩
      · have HE : Hid (lowL (ds.take (k + 1)) = lowL (ds.take k)) := low_more ds k hkd h16
        have i3 : ¬ (k : Int) < 16 := by omega
        have i4 : ((k : Int) == 16) = false := by rw [beq_eq_false_iff_ne]; omega
        have HO : Hid (wr.ownsRow w.heap.size 3 1 u5 (lowL (ds.take k)).length (i64s (lowL (ds.take k))) ∧ Below w.heap.size w wr) := ⟨hown, hbel⟩
        clear hc hkd hown hbel c1
        go_wp2_with fail
        exact ⟨⟨k + 1, by omega, by go_num, by rw [HE.out]; exact HO.out.1, HO.out.2⟩, by simp [intOf]; omega⟩
    · obtain rfl : n = k := by omega
      have e : ds.take n = ds := List.take_of_length_le (by rw [HX.out.2.2]; omega)
      rw [e] at hown
      have HO : Hid (isN (lowL ds) u5 wr ∧ Below w.heap.size w wr) := ⟨isN_own rfl (by have := lowL_length ds; omega) (small_of_bytes (lowL_bytes ds HX.out.2.1)) hown, hbel⟩
      clear hown hbel e
      go_wp2_with fail
      go_ret
      exact ⟨_, rfl, HO.out⟩
end Go.Proofs.Ytlaegbabpiepeaa
