/- The document's Unhex (trystref02). -/
import Derived.Test.YtkkiceldlcfjiaaORHex
namespace Go.Proofs.Ytkkiceldlcfjiaa
open Go.RowKit
set_option linter.unusedVariables false
set_option linter.unusedSimpArgs false

/-- What the document's search of a digit has found among the first j. -/
def nd (C : Int) (j : Nat) : Int := if isDig C = true ∧ dv C < j then dv C else 16
theorem dig_iff (C : Int) (j : Nat) (hj : j < 16) : dig j = C ↔ isDig C = true ∧ dv C = j := by
  unfold dig isDig dv
  constructor
  · intro h
    split at h
    · subst h
      refine ⟨by simp; omega, ?_⟩
      rw [if_pos (by omega)]; omega
    · subst h
      refine ⟨by simp; omega, ?_⟩
      rw [if_neg (by omega), if_pos (by omega)]; omega
  · rintro ⟨h1, h2⟩
    simp at h1
    split at h2
    · rw [if_pos (by omega)]; omega
    · split at h2
      · rw [if_neg (by omega)]; omega
      · omega
theorem nd_hit (C : Int) (j : Nat) (hj : j < 16) (h : dig j = C) : nd C (j + 1) = j := by
  obtain ⟨h1, h2⟩ := (dig_iff C j hj).1 h
  unfold nd
  rw [if_pos ⟨h1, by omega⟩, h2]
theorem nd_miss (C : Int) (j : Nat) (hj : j < 16) (h : ¬ dig j = C) : nd C (j + 1) = nd C j := by
  have h' : isDig C = true → ¬ dv C = j := fun h1 h2 => h ((dig_iff C j hj).2 ⟨h1, h2⟩)
  unfold nd
  by_cases h1 : isDig C = true
  · have := h' h1
    by_cases h2 : dv C < j
    · rw [if_pos ⟨h1, by omega⟩, if_pos ⟨h1, h2⟩]
    · rw [if_neg (by rintro ⟨_, h3⟩; omega), if_neg (by rintro ⟨_, h3⟩; exact h2 h3)]
  · rw [if_neg (fun h => h1 h.1), if_neg (fun h => h1 h.1)]
theorem nd_zero (C : Int) : nd C 0 = 16 := by
  unfold nd
  have := dv_bd C
  rw [if_neg (by rintro ⟨_, h3⟩; omega)]
theorem nd_yes (C : Int) (h : isDig C = true) : nd C 16 = dv C := by
  unfold nd
  have := dv_bd C
  rw [if_pos ⟨h, by omega⟩]
theorem nd_no (C : Int) (h : isDig C = false) : nd C 16 = 16 := by
  unfold nd
  rw [if_neg (by rw [h]; rintro ⟨h, _⟩; cases h)]
theorem nd_bd (C : Int) (j : Nat) : 0 ≤ nd C j ∧ nd C j ≤ 16 := by
  unfold nd
  have := dv_bd C
  split <;> omega
theorem one_of (s : ByteArray) (t : Nat) (h : t < s.size) : s.extract t (t + 1) = strOfNums [(strL s).getD t 0] := by
  have h' : t < s.data.size := h
  rw [strL_at s t h]
  apply ByteArray.ext
  apply Array.toList_inj.1
  rw [strOfNums_data, ByteArray.data_extract, Array.toList_extract]
  simp only [List.extract_eq_take_drop]
  rw [List.drop_eq_getElem_cons (by simpa using h'), Nat.add_sub_cancel_left]
  simp
  rfl
theorem one_run (s : ByteArray) (t : Nat) (h : t < s.size) (w : World) : (Instr.slice 9 (.string s) (some (.int .i64 t)) (some (.int .i64 ((t : Int) + 1))) none).run Try.prog w = .ok (.string (strOfNums [(strL s).getD t 0])) w := by
  rw [run_slice_string (P := Try.prog) w 9 s .i64 .i64 t ((t : Int) + 1) Try.underlying9 (by omega) (by omega) (by omega), ← one_of s t h]
  have e : ((t : Int) + 1).toNat = t + 1 := by omega
  rw [e]; rfl
theorem one_ne (x C : Int) (hx : 0 ≤ x ∧ x < 256) (hC : 0 ≤ C ∧ C < 256) (h : ¬ x = C) : ((strOfNums [x]).toList == (strOfNums [C]).toList) = false := by
  have : ¬ (strOfNums [x]).toList = (strOfNums [C]).toList := by
    intro e
    rw [ByteArray.toList_eq, ByteArray.toList_eq, strOfNums_data, strOfNums_data] at e
    simp at e
    have := congrArg UInt8.toNat e
    simp at this
    omega
  simpa using this

set_option maxHeartbeats 1000000 in
set_option maxRecDepth 20000 in
theorem runhex_any (s : ByteArray) (hn : s.size ≤ 140737488355328) (w : World) :
    Calls Try.prog 38 #[.string s] w fun e w' => ∃ v, e = .returned (.tuple #[v, .int .i64 (unE s)]) ∧ w'.ownsRow w.heap.size 5 1 v (unV s).length ((unV s).map (Value.int .u8)) ∧ Below w.heap.size w w' := by
  have HL : Hid ((strL s).length = s.size) := strL_length s
  rcases Nat.mod_two_eq_zero_or_one s.size with hm | hm
  · obtain ⟨i0, hi, hz0, hz1, hz2⟩ := info_parts info_byte
    have HM : Hid (s.size % 2 = 0) := hm
    have e1 : (s.size : Int) % 2 = 0 := by omega
    have e3 : ((s.size : Int).tmod 2) = 0 := by rw [Int.tmod_eq_emod_of_nonneg (by omega)]; exact e1
    have hsz1 : (s.size : Int) ≤ 140737488355328 := by omega
    clear hm
    go_enter Try.func38, Try.ntmps38
    go_wp2
    go_loopw [4, 5, 6] (fun v h i wr => ∃ (t : Nat) (us : List Int) (H : Int), t ≤ s.size ∧ i = .int .i64 t ∧ h = .int .u8 H ∧ 0 ≤ H ∧ H < 16 ∧ us.length = t / 2 ∧ unhexL (strL s) = (unhexL ((strL s).drop (2 * (t / 2)))).map (fun l => us ++ l) ∧ (t % 2 = 1 → isDig ((strL s).getD (t - 1) 0) = true ∧ H = dv ((strL s).getD (t - 1) 0)) ∧ wr.ownsRow w.heap.size 5 1 v (t / 2) (us.map (Value.int .u8)) ∧ Below w.heap.size w wr) (fun _ _ i _ => s.size - (intOf i).toNat)
    case atStart => exact ⟨0, [], 0, Nat.zero_le _, rfl, rfl, by decide, by decide, rfl, by simp, (by intro h; cases h), World.ownsRow_nil _ _ _ _, Below.refl _ _⟩
    case round =>
      obtain ⟨t, us, H, ht, rfl, rfl, hH0, hH1, hul, hun, hodd, hown, hbel⟩ := hrel
      by_cases hlt : t < s.size
      · have f1 := one_run s t hlt
        have bC := (strL_bytes s).at t (by have := HL.out; omega)
        have HUN : Hid _ := hun
        have HUL : Hid (us.length = t / 2) := hul
        have HODD : Hid (t % 2 = 1 → isDig ((strL s).getD (t - 1) 0) = true ∧ H = dv ((strL s).getD (t - 1) 0)) := hodd
        have HOWN : Hid (wr.ownsRow w.heap.size 5 1 u4 (t / 2) (us.map (Value.int .u8))) := hown
        have HBEL : Hid _ := hbel
        obtain ⟨C, hC⟩ : ∃ C, (strL s).getD t 0 = C := ⟨_, rfl⟩
        rw [hC] at f1 bC
        have HC : Hid ((strL s).getD t 0 = C) := hC
        have i1 : (t : Int) < (s.size : Int) := by omega
        have i2 : (0 : Int) ≤ (t : Int) := by omega
        have N0 := nd_zero C
        have NN : Hid _ := N0
        clear hun hul hodd hC hown hbel N0
        obtain ⟨w3, rfl⟩ : ∃ w3, w3 = wr := ⟨_, rfl⟩
        go_wp2
        go_loopw [7, 8] (fun n k wk => ∃ j : Nat, j ≤ 16 ∧ k = .int .u8 j ∧ n = .int .u8 (nd C j) ∧ ∃ q, wk = w3.drewN q) (fun _ k _ => 16 - (intOf k).toNat)
        case atStart => exact ⟨0, by decide, rfl, by rw [NN.out], 0, rfl⟩
        case round =>
          obtain ⟨j, hj, rfl, rfl, q, hwk⟩ := hrel
          have HW : Hid (wr = w3.drewN q) := hwk
          clear hwk
          by_cases hlj : j < 16
          · have j1 : (j : Int) < 16 := by omega
            have d1 : ∀ W, Calls Try.prog 72 #[.int .u8 j] W fun e w' => e = .returned (.string (strOfNums [dig j])) ∧ w' = W := fun W => (digit_any j (by omega) W).mono (fun e w' h => ⟨h.1, h.2.symm⟩)
            have b1 := dig_bd j (by omega)
            by_cases he : dig j = C
            · have HN : Hid _ := nd_hit C j hlj he
              rw [← he] at f1
              clear he
              go_wp2
              go_quiet (first | (go_at_call 72; exact Calls.quiet_of_same (d1 _)))
              go_wp2
              go_roundw
              case rel => exact ⟨j + 1, by omega, by go_num, by rw [HN.out], _, by rw [HW.out, World.drewN_drewN]⟩
              case measure => simp [intOf]; omega
            · have HN : Hid _ := nd_miss C j hlj he
              have hd := one_ne (dig j) C (by omega) bC he
              clear he
              go_wp2
              go_quiet (first | (go_at_call 72; exact Calls.quiet_of_same (d1 _)))
              go_wp2
              go_roundw
              case rel => exact ⟨j + 1, by omega, by go_num, by rw [HN.out], _, by rw [HW.out, World.drewN_drewN]⟩
              case measure => simp [intOf]; omega
          · obtain rfl : j = 16 := by omega
            have j2 : ¬ ((16 : Nat) : Int) < 16 := by omega
            have R0 : wr.ownsRow w.heap.size 5 1 u4 (t / 2) (us.map (Value.int .u8)) := by rw [HW.out]; exact HOWN.out
            have R1 : Below w.heap.size w wr := by rw [HW.out]; exact below_dn HBEL.out _
            have hsz := R1.size
            by_cases q1 : isDig C = true
            · have N1 := nd_yes C q1
              have dC := dv_bd C
              have n16 : (dv C == 16) = false := by simp; omega
              rw [N1]
              rcases Nat.mod_two_eq_zero_or_one t with hp | hp
              · have p1 : (t : Int).tmod 2 = 0 := by rw [Int.tmod_eq_emod_of_nonneg (by omega)]; omega
                have p2 : (t : Int) % 2 = 0 := by omega
                have HR0 : Hid (wr.ownsRow w.heap.size 5 1 u4 ((t + 1) / 2) (us.map (Value.int .u8))) := by rw [show (t + 1) / 2 = t / 2 by omega]; exact R0
                have HR1 : Hid _ := R1
                have HQ : Hid (isDig C = true) := q1
                have HP : Hid (t % 2 = 0) := hp
                clear R0 R1 f1 q1 hp
                go_wp2
                go_roundw
                case rel =>
                  have h2 : (t + 1) / 2 = t / 2 := by have := HP.out; omega
                  refine ⟨t + 1, us, dv C, by omega, by go_num, rfl, dC.1, dC.2, by rw [h2]; exact HUL.out, by rw [h2]; exact HUN.out, ?_, HR0.out, HR1.out⟩
                  intro _
                  rw [Nat.add_sub_cancel, HC.out]
                  exact ⟨HQ.out, rfl⟩
                case measure => simp [intOf]; omega
              · have p1 : (t : Int).tmod 2 = 1 := by rw [Int.tmod_eq_emod_of_nonneg (by omega)]; omega
                have p2 : (t : Int) % 2 = 1 := by omega
                obtain ⟨o1, o2⟩ := HODD.out hp
                have h3 : 2 * (t / 2) = t - 1 := by omega
                have HS : Hid _ := unhexL_step (strL s) us (2 * (t / 2)) (by have := HL.out; omega) HUN.out (by rw [h3, show t - 1 + 1 = t by omega, o1, HC.out, q1]; rfl)
                have HD : Hid (unhexL (strL s) = (unhexL ((strL s).drop (2 * ((t + 1) / 2)))).map (fun l => (us ++ [16 * H + dv C]) ++ l)) := by
                  have h := HS.out
                  rw [h3, show t - 1 + 1 = t by omega, HC.out, ← o2, show t - 1 + 2 = 2 * ((t + 1) / 2) by omega] at h
                  exact h
                have v1 : 16 * H % 256 = 16 * H := by omega
                have v2 : (16 * H + dv C) % 256 = 16 * H + dv C := by omega
                have HP : Hid (t % 2 = 1) := hp
                clear f1 q1 hp HS o1 o2 h3
                go_wp2_with (at_builtin; refine wpList_append_own _ rfl _ _ 22 rfl w.heap.size 5 i0 (.int .u8 0) 1 1 Try.underlying22 hi hz0 hz1 hz2 rfl (by decide) _ _ _ rfl (R0.alloc _) ⟨wr.heap.size, 0, none⟩ 1 1 [.int .u8 (16 * H + dv C)] rfl rfl ?c1 ?c2 ?c3 ?c4 ?c5 ?_)
                case c2 => rfl
                case c3 => unfold maxLen; omega
                case c4 => omega
                case c5 => omega
                · intro v' w1 hown' hgrow _
                  have R2 : w1.ownsRow w.heap.size 5 1 v' ((t + 1) / 2) ((us ++ [16 * H + dv C]).map (Value.int .u8)) := by
                    rw [List.map_append, show (t + 1) / 2 = t / 2 + 1 by have := HP.out; omega]; exact hown'
                  have R3 : Below w.heap.size w w1 := (R1.alloc hsz _).grown hgrow (by simp; omega) (fun j hj => (R0.lt j hj).1)
                  clear hown' hgrow R0 R1
                  go_wp2
                  go_roundw
                  case rel => exact ⟨t + 1, us ++ [16 * H + dv C], dv C, by omega, by go_num, rfl, dC.1, dC.2, by rw [List.length_append, HUL.out]; have := HP.out; simp; omega, HD.out, by intro h; have := HP.out; omega, R2, R3⟩
                  case measure => simp [intOf]; omega
            · have q3 : isDig C = false := by simpa using q1
              have N1 := nd_no C q3
              have HD : Hid (unhexL (strL s) = none) := by
                refine unhexL_stop (strL s) us (2 * (t / 2)) (by have := HL.out; have := HM.out; omega) HUN.out ?_
                rcases Nat.mod_two_eq_zero_or_one t with hp | hp
                · rw [show 2 * (t / 2) = t by omega, HC.out, q3]; rfl
                · rw [show 2 * (t / 2) + 1 = t by omega, HC.out, q3]; simp
              have HB : Hid _ := R1
              rw [N1]
              clear R0 R1 f1 q1
              go_wp2
              go_ret2
              rw [(un_none HD.out).1, (un_none HD.out).2]
              exact ⟨_, rfl, World.ownsRow_nil _ _ _ _, HB.out⟩
      · have e : t = s.size := by omega
        subst e
        have HD : Hid (unhexL (strL s) = some us) := by
          show _ = _
          rw [hun, List.drop_of_length_le (by have := HL.out; have := HM.out; omega)]
          simp [unhexL]
        have HO : Hid (wr.ownsRow w.heap.size 5 1 u4 us.length (us.map (Value.int .u8))) := by rw [hul]; exact hown
        have HB : Hid _ := hbel
        have i1 : ¬ (s.size : Int) < (s.size : Int) := by omega
        clear hown hbel hun hodd hul
        go_wp2
        go_ret2
        rw [(un_some HD.out).1, (un_some HD.out).2]
        exact ⟨_, rfl, HO.out, HB.out⟩
  · have HD : Hid (unhexL (strL s) = none) := unhexL_odd (s.size / 2) _ (by have := HL.out; omega)
    have e1 : (s.size : Int) % 2 = 1 := by omega
    have e3 : ((s.size : Int).tmod 2) = 1 := by rw [Int.tmod_eq_emod_of_nonneg (by omega)]; exact e1
    clear hm
    go_enter Try.func38, Try.ntmps38
    go_wp2
    go_ret2
    rw [(un_none HD.out).1, (un_none HD.out).2]
    exact ⟨_, rfl, World.ownsRow_nil _ _ _ _, Below.refl _ _⟩
end Go.Proofs.Ytkkiceldlcfjiaa
