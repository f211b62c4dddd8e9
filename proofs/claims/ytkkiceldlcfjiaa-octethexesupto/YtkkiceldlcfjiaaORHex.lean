/- The document's texts: digit, Hex, Unhex (trystref02). -/
import Derived.Test.YtkkiceldlcfjiaaOUnhex
import Derived.Lib.AppendStr
namespace Go.Proofs.Ytkkiceldlcfjiaa
open Go.RowKit
set_option linter.unusedVariables false
set_option linter.unusedSimpArgs false

set_option maxRecDepth 20000 in
theorem digit_run (x : Int) (hx : 0 ≤ x ∧ x < 16) (w : World) : (Instr.slice 9 (.string digitsS) (some (.int .u8 x)) (some (.int .u8 (x + 1))) none).run Try.prog w = .ok (.string (strOfNums [dig x])) w := by
  obtain ⟨x, rfl⟩ := Int.eq_ofNat_of_zero_le hx.1
  have h : x < 16 := by omega
  rcases (by omega : x = 0 ∨ x = 1 ∨ x = 2 ∨ x = 3 ∨ x = 4 ∨ x = 5 ∨ x = 6 ∨ x = 7 ∨ x = 8 ∨ x = 9 ∨ x = 10 ∨ x = 11 ∨ x = 12 ∨ x = 13 ∨ x = 14 ∨ x = 15) with rfl | rfl | rfl | rfl | rfl | rfl | rfl | rfl | rfl | rfl | rfl | rfl | rfl | rfl | rfl | rfl <;> rfl
theorem digit_any (x : Int) (hx : 0 ≤ x ∧ x < 16) (w : World) : Calls Try.prog 72 #[.int .u8 x] w fun e w' => e = .returned (.string (strOfNums [dig x])) ∧ w = w' := by
  have hr := digit_run x hx
  have e1 : (x + 1) % 256 = x + 1 := by omega
  go_enter Try.func72, Try.ntmps72
  go_wp2
  go_ret
  exact ⟨rfl, rfl⟩
theorem strCells_one (d : Int) (hd : 0 ≤ d ∧ d < 256) : Lib.strCells (strOfNums [d]) = [.int .u8 d] := by
  obtain ⟨d, rfl⟩ := Int.eq_ofNat_of_zero_le hd.1
  have h : d < 256 := by omega
  simp [Lib.strCells, strOfNums]
  omega
theorem one_size (d : Int) : (strOfNums [d]).size = 1 := by rw [strOfNums_size]; rfl
set_option maxHeartbeats 1000000 in
theorem rhex_any (ao : Option Addr) (n c : Nat) (zs : List Int) (w : World) (hx : Seen w ao n zs) (hn : 2 * n ≤ 140737488355328) :
    Calls Try.prog 36 #[.slice ao n c] w fun e w' => e = .returned (.string (strOfNums (hexL zs))) ∧ Below w.heap.size w w' := by
  obtain ⟨i0, hi, hz0, hz1, hz2⟩ := info_parts info_byte
  have HL : Hid (zs.length = n) := hx.len
  go_enter Try.func36, Try.ntmps36
  go_wp2
  go_loopw [3, 4] (fun v i wr => ∃ k : Nat, k ≤ n ∧ i = .int .i64 k ∧ wr.ownsRow w.heap.size 5 1 v (2 * k) ((hexL (zs.take k)).map (Value.int .u8)) ∧ Below w.heap.size w wr) (fun _ i _ => n - (intOf i).toNat)
  case atStart => exact ⟨0, Nat.zero_le _, rfl, World.ownsRow_nil _ _ _ _, Below.refl _ _⟩
  case round =>
    obtain ⟨k, hk, rfl, hown, hbel⟩ := hrel
    by_cases hlt : k < n
    · obtain ⟨b, o, rfl, hb, hc⟩ := hx.cells (by omega)
      have c1 := (hbel.cell (p := ⟨b, o + k, none⟩) hb).trans (hc k hlt)
      have bZ := hx.bytes.at k (by have := HL.out; omega)
      have HT : Hid _ := hexL_take zs k (by have := HL.out; omega)
      obtain ⟨Z, hZ⟩ : ∃ Z, zs.getD k 0 = Z := ⟨_, rfl⟩
      rw [hZ] at c1 bZ
      have HZ : Hid (zs.getD k 0 = Z) := hZ
      have i1 : (0 : Int) ≤ (k : Int) := by omega
      have i2 : (k : Int) < (n : Int) := by omega
      have hsz := hbel.size
      have d1 := digit_any (Z / 16) (by omega)
      have d2 := digit_any (Z % 16) (by omega)
      have e1 : Int.tdiv Z 16 = Z / 16 := Int.tdiv_eq_ediv_of_nonneg bZ.1
      have e2 : Int.tmod Z 16 = Z % 16 := Int.tmod_eq_emod_of_nonneg bZ.1
      have b1 := dig_bd (Z / 16) (by omega)
      have b2 := dig_bd (Z % 16) (by omega)
      have HS1 : Hid (Lib.strCells (strOfNums [dig (Z / 16)]) = [.int .u8 (dig (Z / 16))]) := strCells_one _ (by omega)
      have HS2 : Hid (Lib.strCells (strOfNums [dig (Z % 16)]) = [.int .u8 (dig (Z % 16))]) := strCells_one _ (by omega)
      clear hc hx hZ
      go_wp2_with fail
      refine (d1 wr).mono ?_
      rintro e w' ⟨rfl, rfl⟩
      go_wp2_with (at_builtin; refine Lib.wpList_append_own_string _ rfl _ _ 22 9 rfl w.heap.size 5 i0 Try.underlying22 Try.underlying9 hi hz0 hz1 hz2 _ _ _ rfl hown (strOfNums [dig (Z / 16)]) rfl ?c1 ?c2 hsz ?_)
      case c1 => rw [one_size]; unfold maxLen; omega
      case c2 => rw [one_size]; omega
      · intro v1 w1 o1 g1 _
        rw [one_size, HS1.out] at o1
        have b1' : Below w.heap.size w w1 := below_grown hbel hown g1
        have c2 := (b1'.cell (p := ⟨b, o + k, none⟩) hb).trans ((hbel.cell (p := ⟨b, o + k, none⟩) hb).symm.trans c1)
        have hsz1 := b1'.size
        clear g1 hown hbel c1
        go_wp2_with fail
        refine (d2 w1).mono ?_
        rintro e w' ⟨rfl, rfl⟩
        go_wp2_with (at_builtin; refine Lib.wpList_append_own_string _ rfl _ _ 22 9 rfl w.heap.size 5 i0 Try.underlying22 Try.underlying9 hi hz0 hz1 hz2 _ _ _ rfl o1 (strOfNums [dig (Z % 16)]) rfl ?c1 ?c2 hsz1 ?_)
        case c1 => rw [one_size]; unfold maxLen; omega
        case c2 => rw [one_size]; omega
        · intro v2 w2 o2 g2 _
          rw [one_size, HS2.out] at o2
          have R2 : Below w.heap.size w w2 := below_grown b1' o1 g2
          have R1 : w2.ownsRow w.heap.size 5 1 v2 (2 * (k + 1)) ((hexL (zs.take (k + 1))).map (Value.int .u8)) := by
            rw [HT.out, List.map_append, HZ.out]
            exact o2
          clear o1 o2 g2 b1' c2
          go_wp2
          go_roundw
          case rel => exact ⟨k + 1, by omega, by go_num, R1, R2⟩
          case measure => simp [intOf]; omega
    · have e : k = n := by omega
      subst e
      rw [List.take_of_length_le (by have := HL.out; omega)] at hown
      have HB : Hid _ := hbel
      have HH : Hid ((hexL zs).length = 2 * k) := by show _ = _; rw [hexL_length, HL.out]
      rcases own_len HH.out hown with ⟨rfl, h0⟩ | ⟨g, cap, rfl, hr, hg, hc, hm⟩
      · have hcv : ∀ wx, (convert 22 9 (.slice none 0 0)).run Try.prog wx = .ok (.string ByteArray.empty) wx := fun wx => run_convert_bytes_nil wx 22 5 Try.underlying22 Try.underlying5 0 0 9 Try.underlying9
        have HE : Hid (ByteArray.empty = strOfNums (hexL zs)) := by
          show _ = _
          rw [List.length_eq_zero_iff.1 (by rw [HH.out, h0] : (hexL zs).length = 0)]; rfl
        clear hown hbel
        go_wp2
        go_ret
        exact ⟨by rw [← HE.out]; rfl, HB.out⟩
      · have hcv : (convert 22 9 (.slice (some ⟨g, 0, none⟩) (2 * k) cap)).run Try.prog wr = .ok (.string (strOfNums (hexL zs))) wr := run_convert_bytes_arg wr 22 5 Try.underlying22 Try.underlying5 g 0 (2 * k) cap (hexL zs) HH.out (fun i hi => by rw [Nat.zero_add]; exact hr.cell i (by rw [HH.out]; exact hi)) 9 Try.underlying9
        clear hown hbel hr
        go_wp2
        go_ret
        exact ⟨rfl, HB.out⟩
end Go.Proofs.Ytkkiceldlcfjiaa
