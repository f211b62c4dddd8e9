/- The document's digest (trystref03): Padded. -/
import Derived.Test.YtiimjhahblmggaaDoorDCopy
namespace Go.Proofs.YtiimjhahblmggaaDoor
open Go.RowKit
set_option linter.unusedVariables false
set_option linter.unusedSimpArgs false

/-- How many bytes 0 the padding has. -/
def padZ (n : Nat) : Nat := (119 - n % 64) % 64
/-- The padded bytes. -/
def padL (zs : List Int) : List Int := ((zs ++ [128]) ++ zer (padZ zs.length)) ++ be8 (IntKind.u64.wrap (8 * (zs.length : Int)))
theorem padZ_fits (n : Nat) : (n + 1 + padZ n + 8) % 64 = 0 := by unfold padZ; omega
theorem padZ_least (n j : Nat) (h : j < padZ n) : (n + 1 + j + 8) % 64 ≠ 0 := by unfold padZ at h; omega
theorem padL_length (zs : List Int) : (padL zs).length = zs.length + 1 + padZ zs.length + 8 := by simp [padL, zer_length, be8_length]; omega
theorem zer_succ (n : Nat) : zer (n + 1) = zer n ++ [0] := by rw [zer_add]; rfl
theorem be8_take (x : Int) (k : Nat) (hk : k < 8) : (be8 x).take (k + 1) = (be8 x).take k ++ [x / 2 ^ (8 * (7 - k)) % 256] := by
  rw [List.take_succ_eq_append_getElem (by rw [be8_length]; exact hk)]
  simp [be8]
theorem be8_bytes (x : Int) : Bytes (be8 x) := by
  intro z hz
  simp only [be8, List.mem_map] at hz
  obtain ⟨j, _, rfl⟩ := hz
  omega
theorem zer_bytes (n : Nat) : Bytes (zer n) := by
  intro z hz
  obtain ⟨_, rfl⟩ := List.mem_replicate.1 hz
  omega
theorem padL_bytes (zs : List Int) (h : Bytes zs) : Bytes (padL zs) :=
  bytes_app (bytes_app (bytes_app h (fun z hz => by simp at hz; omega)) (zer_bytes _)) (be8_bytes _)
set_option maxHeartbeats 2000000 in
set_option maxRecDepth 20000 in
theorem padded_any (ao : Option Addr) (n c : Nat) (zs : List Int) (w : World) (hx : Seen w ao n zs) (hn : n ≤ 35184372088832) :
    Calls Tryd.prog 41 #[.slice ao n c] w fun e w' => ∃ v, e = .returned v ∧ w'.ownsRow w.heap.size 5 1 v (padL zs).length ((padL zs).map (Value.int .u8)) ∧ Below w.heap.size w w' := by
  have t1 := hx.top
  have HL : Hid (zs.length = n) := hx.len
  obtain ⟨i0, hi, hz0, hz1, hz2⟩ := info_parts info_byte
  go_enter Tryd.func41, Tryd.ntmps41
  go_wp2
  go_loopw [3, 4] (fun v i wr => ∃ k : Nat, k ≤ n ∧ i = .int .i64 k ∧ wr.ownsRow w.heap.size 5 1 v k ((zs.map (Value.int .u8)).take k) ∧ Below w.heap.size w wr) (fun _ i _ => n - (intOf i).toNat)
  case atStart => exact ⟨0, Nat.zero_le _, rfl, by simpa using World.ownsRow_nil _ _ _ _, Below.refl _ _⟩
  case round =>
    obtain ⟨k, hk, rfl, hown, hbel⟩ := hrel
    by_cases hlt : k < n
    · obtain ⟨b, o, rfl, hb, hc⟩ := hx.cells (by omega)
      have c1 := (hbel.cell (p := ⟨b, o + k, none⟩) hb).trans (hc k hlt)
      obtain ⟨Z, hZ⟩ : ∃ Z, zs.getD k 0 = Z := ⟨_, rfl⟩
      rw [hZ] at c1
      have HZ : Hid (zs.getD k 0 = Z) := hZ
      have hsz := hbel.size
      have i1 : (0 : Int) ≤ (k : Int) := by omega
      have i2 : (k : Int) < (n : Int) := by omega
      clear hZ hc hx
      go_wp2_with (at_builtin; refine wpList_append_own _ rfl _ _ 22 rfl w.heap.size 5 i0 (.int .u8 0) 1 1 Tryd.underlying22 hi hz0 hz1 hz2 rfl (by decide) _ _ _ rfl (hown.alloc _) ⟨wr.heap.size, 0, none⟩ 1 1 [.int .u8 Z] rfl rfl ?c1 ?c2 ?c3 ?c4 ?c5 ?_)
      case c1 => exact one_new _ _ _
      case c2 => intro u hu; simp at hu; subst hu; rfl
      case c3 => unfold maxLen; omega
      case c4 => omega
      case c5 => simp; omega
      · intro v' w1 hown' hgrow _
        have R := step_own hbel hown (by have := HL.out; omega) HZ.out hown' hgrow
        clear hown' hgrow hown hbel c1
        go_wp2
        go_roundw
        case rel => exact ⟨k + 1, by omega, by go_num, R.1, R.2⟩
        case measure => simp [intOf] <;> omega
    · obtain rfl : k = n := by omega
      have hown0 : wr.ownsRow w.heap.size 5 1 u3 zs.length (zs.map (Value.int .u8)) := by rw [HL.out]; rwa [List.take_of_length_le (by have := HL.out; simp; omega)] at hown
      obtain ⟨w2, rfl⟩ : ∃ w2, w2 = wr := ⟨_, rfl⟩
      have hsz := hbel.size
      have HQ : Hid (w2.ownsRow w.heap.size 5 1 u3 zs.length (zs.map (Value.int .u8)) ∧ Below w.heap.size w w2) := ⟨hown0, hbel⟩
      clear hown hx hbel hown0
      go_wp2_with (at_builtin; refine wpList_append_own _ rfl _ _ 22 rfl w.heap.size 5 i0 (.int .u8 0) 1 1 Tryd.underlying22 hi hz0 hz1 hz2 rfl (by decide) _ _ _ rfl (HQ.out.1.alloc _) ⟨w2.heap.size, 0, none⟩ 1 1 [.int .u8 128] rfl rfl ?c1 ?c2 ?c3 ?c4 ?c5 ?_)
      case c1 => exact one_new _ _ _
      case c2 => intro u hu; simp at hu; subst hu; rfl
      case c3 => unfold maxLen; have := HL.out; omega
      case c4 => have := HL.out; omega
      case c5 => simp; omega
      intro v' w3 hown' hgrow _
      have R := own_more HQ.out.2 HQ.out.1 hown' hgrow
      obtain ⟨m, hm⟩ : ∃ m, zs ++ [128] = m := ⟨_, rfl⟩
      rw [hm] at R
      have HM : Hid (zs ++ [128] = m ∧ m.length = k + 1) := ⟨hm, by rw [← hm, List.length_append, HL.out]; rfl⟩
      have HR : Hid (w3.ownsRow w.heap.size 5 1 v' m.length (m.map (Value.int .u8)) ∧ Below w.heap.size w w3) := R
      clear hown' hgrow R hm HQ hsz
      go_wp2
      go_loopw [3] (fun v wr => ∃ (j cap : Nat) (so : Option Addr), j ≤ padZ k ∧ v = .slice so (m.length + j) cap ∧ wr.ownsRow w.heap.size 5 1 v (m ++ zer j).length ((m ++ zer j).map (Value.int .u8)) ∧ Below w.heap.size w wr) (fun v _ => match v with | .slice _ l _ => m.length + padZ k - l | _ => 0)
      case atStart =>
        rcases own_cases HR.out.1 with ⟨rfl, h0⟩ | ⟨g, cap, rfl, _⟩
        · have := HM.out.2; rw [h0] at this; simp at this
        · exact ⟨0, cap, _, Nat.zero_le _, rfl, by simpa [zer] using HR.out.1, HR.out.2⟩
      case round =>
        obtain ⟨j, cap, so, hj, rfl, hown, hbel⟩ := hrel
        have hml := HM.out.2
        have hpz : padZ k < 64 := by unfold padZ; omega
        obtain ⟨L, hL⟩ : ∃ L, m.length + j = L := ⟨_, rfl⟩
        obtain ⟨r, hr⟩ : ∃ r, (L + 8) % 64 = r := ⟨_, rfl⟩
        have e1 : ((L : Int) + 8).tmod 64 = (r : Int) := by rw [Int.tmod_eq_emod_of_nonneg (by omega)]; omega
        rw [hL]
        rw [hL] at hown
        obtain ⟨M, hM⟩ : ∃ M, m ++ zer j = M := ⟨_, rfl⟩
        rw [hM] at hown
        have hML : M.length = L := by rw [← hM, List.length_append, zer_length]; exact hL
        have hLb : L ≤ 35184372088832 + 65 := by omega
        by_cases hlt2 : j < padZ k
        · have hne : r ≠ 0 := by have := padZ_least k j hlt2; omega
          have q1 : ((r : Int) != 0) = true := by simp; omega
          have hsz := hbel.size
          have HJ : Hid (m ++ zer (j + 1) = M ++ [0] ∧ m.length + (j + 1) = L + 1 ∧ j + 1 ≤ padZ k ∧ m.length = k + 1) := ⟨by rw [zer_succ, ← List.append_assoc, hM], by omega, hlt2, hml⟩
          have HG : Hid (wr.ownsRow w.heap.size 5 1 (.slice so L cap) M.length (M.map (Value.int .u8)) ∧ Below w.heap.size w wr ∧ M.length = L) := ⟨hown, hbel, hML⟩
          clear hM hL hr hml hown hML hbel
          go_wp2_with (at_builtin; refine wpList_append_own _ rfl _ _ 22 rfl w.heap.size 5 i0 (.int .u8 0) 1 1 Tryd.underlying22 hi hz0 hz1 hz2 rfl (by decide) _ _ _ rfl (HG.out.1.alloc _) ⟨wr.heap.size, 0, none⟩ 1 1 [.int .u8 0] rfl rfl ?c1 ?c2 ?c3 ?c4 ?c5 ?_)
          case c1 => exact one_new _ _ _
          case c2 => intro u hu; simp at hu; subst hu; rfl
          case c3 => unfold maxLen; have := HG.out.2.2; omega
          case c4 => have := HG.out.2.2; omega
          case c5 => simp; omega
          · intro v2 w4 hown' hgrow _
            have R := own_more HG.out.2.1 HG.out.1 hown' hgrow
            obtain ⟨g, cap2, rfl, _⟩ : ∃ g cap2, v2 = .slice (some ⟨g, 0, none⟩) (M ++ [0]).length cap2 ∧ True := by
              rcases own_cases R.1 with ⟨rfl, h0⟩ | ⟨g, cap2, rfl, _⟩
              · simp at h0
              · exact ⟨g, cap2, rfl, trivial⟩
            have HR2 : Hid (w4.ownsRow w.heap.size 5 1 (.slice (some ⟨g, 0, none⟩) (M ++ [0]).length cap2) (M ++ [0]).length ((M ++ [0]).map (Value.int .u8)) ∧ Below w.heap.size w w4) := R
            have eL : (M ++ [0]).length = L + 1 := by rw [List.length_append, HG.out.2.2]; rfl
            rw [eL]
            have HEL : Hid ((M ++ [0]).length = L + 1) := eL
            clear hown' hgrow R eL
            go_wp2
            refine ⟨⟨j + 1, cap2, some ⟨g, 0, none⟩, HJ.out.2.2.1, by rw [HJ.out.2.1], ?_, HR2.out.2⟩, ?_⟩
            · have h := HR2.out.1
              rw [HJ.out.1]
              rw [HEL.out] at h ⊢
              exact h
            · show m.length + padZ k - (L + 1) < m.length + padZ k - L
              have := HJ.out.2.1
              have := HJ.out.2.2.1
              omega
        · obtain rfl : j = padZ k := by omega
          have hne : r = 0 := by have := padZ_fits k; omega
          subst hne
          have q1 : (((0 : Nat) : Int) != 0) = false := rfl
          obtain ⟨w5, rfl⟩ : ∃ w5, w5 = wr := ⟨_, rfl⟩
          have HG : Hid (w5.ownsRow w.heap.size 5 1 (.slice so L cap) M.length (M.map (Value.int .u8)) ∧ Below w.heap.size w w5 ∧ M.length = L ∧ (zs ++ [128]) ++ zer (padZ k) = M) := ⟨hown, hbel, hML, by rw [HM.out.1, hM]⟩
          clear hM hL hr hml hown hML hbel
          go_wp2
          obtain ⟨X, hX⟩ : ∃ X, 8 * (k : Int) = X := ⟨_, rfl⟩
          simp only [hX]
          have HP : Hid (padL zs = M ++ be8 X) := by
            show _ = _
            rw [padL, HL.out, HG.out.2.2.2, IntKind.wrap_u64, Int.emod_eq_of_lt (by omega) (by omega), hX]
          clear hX
          go_loopw [3, 6] (fun v i wr => ∃ (e : Nat) (I : Int), e ≤ 8 ∧ I + e = 7 ∧ i = .int .i64 I ∧ wr.ownsRow w.heap.size 5 1 v (M ++ (be8 X).take e).length ((M ++ (be8 X).take e).map (Value.int .u8)) ∧ Below w.heap.size w wr) (fun _ i _ => (intOf i + 1).toNat)
          case atStart => exact ⟨0, 7, by decide, by decide, rfl, by have h := HG.out.1; rw [List.take_zero, List.append_nil]; exact h, HG.out.2.1⟩
          case round =>
            obtain ⟨e, I, he, hI, rfl, hown, hbel⟩ := hrel
            by_cases hlt3 : e < 8
            · obtain ⟨p, rfl⟩ : ∃ p : Nat, I = (p : Int) := ⟨I.toNat, by omega⟩
              have hp : p = 7 - e := by omega
              obtain ⟨Y, hY⟩ : ∃ Y, M ++ (be8 X).take e = Y := ⟨_, rfl⟩
              rw [hY] at hown
              have HJ : Hid (M ++ (be8 X).take (e + 1) = Y ++ [X / 2 ^ (8 * p) % 256] ∧ Y.length ≤ L + 8) := ⟨by rw [be8_take X e hlt3, ← List.append_assoc, hY, hp], by rw [← hY, List.length_append, HG.out.2.2.1, List.length_take, be8_length]; omega⟩
              have HO : Hid (wr.ownsRow w.heap.size 5 1 u3 Y.length (Y.map (Value.int .u8)) ∧ Below w.heap.size w wr) := ⟨hown, hbel⟩
              have hsz := hbel.size
              have j1 : (0 : Int) ≤ (p : Int) := by omega
              have j6 : 0 ≤ 8 * (p : Int) := by omega
              have j7 : (8 * (p : Int)).toNat = 8 * p := by omega
              clear hown hbel hY hp
              go_wp2_with (at_builtin; refine wpList_append_own _ rfl _ _ 22 rfl w.heap.size 5 i0 (.int .u8 0) 1 1 Tryd.underlying22 hi hz0 hz1 hz2 rfl (by decide) _ _ _ rfl (HO.out.1.alloc _) ⟨wr.heap.size, 0, none⟩ 1 1 [.int .u8 (X / 2 ^ (8 * p) % 256)] rfl rfl ?c1 ?c2 ?c3 ?c4 ?c5 ?_)
              case c1 => exact one_new _ _ _
              case c2 => intro u hu; simp at hu; subst hu; rfl
              case c3 => unfold maxLen; have := HJ.out.2; omega
              case c4 => have := HJ.out.2; omega
              case c5 => simp; omega
              · intro v2 w4 hown' hgrow _
                have R := own_more HO.out.2 HO.out.1 hown' hgrow
                have HR2 : Hid _ := R
                clear hown' hgrow R
                go_wp2
                go_roundw
                case rel => exact ⟨e + 1, (p : Int) - 1, by omega, by omega, by go_num, by rw [HJ.out.1]; exact HR2.out.1, HR2.out.2⟩
                case measure => simp [intOf] <;> omega
            · obtain rfl : e = 8 := by omega
              obtain rfl : I = -1 := by omega
              rw [List.take_of_length_le (by rw [be8_length]; decide), ← HP.out] at hown
              have HO : Hid (wr.ownsRow w.heap.size 5 1 u3 (padL zs).length ((padL zs).map (Value.int .u8)) ∧ Below w.heap.size w wr) := ⟨hown, hbel⟩
              clear hown hbel
              go_wp2
              go_ret
              exact ⟨_, rfl, HO.out⟩
end Go.Proofs.YtiimjhahblmggaaDoor
