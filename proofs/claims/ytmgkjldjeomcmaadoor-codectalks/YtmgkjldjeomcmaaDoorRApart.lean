/- The document's Apart, over a Lot. -/
import Derived.Test.YtmgkjldjeomcmaaDoorOApartW
namespace Go.Proofs.YtmgkjldjeomcmaaDoor
open Go.RowKit
set_option linter.unusedVariables false
set_option linter.unusedSimpArgs false

def mkR (j t : Nat) : Int := (31 * (j : Int) + 7 * (t : Int) + 1) % 256
theorem mark_any (j t : Nat) (hj : j ≤ 1048576) (ht : t ≤ 140737488355328) (w : World) : Calls Tryd.prog 68 #[.int .i64 j, .int .i64 t] w fun e w' => e = .returned (.int .u8 (mkR j t)) ∧ w = w' := by
  have e1 : (31 * (j : Int) + 7 * (t : Int) + 1) % 256 = mkR j t := rfl
  have e2 : ((j : Int) * 31 + (t : Int) * 7 + 1) % 256 = mkR j t := by rw [← e1]; congr 1; omega
  go_enter Tryd.func68, Tryd.ntmps68
  go_wp2
  go_ret
  exact ⟨by first | rfl | simp [e1, e2], rfl⟩
theorem mark_same (j t : Nat) (hj : j ≤ 1048576) (ht : t ≤ 140737488355328) : ∀ W, Calls Tryd.prog 68 #[.int .i64 j, .int .i64 t] W fun e w' => e = .returned (.int .u8 (mkR j t)) ∧ w' = W := fun W => (mark_any j t hj ht W).mono fun e w' h => ⟨h.1, h.2.symm⟩
/-- The list k, full of its marks; and grown m times. -/
def fulR (len : Nat → Nat) (j : Nat) : List Int := (List.range (len j)).map (mkR j)
def groR (len : Nat → Nat) (j m : Nat) : List Int := (List.range (len j + m)).map (mkR j)
theorem fulR_length (len : Nat → Nat) (j : Nat) : (fulR len j).length = len j := by simp [fulR]
theorem groR_length (len : Nat → Nat) (j m : Nat) : (groR len j m).length = len j + m := by simp [groR]
theorem groR_succ (len : Nat → Nat) (j m : Nat) : (groR len j (m + 1)).map (Value.int .u8) = (groR len j m).map (Value.int .u8) ++ [.int .u8 (mkR j (len j + m))] := by
  rw [groR, groR, ← Nat.add_assoc, List.range_succ, List.map_append, List.map_append]; rfl
theorem groR_zero (len : Nat → Nat) (j : Nat) : groR len j 0 = fulR len j := rfl
theorem groR_app (len : Nat → Nat) (j m : Nat) : groR len j m = fulR len j ++ (List.range m).map (fun t => mkR j (len j + t)) := by
  rw [groR, fulR, List.range_add, List.map_append, List.map_map]; rfl
theorem fulR_at (len : Nat → Nat) (j t : Nat) (ht : t < len j) : (fulR len j).getD t 0 = mkR j t := by simp [fulR, List.getD, ht]
theorem groR_at (len : Nat → Nat) (j m t : Nat) (ht : t < len j + m) : (groR len j m).getD t 0 = mkR j t := by simp [groR, List.getD, ht]
/-- The lists that were grown, i of them. -/
structure GrewR (base : Nat) (w : World) (gv : Value) (i : Nat) (V : Nat → Option Addr) (len : Nat → Nat) (hd : List Value) : Prop where
  outer : w.ownsRow base 24 1 gv i hd
  inner : ∀ j, j < i → ∃ g cap, hd[j]? = some (.slice (some ⟨g, 0, none⟩) (len j + 70) cap) ∧ RowAt w g (groR len j 70) ∧ (base ≤ g ∨ V j = some ⟨g, 0, none⟩)
theorem GrewR.step {base n : Nat} {w w1 w2 : World} {gv gv' : Value} {i : Nat} {V : Nat → Option Addr} {len : Nat → Nat} {hd : List Value} {g cap : Nat} (h : GrewR base w gv i V len hd)
    (hap : ∀ j j' g, j < n → j' < n → V j = some ⟨g, 0, none⟩ → V j' = some ⟨g, 0, none⟩ → j = j') (hin : i < n) (hlt : ∀ g, V i = some ⟨g, 0, none⟩ → g < base)
    (hK : Kept (fun b => V i = some ⟨b, 0, none⟩) w w1) (hr : RowAt w1 g (groR len i 70)) (hgb : base ≤ g ∨ V i = some ⟨g, 0, none⟩)
    (ho : w2.ownsRow base 24 1 gv' (i + 1) (hd ++ [.slice (some ⟨g, 0, none⟩) (len i + 70) cap])) (hg : (w1.alloc (.cells #[.slice (some ⟨g, 0, none⟩) (len i + 70) cap] 24)).grownBy w2 gv.ownBlock) (ho1 : w1.ownsRow base 24 1 gv i hd) :
    GrewR base w2 gv' (i + 1) V len (hd ++ [.slice (some ⟨g, 0, none⟩) (len i + 70) cap]) := by
  have hl : hd.length = i := by have := h.outer.1; omega
  have keep : ∀ g zs, RowAt w1 g zs → RowAt w2 g zs := fun g zs h => row_grown (h.alloc _) hg (row_ne h ho1)
  refine ⟨ho, fun j hj => ?_⟩
  by_cases hji : j < i
  · obtain ⟨g', cap', e', hr', hb'⟩ := h.inner j hji
    refine ⟨g', cap', by rw [List.getElem?_append_left (by omega)]; exact e', keep _ _ (hr'.kept hK ?_), hb'⟩
    intro e
    rcases hb' with hb' | hb'
    · have := hlt g' e; omega
    · have := hap j i g' (by omega) hin hb' e; omega
  · have e : j = i := by omega
    subst e
    exact ⟨g, cap, by rw [List.getElem?_append_right (by omega)]; simp [hl], keep _ _ hr, hgb⟩
set_option maxRecDepth 20000 in
set_option maxHeartbeats 8000000 in
theorem rapart_any (O n c : Nat) (V : Nat → Option Addr) (len cap cap0 : Nat → Nat) (f : Nat → List Int) (w : World) (hx : Lot w O n V len cap cap0 f) (hn : n ≤ 1048576) (hl : ∀ j, j < n → len j + 70 ≤ 140737488355328) :
    Calls Tryd.prog 39 #[.slice (some ⟨O, 0, none⟩) n c] w fun e w' => e = .returned (.bool true) ∧ Kept (LotS n V) w w' := by
  have HX : Hid (Lot w O n V len cap cap0 f) := hx
  clear hx
  go_enter Tryd.func39, Tryd.ntmps39
  go_wp2
  go_loopw [3, 4] (fun i _ wr => ∃ (k : Nat) (f' : Nat → List Int), k ≤ n ∧ i = .int .i64 k ∧ Lot wr O n V len cap cap0 f' ∧ (∀ j, j < k → f' j = fulR len j) ∧ Kept (LotS n V) w wr) (fun i _ _ => n - (intOf i).toNat)
  case atStart => exact ⟨0, f, Nat.zero_le _, rfl, HX.out, fun j h => by omega, Kept.refl _ _⟩
  case round =>
    clear HX
    obtain ⟨i, f', hi, rfl, hlot, hfu, hkept⟩ := hrel
    by_cases hlt : i < n
    · have c1 := hlot.heads i hlt
      have tL := hl i hlt
      have a1 : (0 : Int) ≤ (i : Int) := by omega
      have a2 : (i : Int) < (n : Int) := by omega
      have HH : Hid (Lot _ O n V len cap cap0 f' ∧ (∀ j, j < i → f' j = fulR len j) ∧ Kept (LotS n V) w _) := ⟨hlot, hfu, hkept⟩
      clear hkept hlot hfu
      go_wp2
      go_loopw [4] (fun t wr => ∃ (k : Nat) (f2 : Nat → List Int), k ≤ len i ∧ t = .int .i64 k ∧ Lot wr O n V len cap cap0 f2 ∧ (∀ j, j < i → f2 j = fulR len j) ∧ (f2 i).take k = (List.range k).map (mkR i) ∧ Kept (LotS n V) w wr) (fun t _ => len i - (intOf t).toNat)
      case atStart => exact ⟨0, f', Nat.zero_le _, rfl, HH.out.1, HH.out.2.1, by simp, HH.out.2.2⟩
      case round =>
        clear HH c1
        obtain ⟨k, f2, hk, rfl, hlot, hfu, htk, hkept⟩ := hrel
        have c1 := hlot.heads i hlt
        have hfl : (f2 i).length = len i := by have := (hlot.own i hlt).1; simpa using this
        by_cases hlk : k < len i
        · obtain ⟨g, eg, hglt⟩ := hlot.at hlt (by have := hlot.capLe hlt; omega)
          have ho := hlot.own i hlt
          rw [eg] at ho c1
          obtain ⟨hgc, hgf⟩ := own_at ho k hlk
          have R0 := (hlot.set hlt hlk eg (mkR i k)).drew
          obtain ⟨f3, hf3⟩ : ∃ f3 : Nat → List Int, (fun j' => if j' = i then (f2 i).set k (mkR i k) else f2 j') = f3 := ⟨_, rfl⟩
          rw [hf3] at R0
          have R1 : Hid _ := R0
          have R2 : Hid _ := (hkept.setCell (p := ⟨g, k, none⟩) (by exact ⟨i, hlt, eg⟩) (.int .u8 (mkR i k))).drew
          have R3 : Hid ((∀ j, j < i → f3 j = fulR len j) ∧ (f3 i).take (k + 1) = (List.range (k + 1)).map (mkR i)) := by
            rw [← hf3]
            refine ⟨fun j hj => ?_, ?_⟩
            · show (if j = i then _ else f2 j) = _
              rw [if_neg (by omega)]; exact hfu j hj
            · show (if i = i then _ else f2 i).take (k + 1) = _
              rw [if_pos rfl, set_take _ _ _ (by omega), htk, List.range_succ, List.map_append]; rfl
          clear hf3 R0
          have a3 : (0 : Int) ≤ (k : Int) := by omega
          have a4 : (k : Int) < (len i : Int) := by omega
          have hmk := mark_any i k (by omega) (by omega)
          clear hlot hkept eg ho hfu htk hfl
          go_wp2
          go_region_with (go_at_call 68; refine (hmk _).mono ?_; rintro e w' ⟨rfl, rfl⟩)
          all_goals
            go_wp2
            go_roundw
            case rel => exact ⟨k + 1, _, by omega, by go_num, R1.out, R3.out.1, R3.out.2, R2.out⟩
            case measure => simp [intOf]; omega
        · have e : k = len i := by omega
          subst e
          have R3 : Hid (∀ j, j < i + 1 → f2 j = fulR len j) := fun j hj => by
            by_cases h : j < i
            · exact hfu j h
            · obtain rfl : j = i := by omega
              rw [List.take_of_length_le (by omega)] at htk
              exact htk
          have R1 : Hid _ := hlot
          have R2 : Hid _ := hkept
          clear hlot hkept htk hfu hfl
          go_wp2
          go_roundw
          case rel => exact ⟨i + 1, f2, by omega, by go_num, R1.out, R3.out, R2.out⟩
          case measure => simp [intOf]; omega
    · have e : i = n := by omega
      subst e
      have hl1 := hlot.congr hfu
      obtain ⟨w1, hw1⟩ : ∃ x, x = wr := ⟨_, rfl⟩
      subst hw1
      have HK1 : Hid _ := hkept
      clear hlot hkept hfu
      obtain ⟨iB, hiB, hB0, hB1, hB2⟩ := info_parts info_byte
      obtain ⟨iL, hiL, hL0, hL1, hL2⟩ := info_parts info_bytes
      have HG1 : Hid (∀ j g, j < i → V j = some ⟨g, 0, none⟩ → g < w1.heap.size) := fun j g hj hg => by
        have h1 := hl1.own j hj
        rw [hg] at h1
        exact (h1.lt g rfl).2
      have HAP : Hid (∀ j j' g, j < i → j' < i → V j = some ⟨g, 0, none⟩ → V j' = some ⟨g, 0, none⟩ → j = j') := hl1.apart
      have HL1 : Hid _ := hl1
      have HO1 : Hid (O < w1.heap.size) := hl1.olt
      have z1 := HK1.out.size
      clear hl1
      go_wp2
      go_loopw [5, 6, 7, 8] (fun gv a _ _ wr => ∃ (k : Nat) (hd : List Value), k ≤ i ∧ a = .int .i64 k ∧ GrewR w1.heap.size wr gv k V len hd ∧ Lot wr O i V len cap cap0 (fulR len) ∧ Kept (LotS i V) w wr ∧ w1.heap.size ≤ wr.heap.size) (fun _ a _ _ _ => i - (intOf a).toNat)
      case atStart => exact ⟨0, [], Nat.zero_le _, rfl, ⟨World.ownsRow_nil _ _ _ _, fun j h => by omega⟩, HL1.out, HK1.out, Nat.le_refl _⟩
      case round =>
        clear HL1 HK1
        obtain ⟨k, hd, hk, rfl, hgr, hlr, hkr, hsr⟩ := hrel
        by_cases hlt : k < i
        · have c1 := hlr.heads k hlt
          have tL := hl k hlt
          have a1 : (0 : Int) ≤ (k : Int) := by omega
          have a2 : (k : Int) < (i : Int) := by omega
          obtain ⟨w2, hw2⟩ : ∃ x, x = wr := ⟨_, rfl⟩
          subst hw2
          have hok := hlr.own k hlt
          have HOK : Hid (w2.ownsRow 0 5 1 (.slice (V k) (len k) (cap0 k)) (len k) ((fulR len k).map (Value.int .u8))) := hok
          have HGR : Hid _ := hgr
          have HLR : Hid _ := hlr
          have HKR : Hid _ := hkr
          clear hgr hlr hkr hok
          go_wp2
          go_loopw [7, 8] (fun v t wr => ∃ m : Nat, m ≤ 70 ∧ t = .int .i64 m ∧ Kept (fun b => V k = some ⟨b, 0, none⟩) w2 wr ∧ wr.ownsRow 0 5 1 (.slice (V k) (len k) (cap0 k)) (len k) ((fulR len k).map (Value.int .u8)) ∧
            ((v = .slice (V k) (len k + m) (cap k) ∧ wr.ownsRow 0 5 1 (.slice (V k) (len k + m) (cap0 k)) (len k + m) ((groR len k m).map (Value.int .u8))) ∨ (0 < m ∧ wr.ownsRow w2.heap.size 5 1 v (len k + m) ((groR len k m).map (Value.int .u8))))) (fun _ t _ => 70 - (intOf t).toNat)
          case atStart => exact ⟨0, Nat.zero_le _, rfl, Kept.refl _ _, HOK.out, .inl ⟨rfl, by rw [groR_zero]; exact HOK.out⟩⟩
          case round =>
            clear c1 HOK
            obtain ⟨m, hm, rfl, hkw, hokw, hown⟩ := hrel
            have c1 : wr.cell? ⟨O, k, none⟩ = some (.slice (V k) (len k) (cap k)) := (hkw.cell (p := ⟨O, k, none⟩) HLR.out.olt (fun e => HLR.out.off k O hlt e rfl)).trans (HLR.out.heads k hlt)
            have hsw := hkw.size
            have HKW : Hid _ := hkw
            have HOKW : Hid (wr.ownsRow 0 5 1 (.slice (V k) (len k) (cap0 k)) (len k) ((fulR len k).map (Value.int .u8))) := hokw
            clear hkw hokw
            by_cases hmt : m < 70
            · have HGS : Hid _ := groR_succ len k m
              have hgn : ∀ W, Calls Tryd.prog 68 #[.int .i64 (k : Int), .int .i64 ((len k : Int) + (m : Int))] W fun e w' => e = .returned (.int .u8 (mkR k (len k + m))) ∧ W = w' := fun W => by have q := mark_any k (len k + m) (by omega) (by omega) W; rwa [show ((len k + m : Nat) : Int) = (len k : Int) + (m : Int) by omega] at q
              obtain ⟨MK, hMK⟩ : ∃ z, mkR k (len k + m) = z := ⟨_, rfl⟩
              rw [hMK] at hgn HGS
              clear hMK
              rcases hown with ⟨hv, hA⟩ | ⟨hm0, hB⟩
              · by_cases hroom : len k + m + 1 ≤ cap k
                · have hcc : cap0 k = cap k := by
                    rcases HLR.out.caps k hlt with h | h
                    · exact h.symm
                    · omega
                  obtain ⟨g, eg, _⟩ := HLR.out.at hlt (by omega)
                  rw [eg] at hv hA
                  rw [hcc] at hA
                  have HCC : Hid (cap0 k = cap k) := hcc
                  clear hcc
                  subst hv
                  have R4 : Hid (V k = some ⟨g, 0, none⟩) := eg
                  clear eg
                  go_wp2_with fail
                  refine (hgn _).mono ?_
                  rintro e w' ⟨rfl, rfl⟩
                  go_wp2_with (at_builtin; refine wpList_append_fits _ rfl _ _ 24 rfl 0 5 iB 1 Tryd.underlying24 hiB hB1 g (len k + m) (cap k) _ rfl (hA.alloc _) ⟨wr.heap.size, 0, none⟩ 1 1 [.int .u8 MK] rfl rfl (cell_one_new _ _ _) (one_int _) ?b1 ?_)
                  case b1 => omega
                  · intro w3 hown' hgrow
                    have R1 : w3.ownsRow 0 5 1 (.slice (some ⟨g, 0, none⟩) (len k + (m + 1)) (cap k)) (len k + (m + 1)) ((groR len k (m + 1)).map (Value.int .u8)) := by rw [HGS.out]; exact hown'
                    have R2 : Kept (fun b => V k = some ⟨b, 0, none⟩) w2 w3 := (HKW.out.alloc _).grown hgrow (fun b hb _ => by cases hb; exact R4.out)
                    have R3 : w3.ownsRow 0 5 1 (.slice (V k) (len k) (cap0 k)) (len k) ((fulR len k).map (Value.int .u8)) := by
                      rw [R4.out, HCC.out]
                      refine own_prefix (m := m + 1) (ys := ((List.range (m + 1)).map (fun t => mkR k (len k + t))).map (Value.int .u8)) (by simp [fulR_length]) ?_
                      rw [← List.map_append, ← groR_app]; exact R1
                    clear hown' hgrow hA
                    go_wp2
                    go_roundw
                    case rel => exact ⟨m + 1, by omega, by go_num, R2, R3, .inl ⟨by rw [R4.out]; rfl, by rw [R4.out, HCC.out]; exact R1⟩⟩
                    case measure => simp [intOf]; omega
                · subst hv
                  obtain ⟨hno, hlo, hol⟩ := own_olds (hA.alloc (.cells #[.int .u8 MK] 5))
                  have HNO : Hid (V k = none → len k + m = 0 ∧ cap k = 0) := fun h => ⟨(hno h).1, by have := hno h; rcases HLR.out.caps k hlt with h1 | h1 <;> omega⟩
                  have HLO : Hid _ := hlo
                  have HOL : Hid _ := hol
                  have HRO : Hid (¬ len k + m + 1 ≤ cap k) := hroom
                  clear hno hlo hol hA hroom
                  go_wp2_with fail
                  refine (hgn _).mono ?_
                  rintro e w' ⟨rfl, rfl⟩
                  go_wp2_with (at_builtin; refine wpList_append_grows _ rfl _ _ 24 rfl 5 iB (.int .u8 0) 1 1 Tryd.underlying24 hiB hB0 hB1 hB2 rfl (by decide) (V k) (len k + m) (cap k) ((groR len k m).map (Value.int .u8)) rfl HNO.out HLO.out HOL.out ⟨wr.heap.size, 0, none⟩ 1 1 [.int .u8 MK] rfl rfl (cell_one_new _ _ _) (one_int _) ?b0 ?b1 ?b2 ?_)
                  case b0 => have := HRO.out; omega
                  case b1 => unfold maxLen; omega
                  case b2 => omega
                  · intro v' w3 hown' hgrow
                    have R1 : w3.ownsRow w2.heap.size 5 1 v' (len k + (m + 1)) ((groR len k (m + 1)).map (Value.int .u8)) := by
                      rw [HGS.out]
                      exact ownsRow_base hown' (by first | omega | (simp; omega))
                    have R2 : Kept (fun b => V k = some ⟨b, 0, none⟩) w2 w3 := (HKW.out.alloc _).grown hgrow (fun b hb _ => by cases hb)
                    have R3 : w3.ownsRow 0 5 1 (.slice (V k) (len k) (cap0 k)) (len k) ((fulR len k).map (Value.int .u8)) :=
                      own_block (HOKW.out.alloc (.cells #[.int .u8 MK] 5)) fun b hb => hgrow.block b ((HOKW.out.alloc (.cells #[.int .u8 MK] 5)).lt b hb).2 (fun e => by cases e)
                    clear hown' hgrow
                    go_wp2
                    go_roundw
                    case rel => exact ⟨m + 1, by omega, by go_num, R2, R3, .inr ⟨by omega, R1⟩⟩
                    case measure => simp [intOf]; omega
              · go_wp2_with fail
                refine (hgn _).mono ?_
                rintro e w' ⟨rfl, rfl⟩
                go_wp2_with (at_builtin; refine wpList_append_own _ rfl _ _ 24 rfl w2.heap.size 5 iB (.int .u8 0) 1 1 Tryd.underlying24 hiB hB0 hB1 hB2 rfl (by decide) _ _ _ rfl (hB.alloc _) ⟨wr.heap.size, 0, none⟩ 1 1 [.int .u8 MK] rfl rfl (cell_one_new _ _ _) (one_int _) ?d1 ?d2 ?d3 ?_)
                case d1 => unfold maxLen; omega
                case d2 => omega
                case d3 => first | omega | (simp; omega)
                · intro v' w3 hown' hgrow _
                  have R1 : w3.ownsRow w2.heap.size 5 1 v' (len k + (m + 1)) ((groR len k (m + 1)).map (Value.int .u8)) := by rw [HGS.out]; exact hown'
                  have R2 : Kept (fun b => V k = some ⟨b, 0, none⟩) w2 w3 := (HKW.out.alloc _).grown hgrow (fun b hb hlt => by have := (hB.lt b hb).1; omega)
                  have R3 : w3.ownsRow 0 5 1 (.slice (V k) (len k) (cap0 k)) (len k) ((fulR len k).map (Value.int .u8)) :=
                    own_block (HOKW.out.alloc (.cells #[.int .u8 MK] 5)) fun b hb => hgrow.block b ((HOKW.out.alloc (.cells #[.int .u8 MK] 5)).lt b hb).2 (fun e => by
                      have h1 := (hB.lt b e.symm).1
                      have h2 := HG1.out k b hlt (own_addr HOKW.out hb)
                      omega)
                  clear hown' hgrow hB
                  go_wp2
                  go_roundw
                  case rel => exact ⟨m + 1, by omega, by go_num, R2, R3, .inr ⟨by omega, R1⟩⟩
                  case measure => simp [intOf]; omega
            · have e : m = 70 := by omega
              subst e
              clear c1
              obtain ⟨g, cap', rfl, hrow, hgb⟩ : ∃ g cap', u7 = .slice (some ⟨g, 0, none⟩) (len k + 70) cap' ∧ RowAt wr g (groR len k 70) ∧ (w1.heap.size ≤ g ∨ V k = some ⟨g, 0, none⟩) := by
                rcases hown with ⟨hv, hA⟩ | ⟨_, hB⟩
                · rcases own_len (groR_length len k 70) hA with ⟨_, h0⟩ | ⟨g, cap', e, hr, _⟩
                  · omega
                  · simp only [Value.slice.injEq] at e
                    exact ⟨g, cap k, by rw [hv, e.1], hr, .inr e.1⟩
                · rcases own_len (groR_length len k 70) hB with ⟨_, h0⟩ | ⟨g, cap', e, hr, hg, _⟩
                  · omega
                  · exact ⟨g, cap', e, hr, .inl (by omega)⟩
              have ho : wr.ownsRow w1.heap.size 24 1 u5 k hd := own_kept HGR.out.outer HKW.out (fun b hb e => by
                have h1 := (HGR.out.outer.lt b hb).1
                have h2 := HG1.out k b hlt e
                omega)
              have HRW : Hid (RowAt wr g (groR len k 70) ∧ (w1.heap.size ≤ g ∨ V k = some ⟨g, 0, none⟩)) := ⟨hrow, hgb⟩
              clear hown hrow hgb
              go_wp2_with (at_builtin; refine wpList_append_own _ rfl _ _ 54 rfl w1.heap.size 24 iL (.slice none 0 0) 1 24 Tryd.underlying54 hiL hL0 hL1 hL2 rfl (by decide) _ _ _ rfl (ho.alloc _) ⟨wr.heap.size, 0, none⟩ 1 1 [.slice (some ⟨g, 0, none⟩) (len k + 70) cap'] rfl rfl (cell_one_new _ _ _) (one_header _ _ _) ?f1 ?f2 ?f3 ?_)
              case f1 => unfold maxLen; omega
              case f2 => omega
              case f3 => first | omega | (simp; omega)
              · intro v' w3 hown' hgrow _
                have R1 := HGR.out.step HAP.out hlt (fun g hg => HG1.out k g hlt hg) HKW.out HRW.out.1 HRW.out.2 hown' hgrow ho
                have R2 : Lot w3 O i V len cap cap0 (fulR len) := (HLR.out.kept hlt HKW.out HOKW.out).below (B := w1.heap.size) (((Below.refl _ _).alloc (by omega) _).grown hgrow (by simp; omega) (fun j hj => (ho.lt j hj).1)) HO1.out HG1.out
                have R3 : Kept (LotS i V) w w3 := ((HKR.out.trans (HKW.out.mono (fun b hb => ⟨k, hlt, hb⟩))).alloc _).grown hgrow (fun b hb hlt => by have := (ho.lt b hb).1; omega)
                have R4 : w1.heap.size ≤ w3.heap.size := by have := hgrow.size; simp at this; omega
                clear hown' hgrow ho
                go_wp2
                go_roundw
                case rel => exact ⟨k + 1, _, by omega, by go_num, R1, R2, R3, R4⟩
                case measure => simp [intOf]; omega
        · have e : k = i := by omega
          subst e
          obtain ⟨w3, hw3⟩ : ∃ x, x = wr := ⟨_, rfl⟩
          subst hw3
          have HKK : Hid (Kept (LotS k V) w w3) := hkr
          have heads2 : ∀ j, j < k → ∃ GO cg g cap', u5 = .slice (some ⟨GO, 0, none⟩) k cg ∧ w3.cell? ⟨GO, j, none⟩ = some (.slice (some ⟨g, 0, none⟩) (len j + 70) cap') ∧ (∀ t, t < len j + 70 → w3.cell? ⟨g, t, none⟩ = some (.int .u8 (mkR j t))) := by
            intro j hj
            obtain ⟨g, cap', e, hr, _⟩ := hgr.inner j hj
            rcases hgr.outer.2 with ⟨_, h0⟩ | ⟨GO, cg, cur, hv, r⟩
            · omega
            · have ho := hgr.outer
              rw [hv] at ho
              refine ⟨GO, cg, g, cap', hv, by rw [ho.cellAt j (by omega)]; exact e, fun t ht => ?_⟩
              rw [hr.cell t (by rw [groR_length]; omega), groR_at len j 70 t ht]
          have HH2 : Hid _ := heads2
          have HLR : Hid _ := hlr
          clear hgr hlr hkr heads2
          go_wp2
          go_loopw [9, 10] (fun a _ wr => ∃ j : Nat, j ≤ k ∧ a = .int .i64 j ∧ ∃ q, wr = w3.drewN q) (fun a _ _ => k - (intOf a).toNat)
          case atStart => exact ⟨0, Nat.zero_le _, rfl, 0, rfl⟩
          case round =>
            obtain ⟨j, hj, rfl, q, rfl⟩ := hrel
            by_cases hlt : j < k
            · have c1 := HLR.out.heads j hlt
              have tL := hl j hlt
              have a1 : (0 : Int) ≤ (j : Int) := by omega
              have a2 : (j : Int) < (k : Int) := by omega
              obtain ⟨GO, cg, g, cap', rfl, hgc, hg1⟩ := HH2.out j hlt
              have HG : Hid _ := hg1
              clear hg1
              go_wp2
              go_loopw [10] (fun a wr => ∃ t : Nat, t ≤ len j + 70 ∧ a = .int .i64 t ∧ ∃ q, wr = w3.drewN q) (fun a _ => len j + 70 - (intOf a).toNat)
              case atStart => exact ⟨0, Nat.zero_le _, rfl, _, rfl⟩
              case round =>
                obtain ⟨t, ht, rfl, q2, hwr⟩ := hrel
                have HW : Hid (wr = w3.drewN q2) := hwr
                have c1' : wr.cell? ⟨O, j, none⟩ = some (.slice (V j) (len j) (cap j)) := by rw [hwr]; exact c1
                have hgc' : wr.cell? ⟨GO, j, none⟩ = some (.slice (some ⟨g, 0, none⟩) (len j + 70) cap') := by rw [hwr]; exact hgc
                by_cases hltt : t < len j
                · obtain ⟨g0, eg, _⟩ := HLR.out.at hlt (by have := HLR.out.capLe hlt; omega)
                  have ho := HLR.out.own j hlt
                  rw [eg] at ho c1'
                  have c2 : wr.cell? ⟨g0, t, none⟩ = some (.int .u8 (mkR j t)) := by rw [hwr]; exact (own_at ho t hltt).1.trans (by rw [fulR_at len j t hltt])
                  have c3 : wr.cell? ⟨g, t, none⟩ = some (.int .u8 (mkR j t)) := by rw [hwr]; exact HG.out t (by omega)
                  have hmk := mark_same j t (by omega) (by omega)
                  obtain ⟨MK, hMK⟩ : ∃ z, mkR j t = z := ⟨_, rfl⟩
                  rw [hMK] at hmk c2 c3
                  have a3 : (0 : Int) ≤ (t : Int) := by omega
                  have a4 : (t : Int) < (len j : Int) := by omega
                  have a5 : (t : Int) < (len j : Int) + 70 := by omega
                  clear eg ho hwr c1 hgc hMK
                  go_wp2
                  go_quiet (first | (go_at_call 68; exact Calls.quiet_of_same (hmk _)))
                  go_wp2
                  go_roundw
                  case rel => exact ⟨t + 1, by omega, by go_num, _, by rw [HW.out, World.drewN_drewN]⟩
                  case measure => simp [intOf]; omega
                · by_cases hlt3 : t < len j + 70
                  · have c3 : wr.cell? ⟨g, t, none⟩ = some (.int .u8 (mkR j t)) := by rw [hwr]; exact HG.out t hlt3
                    have hmk := mark_same j t (by omega) (by omega)
                    obtain ⟨MK, hMK⟩ : ∃ z, mkR j t = z := ⟨_, rfl⟩
                    rw [hMK] at hmk c3
                    have a3 : (0 : Int) ≤ (t : Int) := by omega
                    have a5 : (t : Int) < (len j : Int) + 70 := by omega
                    have a6 : ¬ (t : Int) < (len j : Int) := by omega
                    have d1 : decide ((t : Int) < (len j : Int)) = false := by simp; omega
                    have d2 : decide (t < len j) = false := by simp; omega
                    clear hwr c1 hgc hMK
                    go_wp2
                    go_quiet (first | (go_at_call 68; exact Calls.quiet_of_same (hmk _)))
                    go_wp2
                    go_roundw
                    case rel => exact ⟨t + 1, by omega, by go_num, _, by rw [HW.out, World.drewN_drewN]⟩
                    case measure => simp [intOf]; omega
                  · have hlt4 : ¬ (t : Int) < (len j : Int) + 70 := by omega
                    clear hlt3 hltt hwr c1 hgc
                    go_wp2
                    go_roundw
                    case rel => exact ⟨j + 1, by omega, by go_num, _, HW.out⟩
                    case measure => simp [intOf]; omega
            · have HF : Hid (Kept (LotS k V) w (w3.drewN q)) := HKK.out.trans ⟨rfl, rfl, rfl, Nat.le_refl _, fun _ _ _ => rfl⟩
              go_wp2
              go_ret
              exact ⟨rfl, HF.out⟩
end Go.Proofs.YtmgkjldjeomcmaaDoor
