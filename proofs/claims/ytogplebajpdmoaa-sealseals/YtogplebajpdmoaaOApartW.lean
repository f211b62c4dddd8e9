/- The walk of the statements' apart. -/
import Derived.Test.YtogplebajpdmoaaOApart
namespace Go.Proofs.Ytogplebajpdmoaa
open Go.RowKit
set_option linter.unusedVariables false
set_option linter.unusedSimpArgs false

theorem set_take (l : List Int) (k : Nat) (z : Int) (h : k < l.length) : (l.set k z).take (k + 1) = l.take k ++ [z] := by
  rw [List.take_succ_eq_append_getElem (by simpa using h)]
  simp [List.take_set_of_le]
theorem Lot.drew {w : World} {O n : Nat} {V : Nat → Option Addr} {len cap cap0 : Nat → Nat} {f : Nat → List Int} (h : Lot w O n V len cap cap0 f) : Lot w.drew O n V len cap cap0 f := h.later ((Below.refl _ _).drew) (Nat.le_refl _)

set_option maxRecDepth 20000 in
set_option maxHeartbeats 8000000 in
theorem apart_any (O n c : Nat) (V : Nat → Option Addr) (len cap cap0 : Nat → Nat) (f : Nat → List Int) (w : World) (hx : Lot w O n V len cap cap0 f) (hn : n ≤ 1048576) (hl : ∀ j, j < n → len j + 100 ≤ 140737488355328) :
    Calls Try.prog 45 #[.slice (some ⟨O, 0, none⟩) n c] w fun e w' => e = .returned (.bool true) ∧ Kept (LotS n V) w w' := by
  have HX : Hid (Lot w O n V len cap cap0 f) := hx
  clear hx
  go_enter Try.func45, Try.ntmps45
  go_wp2
  go_loopw [3, 4] (fun i _ wr => ∃ (k : Nat) (f' : Nat → List Int), k ≤ n ∧ i = .int .i64 k ∧ Lot wr O n V len cap cap0 f' ∧ (∀ j, j < k → f' j = ful len j) ∧ Kept (LotS n V) w wr) (fun i _ _ => n - (intOf i).toNat)
  case atStart => exact ⟨0, f, Nat.zero_le _, rfl, HX.out, fun j h => by omega, Kept.refl _ _⟩
  case round =>
    clear HX
    obtain ⟨i, f', hi, rfl, hlot, hfu, hkept⟩ := hrel
    by_cases hlt : i < n
    · have c1 := hlot.heads i hlt
      have tL := hl i hlt
      have a1 : (0 : Int) ≤ (i : Int) := by omega
      have a2 : (i : Int) < (n : Int) := by omega
      have HH : Hid (Lot _ O n V len cap cap0 f' ∧ (∀ j, j < i → f' j = ful len j) ∧ Kept (LotS n V) w _) := ⟨hlot, hfu, hkept⟩
      clear hkept hlot hfu
      go_wp2
      go_loopw [4] (fun t wr => ∃ (k : Nat) (f2 : Nat → List Int), k ≤ len i ∧ t = .int .i64 k ∧ Lot wr O n V len cap cap0 f2 ∧ (∀ j, j < i → f2 j = ful len j) ∧ (f2 i).take k = List.replicate k (mk1 i) ∧ Kept (LotS n V) w wr) (fun t _ => len i - (intOf t).toNat)
      case atStart => exact ⟨0, f', Nat.zero_le _, rfl, HH.out.1, HH.out.2.1, by simp, HH.out.2.2⟩
      case round =>
        clear HH c1
        obtain ⟨k, f2, hk, rfl, hlot, hfu, htk, hkept⟩ := hrel
        have c1 := hlot.heads i hlt
        have hfl : (f2 i).length = len i := by have := (hlot.own i hlt).1; simpa using this
        by_cases hlk : k < len i
        · obtain ⟨g, eg, hglt⟩ := hlot.at hlt (by have := hlot.capLe hlt; omega)
          have ho := hlot.own i hlt
          rw [eg] at ho c1
          obtain ⟨hgc, hgf⟩ := own_at ho k hlk
          have R0 := (hlot.set hlt hlk eg (mk1 i)).drew
          obtain ⟨f3, hf3⟩ : ∃ f3 : Nat → List Int, (fun j' => if j' = i then (f2 i).set k (mk1 i) else f2 j') = f3 := ⟨_, rfl⟩
          rw [hf3] at R0
          have R1 : Hid _ := R0
          have R2 : Hid _ := (hkept.setCell (p := ⟨g, k, none⟩) (by exact ⟨i, hlt, eg⟩) (.int .u8 (mk1 i))).drew
          have R3 : Hid ((∀ j, j < i → f3 j = ful len j) ∧ (f3 i).take (k + 1) = List.replicate (k + 1) (mk1 i)) := by
            rw [← hf3]
            refine ⟨fun j hj => ?_, ?_⟩
            · show (if j = i then _ else f2 j) = _
              rw [if_neg (by omega)]; exact hfu j hj
            · show (if i = i then _ else f2 i).take (k + 1) = _
              rw [if_pos rfl, set_take _ _ _ (by omega), htk, List.replicate_succ']
          clear hf3 R0
          have a3 : (0 : Int) ≤ (k : Int) := by omega
          have a4 : (k : Int) < (len i : Int) := by omega
          have hmk := marked_any i (by omega)
          clear hlot hkept eg ho hfu htk hfl
          go_wp2
          go_region_with (go_at_call 81; refine (hmk _).mono ?_; rintro e w' ⟨rfl, rfl⟩)
          all_goals
            go_wp2
            go_roundw
            case rel => exact ⟨k + 1, _, by omega, by go_num, R1.out, R3.out.1, R3.out.2, R2.out⟩
            case measure => simp [intOf]; omega
        · have e : k = len i := by omega
          subst e
          have R3 : Hid (∀ j, j < i + 1 → f2 j = ful len j) := fun j hj => by
            by_cases h : j < i
            · exact hfu j h
            · obtain rfl : j = i := by omega
              rw [List.take_of_length_le (by omega)] at htk
              exact htk
          have R1 : Hid _ := hlot
          have R2 : Hid _ := hkept
          clear hlot hkept htk hfu hfl
          go_wp2
          go_roundw
          case rel => exact ⟨i + 1, f2, by omega, by go_num, R1.out, R3.out, R2.out⟩
          case measure => simp [intOf]; omega
    · have e : i = n := by omega
      subst e
      have hl1 := hlot.congr hfu
      obtain ⟨w1, hw1⟩ : ∃ x, x = wr := ⟨_, rfl⟩
      subst hw1
      have HK1 : Hid _ := hkept
      clear hlot hkept hfu
      obtain ⟨iB, hiB, hB0, hB1, hB2⟩ := info_parts info_byte
      obtain ⟨iL, hiL, hL0, hL1, hL2⟩ := info_parts info_bytes
      have HG1 : Hid (∀ j g, j < i → V j = some ⟨g, 0, none⟩ → g < w1.heap.size) := fun j g hj hg => by
        have h1 := hl1.own j hj
        rw [hg] at h1
        exact (h1.lt g rfl).2
      have HAP : Hid (∀ j j' g, j < i → j' < i → V j = some ⟨g, 0, none⟩ → V j' = some ⟨g, 0, none⟩ → j = j') := hl1.apart
      have HL1 : Hid _ := hl1
      have HO1 : Hid (O < w1.heap.size) := hl1.olt
      have z1 := HK1.out.size
      clear hl1
      go_wp2
      go_loopw [5, 6, 7, 8] (fun gv a _ _ wr => ∃ (k : Nat) (hd : List Value), k ≤ i ∧ a = .int .i64 k ∧ Grew w1.heap.size wr gv k V len hd ∧ Lot wr O i V len cap cap0 (ful len) ∧ Kept (LotS i V) w wr ∧ w1.heap.size ≤ wr.heap.size) (fun _ a _ _ _ => i - (intOf a).toNat)
      case atStart => exact ⟨0, [], Nat.zero_le _, rfl, ⟨World.ownsRow_nil _ _ _ _, fun j h => by omega⟩, HL1.out, HK1.out, Nat.le_refl _⟩
      case round =>
        clear HL1 HK1
        obtain ⟨k, hd, hk, rfl, hgr, hlr, hkr, hsr⟩ := hrel
        by_cases hlt : k < i
        · have c1 := hlr.heads k hlt
          have tL := hl k hlt
          have a1 : (0 : Int) ≤ (k : Int) := by omega
          have a2 : (k : Int) < (i : Int) := by omega
          obtain ⟨w2, hw2⟩ : ∃ x, x = wr := ⟨_, rfl⟩
          subst hw2
          have hgn := grown_any k (by omega)
          have hok := hlr.own k hlt
          have HOK : Hid (w2.ownsRow 0 5 1 (.slice (V k) (len k) (cap0 k)) (len k) ((ful len k).map (Value.int .u8))) := hok
          have HGR : Hid _ := hgr
          have HLR : Hid _ := hlr
          have HKR : Hid _ := hkr
          clear hgr hlr hkr hok
          go_wp2
          go_loopw [7, 8] (fun v t wr => ∃ m : Nat, m ≤ 100 ∧ t = .int .i64 m ∧ Kept (fun b => V k = some ⟨b, 0, none⟩) w2 wr ∧ wr.ownsRow 0 5 1 (.slice (V k) (len k) (cap0 k)) (len k) ((ful len k).map (Value.int .u8)) ∧
            ((v = .slice (V k) (len k + m) (cap k) ∧ wr.ownsRow 0 5 1 (.slice (V k) (len k + m) (cap0 k)) (len k + m) ((gro len k m).map (Value.int .u8))) ∨ (0 < m ∧ wr.ownsRow w2.heap.size 5 1 v (len k + m) ((gro len k m).map (Value.int .u8))))) (fun _ t _ => 100 - (intOf t).toNat)
          case atStart => exact ⟨0, Nat.zero_le _, rfl, Kept.refl _ _, HOK.out, .inl ⟨rfl, by rw [gro_zero]; exact HOK.out⟩⟩
          case round =>
            clear c1 HOK
            obtain ⟨m, hm, rfl, hkw, hokw, hown⟩ := hrel
            have hsw := hkw.size
            have HKW : Hid _ := hkw
            have HOKW : Hid (wr.ownsRow 0 5 1 (.slice (V k) (len k) (cap0 k)) (len k) ((ful len k).map (Value.int .u8))) := hokw
            clear hkw hokw
            by_cases hmt : m < 100
            · have HGS : Hid _ := gro_succ len k m
              rcases hown with ⟨hv, hA⟩ | ⟨hm0, hB⟩
              · by_cases hroom : len k + m + 1 ≤ cap k
                · have hcc : cap0 k = cap k := by
                    rcases HLR.out.caps k hlt with h | h
                    · exact h.symm
                    · omega
                  obtain ⟨g, eg, _⟩ := HLR.out.at hlt (by omega)
                  rw [eg] at hv hA
                  rw [hcc] at hA
                  have HCC : Hid (cap0 k = cap k) := hcc
                  clear hcc
                  subst hv
                  have R4 : Hid (V k = some ⟨g, 0, none⟩) := eg
                  clear eg
                  go_wp2_with fail
                  refine (hgn _).mono ?_
                  rintro e w' ⟨rfl, rfl⟩
                  go_wp2_with (at_builtin; refine wpList_append_fits _ rfl _ _ 31 rfl 0 5 iB 1 Try.underlying31 hiB hB1 g (len k + m) (cap k) _ rfl (hA.alloc _) ⟨wr.heap.size, 0, none⟩ 1 1 [.int .u8 (mk2 k)] rfl rfl (cell_one_new _ _ _) (one_int _) ?b1 ?_)
                  case b1 => omega
                  · intro w3 hown' hgrow
                    have R1 : w3.ownsRow 0 5 1 (.slice (some ⟨g, 0, none⟩) (len k + (m + 1)) (cap k)) (len k + (m + 1)) ((gro len k (m + 1)).map (Value.int .u8)) := by rw [HGS.out]; exact hown'
                    have R2 : Kept (fun b => V k = some ⟨b, 0, none⟩) w2 w3 := (HKW.out.alloc _).grown hgrow (fun b hb _ => by cases hb; exact R4.out)
                    have R3 : w3.ownsRow 0 5 1 (.slice (V k) (len k) (cap0 k)) (len k) ((ful len k).map (Value.int .u8)) := by
                      rw [R4.out, HCC.out]
                      refine own_prefix (m := m + 1) (ys := (List.replicate (m + 1) (mk2 k)).map (Value.int .u8)) (by simp [ful_length]) ?_
                      rw [← List.map_append]; exact R1
                    clear hown' hgrow hA
                    go_wp2
                    go_roundw
                    case rel => exact ⟨m + 1, by omega, by go_num, R2, R3, .inl ⟨by rw [R4.out]; rfl, by rw [R4.out, HCC.out]; exact R1⟩⟩
                    case measure => simp [intOf]; omega
                · subst hv
                  obtain ⟨hno, hlo, hol⟩ := own_olds (hA.alloc (.cells #[.int .u8 (mk2 k)] 5))
                  have HNO : Hid (V k = none → len k + m = 0 ∧ cap k = 0) := fun h => ⟨(hno h).1, by have := hno h; rcases HLR.out.caps k hlt with h1 | h1 <;> omega⟩
                  have HLO : Hid _ := hlo
                  have HOL : Hid _ := hol
                  have HRO : Hid (¬ len k + m + 1 ≤ cap k) := hroom
                  clear hno hlo hol hA hroom
                  go_wp2_with fail
                  refine (hgn _).mono ?_
                  rintro e w' ⟨rfl, rfl⟩
                  go_wp2_with (at_builtin; refine wpList_append_grows _ rfl _ _ 31 rfl 5 iB (.int .u8 0) 1 1 Try.underlying31 hiB hB0 hB1 hB2 rfl (by decide) (V k) (len k + m) (cap k) ((gro len k m).map (Value.int .u8)) rfl HNO.out HLO.out HOL.out ⟨wr.heap.size, 0, none⟩ 1 1 [.int .u8 (mk2 k)] rfl rfl (cell_one_new _ _ _) (one_int _) ?b0 ?b1 ?b2 ?_)
                  case b0 => have := HRO.out; omega
                  case b1 => unfold maxLen; omega
                  case b2 => omega
                  · intro v' w3 hown' hgrow
                    have R1 : w3.ownsRow w2.heap.size 5 1 v' (len k + (m + 1)) ((gro len k (m + 1)).map (Value.int .u8)) := by
                      rw [HGS.out]
                      exact ownsRow_base hown' (by first | omega | (simp; omega))
                    have R2 : Kept (fun b => V k = some ⟨b, 0, none⟩) w2 w3 := (HKW.out.alloc _).grown hgrow (fun b hb _ => by cases hb)
                    have R3 : w3.ownsRow 0 5 1 (.slice (V k) (len k) (cap0 k)) (len k) ((ful len k).map (Value.int .u8)) :=
                      own_block (HOKW.out.alloc (.cells #[.int .u8 (mk2 k)] 5)) fun b hb => hgrow.block b ((HOKW.out.alloc (.cells #[.int .u8 (mk2 k)] 5)).lt b hb).2 (fun e => by cases e)
                    clear hown' hgrow
                    go_wp2
                    go_roundw
                    case rel => exact ⟨m + 1, by omega, by go_num, R2, R3, .inr ⟨by omega, R1⟩⟩
                    case measure => simp [intOf]; omega
              · go_wp2_with fail
                refine (hgn _).mono ?_
                rintro e w' ⟨rfl, rfl⟩
                go_wp2_with (at_builtin; refine wpList_append_own _ rfl _ _ 31 rfl w2.heap.size 5 iB (.int .u8 0) 1 1 Try.underlying31 hiB hB0 hB1 hB2 rfl (by decide) _ _ _ rfl (hB.alloc _) ⟨wr.heap.size, 0, none⟩ 1 1 [.int .u8 (mk2 k)] rfl rfl (cell_one_new _ _ _) (one_int _) ?d1 ?d2 ?d3 ?_)
                case d1 => unfold maxLen; omega
                case d2 => omega
                case d3 => first | omega | (simp; omega)
                · intro v' w3 hown' hgrow _
                  have R1 : w3.ownsRow w2.heap.size 5 1 v' (len k + (m + 1)) ((gro len k (m + 1)).map (Value.int .u8)) := by rw [HGS.out]; exact hown'
                  have R2 : Kept (fun b => V k = some ⟨b, 0, none⟩) w2 w3 := (HKW.out.alloc _).grown hgrow (fun b hb hlt => by have := (hB.lt b hb).1; omega)
                  have R3 : w3.ownsRow 0 5 1 (.slice (V k) (len k) (cap0 k)) (len k) ((ful len k).map (Value.int .u8)) :=
                    own_block (HOKW.out.alloc (.cells #[.int .u8 (mk2 k)] 5)) fun b hb => hgrow.block b ((HOKW.out.alloc (.cells #[.int .u8 (mk2 k)] 5)).lt b hb).2 (fun e => by
                      have h1 := (hB.lt b e.symm).1
                      have h2 := HG1.out k b hlt (own_addr HOKW.out hb)
                      omega)
                  clear hown' hgrow hB
                  go_wp2
                  go_roundw
                  case rel => exact ⟨m + 1, by omega, by go_num, R2, R3, .inr ⟨by omega, R1⟩⟩
                  case measure => simp [intOf]; omega
            · have e : m = 100 := by omega
              subst e
              obtain ⟨g, cap', rfl, hrow, hgb⟩ : ∃ g cap', u7 = .slice (some ⟨g, 0, none⟩) (len k + 100) cap' ∧ RowAt wr g (gro len k 100) ∧ (w1.heap.size ≤ g ∨ V k = some ⟨g, 0, none⟩) := by
                rcases hown with ⟨hv, hA⟩ | ⟨_, hB⟩
                · rcases own_len (gro_length len k 100) hA with ⟨_, h0⟩ | ⟨g, cap', e, hr, _⟩
                  · omega
                  · simp only [Value.slice.injEq] at e
                    exact ⟨g, cap k, by rw [hv, e.1], hr, .inr e.1⟩
                · rcases own_len (gro_length len k 100) hB with ⟨_, h0⟩ | ⟨g, cap', e, hr, hg, _⟩
                  · omega
                  · exact ⟨g, cap', e, hr, .inl (by omega)⟩
              have ho : wr.ownsRow w1.heap.size 31 1 u5 k hd := own_kept HGR.out.outer HKW.out (fun b hb e => by
                have h1 := (HGR.out.outer.lt b hb).1
                have h2 := HG1.out k b hlt e
                omega)
              have HRW : Hid (RowAt wr g (gro len k 100) ∧ (w1.heap.size ≤ g ∨ V k = some ⟨g, 0, none⟩)) := ⟨hrow, hgb⟩
              clear hown hrow hgb
              go_wp2_with (at_builtin; refine wpList_append_own _ rfl _ _ 40 rfl w1.heap.size 31 iL (.slice none 0 0) 1 24 Try.underlying40 hiL hL0 hL1 hL2 rfl (by decide) _ _ _ rfl (ho.alloc _) ⟨wr.heap.size, 0, none⟩ 1 1 [.slice (some ⟨g, 0, none⟩) (len k + 100) cap'] rfl rfl (cell_one_new _ _ _) (one_header _ _ _) ?f1 ?f2 ?f3 ?_)
              case f1 => unfold maxLen; omega
              case f2 => omega
              case f3 => first | omega | (simp; omega)
              · intro v' w3 hown' hgrow _
                have R1 := HGR.out.step HAP.out hlt (fun g hg => HG1.out k g hlt hg) HKW.out HRW.out.1 HRW.out.2 hown' hgrow ho
                have R2 : Lot w3 O i V len cap cap0 (ful len) := (HLR.out.kept hlt HKW.out HOKW.out).below (B := w1.heap.size) (((Below.refl _ _).alloc (by omega) _).grown hgrow (by simp; omega) (fun j hj => (ho.lt j hj).1)) HO1.out HG1.out
                have R3 : Kept (LotS i V) w w3 := ((HKR.out.trans (HKW.out.mono (fun b hb => ⟨k, hlt, hb⟩))).alloc _).grown hgrow (fun b hb hlt => by have := (ho.lt b hb).1; omega)
                have R4 : w1.heap.size ≤ w3.heap.size := by have := hgrow.size; simp at this; omega
                clear hown' hgrow ho
                go_wp2
                go_roundw
                case rel => exact ⟨k + 1, _, by omega, by go_num, R1, R2, R3, R4⟩
                case measure => simp [intOf]; omega
        · have e : k = i := by omega
          subst e
          obtain ⟨w3, hw3⟩ : ∃ x, x = wr := ⟨_, rfl⟩
          subst hw3
          have HKK : Hid (Kept (LotS k V) w w3) := hkr
          have heads2 : ∀ j, j < k → ∃ GO cg g cap', u5 = .slice (some ⟨GO, 0, none⟩) k cg ∧ w3.cell? ⟨GO, j, none⟩ = some (.slice (some ⟨g, 0, none⟩) (len j + 100) cap') ∧ (∀ t, t < len j → w3.cell? ⟨g, t, none⟩ = some (.int .u8 (mk1 j))) ∧ (∀ t, t < 100 → w3.cell? ⟨g, len j + t, none⟩ = some (.int .u8 (mk2 j))) := by
            intro j hj
            obtain ⟨g, cap', e, hr, _⟩ := hgr.inner j hj
            rcases hgr.outer.2 with ⟨_, h0⟩ | ⟨GO, cg, cur, hv, r⟩
            · omega
            · have ho := hgr.outer
              rw [hv] at ho
              refine ⟨GO, cg, g, cap', hv, by rw [ho.cellAt j (by omega)]; exact e, fun t ht => ?_, fun t ht => ?_⟩
              · rw [hr.cell t (by rw [gro_length]; omega), gro_at len j 100 t ht]
              · rw [hr.cell (len j + t) (by rw [gro_length]; omega), gro_in len j 100 t ht]
          have HH2 : Hid _ := heads2
          have HLR : Hid _ := hlr
          clear hgr hlr hkr heads2
          go_wp2
          go_loopw [9, 10] (fun a _ wr => ∃ j : Nat, j ≤ k ∧ a = .int .i64 j ∧ ∃ q, wr = w3.drewN q) (fun a _ _ => k - (intOf a).toNat)
          case atStart => exact ⟨0, Nat.zero_le _, rfl, 0, rfl⟩
          case round =>
            obtain ⟨j, hj, rfl, q, rfl⟩ := hrel
            by_cases hlt : j < k
            · have c1 := HLR.out.heads j hlt
              have tL := hl j hlt
              have a1 : (0 : Int) ≤ (j : Int) := by omega
              have a2 : (j : Int) < (k : Int) := by omega
              obtain ⟨GO, cg, g, cap', rfl, hgc, hg1, hg2⟩ := HH2.out j hlt
              have HG : Hid _ := hg1
              have HG' : Hid _ := hg2
              have hmk : ∀ W, Calls Try.prog 81 #[.int .i64 j] W fun e w' => e = .returned (.int .u8 (mk1 j)) ∧ w' = W := fun W => (marked_any j (by omega) W).mono fun e w' h => ⟨h.1, h.2.symm⟩
              have hgn : ∀ W, Calls Try.prog 82 #[.int .i64 j] W fun e w' => e = .returned (.int .u8 (mk2 j)) ∧ w' = W := fun W => (grown_any j (by omega) W).mono fun e w' h => ⟨h.1, h.2.symm⟩
              clear hg1 hg2
              go_wp2
              go_loopw [10] (fun a wr => ∃ t : Nat, t ≤ len j + 100 ∧ a = .int .i64 t ∧ ∃ q, wr = w3.drewN q) (fun a _ => len j + 100 - (intOf a).toNat)
              case atStart => exact ⟨0, Nat.zero_le _, rfl, _, rfl⟩
              case round =>
                obtain ⟨t, ht, rfl, q2, hwr⟩ := hrel
                have HW : Hid (wr = w3.drewN q2) := hwr
                have c1' : wr.cell? ⟨O, j, none⟩ = some (.slice (V j) (len j) (cap j)) := by rw [hwr]; exact c1
                have hgc' : wr.cell? ⟨GO, j, none⟩ = some (.slice (some ⟨g, 0, none⟩) (len j + 100) cap') := by rw [hwr]; exact hgc
                by_cases hltt : t < len j
                · obtain ⟨g0, eg, _⟩ := HLR.out.at hlt (by have := HLR.out.capLe hlt; omega)
                  have ho := HLR.out.own j hlt
                  rw [eg] at ho c1'
                  have c2 : wr.cell? ⟨g0, t, none⟩ = some (.int .u8 (mk1 j)) := by rw [hwr]; exact (own_at ho t hltt).1.trans (by rw [ful_at len j t hltt])
                  have c3 : wr.cell? ⟨g, t, none⟩ = some (.int .u8 (mk1 j)) := by rw [hwr]; exact HG.out t hltt
                  have a3 : (0 : Int) ≤ (t : Int) := by omega
                  have a4 : (t : Int) < (len j : Int) := by omega
                  have a5 : (t : Int) < (len j : Int) + 100 := by omega
                  have d1 : decide (len j ≤ t) = false := by simp; omega
                  clear eg ho hwr c1 hgc
                  go_wp2
                  go_quiet (first | (go_at_call 81; exact Calls.quiet_of_same (hmk _)) | (go_at_call 82; exact Calls.quiet_of_same (hgn _)))
                  go_wp2
                  go_roundw
                  case rel => exact ⟨t + 1, by omega, by go_num, _, by rw [HW.out, World.drewN_drewN]⟩
                  case measure => simp [intOf]; omega
                · by_cases hlt3 : t < len j + 100
                  · obtain ⟨p, rfl⟩ : ∃ p, t = len j + p := ⟨t - len j, by omega⟩
                    have c3 : wr.cell? ⟨g, len j + p, none⟩ = some (.int .u8 (mk2 j)) := by rw [hwr]; exact HG'.out p (by omega)
                    have e1 : ((len j + p : Nat) : Int) = (len j : Int) + (p : Int) := by omega
                    rw [e1]
                    have a3 : (0 : Int) ≤ (len j : Int) + (p : Int) := by omega
                    have a5 : (len j : Int) + (p : Int) < (len j : Int) + 100 := by omega
                    have a6 : (len j : Int) ≤ (len j : Int) + (p : Int) := by omega
                    have d1 : decide ((len j : Int) + (p : Int) < (len j : Int)) = false := by simp; omega
                    clear e1 hltt hwr c1 hgc
                    go_wp2
                    go_quiet (first | (go_at_call 81; exact Calls.quiet_of_same (hmk _)) | (go_at_call 82; exact Calls.quiet_of_same (hgn _)))
                    go_wp2
                    go_roundw
                    case rel => exact ⟨len j + p + 1, by omega, by go_num, _, by rw [HW.out, World.drewN_drewN]⟩
                    case measure => simp [intOf]; omega
                  · have hlt4 : ¬ (t : Int) < (len j : Int) + 100 := by omega
                    clear hlt3 hltt hwr c1 hgc
                    go_wp2
                    go_roundw
                    case rel => exact ⟨j + 1, by omega, by go_num, _, HW.out⟩
                    case measure => simp [intOf]; omega
            · have HF : Hid (Kept (LotS k V) w (w3.drewN q)) := HKK.out.trans ⟨rfl, rfl, rfl, Nat.le_refl _, fun _ _ _ => rfl⟩
              go_wp2
              go_ret
              exact ⟨rfl, HF.out⟩
end Go.Proofs.Ytogplebajpdmoaa
