/- Layer network: NetworkGathers, the walk. -/
import Derived.Test.YthjjkfelpdkfpabNShL
import Derived.Test.YthjjkfelpdkfpabNRHop
import Derived.Test.YthjjkfelpdkfpabNWorks
namespace Go.Proofs.Ythjjkfelpdkfpab
open Go.RowKit
set_option linter.unusedVariables false
set_option linter.unusedSimpArgs false
/-- A row of bools of one's own, known whole. -/
def RowB (w : World) (g : Nat) (bs : List Bool) : Prop := w.heap[g]? = some (.cells (bs.map Value.bool).toArray 4 (0, 0))
theorem RowB.cell {w : World} {g : Nat} {bs : List Bool} (h : RowB w g bs) (j : Nat) (hj : j < bs.length) : w.cell? ⟨g, j, none⟩ = some (.bool (bs.getD j false)) := by
  rw [cell_of_row w g j _ 4 (0, 0) h]
  simp [hj]
theorem RowB.frozen {w : World} {g : Nat} {bs : List Bool} (h : RowB w g bs) (j : Nat) : w.frozen? ⟨g, j, none⟩ = false := frozen_of_row w g j _ 4 h
theorem RowB.set {w : World} {g : Nat} {bs : List Bool} (h : RowB w g bs) (j : Nat) (x : Bool) : RowB (w.setCell ⟨g, j, none⟩ (.bool x)) g (bs.set j x) := by
  unfold RowB
  rw [heap_setCell_same w g j _ 4 _ h, List.map_set]
  simp
theorem info_bool : (Try.prog.info? 4).map (fun i => (i.zero, i.size, i.bytes)) = some (some (.bool false), 1, 1) := by kernel_rfl
theorem made_bools (w w4 : World) (g n base : Nat) (h : w4.ownsRow base 4 1 (.slice (some ⟨g, 0, none⟩) n n) n (madeCells (Value.bool false).cells (n * 1)).toList) : RowB w4 g (List.replicate n false) := by
  rcases h.2 with ⟨h0, _⟩ | ⟨g2, cap, cur, e, hg, hh, h1, h2, h3, h4⟩
  · cases h0
  · simp only [Value.slice.injEq, Option.some.injEq, Addr.mk.injEq] at e
    obtain ⟨⟨rfl, _⟩, _, rfl⟩ := e
    unfold RowB
    rw [hh]
    have e1 : cur.toList = (madeCells (Value.bool false).cells (n * 1)).toList := by
      rw [← h4]; exact (List.take_of_length_le (by simp; omega)).symm
    have e2 : cur = (List.map Value.bool (List.replicate n false)).toArray := by
      rw [← Array.toArray_toList (xs := cur), e1]
      congr 1
      refine List.ext_getElem (by simp [madeCells]) fun i h1 h2 => ?_
      simp [madeCells, Value.cells, Nat.mod_one]
    rw [e2]
theorem thC_snoc (l : List Thg) (x : Thg) : l.flatMap thC ++ [.string x.1, .int .i64 x.2] = (l ++ [x]).flatMap thC := by simp [thC]

theorem thP_snoc (k : Nat) : thP (k + 1) id = thP k id ++ [((ByteArray.empty, (k : Int)) : Thg)] := by simp [thP, List.range_succ]
set_option maxRecDepth 100000 in
set_option maxHeartbeats 4000000 in
theorem gathersLaw (ao : Option Addr) (n c : Nat) (live : Nat → Bool) (w : World) (hs : SeenB w ao n live) (hn : n ≤ 1048576) :
    Calls Try.prog 3 #[.slice ao n c] w fun e w' => e = .returned (.bool true) ∧ Below w.heap.size w w' := by
  obtain ⟨i0, hi, hz0, hz1, hz2⟩ := info_parts info_th
  obtain ⟨b0, hb0, hb1, hb2, hb3⟩ := info_parts info_bool
  have HS : Hid (SeenB w ao n live) := hs
  clear hs
  have c00 : ∀ ob, (w.alloc ob).heap.size = w.heap.size + 1 := fun ob => by simp
  go_enter Try.func3, Try.ntmps3
  go_wp2_with (fail)
  clear c00
  have bL0 : Boxed (w.alloc (.cells #[.slice ao n c] 22)) w.heap.size 22 (.slice ao n c) := Boxed.new w _ _
  have hB00 : Below w.heap.size w (w.alloc (.cells #[.slice ao n c] 22)) := (Below.refl _ w).alloc (Nat.le_refl _) _
  have hsz0 : (w.alloc (.cells #[.slice ao n c] 22)).heap.size = w.heap.size + 1 := by simp
  obtain ⟨wb, hwb⟩ : ∃ wb, w.alloc (.cells #[.slice ao n c] 22) = wb := ⟨_, rfl⟩
  rw [hwb] at bL0 hB00 hsz0 ⊢
  have HB0 : Hid (wb.heap.size = w.heap.size + 1 ∧ Below w.heap.size w wb) := ⟨hsz0, hB00⟩
  clear hwb hsz0 hB00
  go_loopw [3, 4, 5] (fun o d v wr => ∃ k : Nat, v = .int .i64 (k : Int) ∧ k ≤ n ∧ d = .int .i64 ((rk live k : Nat) : Int) ∧ wr.ownsRow wb.heap.size 25 2 o k ((thP k id).flatMap thC) ∧ (k = 0 → o = .slice none 0 0) ∧ Below wb.heap.size wb wr) (fun _ _ v _ => n - (intOf v).toNat)
  case atStart => exact ⟨0, rfl, by omega, rfl, World.ownsRow_nil _ _ _ _, fun _ => rfl, Below.refl _ _⟩
  case round =>
    obtain ⟨k, rfl, hk, rfl, hO, hO0, hB1⟩ := hrel
    have bL1 : Boxed wr w.heap.size 22 (.slice ao n c) := (hB1.block w.heap.size (by have := HB0.out; omega)).trans bL0
    have cL := bL1.cell
    have hBw : Below w.heap.size w wr := HB0.out.2.trans ⟨hB1.os, hB1.tape, hB1.output, hB1.size, fun j hj => hB1.block j (by have := HB0.out; omega)⟩
    by_cases hlt : k < n
    · obtain ⟨b, o, rfl, hb, hc⟩ := (HS.out.later hBw) (by omega)
      have hrk : rk live k ≤ k := Nat.sub_le _ _
      have rs := rk_succ live k
      obtain ⟨R, hR⟩ : ∃ R, rk live k = R := ⟨_, rfl⟩
      rw [hR] at hrk rs ⊢
      have HO : Hid (wr.ownsRow wb.heap.size 25 2 u3 k ((thP k id).flatMap thC)) := hO
      have i1 : (0 : Int) ≤ (k : Int) := by omega
      have i2 : (k : Int) < (n : Int) := by omega
      cases hl : live k with
      | true =>
        have HR : Hid (rk live (k + 1) = R + 1) := by show rk live (k + 1) = R + 1; rw [rs, hl]; rfl
        have HC : Hid (∀ W, Below w.heap.size w W → W.cell? ⟨b, o + k, none⟩ = some (.bool true)) := fun W hW => by
          obtain ⟨b', o', e', hb', hc'⟩ := (HS.out.later hW) (by omega)
          cases e'
          rw [← hl]
          exact hc' k hlt
        clear hO hO0 rs hR hb hc hl
        go_wp2_with (at_builtin; refine wpList_append_own _ rfl _ _ 23 rfl wb.heap.size 25 i0 _ 2 24 Try.underlying23 hi hz0 hz1 hz2 rfl (by decide) _ _ _ rfl (HO.out.alloc _) ⟨wr.heap.size, 0, none⟩ 1 1 [.string ByteArray.empty, .int .i64 (k : Int)] rfl rfl (cell_two_new _ _ _ _) (by simp [Value.oneCell']) (by simp only [maxLen]; omega) (by omega) (by have := hB1.size; simp; omega) ?_; intro v1 w1 hO3 hg1 _; have hB3 : Below wb.heap.size wb w1 := hB1.trans (((Below.refl _ wr).alloc (by have := hB1.size; omega) _).trans (below_own (HO.out.alloc _) hg1 hO3 (by have := hB1.size; simp; omega))); have bL3 : Boxed w1 w.heap.size 22 (.slice (some ⟨b, o, none⟩) n c) := (hB3.block w.heap.size (by have := HB0.out; omega)).trans bL0; have cL3 := bL3.cell; have hB3w : Below w.heap.size w w1 := HB0.out.2.trans ⟨hB3.os, hB3.tape, hB3.output, hB3.size, fun j hj => hB3.block j (by have := HB0.out; omega)⟩; have cb := HC.out w1 hB3w)
        go_roundw
        case rel => exact ⟨k + 1, by go_num, by omega, by first | (rw [HR.out]; done) | (rw [HR.out]; go_num), by rw [thP_snoc, ← thC_snoc]; exact hO3, fun h => by omega, hB3⟩
        case measure => simp [intOf]; omega
      | false =>
        have HR : Hid (rk live (k + 1) = R) := by show rk live (k + 1) = R; rw [rs, hl]; rfl
        have HC : Hid (∀ W, Below w.heap.size w W → W.cell? ⟨b, o + k, none⟩ = some (.bool false)) := fun W hW => by
          obtain ⟨b', o', e', hb', hc'⟩ := (HS.out.later hW) (by omega)
          cases e'
          rw [← hl]
          exact hc' k hlt
        clear hO hO0 rs hR hb hc hl
        go_wp2_with (at_builtin; refine wpList_append_own _ rfl _ _ 23 rfl wb.heap.size 25 i0 _ 2 24 Try.underlying23 hi hz0 hz1 hz2 rfl (by decide) _ _ _ rfl (HO.out.alloc _) ⟨wr.heap.size, 0, none⟩ 1 1 [.string ByteArray.empty, .int .i64 (k : Int)] rfl rfl (cell_two_new _ _ _ _) (by simp [Value.oneCell']) (by simp only [maxLen]; omega) (by omega) (by have := hB1.size; simp; omega) ?_; intro v1 w1 hO3 hg1 _; have hB3 : Below wb.heap.size wb w1 := hB1.trans (((Below.refl _ wr).alloc (by have := hB1.size; omega) _).trans (below_own (HO.out.alloc _) hg1 hO3 (by have := hB1.size; simp; omega))); have bL3 : Boxed w1 w.heap.size 22 (.slice (some ⟨b, o, none⟩) n c) := (hB3.block w.heap.size (by have := HB0.out; omega)).trans bL0; have cL3 := bL3.cell; have hB3w : Below w.heap.size w w1 := HB0.out.2.trans ⟨hB3.os, hB3.tape, hB3.output, hB3.size, fun j hj => hB3.block j (by have := HB0.out; omega)⟩; have cb := HC.out w1 hB3w)
        go_roundw
        case rel => exact ⟨k + 1, by go_num, by omega, by first | (rw [HR.out]; done) | (rw [HR.out]; go_num), by rw [thP_snoc, ← thC_snoc]; exact hO3, fun h => by omega, hB3⟩
        case measure => simp [intOf]; omega
    · obtain rfl : k = n := by omega
      clear hlt hk
      obtain ⟨w2, hw2⟩ : ∃ w2, w2 = wr := ⟨_, rfl⟩
      rw [← hw2] at hO hB1 cL hBw bL1 ⊢
      clear hw2
      obtain ⟨R, hR⟩ : ∃ R, rk live k = R := ⟨_, rfl⟩
      have hRk : R ≤ k := by rw [← hR]; exact Nat.sub_le _ _
      rw [hR]
      by_cases hz : k = 0
      · subst hz
        have hu := hO0 rfl
        subst hu
        clear hO hO0
        go_wp2_with (first
          | (go_at_call 6; refine (shiftT_nil 7 _ _).mono ?_; rintro e w3 ⟨rfl, b3⟩)
          | (at_make; refine wpList_make_full _ rfl _ _ 22 rfl w.heap.size 4 b0 (.bool false) 1 Try.underlying22 hb0 hb1 hb2 .i64 .i64 _ _ 0 (by rfl) (by rfl) (by rfl) (by rfl) (by omega) (by unfold maxLen; omega) (by have := hBw.size; have := b3.size; omega) ?_; intro w4 hown4 hgrow4))
        go_loopw [8] (fun v wr => v = .int .i64 0 ∧ w4 = wr) (fun _ _ => 0)
        case atStart => exact ⟨rfl, rfl⟩
        case round =>
          obtain ⟨rfl, rfl⟩ := hrel
          go_wp2_with (go_at_call 8; refine (nworks_any _).mono ?_; rintro e w5 ⟨rfl, b5⟩)
          go_ret
          have hsz2 := hBw.size
          have hsz3 := b3.size
          have hsz4 := hgrow4.size
          refine ⟨rfl, (hBw.trans ⟨b3.os, b3.tape, b3.output, b3.size, fun j hj => b3.block j (by omega)⟩).trans ?_⟩
          exact ⟨b5.os.trans hgrow4.os, b5.tape.trans hgrow4.tape, b5.output.trans hgrow4.output, Nat.le_trans hsz4 b5.size, fun j hj => (b5.block j (by omega)).trans (hgrow4.block j (by omega) (fun e => by cases e))⟩
      · by_cases hbig : 65536 < k
        · have i6 : (65536 : Int) < (k : Int) := by omega
          obtain ⟨a3, c3, rfl⟩ : ∃ a3 c3, u3 = .slice a3 k c3 := by
            rcases hO.2 with ⟨rfl, _⟩ | ⟨g, cap, cur, rfl, _⟩
            · omega
            · exact ⟨_, _, rfl⟩
          clear hO hz hO0
          go_wp2_with (first
            | (go_at_call 6; refine (shiftT_big a3 k c3 hbig 7 _ _).mono ?_; rintro e w3 ⟨rfl, b3⟩)
            | (go_at_call 8; refine (nworks_any _).mono ?_; rintro e w4 ⟨rfl, b4⟩))
          go_ret
          refine ⟨rfl, hBw.trans ?_⟩
          have hsz2 := hBw.size
          have hsz3 := b3.size
          exact ⟨b4.os.trans b3.os, b4.tape.trans b3.tape, b4.output.trans b3.output, Nat.le_trans b3.size b4.size, fun j hj => (b4.block j (by omega)).trans (b3.block j (by omega))⟩
        · have i6 : ¬ (65536 : Int) < (k : Int) := by omega
          obtain ⟨g0, c0, rfl, hg0, hc0, hr0⟩ := own_rowT hO (by omega)
          have hkN : k ≤ 65536 := by omega
          have hsn : SeenT w2 (some ⟨g0, 0, none⟩) k (thP k id) := by have := hr0.seen; rwa [thP_length] at this
          have HSo := shiftT_some ⟨g0, 0, none⟩ k c0 (by omega) hkN 7 #[.pointer (some ⟨w.heap.size, 0, none⟩)] live w2 hsn (enters_of Try.func7 (by kernel_rfl) rfl) (fun p W hp hW => live1_any ao k c w.heap.size p live ByteArray.empty W ((hW.block w.heap.size bL1.lt).trans bL1) (HS.out.later (hBw.trans ⟨hW.os, hW.tape, hW.output, hW.size, fun j hj => hW.block j (by have := hBw.size; omega)⟩)) hp hn)
          rw [fold_all live k hkN] at HSo
          have hv := all_inv live k 17
          have HM : Hid ((∀ i, i < k → allP live k 17 id i < k) ∧ (∀ i j, i < k → j < k → allP live k 17 id i = allP live k 17 id j → i = j) ∧ (∀ i, i < k → live (allP live k 17 id i) = decide (i < R)) ∧ (∀ i, i + 1 < R → allP live k 17 id i < allP live k 17 id (i + 1))) := by
            rw [← hR]
            exact ⟨hv.in_, hv.inj, fun i hi => shift_live live k 17 (by omega) i hi, fun i hi => shift_order live k 17 (by omega) i hi⟩
          obtain ⟨Q, hQ⟩ : ∃ Q, allP live k 17 id = Q := ⟨_, rfl⟩
          rw [hQ] at HM HSo
          have HT : Hid (Calls Try.prog 6 #[.slice (some ⟨g0, 0, none⟩) k c0, .func (.func 7) #[] #[.pointer (some ⟨w.heap.size, 0, none⟩)]] w2 fun e w' => ∃ g cp, e = .returned (.slice (some ⟨g, 0, none⟩) k cp) ∧ w2.heap.size ≤ g ∧ RowT w' g cp (thP k Q) ∧ Below w2.heap.size w2 w') := HSo
          clear HSo hv hQ hO hO0 hz hsn hr0 hR
          go_wp2_with (first
            | (go_at_call 6; refine HT.out.mono ?_; rintro e w3 ⟨g, cp, rfl, hg, r3, b3⟩)
            | (at_make; refine wpList_make_full _ rfl _ _ 22 rfl w.heap.size 4 b0 (.bool false) 1 Try.underlying22 hb0 hb1 hb2 .i64 .i64 _ _ k (by rfl) (by rfl) (by rfl) (by rfl) (by rw [hb3]; omega) (by unfold maxLen; omega) (by have := hBw.size; have := b3.size; omega) ?_; intro w4 hown4 hgrow4))
          have rB := made_bools w w4 _ _ _ hown4
          have hg3 := r3.lt
          have r4 : RowT w4 g cp (thP k Q) := r3.block (hgrow4.block g hg3 (fun e => by cases e))
          have hB3 : Below w2.heap.size w2 w4 := b3.grown hgrow4 b3.size (fun j e => by cases e)
          have hB4 : Below w.heap.size w w4 := hBw.trans ⟨hB3.os, hB3.tape, hB3.output, hB3.size, fun j hj => hB3.block j (by have := hBw.size; omega)⟩
          have bL4 : Boxed w4 w.heap.size 22 (.slice ao k c) := (hB3.block w.heap.size bL1.lt).trans bL1
          obtain ⟨mB, hmB⟩ : ∃ mB, w3.heap.size = mB := ⟨_, rfl⟩
          have HG : Hid (g < mB ∧ w.heap.size < g ∧ w.heap.size < mB) := ⟨by omega, by have := bL1.lt; omega, by have := bL1.lt; have := b3.size; omega⟩
          rw [hmB] at rB ⊢
          clear hown4 hgrow4 r3 b3 hB3 hB1 HT hg3 hmB hg cL bL1 hBw
          go_loopw [8] (fun v wr => ∃ i : Nat, v = .int .i64 (i : Int) ∧ i ≤ k ∧ ∃ bs : List Bool, bs.length = k ∧ (∀ p, p < k → bs.getD p false = true → ∃ j, j < i ∧ Q j = p) ∧ RowB wr mB bs ∧ RowT wr g cp (thP k Q) ∧ Boxed wr w.heap.size 22 (.slice ao k c) ∧ Below w.heap.size w wr) (fun v _ => k - (intOf v).toNat)
          case atStart => exact ⟨0, rfl, by omega, _, List.length_replicate, fun p hp h => by simp [List.getD, hp] at h, rB, r4, bL4, hB4⟩
          case round =>
            obtain ⟨i, rfl, hik, bs, hbl, hbs, rB5, r5, bL5, hB5⟩ := hrel
            by_cases hlt : i < k
            · obtain ⟨p, hpe⟩ : ∃ p, Q i = p := ⟨_, rfl⟩
              have hp : p < k := by rw [← hpe]; exact HM.out.1 i hlt
              have hpl : live p = decide (i < R) := by rw [← hpe]; exact HM.out.2.2.1 i hlt
              obtain ⟨b, o, rfl, hb, hc⟩ := (HS.out.later hB5) (by omega)
              have ck := hc p hp
              have cL := bL5.cell
              have c2 := r5.place i (by rw [thP_length]; exact hlt)
              rw [thP_get _ _ i hlt] at c2
              dsimp only at c2
              rw [hpe] at c2
              have cm := rB5.cell p (by omega)
              have fm := rB5.frozen p
              have hbf : bs.getD p false = false := by
                cases h : bs.getD p false with
                | false => rfl
                | true =>
                  obtain ⟨j, hj, he⟩ := hbs p hp h
                  have := HM.out.2.1 j i (by omega) hlt (he.trans hpe.symm)
                  omega
              rw [hbf] at cm
              have HI : Hid (Q i = p ∧ bs.length = k ∧ (∀ p, p < k → bs.getD p false = true → ∃ j, j < i ∧ Q j = p)) := ⟨hpe, hbl, hbs⟩
              have HRw : Hid (RowB wr mB bs ∧ RowT wr g cp (thP k Q) ∧ Boxed wr w.heap.size 22 (.slice (some ⟨b, o, none⟩) k c) ∧ Below w.heap.size w wr) := ⟨rB5, r5, bL5, hB5⟩
              have i1 : (0 : Int) ≤ (i : Int) := by omega
              have i2 : (i : Int) < (k : Int) := by omega
              have i3 : (0 : Int) ≤ (p : Int) := by omega
              have i4 : (p : Int) < (k : Int) := by omega
              have i5 : ¬ (p : Int) < 0 := by omega
              have i6' : ¬ (k : Int) ≤ (p : Int) := by omega
              have HD : Hid (∀ q : Nat, ∃ i' : Nat, Value.int .i64 ((i : Int) + 1) = .int .i64 (i' : Int) ∧ i' ≤ k ∧ ∃ bs : List Bool, bs.length = k ∧ (∀ p, p < k → bs.getD p false = true → ∃ j, j < i' ∧ Q j = p) ∧ RowB (wr.setCell ⟨mB, p, none⟩ (.bool true)) mB bs ∧ RowT (wr.setCell ⟨mB, p, none⟩ (.bool true)) g cp (thP k Q) ∧ Boxed (wr.setCell ⟨mB, p, none⟩ (.bool true)) w.heap.size 22 (.slice (some ⟨b, o, none⟩) k c) ∧ Below w.heap.size w (wr.setCell ⟨mB, p, none⟩ (.bool true))) := by
                intro q
                refine ⟨i + 1, by simp, by omega, bs.set p true, by simp [HI.out.2.1], fun x hx h => ?_, HRw.out.1.set p true, HRw.out.2.1.block (Below.heap_setCell _ _ _ _ (by have := HG.out; simp; omega)), (Below.heap_setCell _ _ _ _ (by have := HG.out; simp; omega)).trans HRw.out.2.2.1, HRw.out.2.2.2.setCell (p := ⟨mB, p, none⟩) (by have := HG.out; simp; omega) _⟩
                by_cases e : p = x
                · subst e; exact ⟨i, by omega, HI.out.1⟩
                · have : (bs.set p true).getD x false = bs.getD x false := by simp [List.getD_eq_getElem?_getD, List.getElem?_set_ne e]
                  rw [this] at h
                  obtain ⟨j, hj, he⟩ := HI.out.2.2 x hx h
                  exact ⟨j, by omega, he⟩
              by_cases hiR : i < R
              · by_cases hi0 : i = 0
                · have hlv2 : live p = true := by rw [hpl, decide_eq_true hiR]
                  rw [hlv2] at ck
                  have i8 : (i : Int) < (R : Int) := by omega
                  have i7 : ¬ (0 : Int) < (i : Int) := by omega
                  clear hpl hlv2 hiR hbs hbf hbl hpe hc hb r5 rB5 hB5 hi0
                  go_wp2_with (fail)
                  go_roundw
                  case rel => exact HD.out 0
                  case measure => simp [intOf]; omega
                  
                · have hlv2 : live p = true := by rw [hpl, decide_eq_true hiR]
                  rw [hlv2] at ck
                  have i8 : (i : Int) < (R : Int) := by omega
                  have i7 : (0 : Int) < (i : Int) := by omega
                  obtain ⟨m, hm⟩ : ∃ m : Nat, (i : Int) - 1 = (m : Int) := ⟨i - 1, by omega⟩
                  have c3 := r5.place m (by rw [thP_length]; omega)
                  rw [thP_get _ _ m (by omega)] at c3
                  dsimp only at c3
                  obtain ⟨p2, hp2⟩ : ∃ p2, Q m = p2 := ⟨_, rfl⟩
                  have hpp : p2 < p := by rw [← hp2, ← hpe]; have h9 := HM.out.2.2.2 m (by omega); rwa [show m + 1 = i by omega] at h9
                  rw [hp2] at c3
                  have i9 : ¬ (p : Int) ≤ (p2 : Int) := by omega
                  have j1 : (0 : Int) ≤ (m : Int) := by omega
                  have j2 : (m : Int) < (k : Int) := by omega
                  clear hp2 hpp
                  clear hpl hlv2 hiR hbs hbf hbl hpe hc hb r5 rB5 hB5 hi0
                  go_wp2_with (fail)
                  go_roundw
                  case rel => exact HD.out 0
                  case measure => simp [intOf]; omega
                  
              · by_cases hi0 : i = 0
                · have hlv2 : live p = false := by rw [hpl, decide_eq_false hiR]
                  rw [hlv2] at ck
                  have i8 : ¬ (i : Int) < (R : Int) := by omega
                  have i7 : ¬ (0 : Int) < (i : Int) := by omega
                  clear hpl hlv2 hiR hbs hbf hbl hpe hc hb r5 rB5 hB5 hi0
                  go_wp2_with (fail)
                  go_roundw
                  case rel => exact HD.out 0
                  case measure => simp [intOf]; omega
                  
                · have hlv2 : live p = false := by rw [hpl, decide_eq_false hiR]
                  rw [hlv2] at ck
                  have i8 : ¬ (i : Int) < (R : Int) := by omega
                  have i7 : (0 : Int) < (i : Int) := by omega
                  obtain ⟨m, hm⟩ : ∃ m : Nat, (i : Int) - 1 = (m : Int) := ⟨i - 1, by omega⟩
                  clear hpl hlv2 hiR hbs hbf hbl hpe hc hb r5 rB5 hB5 hi0
                  go_wp2_with (fail)
                  go_roundw
                  case rel => exact HD.out 0
                  case measure => simp [intOf]; omega
                  
            · obtain rfl : i = k := by omega
              clear hlt hbs rB5 r5
              go_wp2_with (go_at_call 8; refine (nworks_any _).mono ?_; rintro e w5 ⟨rfl, b5⟩)
              go_ret
              exact ⟨rfl, hB5.trans ⟨b5.os, b5.tape, b5.output, b5.size, fun j hj => b5.block j (by have := hB5.size; omega)⟩⟩
end Go.Proofs.Ythjjkfelpdkfpab
