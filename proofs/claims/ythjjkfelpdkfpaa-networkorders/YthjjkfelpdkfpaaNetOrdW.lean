/- Layer network: NetworkOrders, the walk. -/
import Derived.Deep.QuietTactic
import Derived.BigQuiet
import Derived.Deep.Draws
import Derived.Test.YthjjkfelpdkfpaaNRHop
import Derived.Test.YthjjkfelpdkfpaaNOrdM
import Derived.Test.YthjjkfelpdkfpaaNFlatG
import Derived.Test.YthjjkfelpdkfpaaNWorks
import Derived.Test.YthjjkfelpdkfpaaNSize
namespace Go.Proofs.Ythjjkfelpdkfpaa
open Go.RowKit
set_option linter.unusedVariables false
set_option linter.unusedSimpArgs false

/-- A slice at ao of n strings, which are ks. -/
structure SeenK (w : World) (ao : Option Addr) (n : Nat) (ks : List ByteArray) : Prop where
  len : ks.length = n
  cells : 0 < n → ∃ b o, ao = some ⟨b, o, none⟩ ∧ b < w.heap.size ∧ ∀ i, i < n → w.cell? ⟨b, o + i, none⟩ = some (.string (ks.getD i default))
theorem SeenK.later {w w' : World} {ao : Option Addr} {n : Nat} {ks : List ByteArray} (h : SeenK w ao n ks) (hb : Below w.heap.size w w') : SeenK w' ao n ks :=
  ⟨h.len, fun h0 => by
    obtain ⟨b, o, e, hlt, hc⟩ := h.cells h0
    exact ⟨b, o, e, Nat.lt_of_lt_of_le hlt hb.size, fun i hi => (hb.cell (p := ⟨b, o + i, none⟩) hlt).trans (hc i hi)⟩⟩
/-- A row of bools of one's own, known whole. -/
def RowB (w : World) (g : Nat) (bs : List Bool) : Prop := w.heap[g]? = some (.cells (bs.map Value.bool).toArray 4 (0, 0))
theorem RowB.cell {w : World} {g : Nat} {bs : List Bool} (h : RowB w g bs) (j : Nat) (hj : j < bs.length) : w.cell? ⟨g, j, none⟩ = some (.bool (bs.getD j false)) := by
  rw [cell_of_row w g j _ 4 (0, 0) h]
  simp [hj]
theorem RowB.frozen {w : World} {g : Nat} {bs : List Bool} (h : RowB w g bs) (j : Nat) : w.frozen? ⟨g, j, none⟩ = false := frozen_of_row w g j _ 4 h
theorem RowB.set {w : World} {g : Nat} {bs : List Bool} (h : RowB w g bs) (j : Nat) (x : Bool) : RowB (w.setCell ⟨g, j, none⟩ (.bool x)) g (bs.set j x) := by
  unfold RowB
  rw [heap_setCell_same w g j _ 4 _ h, List.map_set]
  simp
theorem info_bool : (Try.prog.info? 4).map (fun i => (i.zero, i.size, i.bytes)) = some (some (.bool false), 1, 1) := by kernel_rfl
theorem made_bools (w w4 : World) (g n base : Nat) (h : w4.ownsRow base 4 1 (.slice (some ⟨g, 0, none⟩) n n) n (madeCells (Value.bool false).cells (n * 1)).toList) : RowB w4 g (List.replicate n false) := by
  rcases h.2 with ⟨h0, _⟩ | ⟨g2, cap, cur, e, hg, hh, h1, h2, h3, h4⟩
  · cases h0
  · simp only [Value.slice.injEq, Option.some.injEq, Addr.mk.injEq] at e
    obtain ⟨⟨rfl, _⟩, _, rfl⟩ := e
    unfold RowB
    rw [hh]
    have e1 : cur.toList = (madeCells (Value.bool false).cells (n * 1)).toList := by
      rw [← h4]; exact (List.take_of_length_le (by simp; omega)).symm
    have e2 : cur = (List.map Value.bool (List.replicate n false)).toArray := by
      rw [← Array.toArray_toList (xs := cur), e1]
      congr 1
      refine List.ext_getElem (by simp [madeCells]) fun i h1 h2 => ?_
      simp [madeCells, Value.cells, Nat.mod_one]
    rw [e2]
theorem thC_snoc (l : List Thg) (x : Thg) : l.flatMap thC ++ [.string x.1, .int .i64 x.2] = (l ++ [x]).flatMap thC := by simp [thC]

set_option maxRecDepth 100000 in
set_option maxHeartbeats 4000000 in
theorem ordersLaw (ao : Option Addr) (n c : Nat) (ks : List ByteArray) (w : World) (hs : SeenK w ao n ks) (hn : n ≤ 1048576) :
    Calls Try.prog 8 #[.slice ao n c] w fun e w' => e = .returned (.bool true) ∧ Below w.heap.size w w' := by
  obtain ⟨i0, hi, hz0, hz1, hz2⟩ := info_parts info_th
  have HS : Hid (SeenK w ao n ks) := hs
  clear hs
  go_enter Try.func8, Try.ntmps8
  go_wp2_with (fail)
  go_loopw [3, 4] (fun o v wr => ∃ k : Nat, v = .int .i64 (k : Int) ∧ k ≤ n ∧ wr.ownsRow w.heap.size 61 2 o k ((thL ks k).flatMap thC) ∧ Below w.heap.size w wr) (fun _ v _ => n - (intOf v).toNat)
  case atStart => exact ⟨0, rfl, by omega, World.ownsRow_nil _ _ _ _, Below.refl _ _⟩
  case round =>
    obtain ⟨k, rfl, hk, hO, hB1⟩ := hrel
    by_cases hlt : k < n
    · obtain ⟨b, o, rfl, hb, hc⟩ := (HS.out.later hB1).cells (by omega)
      have c1 := hc k hlt
      obtain ⟨K, hK⟩ : ∃ K, ks.getD k default = K := ⟨_, rfl⟩
      rw [hK] at c1
      have HK : Hid (thL ks (k + 1) = thL ks k ++ [(K, (k : Int))]) := by show thL ks (k + 1) = thL ks k ++ [(K, (k : Int))]; rw [thL_snoc, hK]
      have HO : Hid (wr.ownsRow w.heap.size 61 2 u3 k ((thL ks k).flatMap thC)) := hO
      have i1 : (0 : Int) ≤ (k : Int) := by omega
      have i2 : (k : Int) < (n : Int) := by omega
      clear hO hK hc hb
      go_wp2_with (at_builtin; refine wpList_append_own _ rfl _ _ 59 rfl w.heap.size 61 i0 _ 2 24 Try.underlying59 hi hz0 hz1 hz2 rfl (by decide) _ _ _ rfl (HO.out.alloc _) ⟨wr.heap.size, 0, none⟩ 1 1 [.string K, .int .i64 (k : Int)] rfl rfl (cell_two_new _ _ _ _) (by simp [Value.oneCell']) (by simp only [maxLen]; omega) (by omega) (by have := hB1.size; simp; omega) ?_; intro v1 w1 hO3 hg1 _)
      go_roundw
      case rel =>
        refine ⟨k + 1, by go_num, by omega, ?_, ?_⟩
        · rw [HK.out, ← thC_snoc]; exact hO3
        · exact hB1.trans (((Below.refl _ wr).alloc (by have := hB1.size; omega) _).trans (below_own (HO.out.alloc _) hg1 hO3 (by have := hB1.size; simp; omega)))
      case measure => simp [intOf]; omega
    · obtain rfl : k = n := by omega
      clear hlt hk
      obtain ⟨w2, hw2⟩ : ∃ w2, w2 = wr := ⟨_, rfl⟩
      rw [← hw2] at hO hB1 ⊢
      clear hw2
      obtain ⟨b0, hb0, hb1, hb2, hb3⟩ := info_parts info_bool
      by_cases hz : k = 0
      · subst hz
        obtain ⟨a3, c3, rfl⟩ : ∃ a3 c3, u3 = .slice a3 0 c3 := by
          rcases hO.2 with ⟨rfl, _⟩ | ⟨g, cap, cur, rfl, _⟩
          · exact ⟨_, _, rfl⟩
          · exact ⟨_, _, rfl⟩
        clear hO
        go_wp2_with (first
          | (go_at_call 30; refine (sortT_none a3 c3 31 #[] _).mono ?_; rintro e w3 ⟨rfl, b3⟩)
          | (at_make; refine wpList_make_full _ rfl _ _ 42 rfl w.heap.size 4 b0 (.bool false) 1 Try.underlying42 hb0 hb1 hb2 .i64 .i64 _ _ 0 (by rfl) (by rfl) (by rfl) (by rfl) (by omega) (by unfold maxLen; omega) (by have := hB1.size; have := b3.size; omega) ?_; intro w4 hown4 hgrow4))
        go_loopw [8] (fun v wr => v = .int .i64 0 ∧ w4 = wr) (fun _ _ => 0)
        case atStart => exact ⟨rfl, rfl⟩
        case round =>
          obtain ⟨rfl, rfl⟩ := hrel
          go_wp2_with (go_at_call 26; refine (nworks_any _).mono ?_; rintro e w5 ⟨rfl, b5⟩)
          go_ret
          have hsz2 := hB1.size
          have hsz3 := b3.size
          have hsz4 := hgrow4.size
          refine ⟨rfl, (hB1.trans ⟨b3.os, b3.tape, b3.output, b3.size, fun j hj => b3.block j (by omega)⟩).trans ?_⟩
          exact ⟨b5.os.trans hgrow4.os, b5.tape.trans hgrow4.tape, b5.output.trans hgrow4.output, Nat.le_trans hsz4 b5.size, fun j hj => (b5.block j (by omega)).trans (hgrow4.block j (by omega) (fun e => by cases e))⟩
      · by_cases hsz : IsSz (k : Int)
        · obtain ⟨L, hL, hkL0⟩ := hsz
          have hkL : 2 ^ L = k := by omega
          clear hkL0
          obtain ⟨g0, c0, rfl, hg0, hc0, hr0⟩ := own_rowT hO (by omega)
          have hkN : k ≤ 65536 := by rw [← hkL]; exact Nat.pow_le_pow_right (by decide) hL
          have hk0 : (0 : Int) < (k : Int) := by omega
          have HN := size_yes (k : Int) ⟨L, hL, by omega⟩
          have hsn : SeenT w2 (some ⟨g0, 0, none⟩) k (thL ks k) := by have := hr0.seen; rwa [thL_length] at this
          have HSo := sortT_yes L hL k hkL ⟨g0, 0, none⟩ c0 (thL ks k) 31 #[] thB w2 hsn (enters_of Try.func31 (by kernel_rfl) rfl) (fun a b W _ => before_any a b W)
          have HM : Hid ((∀ i, i < k → ∃ p, p < k ∧ (gfold thB (thL ks k) (gatesL L)).getD i default = (ks.getD p default, (p : Int))) ∧ (∀ i j, i < j → j < k → ((gfold thB (thL ks k) (gatesL L)).getD i default).2 ≠ ((gfold thB (thL ks k) (gatesL L)).getD j default).2) ∧ (∀ i j, i ≤ j → j < k → thB ((gfold thB (thL ks k) (gatesL L)).getD j default) ((gfold thB (thL ks k) (gatesL L)).getD i default) = false) ∧ (gfold thB (thL ks k) (gatesL L)).length = k) := by
            show _ ∧ _ ∧ _ ∧ _
            subst hkL
            exact ⟨ord_place ks L hL, ord_nodup ks L hL, ord_rise ks L hL, by rw [gfold_length, thL_length]⟩
          obtain ⟨out, hout⟩ : ∃ out, gfold thB (thL ks k) (gatesL L) = out := ⟨_, rfl⟩
          rw [hout] at HM HSo
          have HT : Hid (Calls Try.prog 30 #[.slice (some ⟨g0, 0, none⟩) k c0, .func (.func 31) #[] #[]] w2 fun e w' => ∃ g cp, e = .returned (.tuple #[.slice (some ⟨g, 0, none⟩) k cp, .int .i64 0]) ∧ w2.heap.size ≤ g ∧ cp ≤ maxLen ∧ RowT w' g cp out ∧ Below w2.heap.size w2 w') := HSo
          clear HSo
          clear hO hz hkL hL hout hsn hr0
          go_wp2_with (first
            | (go_at_call 30; refine HT.out.mono ?_; rintro e w3 ⟨g, cp, rfl, hg, hcp, r3, b3⟩)
            | (go_at_call 32; refine (HN _).mono ?_; rintro e w5 ⟨rfl, rfl⟩)
            | (at_make; refine wpList_make_full _ rfl _ _ 42 rfl w.heap.size 4 b0 (.bool false) 1 Try.underlying42 hb0 hb1 hb2 .i64 .i64 _ _ k (by rfl) (by rfl) (by rfl) (by rfl) (by rw [hb3]; omega) (by unfold maxLen; omega) (by have := hB1.size; have := b3.size; omega) ?_; intro w4 hown4 hgrow4))
          have rB := made_bools w w4 _ _ _ hown4
          have hg3 := r3.lt
          have r4 : RowT w4 g cp out := r3.block (hgrow4.block g hg3 (fun e => by cases e))
          have hB3 : Below w.heap.size w w3 := hB1.trans ⟨b3.os, b3.tape, b3.output, b3.size, fun j hj => b3.block j (by have := hB1.size; omega)⟩
          have hB4 : Below w.heap.size w w4 := hB3.grown hgrow4 hB3.size (fun j e => by cases e)
          obtain ⟨mB, hmB⟩ : ∃ mB, w3.heap.size = mB := ⟨_, rfl⟩
          have HG : Hid (g < mB ∧ w.heap.size ≤ g ∧ w.heap.size ≤ mB) := ⟨by omega, by have := hB1.size; omega, by have := hB3.size; omega⟩
          rw [hmB] at rB ⊢
          clear hown4 hgrow4 r3 b3 hB3 hB1 HT hg3 hmB hg
          go_loopw [8] (fun v wr => ∃ i : Nat, v = .int .i64 (i : Int) ∧ i ≤ k ∧ ∃ bs : List Bool, bs.length = k ∧ (∀ p, p < k → bs.getD p false = true → ∃ j, j < i ∧ (out.getD j default).2 = (p : Int)) ∧ RowB wr mB bs ∧ RowT wr g cp out ∧ Below w.heap.size w wr) (fun v _ => k - (intOf v).toNat)
          case atStart => exact ⟨0, rfl, by omega, _, List.length_replicate, fun p hp h => by simp [List.getD, hp] at h, rB, r4, hB4⟩
          case round =>
            obtain ⟨i, rfl, hik, bs, hbl, hbs, rB5, r5, hB5⟩ := hrel
            by_cases hlt : i < k
            · obtain ⟨p, hp, hpe⟩ := HM.out.1 i hlt
              obtain ⟨K, hK⟩ : ∃ K, ks.getD p default = K := ⟨_, rfl⟩
              rw [hK] at hpe
              obtain ⟨b, o, rfl, hb, hc⟩ := (HS.out.later hB5).cells (by omega)
              have ck := hc p hp
              rw [hK] at ck
              have c1 := r5.key i (by rw [HM.out.2.2.2]; exact hlt)
              have c2 := r5.place i (by rw [HM.out.2.2.2]; exact hlt)
              rw [hpe] at c1 c2
              have cm := rB5.cell p (by omega)
              have fm := rB5.frozen p
              have hbf : bs.getD p false = false := by
                cases h : bs.getD p false with
                | false => rfl
                | true =>
                  obtain ⟨j, hj, he⟩ := hbs p hp h
                  exact absurd (he.trans (by rw [hpe])) (HM.out.2.1 j i hj hlt)
              rw [hbf] at cm
              have HI : Hid ((out.getD i default) = (K, (p : Int)) ∧ bs.length = k ∧ (∀ p, p < k → bs.getD p false = true → ∃ j, j < i ∧ (out.getD j default).2 = (p : Int))) := ⟨hpe, hbl, hbs⟩
              have HR : Hid (RowB wr mB bs ∧ RowT wr g cp out ∧ Below w.heap.size w wr) := ⟨rB5, r5, hB5⟩
              have i1 : (0 : Int) ≤ (i : Int) := by omega
              have i2 : (i : Int) < (k : Int) := by omega
              have i3 : (0 : Int) ≤ (p : Int) := by omega
              have i4 : (p : Int) < (k : Int) := by omega
              have i5 : ¬ (p : Int) < 0 := by omega
              have i6 : ¬ (k : Int) ≤ (p : Int) := by omega
              have relDone : ∀ q, ∃ i' : Nat, Value.int .i64 ((i : Int) + 1) = .int .i64 (i' : Int) ∧ i' ≤ k ∧ ∃ bs : List Bool, bs.length = k ∧ (∀ p, p < k → bs.getD p false = true → ∃ j, j < i' ∧ (out.getD j default).2 = (p : Int)) ∧ RowB ((wr.drewN q).setCell ⟨mB, p, none⟩ (.bool true)) mB bs ∧ RowT ((wr.drewN q).setCell ⟨mB, p, none⟩ (.bool true)) g cp out ∧ Below w.heap.size w ((wr.drewN q).setCell ⟨mB, p, none⟩ (.bool true)) := by
                intro q
                refine ⟨i + 1, by simp, by omega, bs.set p true, by simp [HI.out.2.1], fun x hx h => ?_, ?_, ?_, ?_⟩
                · by_cases e : p = x
                  · subst e; exact ⟨i, by omega, by rw [HI.out.1]⟩
                  · have : (bs.set p true).getD x false = bs.getD x false := by simp [List.getD_eq_getElem?_getD, List.getElem?_set_ne e]
                    rw [this] at h
                    obtain ⟨j, hj, he⟩ := HI.out.2.2 x hx h
                    exact ⟨j, by omega, he⟩
                · exact RowB.set (w := wr.drewN q) HR.out.1 p true
                · exact RowT.block (w := wr.drewN q) HR.out.2.1 (Below.heap_setCell _ _ _ _ (by have := HG.out; simp; omega))
                · have h := HR.out.2.2
                  have h2 : Below w.heap.size w (wr.drewN q) := ⟨h.os, h.tape, h.output, h.size, h.block⟩
                  exact h2.setCell (p := ⟨mB, p, none⟩) (by have := HG.out; simp; omega) _
              have HD : Hid (∀ q, ∃ i' : Nat, Value.int .i64 ((i : Int) + 1) = .int .i64 (i' : Int) ∧ i' ≤ k ∧ ∃ bs : List Bool, bs.length = k ∧ (∀ p, p < k → bs.getD p false = true → ∃ j, j < i' ∧ (out.getD j default).2 = (p : Int)) ∧ RowB ((wr.drewN q).setCell ⟨mB, p, none⟩ (.bool true)) mB bs ∧ RowT ((wr.drewN q).setCell ⟨mB, p, none⟩ (.bool true)) g cp out ∧ Below w.heap.size w ((wr.drewN q).setCell ⟨mB, p, none⟩ (.bool true))) := relDone
              by_cases hi0 : i = 0
              · have i7 : ¬ (0 : Int) < (i : Int) := by omega
                clear relDone hbs hbf hbl hpe hc hK hb r5 rB5 hB5
                clear hi0
                go_wp2_with (fail)
                have cm1 : wr.drew.cell? ⟨mB, p, none⟩ = _ := cm
                have c11 : wr.drew.cell? ⟨g, i * 2, none⟩ = _ := c1
                have ck1 : wr.drew.cell? ⟨b, o + p, none⟩ = _ := ck
                refine region_flatG [Value.int IntKind.i64 (p : Int), Value.bool false, Value.bool false, Value.int IntKind.i64 (p : Int), Value.slice (some ⟨g0, 0, none⟩) k c0, Value.int IntKind.i64 (k : Int), Value.bool false, Value.bool false, Value.bool false, Value.slice (some ⟨mB, 0, none⟩) k k, Value.int IntKind.i64 (p : Int), Value.pointer (some ⟨mB, p, none⟩), Value.bool false, Value.bool false, Value.bool false, Value.slice (some ⟨g, 0, none⟩) k cp, Value.int IntKind.i64 (i : Int), Value.pointer (some ⟨g, i * 2, none⟩), Value.pointer (some ⟨g, i * 2, none⟩), Value.string K, Value.slice (some ⟨b, o, none⟩) k c, Value.int IntKind.i64 (p : Int), Value.pointer (some ⟨b, o + p, none⟩), Value.string K, Value.bool false, Value.bool false, Value.bool false, Value.int IntKind.i64 (i : Int), Value.bool false, Value.bool false, undef, undef, undef, undef, undef, undef, undef, undef, undef, undef, undef, undef, Value.bool false, Value.bool false]
                  { tmps := #[Value.slice (some { block := b, off := o }) k c, undef, u2, Value.slice (some { block := g0, off := 0 }) k c0, Value.int IntKind.i64 ↑k, Value.slice (some { block := g, off := 0 }) k cp, Value.int IntKind.i64 0, Value.slice (some { block := mB, off := 0 }) k k, Value.int IntKind.i64 ↑i, Value.int IntKind.i64 ↑p, Value.int IntKind.i64 ↑k, Value.slice (some { block := b, off := o }) k c, Value.int IntKind.i64 ↑k, Value.bool false, u14, u15, u16, u17, u18, u19, u20, u21, u22, u23, u24, Value.tuple #[Value.slice (some { block := g, off := 0 }) k cp, Value.int IntKind.i64 0], Value.slice (some { block := g0, off := 0 }) k c0, Value.tuple #[Value.slice (some { block := g, off := 0 }) k cp, Value.int IntKind.i64 0], Value.slice (some { block := g, off := 0 }) k cp, Value.int IntKind.i64 0, Value.slice (some { block := g0, off := 0 }) k c0, Value.int IntKind.i64 ↑k, Value.bool true, Value.bool true, Value.slice (some { block := g0, off := 0 }) k c0, Value.int IntKind.i64 ↑k, Value.bool true, Value.bool false, Value.bool false, undef, undef, undef, undef, undef, undef, undef, undef, undef, undef, Value.int IntKind.i64 0, Value.bool false, Value.bool false, Value.slice (some { block := g, off := 0 }) k cp, Value.int IntKind.i64 ↑k, Value.slice (some { block := g0, off := 0 }) k c0, Value.int IntKind.i64 ↑k, Value.bool false, Value.bool false, Value.slice (some { block := g0, off := 0 }) k c0, Value.int IntKind.i64 ↑k, Value.slice (some { block := mB, off := 0 }) k k, Value.int IntKind.i64 ↑i, Value.slice (some { block := g, off := 0 }) k cp, Value.int IntKind.i64 ↑k, Value.bool true, u65, u66, Value.slice (some { block := g, off := 0 }) k cp, Value.int IntKind.i64 ↑i, Value.pointer (some { block := g, off := i * 2 }), Value.pointer (some { block := g, off := i * 2 + 1 }), Value.int IntKind.i64 ↑p, Value.int IntKind.i64 (p : Int), Value.bool false, Value.bool false, Value.int IntKind.i64 (p : Int), Value.slice (some ⟨g0, 0, none⟩) k c0, Value.int IntKind.i64 (k : Int), Value.bool false, Value.bool false, Value.bool false, Value.slice (some ⟨mB, 0, none⟩) k k, Value.int IntKind.i64 (p : Int), Value.pointer (some ⟨mB, p, none⟩), Value.bool false, Value.bool false, Value.bool false, Value.slice (some ⟨g, 0, none⟩) k cp, Value.int IntKind.i64 (i : Int), Value.pointer (some ⟨g, i * 2, none⟩), Value.pointer (some ⟨g, i * 2, none⟩), Value.string K, Value.slice (some ⟨b, o, none⟩) k c, Value.int IntKind.i64 (p : Int), Value.pointer (some ⟨b, o + p, none⟩), Value.string K, Value.bool false, Value.bool false, Value.bool false, Value.int IntKind.i64 (i : Int), Value.bool false, Value.bool false, undef, undef, undef, undef, undef, undef, undef, undef, undef, undef, undef, undef, Value.bool false, Value.bool false, u116, u117, u118, undef], defers := [] } (by kernel_rfl) (by kernel_rfl) (by kernel_rfl) (by kernel_rfl) 
                  (ValsG.cons (by kernel_rfl) (by simp [go_sem]) 
                  (ValsG.cons (by kernel_rfl) (by simp [go_sem, i5]) 
                  (ValsG.cons (by kernel_rfl) (by simp [go_sem]) 
                  (ValsG.cons (by kernel_rfl) (by simp [go_sem]) 
                  (ValsG.cons (by kernel_rfl) (by simp [go_sem]) 
                  (ValsG.cons (by kernel_rfl) (by simp [go_sem]) 
                  (ValsG.cons (by kernel_rfl) (by simp [go_sem]; omega) 
                  (ValsG.cons (by kernel_rfl) (by simp [go_sem]) 
                  (ValsG.cons (by kernel_rfl) (by simp [go_sem]) 
                  (ValsG.cons (by kernel_rfl) (by simp [go_sem]) 
                  (ValsG.cons (by kernel_rfl) (by simp [go_sem]) 
                  (ValsG.cons (by kernel_rfl) (by simp [go_sem, hp]) 
                  (ValsG.cons (by kernel_rfl) (by simp [go_sem, cm1]) 
                  (ValsG.cons (by kernel_rfl) (by simp [go_sem]) 
                  (ValsG.cons (by kernel_rfl) (by simp [go_sem]) 
                  (ValsG.cons (by kernel_rfl) (by simp [go_sem]) 
                  (ValsG.cons (by kernel_rfl) (by simp [go_sem]) 
                  (ValsG.cons (by kernel_rfl) (by simp [go_sem, hlt]) 
                  (ValsG.cons (by kernel_rfl) (by simp [go_sem]) 
                  (ValsG.cons (by kernel_rfl) (by simp [go_sem, c11]) 
                  (ValsG.cons (by kernel_rfl) (by simp [go_sem]) 
                  (ValsG.cons (by kernel_rfl) (by simp [go_sem]) 
                  (ValsG.cons (by kernel_rfl) (by simp [go_sem, hp]) 
                  (ValsG.cons (by kernel_rfl) (by simp [go_sem, ck1]) 
                  (ValsG.cons (by kernel_rfl) (by simp [go_sem]) 
                  (ValsG.cons (by kernel_rfl) (by simp [go_sem]) 
                  (ValsG.cons (by kernel_rfl) (by simp [go_sem]) 
                  (ValsG.cons (by kernel_rfl) (by simp [go_sem]) 
                  (ValsG.cons (by kernel_rfl) (by simp [go_sem]; omega) 
                  (ValsG.cons (by kernel_rfl) (by simp [go_sem]) 
                  (ValsG.skip (by kernel_rfl) 
                  (ValsG.skip (by kernel_rfl) 
                  (ValsG.skip (by kernel_rfl) 
                  (ValsG.skip (by kernel_rfl) 
                  (ValsG.skip (by kernel_rfl) 
                  (ValsG.skip (by kernel_rfl) 
                  (ValsG.skip (by kernel_rfl) 
                  (ValsG.skip (by kernel_rfl) 
                  (ValsG.skip (by kernel_rfl) 
                  (ValsG.skip (by kernel_rfl) 
                  (ValsG.skip (by kernel_rfl) 
                  (ValsG.skip (by kernel_rfl) 
                  (ValsG.cons (by kernel_rfl) (by simp [go_sem]) 
                  (ValsG.cons (by kernel_rfl) (by simp [go_sem]) ValsG.nil)))))))))))))))))))))))))))))))))))))))))))) ?_
                have cmD : wr.drew.cell? ⟨mB, p, none⟩ = _ := cm
                have fmD : wr.drew.frozen? ⟨mB, p, none⟩ = _ := fm
                clear cm1 c11 ck1  cm fm c1 c2 ck
                go_wp2_with (fail)
                go_roundw
                case rel => exact HD.out 1
                case measure => simp [intOf]; omega
              · have i7 : (0 : Int) < (i : Int) := by omega
                obtain ⟨m, hm⟩ : ∃ m : Nat, (i : Int) - 1 = (m : Int) := ⟨i - 1, by omega⟩
                have c3 := r5.key m (by rw [HM.out.2.2.2]; omega)
                obtain ⟨K2, hK2⟩ : ∃ K2, (out.getD m default).1 = K2 := ⟨_, rfl⟩
                rw [hK2] at c3
                have hless : Op.bytesLess K.toList K2.toList = false := by
                  have := HM.out.2.2.1 m i (by omega) hlt
                  rw [hpe] at this
                  unfold thB at this
                  rw [hK2] at this
                  exact this
                have i8 : (0 : Int) ≤ (m : Int) := by omega
                have i9 : (m : Int) < (k : Int) := by omega
                clear relDone hbs hbf hbl hpe hc hK hb r5 rB5 hB5 hK2 hi0
                go_wp2_with (fail)
                have cm1 : wr.drew.cell? ⟨mB, p, none⟩ = _ := cm
                have c11 : wr.drew.cell? ⟨g, i * 2, none⟩ = _ := c1
                have ck1 : wr.drew.cell? ⟨b, o + p, none⟩ = _ := ck
                have c31 : wr.drew.cell? ⟨g, m * 2, none⟩ = _ := c3
                have hml : m < k := by omega
                have ew : IntKind.i64.wrap (m : Int) = (m : Int) := by simp [IntKind.wrap, IntKind.signed, IntKind.bits]; omega
                refine region_flatG [Value.int IntKind.i64 (p : Int), Value.bool false, Value.bool false, Value.int IntKind.i64 (p : Int), Value.slice (some ⟨g0, 0, none⟩) k c0, Value.int IntKind.i64 (k : Int), Value.bool false, Value.bool false, Value.bool false, Value.slice (some ⟨mB, 0, none⟩) k k, Value.int IntKind.i64 (p : Int), Value.pointer (some ⟨mB, p, none⟩), Value.bool false, Value.bool false, Value.bool false, Value.slice (some ⟨g, 0, none⟩) k cp, Value.int IntKind.i64 (i : Int), Value.pointer (some ⟨g, i * 2, none⟩), Value.pointer (some ⟨g, i * 2, none⟩), Value.string K, Value.slice (some ⟨b, o, none⟩) k c, Value.int IntKind.i64 (p : Int), Value.pointer (some ⟨b, o + p, none⟩), Value.string K, Value.bool false, Value.bool false, Value.bool false, Value.int IntKind.i64 (i : Int), Value.bool true, Value.bool true, Value.slice (some ⟨g, 0, none⟩) k cp, Value.int IntKind.i64 (i : Int), Value.pointer (some ⟨g, i * 2, none⟩), Value.pointer (some ⟨g, i * 2, none⟩), Value.string K, Value.slice (some ⟨g, 0, none⟩) k cp, Value.int IntKind.i64 (i : Int), Value.int IntKind.i64 (m : Int), Value.pointer (some ⟨g, m * 2, none⟩), Value.pointer (some ⟨g, m * 2, none⟩), Value.string K2, Value.bool false, Value.bool false, Value.bool false]
                  { tmps := #[Value.slice (some { block := b, off := o }) k c, undef, u2, Value.slice (some { block := g0, off := 0 }) k c0, Value.int IntKind.i64 ↑k, Value.slice (some { block := g, off := 0 }) k cp, Value.int IntKind.i64 0, Value.slice (some { block := mB, off := 0 }) k k, Value.int IntKind.i64 ↑i, Value.int IntKind.i64 ↑p, Value.int IntKind.i64 ↑k, Value.slice (some { block := b, off := o }) k c, Value.int IntKind.i64 ↑k, Value.bool false, u14, u15, u16, u17, u18, u19, u20, u21, u22, u23, u24, Value.tuple #[Value.slice (some { block := g, off := 0 }) k cp, Value.int IntKind.i64 0], Value.slice (some { block := g0, off := 0 }) k c0, Value.tuple #[Value.slice (some { block := g, off := 0 }) k cp, Value.int IntKind.i64 0], Value.slice (some { block := g, off := 0 }) k cp, Value.int IntKind.i64 0, Value.slice (some { block := g0, off := 0 }) k c0, Value.int IntKind.i64 ↑k, Value.bool true, Value.bool true, Value.slice (some { block := g0, off := 0 }) k c0, Value.int IntKind.i64 ↑k, Value.bool true, Value.bool false, Value.bool false, undef, undef, undef, undef, undef, undef, undef, undef, undef, undef, Value.int IntKind.i64 0, Value.bool false, Value.bool false, Value.slice (some { block := g, off := 0 }) k cp, Value.int IntKind.i64 ↑k, Value.slice (some { block := g0, off := 0 }) k c0, Value.int IntKind.i64 ↑k, Value.bool false, Value.bool false, Value.slice (some { block := g0, off := 0 }) k c0, Value.int IntKind.i64 ↑k, Value.slice (some { block := mB, off := 0 }) k k, Value.int IntKind.i64 ↑i, Value.slice (some { block := g, off := 0 }) k cp, Value.int IntKind.i64 ↑k, Value.bool true, u65, u66, Value.slice (some { block := g, off := 0 }) k cp, Value.int IntKind.i64 ↑i, Value.pointer (some { block := g, off := i * 2 }), Value.pointer (some { block := g, off := i * 2 + 1 }), Value.int IntKind.i64 ↑p, Value.int IntKind.i64 (p : Int), Value.bool false, Value.bool false, Value.int IntKind.i64 (p : Int), Value.slice (some ⟨g0, 0, none⟩) k c0, Value.int IntKind.i64 (k : Int), Value.bool false, Value.bool false, Value.bool false, Value.slice (some ⟨mB, 0, none⟩) k k, Value.int IntKind.i64 (p : Int), Value.pointer (some ⟨mB, p, none⟩), Value.bool false, Value.bool false, Value.bool false, Value.slice (some ⟨g, 0, none⟩) k cp, Value.int IntKind.i64 (i : Int), Value.pointer (some ⟨g, i * 2, none⟩), Value.pointer (some ⟨g, i * 2, none⟩), Value.string K, Value.slice (some ⟨b, o, none⟩) k c, Value.int IntKind.i64 (p : Int), Value.pointer (some ⟨b, o + p, none⟩), Value.string K, Value.bool false, Value.bool false, Value.bool false, Value.int IntKind.i64 (i : Int), Value.bool true, Value.bool true, Value.slice (some ⟨g, 0, none⟩) k cp, Value.int IntKind.i64 (i : Int), Value.pointer (some ⟨g, i * 2, none⟩), Value.pointer (some ⟨g, i * 2, none⟩), Value.string K, Value.slice (some ⟨g, 0, none⟩) k cp, Value.int IntKind.i64 (i : Int), Value.int IntKind.i64 (m : Int), Value.pointer (some ⟨g, m * 2, none⟩), Value.pointer (some ⟨g, m * 2, none⟩), Value.string K2, Value.bool false, Value.bool false, Value.bool false, u116, u117, u118, undef], defers := [] } (by kernel_rfl) (by kernel_rfl) (by kernel_rfl) (by kernel_rfl) 
                  (ValsG.cons (by kernel_rfl) (by simp [go_sem]) 
                  (ValsG.cons (by kernel_rfl) (by simp [go_sem, i5]) 
                  (ValsG.cons (by kernel_rfl) (by simp [go_sem]) 
                  (ValsG.cons (by kernel_rfl) (by simp [go_sem]) 
                  (ValsG.cons (by kernel_rfl) (by simp [go_sem]) 
                  (ValsG.cons (by kernel_rfl) (by simp [go_sem]) 
                  (ValsG.cons (by kernel_rfl) (by simp [go_sem]; omega) 
                  (ValsG.cons (by kernel_rfl) (by simp [go_sem]) 
                  (ValsG.cons (by kernel_rfl) (by simp [go_sem]) 
                  (ValsG.cons (by kernel_rfl) (by simp [go_sem]) 
                  (ValsG.cons (by kernel_rfl) (by simp [go_sem]) 
                  (ValsG.cons (by kernel_rfl) (by simp [go_sem, hp]) 
                  (ValsG.cons (by kernel_rfl) (by simp [go_sem, cm1]) 
                  (ValsG.cons (by kernel_rfl) (by simp [go_sem]) 
                  (ValsG.cons (by kernel_rfl) (by simp [go_sem]) 
                  (ValsG.cons (by kernel_rfl) (by simp [go_sem]) 
                  (ValsG.cons (by kernel_rfl) (by simp [go_sem]) 
                  (ValsG.cons (by kernel_rfl) (by simp [go_sem, hlt]) 
                  (ValsG.cons (by kernel_rfl) (by simp [go_sem]) 
                  (ValsG.cons (by kernel_rfl) (by simp [go_sem, c11]) 
                  (ValsG.cons (by kernel_rfl) (by simp [go_sem]) 
                  (ValsG.cons (by kernel_rfl) (by simp [go_sem]) 
                  (ValsG.cons (by kernel_rfl) (by simp [go_sem, hp]) 
                  (ValsG.cons (by kernel_rfl) (by simp [go_sem, ck1]) 
                  (ValsG.cons (by kernel_rfl) (by simp [go_sem]) 
                  (ValsG.cons (by kernel_rfl) (by simp [go_sem]) 
                  (ValsG.cons (by kernel_rfl) (by simp [go_sem]) 
                  (ValsG.cons (by kernel_rfl) (by simp [go_sem]) 
                  (ValsG.cons (by kernel_rfl) (by simp [go_sem]; omega) 
                  (ValsG.cons (by kernel_rfl) (by simp [go_sem]) 
                  (ValsG.cons (by kernel_rfl) (by simp [go_sem]) 
                  (ValsG.cons (by kernel_rfl) (by simp [go_sem]) 
                  (ValsG.cons (by kernel_rfl) (by simp [go_sem, hlt]) 
                  (ValsG.cons (by kernel_rfl) (by simp [go_sem]) 
                  (ValsG.cons (by kernel_rfl) (by simp [go_sem, c11]) 
                  (ValsG.cons (by kernel_rfl) (by simp [go_sem]) 
                  (ValsG.cons (by kernel_rfl) (by simp [go_sem]) 
                  (ValsG.cons (by kernel_rfl) (by simp [go_sem, hm, ew]) 
                  (ValsG.cons (by kernel_rfl) (by simp [go_sem, hml]) 
                  (ValsG.cons (by kernel_rfl) (by simp [go_sem]) 
                  (ValsG.cons (by kernel_rfl) (by simp [go_sem, c31]) 
                  (ValsG.cons (by kernel_rfl) (by simp [go_sem, hless]) 
                  (ValsG.cons (by kernel_rfl) (by simp [go_sem]) 
                  (ValsG.cons (by kernel_rfl) (by simp [go_sem]) ValsG.nil)))))))))))))))))))))))))))))))))))))))))))) ?_
                have cmD : wr.drew.cell? ⟨mB, p, none⟩ = _ := cm
                have fmD : wr.drew.frozen? ⟨mB, p, none⟩ = _ := fm
                clear cm1 c11 ck1 c31 ew hm hless cm fm c1 c2 ck
                go_wp2_with (fail)
                go_roundw
                case rel => exact HD.out 1
                case measure => simp [intOf]; omega
            · obtain rfl : i = k := by omega
              clear hlt hbs rB5 r5 HN
              go_wp2_with (go_at_call 26; refine (nworks_any _).mono ?_; rintro e w5 ⟨rfl, b5⟩)
              go_ret
              exact ⟨rfl, hB5.trans ⟨b5.os, b5.tape, b5.output, b5.size, fun j hj => b5.block j (by have := hB5.size; omega)⟩⟩
        · have hk0 : (0 : Int) < (k : Int) := by omega
          have HN := size_no (k : Int) hsz
          obtain ⟨a3, c3, rfl⟩ : ∃ a3 c3, u3 = .slice a3 k c3 := by
            rcases hO.2 with ⟨rfl, _⟩ | ⟨g, cap, cur, rfl, _⟩
            · omega
            · exact ⟨_, _, rfl⟩
          have HZ : Hid (¬ IsSz (k : Int) ∧ 0 < k) := ⟨hsz, by omega⟩
          clear hO hsz hz
          go_wp2_with (first
            | (go_at_call 30; refine (sortT_bad a3 k c3 31 #[] _ HZ.out.2 HZ.out.1).mono ?_; rintro e w3 ⟨rfl, b3⟩)
            | (go_at_call 32; refine (HN _).mono ?_; rintro e w5 ⟨rfl, rfl⟩)
            | (go_at_call 26; refine (nworks_any _).mono ?_; rintro e w4 ⟨rfl, b4⟩))
          go_ret
          refine ⟨rfl, hB1.trans ?_⟩
          have hsz2 := hB1.size
          have hsz3 := b3.size
          exact ⟨b4.os.trans b3.os, b4.tape.trans b3.tape, b4.output.trans b3.output, Nat.le_trans b3.size b4.size, fun j hj => (b4.block j (by omega)).trans (b3.block j (by omega))⟩
end Go.Proofs.Ythjjkfelpdkfpaa
