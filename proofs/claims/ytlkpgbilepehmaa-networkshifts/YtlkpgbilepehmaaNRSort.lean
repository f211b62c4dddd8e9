/- Layer network: the document's Sort of numbers; Before; CopyInts. -/
import Derived.BigRegion
import Derived.Deep.RegionHeld3
import Derived.Test.YtlkpgbilepehmaaRGat
import Derived.Test.YtlkpgbilepehmaaNSort
import Derived.Test.YtlkpgbilepehmaaNetGatW
namespace Go.Proofs.Ytlkpgbilepehmaa
open Go.RowKit
set_option linter.unusedVariables false
set_option linter.unusedSimpArgs false

set_option maxHeartbeats 1000000 in
theorem copyInts_any (ao : Option Addr) (n c : Nat) (zs : List Int) (w : World) (hs : SeenZ w ao n zs) (hn : n ≤ 17592186044416) :
    Calls Try.prog 19 #[.slice ao n c] w fun e w' => ∃ v, e = .returned v ∧ w'.ownsRow w.heap.size 3 1 v n (zs.map (Value.int .i64)) ∧ Below w.heap.size w w' := by
  obtain ⟨i0, hi, hz0, hz1, hz2⟩ := info_parts info_int
  have HS : Hid (SeenZ w ao n zs) := hs
  clear hs
  go_enter Try.func19, Try.ntmps19
  go_wp2_with (fail)
  go_loopw [3, 4] (fun o v wr => ∃ k : Nat, v = .int .i64 (k : Int) ∧ k ≤ n ∧ wr.ownsRow w.heap.size 3 1 o k ((zs.take k).map (Value.int .i64)) ∧ Below w.heap.size w wr) (fun _ v _ => n - (intOf v).toNat)
  case atStart => exact ⟨0, rfl, by omega, World.ownsRow_nil _ _ _ _, Below.refl _ _⟩
  case round =>
    obtain ⟨k, rfl, hk, hO, hB1⟩ := hrel
    by_cases hlt : k < n
    · obtain ⟨b, o, rfl, hb, hc⟩ := (HS.out.later hB1 (Nat.le_refl _)).cells (by omega)
      have c1 := hc k hlt
      obtain ⟨z, hz⟩ : ∃ z, zs.getD k 0 = z := ⟨_, rfl⟩
      rw [hz] at c1
      have HK : Hid ((zs.take (k + 1)).map (Value.int .i64) = (zs.take k).map (Value.int .i64) ++ [.int .i64 z]) := by
        show (zs.take (k + 1)).map (Value.int .i64) = (zs.take k).map (Value.int .i64) ++ [.int .i64 z]
        have hl : k < zs.length := by rw [HS.out.len]; exact hlt
        rw [List.take_add_one, List.getElem?_eq_getElem hl, List.map_append]
        congr 1
        simp [← hz, List.getD, hl]
      have HO : Hid (wr.ownsRow w.heap.size 3 1 u3 k ((zs.take k).map (Value.int .i64))) := hO
      have i1 : (0 : Int) ≤ (k : Int) := by omega
      have i2 : (k : Int) < (n : Int) := by omega
      clear hO hz hc hb
      go_wp2_with (at_builtin; refine wpList_append_own _ rfl _ _ 44 rfl w.heap.size 3 i0 _ 1 8 Try.underlying44 hi hz0 hz1 hz2 rfl (by decide) _ _ _ rfl (HO.out.alloc _) ⟨wr.heap.size, 0, none⟩ 1 1 [.int .i64 z] rfl rfl (cell_one_newN _ _ _) (by simp [Value.oneCell']) (by simp only [maxLen]; omega) (by omega) (by have := hB1.size; simp; omega) ?_; intro v1 w1 hO3 hg1 _)
      go_roundw
      case rel =>
        refine ⟨k + 1, by go_num, by omega, ?_, ?_⟩
        · rw [HK.out]; exact hO3
        · exact hB1.trans (((Below.refl _ wr).alloc (by have := hB1.size; omega) _).trans (below_own (HO.out.alloc _) hg1 hO3 (by have := hB1.size; simp; omega)))
      case measure => simp [intOf]; omega
    · obtain rfl : k = n := by omega
      have hfull : zs.take k = zs := List.take_of_length_le (by rw [HS.out.len]; exact Nat.le_refl _)
      rw [hfull] at hO
      have HO : Hid (wr.ownsRow w.heap.size 3 1 u3 k (zs.map (Value.int .i64))) := hO
      clear hO hfull hlt hk
      go_wp2_with (fail)
      go_ret
      exact ⟨_, rfl, HO.out, hB1⟩
theorem tmod_lt (a m : Int) (hm : 2 ≤ m) : (a.tmod m < 0 → a.tmod m + m = a % m) ∧ (¬ a.tmod m < 0 → a.tmod m = a % m) ∧ -m < a.tmod m ∧ a.tmod m < m := by
  have h1 := Int.tmod_eq_emod (a := a) (b := m)
  have h2 := Int.emod_nonneg a (by omega : m ≠ 0)
  have h3 := Int.emod_lt_of_pos a (by omega : 0 < m)
  have h4 : (m.natAbs : Int) = m := by omega
  split at h1
  · exact ⟨by omega, by omega, by omega, by omega⟩
  · refine ⟨by omega, fun h => ?_, by omega, by omega⟩
    omega
set_option maxHeartbeats 1000000 in
theorem left_any (a m : Int) (hm : 2 ≤ m) (hm2 : m ≤ 9223372036854775807) (w : World) : Calls Try.prog 41 #[.int .i64 a, .int .i64 m] w fun e w' => e = .returned (.int .i64 (a % m)) ∧ w = w' := by
  obtain ⟨h1, h2, h3, h4⟩ := tmod_lt a m hm
  obtain ⟨t, ht⟩ : ∃ t, a.tmod m = t := ⟨_, rfl⟩
  rw [ht] at h1 h2 h3 h4
  have hw : wrap64 t = t := by simp [wrap64]; omega
  have mz : (m == 0) = false := by simp; omega
  have mz2 : ¬ m = 0 := by omega
  by_cases hn : t < 0
  · have e := h1 hn
    have HE : Hid (t + m = a % m) := e
    have hw2 : wrap64 (t + m) = t + m := by simp [wrap64]; omega
    clear h1 h2 e
    go_enter Try.func41, Try.ntmps41
    go_wp2
    go_ret
    refine ⟨?_, rfl⟩
    show Ending.returned (Value.int .i64 (t + m)) = _
    rw [HE.out]
  · have e := h2 hn
    have HE : Hid (t = a % m) := e
    clear h1 h2 e
    go_enter Try.func41, Try.ntmps41
    go_wp2
    go_ret
    refine ⟨?_, rfl⟩
    show Ending.returned (Value.int .i64 t) = _
    rw [HE.out]
/-- Which numbers stand before which, by what they leave modulo m. -/
def ltM (m a b : Int) : Bool := decide (2 ≤ m) && decide (a % m < b % m)
set_option maxHeartbeats 1000000 in
theorem rbefore_any (a b m : Int) (hm2 : m ≤ 9223372036854775807) (w : World) : Calls Try.prog 21 #[.int .i64 a, .int .i64 b, .int .i64 m] w fun e w' => e = .returned (.bool (ltM m a b)) ∧ w = w' := by
  by_cases hm : 2 ≤ m
  · have h1 : ¬ m < 2 := by omega
    have e : ltM m a b = decide (a % m < b % m) := by unfold ltM; simp [hm]
    rw [e]
    have HA := left_any a m hm hm2
    have HB := left_any b m hm hm2
    obtain ⟨x, hx⟩ : ∃ x, a % m = x := ⟨_, rfl⟩
    obtain ⟨y, hy⟩ : ∃ y, b % m = y := ⟨_, rfl⟩
    rw [hx] at HA ⊢
    rw [hy] at HB ⊢
    have hxy : a = b → x = y := fun h => by rw [← hx, ← hy, h]
    clear hx hy e
    by_cases hab : a = b
    · have he := hxy hab
      subst hab
      subst he
      clear hxy
      go_enter Try.func21, Try.ntmps21
      go_wp2_with (go_at_call 41; first | (refine (HA _).mono ?_; rintro e w1 ⟨rfl, rfl⟩) | (refine (HB _).mono ?_; rintro e w1 ⟨rfl, rfl⟩))
      go_ret
      refine ⟨?_, rfl⟩
      show Ending.returned (Value.bool false) = _
      simp
    · clear hxy
      go_enter Try.func21, Try.ntmps21
      go_wp2_with (go_at_call 41; first | (with_reducible show Calls _ _ #[.int .i64 a, _] _ _; refine (HA _).mono ?_; rintro e w1 ⟨rfl, rfl⟩) | (with_reducible show Calls _ _ #[.int .i64 b, _] _ _; refine (HB _).mono ?_; rintro e w1 ⟨rfl, rfl⟩))
      go_ret
      exact ⟨rfl, rfl⟩
  · have h1 : m < 2 := by omega
    have e : ltM m a b = false := by unfold ltM; simp [hm]
    rw [e]
    go_enter Try.func21, Try.ntmps21
    go_wp2_with (fail)
    go_ret
    exact ⟨rfl, rfl⟩
theorem sorts1_any (a b m : Int) (Bm : Nat) (hm2 : m ≤ 9223372036854775807) (w : World) (hB : Boxed w Bm 3 (.int .i64 m)) : Calls Try.prog 20 #[.int .i64 a, .int .i64 b, .pointer (some ⟨Bm, 0, none⟩)] w fun e w' => e = .returned (.bool (ltM m a b)) ∧ w = w' := by
  have c0 := hB.cell
  go_enter Try.func20, Try.ntmps20
  go_wp2_with (go_at_call 21; refine (rbefore_any a b m hm2 _).mono ?_; rintro e w1 ⟨rfl, rfl⟩)
  go_ret
  exact ⟨rfl, rfl⟩
set_option maxHeartbeats 1000000 in
theorem rsort_bad (ao : Option Addr) (n c : Nat) (m : Int) (hn0 : 0 < n) (hsz : ¬ IsSz (n : Int)) (w : World) :
    Calls Try.prog 22 #[.slice ao n c, .int .i64 m] w fun e w' => e = .returned (.tuple #[.slice none 0 0, .int .i64 170]) ∧ w = w' := by
  have i1 : (0 : Int) < (n : Int) := by omega
  go_enter Try.func22, Try.ntmps22
  go_wp2_with (go_at_call 39; refine (rsize_no _ hsz _).mono ?_; rintro e w1 ⟨rfl, rfl⟩)
  refine bodyPost_ret (v := .tuple #[.slice none 0 0, .int .i64 170]) (by kernel_rfl) rfl ?_
  exact ⟨rfl, rfl⟩
theorem gates_own2 {w : World} {B : Nat} {v : Value} {l : List (Int × Int)} (h : w.ownsRow B 29 2 v l.length (hopC l)) : ∃ so c, v = .slice so l.length c ∧ GatesAt w so l ∧ ∀ g2, so = some ⟨g2, 0, none⟩ → B ≤ g2 := by
  obtain ⟨so, c, e, h1, _⟩ := gates_own h
  refine ⟨so, c, e, h1, fun g2 h2 => ?_⟩
  rcases h.2 with ⟨h3, _⟩ | ⟨g, cap, cur, h3, hB, _⟩
  · rw [e, h2] at h3; cases h3
  · rw [e, h2] at h3; simp at h3; omega
theorem GatesAt.set {w : World} {so : Option Addr} {l : List (Int × Int)} (h : GatesAt w so l) (b o : Nat) (u : Value) (hb : ∀ g2, so = some ⟨g2, 0, none⟩ → g2 ≠ b) : GatesAt (w.setCell ⟨b, o, none⟩ u) so l :=
  ⟨fun i x hi => by
    obtain ⟨g, e, hg, h1, h2⟩ := h.at_ i x hi
    have hne := hb g e
    have hh : (w.setCell ⟨b, o, none⟩ u).heap[g]? = w.heap[g]? := Below.heap_setCell _ _ _ _ hne
    exact ⟨g, e, by simp [World.setCell]; exact hg, (World.cell?_of_block (a := ⟨g, i * 2, none⟩) hh).trans h1, (World.cell?_of_block (a := ⟨g, i * 2 + 1, none⟩) hh).trans h2⟩⟩
theorem GatesAt.drew {w : World} {so : Option Addr} {l : List (Int × Int)} (h : GatesAt w so l) : GatesAt w.drew so l := ⟨fun i x hi => h.at_ i x hi⟩
theorem RowI.drew {w : World} {g c : Nat} {zs : List Int} (h : RowI w g c zs) : RowI w.drew g c zs := h
theorem trade_comm (ys : List Int) (a b : Nat) (A C : Int) (hA : ys.getD a 0 = A) (hC : ys.getD b 0 = C) (hne : a ≠ b) : (ys.set b A).set a C = trade ys a b := by
  rw [trade, hA, hC, List.set_comm _ _ (Ne.symm hne)]
set_option maxRecDepth 100000 in
set_option maxHeartbeats 4000000 in
theorem rsort_yes (L : Nat) (hL : L ≤ 16) (N : Nat) (hN : 2 ^ L = N) (ao : Option Addr) (c : Nat) (zs : List Int) (m : Int) (hm2 : m ≤ 9223372036854775807) (w : World) (hs : SeenZ w ao N zs) :
    Calls Try.prog 22 #[.slice ao N c, .int .i64 m] w fun e w' => ∃ g cp, e = .returned (.tuple #[.slice (some ⟨g, 0, none⟩) N cp, .int .i64 0]) ∧ w.heap.size ≤ g ∧ cp ≤ maxLen ∧ RowI w' g cp (gfold (ltM m) zs (gatesL L)) ∧ Below w.heap.size w w' := by
  have hN1 : 1 ≤ N := by rw [← hN]; exact Nat.pow_pos (by decide)
  have hN2 : N ≤ 65536 := by rw [← hN]; exact Nat.pow_le_pow_right (by decide) hL
  have HI : Hid (∀ w, Calls Try.prog 39 #[.int .i64 (N : Int)] w fun e w' => e = .returned (.bool true) ∧ w = w') := by
    show ∀ w, Calls Try.prog 39 #[.int .i64 (N : Int)] w fun e w' => e = .returned (.bool true) ∧ w = w'
    rw [← hN]; exact fun w => rsize_yes L hL w
  have HG : Hid (∀ w, Calls Try.prog 9 #[.int .i64 (N : Int)] w fun e w' => ∃ v, e = .returned v ∧ w'.ownsRow w.heap.size 29 2 v (gatesL L).length (hopC (gatesL L)) ∧ Below w.heap.size w w') := by
    show ∀ w, Calls Try.prog 9 #[.int .i64 (N : Int)] w fun e w' => ∃ v, e = .returned v ∧ w'.ownsRow w.heap.size 29 2 v (gatesL L).length (hopC (gatesL L)) ∧ Below w.heap.size w w'
    rw [← hN]; exact fun w => rgates_yes L hL w
  have HIn : Hid (∀ (i : Nat) x, (gatesL L)[i]? = some x → ∃ a b : Nat, x = ((a : Int), (b : Int)) ∧ a < N ∧ b < N ∧ a ≠ b) := fun i x hx => by
    rw [← hN]; exact gates_in L hL x (List.mem_of_getElem? hx)
  have hgl : (gatesL L).length ≤ 4456448 := by
    have h1 := gatesL_length L hL
    have h2 := stepsK_count L
    have h3 : 2 ^ (L - 1) ≤ 2 ^ 15 := Nat.pow_le_pow_right (by decide) (by omega)
    have h4 : L * (L + 1) ≤ 16 * 17 := Nat.mul_le_mul hL (by omega)
    have h5 : (stepsK L).length * 2 ^ (L - 1) ≤ 136 * 2 ^ 15 := Nat.mul_le_mul (by omega) h3
    omega
  obtain ⟨gs, hgs⟩ : ∃ gs, gatesL L = gs := ⟨_, rfl⟩
  rw [hgs] at HG HIn hgl ⊢
  have i0 : (0 : Int) < (N : Int) := by omega
  have HS : Hid (SeenZ w ao N zs) := hs
  clear hN hgs hs
  go_enter Try.func22, Try.ntmps22
  go_wp2_with (first
    | (go_at_call 39; refine (HI.out _).mono ?_; rintro e w1 ⟨rfl, rfl⟩)
    | (go_at_call 19; refine (copyInts_any ao N c zs w HS.out (by omega)).mono ?_; rintro e w1 ⟨v, rfl, o1, b1⟩; obtain ⟨g, cp, rfl, hg, hcp, r1⟩ := own_rowI o1 (by omega); clear o1)
    | (go_at_call 9; refine (HG.out _).mono ?_; rintro e w2 ⟨v, rfl, o2, b2⟩; obtain ⟨so, cg, rfl, hs2, hso⟩ := gates_own2 o2; clear o2))
  have r2 := r1.block (b2.block g r1.lt)
  have hgl1 := r1.lt
  have HB : Hid (w.heap.size ≤ g ∧ g < w1.heap.size ∧ Below w.heap.size w w2 ∧ zs.length = N) := ⟨hg, hgl1, b1.trans ⟨b2.os, b2.tape, b2.output, b2.size, fun k hk => b2.block k (by have := b1.size; omega)⟩, HS.out.len⟩
  have HX : Hid (GatesAt w2 so gs ∧ ∀ g2, so = some ⟨g2, 0, none⟩ → g2 ≠ g) := ⟨hs2, fun g2 h => by have := hso g2 h; omega⟩
  clear hso
  clear r1 b1 b2 hg hgl1 hs2
  go_loopw [8] (fun v wr => ∃ k : Nat, v = .int .i64 (k : Int) ∧ k ≤ gs.length ∧ RowI wr g cp (gfold (ltM m) zs (gs.take k)) ∧ GatesAt wr so gs ∧ Below w.heap.size w wr) (fun v _ => gs.length - (intOf v).toNat)
  case atStart => exact ⟨0, rfl, by omega, r2, HX.out.1, HB.out.2.2.1⟩
  case round =>
    obtain ⟨k, rfl, hk, r3, a3, b3⟩ := hrel
    by_cases hlt : k < gs.length
    · obtain ⟨x, hx⟩ : ∃ x, gs[k]? = some x := ⟨_, List.getElem?_eq_getElem hlt⟩
      obtain ⟨a, b, rfl, ha, hb, hne⟩ := HIn.out k x hx
      obtain ⟨gg, rfl, hgg, d0, d1⟩ := a3.at_ k _ hx
      obtain ⟨ys, hys⟩ : ∃ ys, gfold (ltM m) zs (gs.take k) = ys := ⟨_, rfl⟩
      have HY : Hid (gfold (ltM m) zs (gs.take (k + 1)) = gstep (ltM m) ys ((a : Int), (b : Int)) ∧ ys.length = N) := ⟨by rw [List.take_add_one, hx]; show gfold (ltM m) zs (gs.take k ++ [((a : Int), (b : Int))]) = _; rw [gfold_snoc, hys], by rw [← hys, gfold_length]; exact HB.out.2.2.2⟩
      rw [hys] at r3
      have c0 := r3.cell a (by rw [HY.out.2]; exact ha)
      have c1 := r3.cell b (by rw [HY.out.2]; exact hb)
      obtain ⟨A, hA⟩ : ∃ A, ys.getD a 0 = A := ⟨_, rfl⟩
      obtain ⟨C, hC⟩ : ∃ C, ys.getD b 0 = C := ⟨_, rfl⟩
      rw [hA] at c0
      rw [hC] at c1
      have HAC : Hid (ys.getD a 0 = A ∧ ys.getD b 0 = C) := ⟨hA, hC⟩
      have f0 := r3.frozen a
      have f1 := r3.frozen b
      dsimp only at d0 d1
      clear hx hys hA hC
      have i1 : (0 : Int) ≤ (k : Int) := by omega
      have i2 : (k : Int) < (gs.length : Int) := by omega
      have i3 : (a : Int) < (N : Int) := by omega
      have i4 : (b : Int) < (N : Int) := by omega
      go_wp2_with (fail)
      go_region_with (go_at_call 21; refine (rbefore_any C A m hm2 _).mono ?_; rintro e w9 ⟨rfl, rfl⟩)
      all_goals
        cases ht : ltM m C A with
        | true =>
          have c0d : wr.drew.cell? ⟨g, a, none⟩ = some (.int .i64 A) := c0
          have c1d : wr.drew.cell? ⟨g, b, none⟩ = some (.int .i64 C) := c1
          have d0d : wr.drew.cell? ⟨gg, k * 2, none⟩ = some (.int .i64 (a : Int)) := d0
          have d1d : wr.drew.cell? ⟨gg, k * 2 + 1, none⟩ = some (.int .i64 (b : Int)) := d1
          have f0d : wr.drew.frozen? ⟨g, a, none⟩ = false := f0
          have f1d : wr.drew.frozen? ⟨g, b, none⟩ = false := f1
          have hgn : gg ≠ g := HX.out.2 gg rfl
          go_wp2_with (fail)
          go_region_with (fail)
          all_goals
            have dd : (wr.setCell ⟨g, b, none⟩ (.int .i64 A)).drew.drew.cell? ⟨gg, k * 2, none⟩ = some (.int .i64 (a : Int)) := (World.cell?_of_block (a := ⟨gg, k * 2, none⟩) (Below.heap_setCell wr ⟨g, b, none⟩ (.int .i64 A) gg hgn)).trans d0
            have ff : (wr.setCell ⟨g, b, none⟩ (.int .i64 A)).drew.drew.frozen? ⟨g, a, none⟩ = false := (r3.set b (by rw [HY.out.2]; exact hb) A).frozen a
            have cc : (wr.setCell ⟨g, b, none⟩ (.int .i64 A)).drew.drew.cell? ⟨g, a, none⟩ = some _ := (r3.set b (by rw [HY.out.2]; exact hb) A).cell a (by rw [List.length_set, HY.out.2]; exact ha)
            have HRel : Hid (RowI ((wr.setCell ⟨g, b, none⟩ (.int .i64 A)).drew.drew.setCell ⟨g, a, none⟩ (.int .i64 C)) g cp (gfold (ltM m) zs (gs.take (k + 1))) ∧ GatesAt ((wr.setCell ⟨g, b, none⟩ (.int .i64 A)).drew.drew.setCell ⟨g, a, none⟩ (.int .i64 C)) (some ⟨gg, 0, none⟩) gs ∧ Below w.heap.size w ((wr.setCell ⟨g, b, none⟩ (.int .i64 A)).drew.drew.setCell ⟨g, a, none⟩ (.int .i64 C))) := by
              refine ⟨?_, ((a3.set g b _ HX.out.2).drew.drew).set g a _ HX.out.2, ?_⟩
              · rw [HY.out.1, gstep_yes (ltM m) ys a b (by rw [HAC.out.1, HAC.out.2]; exact ht), ← trade_comm ys a b A C HAC.out.1 HAC.out.2 hne]
                exact RowI.set (w := (wr.setCell ⟨g, b, none⟩ (.int .i64 A)).drew.drew) (r3.set b (by rw [HY.out.2]; exact hb) A) a (by rw [List.length_set, HY.out.2]; exact ha) C
              · exact ((b3.setCell (p := ⟨g, b, none⟩) HB.out.1 _).drew.drew).setCell (p := ⟨g, a, none⟩) HB.out.1 _
            clear c0 c1 d0 d1 c0d c1d d0d d1d f0 f1 f0d f1d a3 r3 b3
            go_wp2_with (fail)
            go_roundw
            case rel => exact ⟨k + 1, by go_num, by omega, HRel.out.1, HRel.out.2.1, HRel.out.2.2⟩
            case measure => simp [intOf]; omega
        | false =>
          go_wp2_with (fail)
          go_roundw
          case rel => exact ⟨k + 1, by go_num, by omega, by rw [HY.out.1, gstep_no (ltM m) ys a b (by rw [HAC.out.1, HAC.out.2]; exact ht)]; exact r3, a3.drew, b3.drew⟩
          case measure => simp [intOf]; omega
    · obtain rfl : k = gs.length := by omega
      rw [List.take_length] at r3
      clear hlt hk
      go_wp2_with (fail)
      refine bodyPost_ret (v := .tuple #[.slice (some ⟨g, 0, none⟩) N cp, .int .i64 0]) (by kernel_rfl) rfl ?_
      exact ⟨g, cp, rfl, HB.out.1, hcp, r3, b3⟩
end Go.Proofs.Ytlkpgbilepehmaa
