/- Layer network: what both Sorts answer, in one contract; rows kept. -/
import Derived.Test.YtlkpgbilepehmaaNRSort
import Derived.Test.YtlkpgbilepehmaaNApart
import Derived.Test.YtlkpgbilepehmaaNWorks
namespace Go.Proofs.Ytlkpgbilepehmaa
open Go.RowKit
set_option linter.unusedVariables false
set_option linter.unusedSimpArgs false

theorem own_zero {w : World} {base : Nat} {v : Value} {e : TypeId} {sz : Nat} {xs : List Value} (h : w.ownsRow base e sz v 0 xs) : ∃ ao c, v = .slice ao 0 c := by
  rcases h.2 with ⟨rfl, _⟩ | ⟨g, cap, cur, rfl, _⟩
  · exact ⟨none, 0, rfl⟩
  · exact ⟨_, cap, rfl⟩
set_option maxRecDepth 20000 in
set_option maxHeartbeats 1000000 in
theorem rsort_none (ao : Option Addr) (c : Nat) (m : Int) (w : World) :
    Calls Try.prog 22 #[.slice ao 0 c, .int .i64 m] w fun e w' => ∃ v, e = .returned (.tuple #[v, .int .i64 0]) ∧ w'.ownsRow w.heap.size 3 1 v 0 [] ∧ Below w.heap.size w w' := by
  have h0 : Hid (¬ IsSz ((0 : Nat) : Int)) := by
    rintro ⟨L, hL, h⟩
    have := Nat.pow_pos (n := L) (show 0 < 2 by decide)
    omega
  go_enter Try.func22, Try.ntmps22
  go_wp2_with (first
    | (go_at_call 19; refine (copyInts_any ao 0 c [] w ⟨rfl, fun h => absurd h (Nat.lt_irrefl 0)⟩ (by omega)).mono ?_; rintro e w1 ⟨v, rfl, o1, b1⟩; obtain ⟨a1, c1, rfl⟩ := own_zero o1; have HO : Hid (w1.ownsRow w.heap.size 3 1 (.slice a1 0 c1) 0 []) := o1; have HB : Hid (Below w.heap.size w w1) := b1; clear o1 b1)
    | (go_at_call 9; refine (rgates_no _ h0.out _).mono ?_; rintro e w2 ⟨v, rfl, o2, b2⟩; obtain ⟨a2, c2, rfl⟩ := own_zero o2; have HB2 : Hid (Below w1.heap.size w1 w2) := b2; clear o2 b2))
  go_loopw [8] (fun v wr => v = .int .i64 0 ∧ w2 = wr) (fun v _ => 0)
  case atStart => exact ⟨rfl, rfl⟩
  case round =>
    obtain ⟨rfl, rfl⟩ := hrel
    go_wp2_with (fail)
    refine bodyPost_ret (v := .tuple #[.slice a1 0 c1, .int .i64 0]) (by kernel_rfl) rfl ?_
    have b1 := HB.out
    have b2 := HB2.out
    exact ⟨_, rfl, ownsRow_below HO.out b2, b1.trans ⟨b2.os, b2.tape, b2.output, b2.size, fun k hk => b2.block k (by have := b1.size; omega)⟩⟩
/-- What both Sorts answer, of every list of n numbers: the error E, and a row of k numbers. -/
structure Srts (n : Nat) (m : Int) (E : Int) (k : Nat) (S : List Int → List Int) : Prop where
  le : k ≤ 65536
  len : ∀ zs, zs.length = n → (S zs).length = k
  doc : ∀ ao c zs w, SeenZ w ao n zs → Calls Try.prog 22 #[.slice ao n c, .int .i64 m] w fun e w' => ∃ v, e = .returned (.tuple #[v, .int .i64 E]) ∧ w'.ownsRow w.heap.size 3 1 v k ((S zs).map (Value.int .i64)) ∧ Below w.heap.size w w'
  net : ∀ a c zs (w : World) Bm, SeenZ w (some a) n zs → Boxed w Bm 3 (.int .i64 m) → Calls Try.prog 23 #[.slice (some a) n c, .func (.func 20) #[] #[.pointer (some ⟨Bm, 0, none⟩)]] w fun e w' => ∃ v, e = .returned (.tuple #[v, .int .i64 E]) ∧ w'.ownsRow w.heap.size 3 1 v k ((S zs).map (Value.int .i64)) ∧ Below w.heap.size w w'
theorem boxed_below {w w' : World} {Bm : Nat} {t : TypeId} {u : Value} (h : Boxed w Bm t u) {B : Nat} (hb : Below B w w') (hB : w.heap.size ≤ B) : Boxed w' Bm t u := (hb.block Bm (Nat.lt_of_lt_of_le h.lt hB)).trans h
theorem srts (n : Nat) (m : Int) (hm2 : m ≤ 9223372036854775807) : ∃ E k S, Srts n m E k S := by
  by_cases h0 : n = 0
  · subst h0
    refine ⟨0, 0, fun _ => [], by omega, fun _ _ => rfl, fun ao c zs w hs => ?_, fun a c zs w Bm hs hB => ?_⟩
    · exact rsort_none ao c m w
    · refine (sort_none (some a) c 20 _ w).mono ?_
      rintro e w' ⟨rfl, b⟩
      exact ⟨_, rfl, World.ownsRow_nil _ _ _ _, b⟩
  · by_cases hsz : IsSz (n : Int)
    · obtain ⟨L, hL, hnL⟩ := hsz
      have hN : 2 ^ L = n := by omega
      refine ⟨0, n, fun zs => gfold (ltM m) zs (gatesL L), by rw [← hN]; exact Nat.pow_le_pow_right (by decide) hL, fun zs hz => by rw [gfold_length, hz], fun ao c zs w hs => ?_, fun a c zs w Bm hs hB => ?_⟩
      · refine (rsort_yes L hL n hN ao c zs m hm2 w hs).mono ?_
        rintro e w' ⟨g, cp, rfl, hg, hcp, r, b⟩
        have hl : (gfold (ltM m) zs (gatesL L)).length = n := by rw [gfold_length, hs.len]
        exact ⟨_, rfl, by have := rowI_own r hg hcp; rwa [hl] at this, b⟩
      · refine (sort_yes L hL n hN (some a) c zs 20 #[.pointer (some ⟨Bm, 0, none⟩)] (ltM m) w hs (fun h => by cases h) (enters_of Try.func20 (by kernel_rfl) rfl) (fun x y W hW => ?_)).mono ?_
        · refine (sorts1_any x y m Bm hm2 W (boxed_below hB hW (Nat.le_refl _))).mono ?_
          rintro e W' ⟨rfl, rfl⟩; exact ⟨rfl, Below.refl _ _⟩
        · rintro e w' ⟨g, cp, rfl, hg, hcp, r, b⟩
          have hl : (gfold (ltM m) zs (gatesL L)).length = n := by rw [gfold_length, hs.len]
          exact ⟨_, rfl, by have := rowI_own r hg hcp; rwa [hl] at this, b⟩
    · refine ⟨170, 0, fun _ => [], by omega, fun _ _ => rfl, fun ao c zs w hs => ?_, fun a c zs w Bm hs hB => ?_⟩
      · refine (rsort_bad ao n c m (by omega) hsz w).mono ?_
        rintro e w' ⟨rfl, rfl⟩
        exact ⟨_, rfl, World.ownsRow_nil _ _ _ _, Below.refl _ _⟩
      · refine (sort_bad (some a) n c 20 _ w (by omega) hsz).mono ?_
        rintro e w' ⟨rfl, b⟩
        exact ⟨_, rfl, World.ownsRow_nil _ _ _ _, b⟩
end Go.Proofs.Ytlkpgbilepehmaa
