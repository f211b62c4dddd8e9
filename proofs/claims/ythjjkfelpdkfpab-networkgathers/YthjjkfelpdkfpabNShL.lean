/- Layer network: the program's hops are those of the mathematics; Shift of nothing and of too many. -/
import Derived.Test.YthjjkfelpdkfpabNShiftT
namespace Go.Proofs.Ythjjkfelpdkfpab
open Go.RowKit Go.Shelf
set_option linter.unusedVariables false
set_option linter.unusedSimpArgs false
attribute [local go_sem] Oper.semAt_some
theorem wayO_le (live : Nat → Bool) (i : Nat) : wayO live i ≤ i := by
  unfold wayO; split
  · exact dd_le live i
  · omega
theorem hopG_eq (live : Nat → Bool) (e j : Nat) (he : e ≤ 16) (P : Nat → Nat) (h : P (2 ^ e + j) < 65536) : hopG live P (((2 ^ e + j : Nat) : Int), (j : Int)) = hopP live e (2 ^ e + j) P := by
  have hw := wayO_le live (P (2 ^ e + j))
  have hd : ((2 ^ e + j : Nat) : Int) - (j : Int) = ((2 ^ e : Nat) : Int) := by omega
  have hp : 0 < 2 ^ e := Nat.pow_pos (by decide)
  unfold hopG
  simp only [Int.toNat_natCast]
  rw [hd, and_pow _ e (by omega) he]
  funext q
  unfold hopP
  rcases Nat.mod_two_eq_zero_or_one (wayO live (P (2 ^ e + j)) / 2 ^ e) with h0 | h0
  · have e1 : (if wayO live (P (2 ^ e + j)) / 2 ^ e % 2 = 0 then (0 : Int) else ((2 ^ e : Nat) : Int)) = 0 := if_pos h0
    have e2 : ¬ wayO live (P (2 ^ e + j)) / 2 ^ e % 2 = 1 := by rw [h0]; decide
    rw [e1, if_neg e2]
    rfl
  · have hz : (((2 ^ e : Nat) : Int) != 0) = true := bne_iff_ne.2 (by omega)
    have e1 : (if wayO live (P (2 ^ e + j)) / 2 ^ e % 2 = 0 then (0 : Int) else ((2 ^ e : Nat) : Int)) = ((2 ^ e : Nat) : Int) := if_neg (by rw [h0]; decide)
    rw [e1, if_pos hz, if_pos h0]
    unfold swP
    rw [Nat.add_sub_cancel_left]
    by_cases h1 : q = j
    · subst h1; rw [if_pos rfl, if_neg (by omega), if_pos rfl]
    · rw [if_neg h1]
      by_cases h2 : q = 2 ^ e + j
      · rw [if_pos h2, if_pos h2]
      · rw [if_neg h2, if_neg h2, if_neg h1]
theorem foldD_eq (live : Nat → Bool) (n e : Nat) (hn : n ≤ 65536) (he : e ≤ 16) (P : Nat → Nat) (hP : InvP live n (posE live e) P) : ∀ k, 2 ^ e + k ≤ n ∨ k = 0 → (((List.range k).map fun j => (((2 ^ e + j : Nat) : Int), ((j : Nat) : Int))).foldl (hopG live) P) = bitP live e k P := by
  intro k
  induction k with
  | zero => intro _; rfl
  | succ k ih =>
    intro hk
    have hk' : 2 ^ e + (k + 1) ≤ n := by omega
    rw [List.range_succ, List.map_append, List.foldl_append, ih (.inl (by omega))]
    show hopG live (bitP live e k P) _ = _
    rw [hopG_eq live e k he _ (by have := (bit_inv live n e k (by omega) P hP).in_ (2 ^ e + k) (by omega); omega)]
    rfl
theorem foldK_eq (live : Nat → Bool) (n : Nat) (hn : n ≤ 65536) : ∀ e, e ≤ 17 → (hopsK n e).foldl (hopG live) id = allP live n e id := by
  intro e
  induction e with
  | zero => intro _; rfl
  | succ e ih =>
    intro he
    rw [hopsK, List.foldl_append, ih (by omega), allP]
    exact foldD_eq live n e hn (by omega) _ (all_inv live n e) (n - 2 ^ e) (by omega)
theorem fold_all (live : Nat → Bool) (n : Nat) (hn : n ≤ 65536) : foldP live (hopsL n) = allP live n 17 id := foldK_eq live n hn 17 (Nat.le_refl _)
set_option maxHeartbeats 1000000 in
theorem shiftT_big (ao : Option Addr) (n c : Nat) (hn : 65536 < n) (B : FuncId) (caps : Array Value) (w : World) :
    Calls Try.prog 6 #[.slice ao n c, .func (.func B) #[] caps] w fun e w' => e = .returned (.slice none 0 0) ∧ Below w.heap.size w w' := by
  have h : (65536 : Int) < (n : Int) := by omega
  refine (callsIn_wide (n := 30)).1 ?_
  refine callsIn_of_wp_marks Try.func6 rfl trivial ?_ rfl
  simp only [Try.ntmps6, List.size_toArray, List.length_cons, List.length_nil, Nat.reduceAdd, Nat.reduceSub, Array.replicate_succ, Array.replicate_zero, List.push_toArray, List.append_toArray, List.nil_append, List.cons_append]
  gi_wp2
  exact ⟨.slice none 0 0, by kernel_rfl, rfl, Below.refl _ _⟩
set_option maxHeartbeats 1000000 in
theorem scloneT_nil (w : World) : Calls Try.prog 21 #[.slice none 0 0] w fun e w' => e = .returned (.slice none 0 0) ∧ w = w' := by
  have hq : ∀ wx, (binOp .eql 23 (.slice none 0 0) (.slice none 0 0)).run Try.prog wx = .ok (.bool true) wx := fun wx => Lib.run_eql_slice_nil wx 23 25 none 0 0 0 0 Try.underlying23
  go_enter Try.func21, Try.ntmps21
  go_wp2
  go_ret
  exact ⟨rfl, rfl⟩
set_option maxHeartbeats 1000000 in
theorem ways_nil (B : FuncId) (caps : Array Value) (w : World) : Calls Try.prog 22 #[.slice none 0 0, .func (.func B) #[] caps] w fun e w' => ∃ g, e = .returned (.slice (some ⟨g, 0, none⟩) 0 0) ∧ Below w.heap.size w w' := by
  obtain ⟨i0, hi, hz0, hz1, hz2⟩ := info_parts info_int
  go_enter Try.func22, Try.ntmps22
  go_wp2_with (at_make; refine wpList_make_full _ rfl _ _ 33 rfl w.heap.size 3 i0 (.int .i64 0) 1 Try.underlying33 hi hz0 hz1 .i64 .i64 _ _ 0 (by rfl) (by rfl) (by rfl) (by rfl) (by rw [hz2]; omega) (by unfold maxLen; omega) (Nat.le_refl _) ?_; intro w1 hown1 hgrow1)
  have hB1 : Below w.heap.size w w1 := (Below.refl _ w).grown hgrow1 (Nat.le_refl _) (fun j e => by cases e)
  clear hown1 hgrow1
  go_loopw [6, 14] (fun d v wr => v = .int .i64 0 ∧ d = .int .i64 0 ∧ Below w.heap.size w wr) (fun _ v _ => 0)
  case atStart => exact ⟨rfl, rfl, hB1⟩
  case round =>
    obtain ⟨rfl, rfl, hB2⟩ := hrel
    go_wp2_with (fail)
    go_ret
    exact ⟨_, rfl, hB2⟩
set_option maxRecDepth 100000 in
set_option maxHeartbeats 4000000 in
theorem shiftT_nil (B : FuncId) (caps : Array Value) (w : World) :
    Calls Try.prog 6 #[.slice none 0 0, .func (.func B) #[] caps] w fun e w' => e = .returned (.slice none 0 0) ∧ Below w.heap.size w w' := by
  refine (callsIn_wide (n := 30)).1 ?_
  refine callsIn_of_wp_marks Try.func6 rfl trivial ?_ rfl
  simp only [Try.ntmps6, List.size_toArray, List.length_cons, List.length_nil, Nat.reduceAdd, Nat.reduceSub, Array.replicate_succ, Array.replicate_zero, List.push_toArray, List.append_toArray, List.nil_append, List.cons_append]
  gi_wp2_with (first | (refine ⟨trivial, ?_⟩; gi_at_call 21; refine (callsIn_wide.2 (scloneT_nil _)).mono ?_; rintro e w1 ⟨rfl, rfl⟩) | (refine ⟨trivial, ?_⟩; gi_at_call 22; refine (callsIn_wide.2 (ways_nil B caps _)).mono ?_; rintro e w2 ⟨gw, rfl, b2⟩; have bSx : Boxed w2 w.heap.size 23 (.slice none 0 0) := (b2.block w.heap.size (by simp)).trans (Boxed.new w _ _); have cS5 : ∀ ob, (w2.alloc ob).cell? ⟨w.heap.size, 0, none⟩ = some (.slice none 0 0) := fun ob => (bSx.alloc ob).cell) | (refine ⟨trivial, ?_⟩; gi_at_call 23; refine (hops_in _ _ trivial rfl _ _).mono ?_; rintro e w' ⟨rfl, rfl⟩))
  clear cS5
  have bS0 := (bSx.alloc (.cells #[.slice (some ⟨gw, 0, none⟩) 0 0] 33)).alloc (.cells #[.int .i64 0] 3)
  have bN0 := Boxed.new (w2.alloc (.cells #[.slice (some ⟨gw, 0, none⟩) 0 0] 33)) 3 (.int .i64 0)
  simp only [World.size_alloc] at bN0
  have hB2 : Below w.heap.size w w2 := ((Below.refl _ w).alloc (Nat.le_refl _) _).trans ⟨b2.os, b2.tape, b2.output, b2.size, fun k hk => b2.block k (by simp; omega)⟩
  have hB0 := (hB2.alloc hB2.size (.cells #[.slice (some ⟨gw, 0, none⟩) 0 0] 33)).alloc (by have := hB2.size; simp; omega) (.cells #[.int .i64 0] 3)
  obtain ⟨W0, hW0⟩ : ∃ W0, (w2.alloc (.cells #[.slice (some ⟨gw, 0, none⟩) 0 0] 33)).alloc (.cells #[.int .i64 0] 3) = W0 := ⟨_, rfl⟩
  rw [hW0] at bS0 bN0 hB0 ⊢
  have hR0 : w.heap.size ≤ W0.heap.size := hB0.size
  clear hW0 hB2 bSx b2
  have hst := hops_stopsV Fence.wide 29 trivial rfl (by omega) (w2.heap.size + 1) 0 (by omega) id (fun e j h => absurd h (Nat.not_lt_zero _)) W0 bN0
  refine wpIn_rangeFunc_ownH rfl (by omega) (gf := 48) (lb := #[.pointer (some ⟨w2.heap.size + 1, 0, none⟩)]) rfl trivial (enters_of Try.func48 (by kernel_rfl) rfl)
    hst kpB_t (kpB_b bN0.lt) (Below.refl _ _) (fun _ => rfl)
    (fun pre W => Below w.heap.size w W ∧ Boxed W w.heap.size 23 (.slice none 0 0))
    (fun cc pre W => False)
    (OwnFrom.and (ownFrom_below (Nat.le_refl _) hR0) (Own.from (boxed_own _ _ _) _))
    (fun cc => ownFrom_pure _ (fun _ => False))
    ⟨hB0, bS0⟩
    (fun x a' W => True)
    (fun _ _ _ _ _ _ hs _ _ => hs)
    ?assign ?body ?done ?stop
  case assign =>
    rintro l pre x W K ⟨hB1, bS1⟩ hK
    simp only [hopV]
    gi_wp2
    exact hK _ _ ((KeepsOthers.alloc _ _).from _) (fun h => h.alloc _) ⟨hB1.alloc hB1.size _, bS1.alloc _⟩ trivial
  case body =>
    rintro l pre x a' W hl hr0 _ _ hlt
    have : hopsL 0 = [] := by unfold hopsL; rw [hopsK_stop 0 0 17 (by omega) (by simp)]; rfl
    rw [this] at hlt; simp at hlt
  case done =>
    rintro D xs W hD hxs ⟨hB1, bS1⟩ hK
    have cS := bS1.cell
    gi_wp2
    refine ⟨by simp, .inl ⟨_, _, rfl, run_takeDeferred hK, ?_⟩⟩
    refine ⟨.slice none 0 0, by kernel_rfl, rfl, ?_⟩
    exact hB1.trans ⟨rfl, rfl, rfl, by simp [World.putObj], fun k hk => World.putObj_heap_other (by omega)⟩
  case stop => rintro D cc pre W hD hpre h; exact h.elim
end Go.Proofs.Ythjjkfelpdkfpab
