/- Layer network: the program's hops are those of the mathematics; Shift of nothing and of too many. -/
import Derived.Test.YtlkpgbilepehmaaNShiftT
namespace Go.Proofs.Ytlkpgbilepehmaa
open Go.RowKit Go.Shelf
set_option linter.unusedVariables false
set_option linter.unusedSimpArgs false
attribute [local go_sem] Oper.semAt_some
theorem wayO_le (live : Nat → Bool) (i : Nat) : wayO live i ≤ i := by
  unfold wayO; split
  · exact dd_le live i
  · omega
theorem hopG_eq (live : Nat → Bool) (e j : Nat) (he : e ≤ 16) (P : Nat → Nat) (h : P (2 ^ e + j) < 65536) : hopG live P (((2 ^ e + j : Nat) : Int), (j : Int)) = hopP live e (2 ^ e + j) P := by
  have hw := wayO_le live (P (2 ^ e + j))
  have hd : ((2 ^ e + j : Nat) : Int) - (j : Int) = ((2 ^ e : Nat) : Int) := by omega
  have hp : 0 < 2 ^ e := Nat.pow_pos (by decide)
  unfold hopG
  simp only [Int.toNat_natCast]
  rw [hd, and_pow _ e (by omega) he]
  funext q
  unfold hopP
  rcases Nat.mod_two_eq_zero_or_one (wayO live (P (2 ^ e + j)) / 2 ^ e) with h0 | h0
  · have e1 : (if wayO live (P (2 ^ e + j)) / 2 ^ e % 2 = 0 then (0 : Int) else ((2 ^ e : Nat) : Int)) = 0 := if_pos h0
    have e2 : ¬ wayO live (P (2 ^ e + j)) / 2 ^ e % 2 = 1 := by rw [h0]; decide
    rw [e1, if_neg e2]
    rfl
  · have hz : (((2 ^ e : Nat) : Int) != 0) = true := bne_iff_ne.2 (by omega)
    have e1 : (if wayO live (P (2 ^ e + j)) / 2 ^ e % 2 = 0 then (0 : Int) else ((2 ^ e : Nat) : Int)) = ((2 ^ e : Nat) : Int) := if_neg (by rw [h0]; decide)
    rw [e1, if_pos hz, if_pos h0]
    unfold swP
    rw [Nat.add_sub_cancel_left]
    by_cases h1 : q = j
    · subst h1; rw [if_pos rfl, if_neg (by omega), if_pos rfl]
    · rw [if_neg h1]
      by_cases h2 : q = 2 ^ e + j
      · rw [if_pos h2, if_pos h2]
      · rw [if_neg h2, if_neg h2, if_neg h1]
theorem foldD_eq (live : Nat → Bool) (n e : Nat) (hn : n ≤ 65536) (he : e ≤ 16) (P : Nat → Nat) (hP : InvP live n (posE live e) P) : ∀ k, 2 ^ e + k ≤ n ∨ k = 0 → (((List.range k).map fun j => (((2 ^ e + j : Nat) : Int), ((j : Nat) : Int))).foldl (hopG live) P) = bitP live e k P := by
  intro k
  induction k with
  | zero => intro _; rfl
  | succ k ih =>
    intro hk
    have hk' : 2 ^ e + (k + 1) ≤ n := by omega
    rw [List.range_succ, List.map_append, List.foldl_append, ih (.inl (by omega))]
    show hopG live (bitP live e k P) _ = _
    rw [hopG_eq live e k he _ (by have := (bit_inv live n e k (by omega) P hP).in_ (2 ^ e + k) (by omega); omega)]
    rfl
theorem foldK_eq (live : Nat → Bool) (n : Nat) (hn : n ≤ 65536) : ∀ e, e ≤ 17 → (hopsK n e).foldl (hopG live) id = allP live n e id := by
  intro e
  induction e with
  | zero => intro _; rfl
  | succ e ih =>
    intro he
    rw [hopsK, List.foldl_append, ih (by omega), allP]
    exact foldD_eq live n e hn (by omega) _ (all_inv live n e) (n - 2 ^ e) (by omega)
theorem fold_all (live : Nat → Bool) (n : Nat) (hn : n ≤ 65536) : foldP live (hopsL n) = allP live n 17 id := foldK_eq live n hn 17 (Nat.le_refl _)
set_option maxHeartbeats 1000000 in
theorem scloneT_nil (w : World) : Calls Try.prog 47 #[.slice none 0 0] w fun e w' => e = .returned (.slice none 0 0) ∧ w = w' := by
  have hq : ∀ wx, (binOp .eql 59 (.slice none 0 0) (.slice none 0 0)).run Try.prog wx = .ok (.bool true) wx := fun wx => Lib.run_eql_slice_nil wx 59 61 none 0 0 0 0 Try.underlying59
  go_enter Try.func47, Try.ntmps47
  go_wp2
  go_ret
  exact ⟨rfl, rfl⟩
end Go.Proofs.Ytlkpgbilepehmaa
