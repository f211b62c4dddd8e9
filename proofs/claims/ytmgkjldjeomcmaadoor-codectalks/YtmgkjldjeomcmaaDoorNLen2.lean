/- Layer network: bits.Len of numbers up to 65536; Pad, isSize, Gates of any number. -/
import Derived.Test.YtmgkjldjeomcmaaDoorNLen
namespace Go.Proofs.YtmgkjldjeomcmaaDoor
open Go.RowKit
set_option linter.unusedVariables false
set_option linter.unusedSimpArgs false
set_option maxRecDepth 200000 in
set_option maxHeartbeats 2000000 in
theorem len64_mid (X : Int) (y : Nat) (hy : y < 256) (hy0 : 1 ≤ y) (h1 : 256 ≤ X) (h2 : X < 65536) (hq : X / 256 = (y : Int)) (w : World) : Calls Tryd.prog 86 #[.int .u64 X] w fun e w' => e = .returned (.int .i64 ((blen y + 8 : Nat) : Int)) ∧ w = w' := by
  have i1 : ¬ (4294967296 : Int) ≤ X := by omega
  have i2 : ¬ (65536 : Int) ≤ X := by omega
  have i3 : (256 : Int) ≤ X := by omega
  go_enter Tryd.func86, Tryd.ntmps86
  go_wp2
  go_ret
  refine ⟨?_, rfl⟩
  refine congrArg (fun z => Ending.returned (Value.int .i64 z)) (a₁ := wrap64 (8 + wrap64 _)) ?_
  rw [byte_at]
  clear i1 i2 i3 hq h1 h2 hy0
  clear w X
  revert y
  decide +kernel
set_option maxRecDepth 20000 in
theorem len64_top (w : World) : Calls Tryd.prog 86 #[.int .u64 65536] w fun e w' => e = .returned (.int .i64 17) ∧ w = w' := by
  go_enter Tryd.func86, Tryd.ntmps86
  go_wp2
  go_ret
  exact ⟨by kernel_rfl, rfl⟩
theorem len64_any (x : Nat) (hx : x ≤ 65536) (w : World) : Calls Tryd.prog 86 #[.int .u64 x] w fun e w' => e = .returned (.int .i64 (blen x)) ∧ w = w' := by
  rcases Nat.lt_or_ge x 256 with h | h
  · exact len64_low x h w
  · rcases Nat.lt_or_ge x 65536 with h2 | h2
    · rw [blen_shift x h]
      exact len64_mid x (x / 256) (by omega) (by omega) (by omega) (by omega) (by omega) w
    · have : x = 65536 := by omega
      subst this
      have e : blen 65536 = 17 := by decide +kernel
      rw [e]
      exact len64_top w
theorem nlen_any (x : Nat) (hx : x ≤ 65536) (w : World) : Calls Tryd.prog 74 #[.int .u64 x] w fun e w' => e = .returned (.int .i64 (blen x)) ∧ w = w' := by
  go_enter Tryd.func74, Tryd.ntmps74
  go_wp2_with (go_at_call 86; refine (len64_any x hx _).mono ?_; rintro e w' ⟨rfl, rfl⟩)
  go_ret
  exact ⟨rfl, rfl⟩
theorem blen_le (x k : Nat) (h : x < 2 ^ k) : blen x ≤ k := by
  unfold blen
  split
  · omega
  · rename_i h0
    have := (Nat.log2_lt h0).2 h
    omega
theorem blen_lt (x : Nat) : x < 2 ^ blen x := by
  unfold blen
  split
  · rename_i h; subst h; decide
  · rename_i h; exact Nat.lt_log2_self
theorem blen_ge (x : Nat) (h : 0 < x) : 2 ^ blen x ≤ 2 * x := by
  unfold blen
  rw [if_neg (by omega), Nat.pow_succ]
  have := Nat.log2_self_le (n := x) (by omega)
  omega
/-- What Pad answers. -/
def padI (n : Int) : Int := if n < 1 ∨ 65536 < n then 0 else ((2 ^ blen (n - 1).toNat : Nat) : Int)
theorem pad_in (n : Int) (h1 : 1 ≤ n) (h2 : n ≤ 65536) : padI n = ((2 ^ blen (n - 1).toNat : Nat) : Int) := by unfold padI; rw [if_neg (by omega)]
theorem pad_out (n : Int) (h : n < 1 ∨ 65536 < n) : padI n = 0 := by unfold padI; rw [if_pos h]
set_option maxHeartbeats 1000000 in
theorem pad_any (n : Int) (w : World) : Calls Tryd.prog 56 #[.int .i64 n] w fun e w' => e = .returned (.int .i64 (padI n)) ∧ w = w' := by
  by_cases h : n < 1 ∨ 65536 < n
  · rw [pad_out n h]
    rcases h with h | h
    · go_enter Tryd.func56, Tryd.ntmps56
      go_wp2_with (fail)
      go_ret
      exact ⟨rfl, rfl⟩
    · have h2 : ¬ n < 1 := by omega
      go_enter Tryd.func56, Tryd.ntmps56
      go_wp2_with (fail)
      go_ret
      exact ⟨rfl, rfl⟩
  · rw [pad_in n (by omega) (by omega)]
    obtain ⟨x, hx⟩ : ∃ x : Nat, n = (x : Int) + 1 := ⟨(n - 1).toNat, by omega⟩
    have e0 : (n - 1).toNat = x := by omega
    rw [e0]
    have hx2 : x ≤ 65535 := by omega
    subst hx
    clear e0
    have b1 : blen x ≤ 16 := blen_le x 16 (by omega)
    have HL : ∀ w, Calls Tryd.prog 74 #[.int .u64 x] w fun e w' => e = .returned (.int .i64 (blen x)) ∧ w = w' := fun w => nlen_any x (by omega) w
    obtain ⟨b, hb⟩ : ∃ b, blen x = b := ⟨_, rfl⟩
    rw [hb] at HL b1 ⊢
    clear hb
    have h1 : ¬ (x : Int) + 1 < 1 := by omega
    have h2 : ¬ (65536 : Int) < (x : Int) + 1 := by omega
    have e1 : (x : Int) + 1 - 1 = (x : Int) := by omega
    go_enter Tryd.func56, Tryd.ntmps56
    go_wp2_with (go_at_call 74; refine (HL _).mono ?_; rintro e w' ⟨rfl, rfl⟩)
    go_ret
    refine ⟨?_, rfl⟩
    have e2 : ∀ b : Nat, b < 17 → wrap64 ((2 : Int) ^ b) = ((2 ^ b : Nat) : Int) := by decide +kernel
    show Ending.returned (Value.int IntKind.i64 (wrap64 ((2 : Int) ^ b))) = _
    rw [e2 b (by omega)]
/-- A size: a power of two up to 2^16. -/
def IsSz (n : Int) : Prop := ∃ L : Nat, L ≤ 16 ∧ n = ((2 ^ L : Nat) : Int)
theorem blen_pow (L : Nat) : blen (2 ^ L) = L + 1 := by
  unfold blen
  rw [if_neg (by have : 0 < 2 ^ L := Nat.pow_pos (by decide); omega), Nat.log2_two_pow]
theorem blen_pred (L : Nat) : blen (2 ^ L - 1) = L := by
  have hp : 0 < 2 ^ L := Nat.pow_pos (by decide)
  have h1 := blen_le (2 ^ L - 1) L (by omega)
  have h2 := blen_lt (2 ^ L - 1)
  have h3 : L ≤ blen (2 ^ L - 1) := (Nat.pow_le_pow_iff_right (by decide : 1 < 2)).1 (by omega)
  omega
theorem pow_le16 (L : Nat) (h : L ≤ 16) : 1 ≤ 2 ^ L ∧ 2 ^ L ≤ 65536 := ⟨Nat.pow_pos (by decide), Nat.pow_le_pow_right (by decide) h⟩
theorem pad_pow (L : Nat) (h : L ≤ 16) : padI ((2 ^ L : Nat) : Int) = ((2 ^ L : Nat) : Int) := by
  have hp := pow_le16 L h
  rw [pad_in _ (by omega) (by omega)]
  have : (((2 ^ L : Nat) : Int) - 1).toNat = 2 ^ L - 1 := by omega
  rw [this, blen_pred]
theorem sz_of_pad (n : Int) (h1 : 1 ≤ n) (h2 : n ≤ 65536) : IsSz (padI n) ∧ n ≤ padI n ∧ padI n < 2 * n := by
  rw [pad_in n h1 h2]
  have hx := blen_lt (n - 1).toNat
  refine ⟨⟨_, blen_le _ 16 (by omega), rfl⟩, by omega, ?_⟩
  by_cases h : n = 1
  · subst h; decide
  · have := blen_ge (n - 1).toNat (by omega)
    omega
theorem pad_eq_iff (n : Int) : (0 < n ∧ padI n = n) ↔ IsSz n := by
  constructor
  · rintro ⟨h1, h2⟩
    by_cases h3 : 65536 < n
    · rw [pad_out n (.inr h3)] at h2; omega
    · have := (sz_of_pad n (by omega) (by omega)).1
      rwa [h2] at this
  · rintro ⟨L, hL, rfl⟩
    have := pow_le16 L hL
    exact ⟨by omega, pad_pow L hL⟩
/-- How many gates 2^L places have. -/
def gatesI (L : Nat) : Int := ((2 ^ L : Nat) : Int) * (L : Int) * ((L : Int) + 1) / 4
end Go.Proofs.YtmgkjldjeomcmaaDoor
