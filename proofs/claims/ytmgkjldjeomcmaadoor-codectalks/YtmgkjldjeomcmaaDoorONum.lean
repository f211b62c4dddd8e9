/- Layer octet, numbers: width, fits, byteAt, Little, Big at each type. -/
import Derived.Test.YtmgkjldjeomcmaaDoorOPlain
namespace Go.Proofs.YtmgkjldjeomcmaaDoor
open Go.RowKit
set_option linter.unusedVariables false
set_option linter.unusedSimpArgs false

set_option maxRecDepth 20000 in
theorem len64_8 (w : World) : Calls Tryd.prog 86 #[.int .u64 255] w fun e w' => e = .returned (.int .i64 8) ∧ w = w' := by
  go_enter Tryd.func86, Tryd.ntmps86
  go_wp2
  go_ret
  exact ⟨by kernel_rfl, rfl⟩
set_option maxRecDepth 20000 in
theorem len64_16 (w : World) : Calls Tryd.prog 86 #[.int .u64 65535] w fun e w' => e = .returned (.int .i64 16) ∧ w = w' := by
  go_enter Tryd.func86, Tryd.ntmps86
  go_wp2
  go_ret
  exact ⟨by kernel_rfl, rfl⟩
set_option maxRecDepth 20000 in
theorem len64_32 (w : World) : Calls Tryd.prog 86 #[.int .u64 4294967295] w fun e w' => e = .returned (.int .i64 32) ∧ w = w' := by
  go_enter Tryd.func86, Tryd.ntmps86
  go_wp2
  go_ret
  exact ⟨by kernel_rfl, rfl⟩
set_option maxRecDepth 20000 in
theorem len64_64 (w : World) : Calls Tryd.prog 86 #[.int .u64 18446744073709551615] w fun e w' => e = .returned (.int .i64 64) ∧ w = w' := by
  go_enter Tryd.func86, Tryd.ntmps86
  go_wp2
  go_ret
  exact ⟨by kernel_rfl, rfl⟩

/-- The error of so many bytes for a number that has k. -/
def fit (n k : Nat) : Int := if n < k then 20 else if k < n then 21 else 0
theorem fit_short {n k : Nat} (h : n < k) : fit n k = 20 := by unfold fit; rw [if_pos h]
theorem fit_rest {n k : Nat} (h : k < n) : fit n k = 21 := by unfold fit; rw [if_neg (by omega), if_pos h]
theorem fit_ok (n : Nat) : fit n n = 0 := by unfold fit; rw [if_neg (by omega), if_neg (by omega)]
theorem byteAt_eq (v : Int) (i : Nat) : v / 2 ^ (8 * i) % 256 = v / 256 ^ i % 256 := by
  have : (256 : Int) ^ i = 2 ^ (8 * i) := by rw [Int.pow_mul]; rfl
  rw [this]

theorem width_8 (w : World) : Calls Tryd.prog 89 #[] w fun e w' => e = .returned (.int .i64 1) ∧ w = w' := by
  go_enter Tryd.func89, Tryd.ntmps89
  go_wp2_with (go_at_call 86; refine (len64_8 _).mono ?_; rintro e w' ⟨rfl, rfl⟩)
  go_ret
  exact ⟨rfl, rfl⟩
theorem width_32 (w : World) : Calls Tryd.prog 95 #[] w fun e w' => e = .returned (.int .i64 4) ∧ w = w' := by
  go_enter Tryd.func95, Tryd.ntmps95
  go_wp2_with (go_at_call 86; refine (len64_32 _).mono ?_; rintro e w' ⟨rfl, rfl⟩)
  go_ret
  exact ⟨rfl, rfl⟩
theorem fits_8 (ao : Option Addr) (n c : Nat) (hn : n ≤ 140737488355328) (w : World) :
    Calls Tryd.prog 97 #[.slice ao n c] w fun e w' => e = .returned (.int .i64 (fit n 1)) ∧ w = w' := by
  rcases Nat.lt_trichotomy n 1 with h | h | h
  · rw [fit_short h]
    have h1 : (n : Int) < 1 := by omega
    go_enter Tryd.func97, Tryd.ntmps97
    go_wp2_with (go_at_call 89; refine (width_8 _).mono ?_; rintro e w' ⟨rfl, rfl⟩)
    go_ret
    exact ⟨rfl, rfl⟩
  · subst h
    rw [fit_ok]
    go_enter Tryd.func97, Tryd.ntmps97
    go_wp2_with (go_at_call 89; refine (width_8 _).mono ?_; rintro e w' ⟨rfl, rfl⟩)
    go_ret
    exact ⟨rfl, rfl⟩
  · rw [fit_rest h]
    have h1 : (1 : Int) < (n : Int) := by omega
    go_enter Tryd.func97, Tryd.ntmps97
    go_wp2_with (go_at_call 89; refine (width_8 _).mono ?_; rintro e w' ⟨rfl, rfl⟩)
    go_ret
    exact ⟨rfl, rfl⟩
theorem fits_32 (ao : Option Addr) (n c : Nat) (hn : n ≤ 140737488355328) (w : World) :
    Calls Tryd.prog 99 #[.slice ao n c] w fun e w' => e = .returned (.int .i64 (fit n 4)) ∧ w = w' := by
  rcases Nat.lt_trichotomy n 4 with h | h | h
  · rw [fit_short h]
    have h1 : (n : Int) < 4 := by omega
    go_enter Tryd.func99, Tryd.ntmps99
    go_wp2_with (go_at_call 95; refine (width_32 _).mono ?_; rintro e w' ⟨rfl, rfl⟩)
    go_ret
    exact ⟨rfl, rfl⟩
  · subst h
    rw [fit_ok]
    go_enter Tryd.func99, Tryd.ntmps99
    go_wp2_with (go_at_call 95; refine (width_32 _).mono ?_; rintro e w' ⟨rfl, rfl⟩)
    go_ret
    exact ⟨rfl, rfl⟩
  · rw [fit_rest h]
    have h1 : (4 : Int) < (n : Int) := by omega
    go_enter Tryd.func99, Tryd.ntmps99
    go_wp2_with (go_at_call 95; refine (width_32 _).mono ?_; rintro e w' ⟨rfl, rfl⟩)
    go_ret
    exact ⟨rfl, rfl⟩
theorem byteAt_32 (v : Int) (hv : 0 ≤ v ∧ v < 4294967296) (i : Nat) (hi : i < 4) (w : World) :
    Calls Tryd.prog 96 #[.int .u32 v, .int .i64 i] w fun e w' => e = .returned (.int .u8 (v / 256 ^ i % 256)) ∧ w = w' := by
  go_enter Tryd.func96, Tryd.ntmps96
  go_wp2
  go_ret
  exact ⟨by rw [← byteAt_eq]; rfl, rfl⟩

/-- What Little tells. -/
def leV (k n : Nat) (zs : List Int) : Int := if n = k then le zs else 0
theorem leV_ok (n : Nat) (zs : List Int) : leV n n zs = le zs := by simp [leV]
theorem leV_no {n k : Nat} (zs : List Int) (h : n ≠ k) : leV k n zs = 0 := by simp [leV, h]

theorem little_8 (ao : Option Addr) (n c : Nat) (zs : List Int) (w : World) (hx : Seen w ao n zs) :
    Calls Tryd.prog 88 #[.slice ao n c] w fun e w' => e = .returned (.tuple #[.int .u8 (leV 1 n zs), .int .i64 (fit n 1)]) ∧ w = w' := by
  have t1 := hx.top
  by_cases hn : n = 1
  · subst hn
    have HL : Hid (zs.length = 1) := hx.len
    have HB : Hid (Bytes zs) := hx.bytes
    rw [leV_ok, fit_ok]
    have hf := fits_8 ao 1 c (by decide) w
    rw [fit_ok] at hf
    go_enter Tryd.func88, Tryd.ntmps88
    go_wp2_with (go_at_call 97; refine hf.mono ?_; rintro e w' ⟨rfl, rfl⟩)
    go_loopw [5, 6] (fun v i wr => ∃ (m : Nat) (I : Int), m ≤ 1 ∧ I + 1 = m ∧ i = .int .i64 I ∧ v = .int .u64 (le (zs.drop m)) ∧ wr = w) (fun _ i _ => (intOf i + 1).toNat)
    case atStart => exact ⟨1, 1 - 1, by omega, by omega, rfl, by rw [List.drop_of_length_le (by have := HL.out; omega)]; rfl, rfl⟩
    case round =>
      obtain ⟨m, I, hm, hI, rfl, rfl, rfl⟩ := hrel
      by_cases hlt : 0 < m
      · obtain ⟨b, o, rfl, hb, hc⟩ := hx.cells (by decide)
        obtain ⟨p, rfl⟩ : ∃ p, m = p + 1 := ⟨m - 1, by omega⟩
        obtain rfl : I = (p : Int) := by omega
        have c1 := hc p (by omega)
        have hd := le_drop zs p (by have := HL.out; omega)
        have hbd := le_drop_bd zs HB.out 1 (p + 1) HL.out (by decide) (by omega)
        have hz := HB.out.at p (by have := HL.out; omega)
        obtain ⟨Z, hZ⟩ : ∃ Z, zs.getD p 0 = Z := ⟨_, rfl⟩
        obtain ⟨A, hA⟩ : ∃ A, le (zs.drop (p + 1)) = A := ⟨_, rfl⟩
        rw [hZ] at c1 hd hz
        rw [hA] at hd hbd
        have HO : Hid (bits .or .u64 (A * 256) Z = le (zs.drop p)) := by show _ = _; rw [or_low A Z hbd hz, hd]
        have HA : Hid (le (zs.drop (p + 1)) = A) := hA
        rw [hA]
        have w1 : A * 256 % 18446744073709551616 = A * 256 := by omega
        have i1 : (0 : Int) ≤ (p : Int) := by omega
        have i2 : (p : Int) < 1 := by omega
        clear hZ hA hc hx hd hf
        go_wp2
        go_roundw
        case rel => exact ⟨p, (p : Int) - 1, by omega, by omega, by go_num, by rw [← HO.out], by first | rfl | trivial⟩
        case measure => simp [intOf] <;> omega
      · obtain rfl : m = 0 := by omega
        obtain rfl : I = -1 := by omega
        have hbd := le_bd zs HB.out
        rw [HL.out] at hbd
        have hbd' : 0 ≤ le zs ∧ le zs < 256 := by simpa using hbd
        rw [List.drop_zero]
        obtain ⟨A, hA⟩ : ∃ A, le zs = A := ⟨_, rfl⟩
        rw [hA] at hbd' ⊢
        have HA : Hid (le zs = A) := hA
        clear hx hf hbd hA
        go_wp2
        go_ret2
        exact ⟨by rw [HA.out]; rfl, rfl⟩
  · rw [leV_no zs hn]
    have hf := fits_8 ao n c t1 w
    have he : (fit n 1 != 0) = true := by
      rcases Nat.lt_or_gt_of_ne hn with h | h
      · rw [fit_short h]; rfl
      · rw [fit_rest h]; rfl
    generalize fit n 1 = E at *
    go_enter Tryd.func88, Tryd.ntmps88
    go_wp2_with (go_at_call 97; refine hf.mono ?_; rintro e w' ⟨rfl, rfl⟩)
    go_ret2
    exact ⟨rfl, rfl⟩
theorem little_32 (ao : Option Addr) (n c : Nat) (zs : List Int) (w : World) (hx : Seen w ao n zs) :
    Calls Tryd.prog 98 #[.slice ao n c] w fun e w' => e = .returned (.tuple #[.int .u32 (leV 4 n zs), .int .i64 (fit n 4)]) ∧ w = w' := by
  have t1 := hx.top
  by_cases hn : n = 4
  · subst hn
    have HL : Hid (zs.length = 4) := hx.len
    have HB : Hid (Bytes zs) := hx.bytes
    rw [leV_ok, fit_ok]
    have hf := fits_32 ao 4 c (by decide) w
    rw [fit_ok] at hf
    go_enter Tryd.func98, Tryd.ntmps98
    go_wp2_with (go_at_call 99; refine hf.mono ?_; rintro e w' ⟨rfl, rfl⟩)
    go_loopw [5, 6] (fun v i wr => ∃ (m : Nat) (I : Int), m ≤ 4 ∧ I + 1 = m ∧ i = .int .i64 I ∧ v = .int .u64 (le (zs.drop m)) ∧ wr = w) (fun _ i _ => (intOf i + 1).toNat)
    case atStart => exact ⟨4, 4 - 1, by omega, by omega, rfl, by rw [List.drop_of_length_le (by have := HL.out; omega)]; rfl, rfl⟩
    case round =>
      obtain ⟨m, I, hm, hI, rfl, rfl, rfl⟩ := hrel
      by_cases hlt : 0 < m
      · obtain ⟨b, o, rfl, hb, hc⟩ := hx.cells (by decide)
        obtain ⟨p, rfl⟩ : ∃ p, m = p + 1 := ⟨m - 1, by omega⟩
        obtain rfl : I = (p : Int) := by omega
        have c1 := hc p (by omega)
        have hd := le_drop zs p (by have := HL.out; omega)
        have hbd := le_drop_bd zs HB.out 4 (p + 1) HL.out (by decide) (by omega)
        have hz := HB.out.at p (by have := HL.out; omega)
        obtain ⟨Z, hZ⟩ : ∃ Z, zs.getD p 0 = Z := ⟨_, rfl⟩
        obtain ⟨A, hA⟩ : ∃ A, le (zs.drop (p + 1)) = A := ⟨_, rfl⟩
        rw [hZ] at c1 hd hz
        rw [hA] at hd hbd
        have HO : Hid (bits .or .u64 (A * 256) Z = le (zs.drop p)) := by show _ = _; rw [or_low A Z hbd hz, hd]
        have HA : Hid (le (zs.drop (p + 1)) = A) := hA
        rw [hA]
        have w1 : A * 256 % 18446744073709551616 = A * 256 := by omega
        have i1 : (0 : Int) ≤ (p : Int) := by omega
        have i2 : (p : Int) < 4 := by omega
        clear hZ hA hc hx hd hf
        go_wp2
        go_roundw
        case rel => exact ⟨p, (p : Int) - 1, by omega, by omega, by go_num, by rw [← HO.out], by first | rfl | trivial⟩
        case measure => simp [intOf] <;> omega
      · obtain rfl : m = 0 := by omega
        obtain rfl : I = -1 := by omega
        have hbd := le_bd zs HB.out
        rw [HL.out] at hbd
        have hbd' : 0 ≤ le zs ∧ le zs < 4294967296 := by simpa using hbd
        rw [List.drop_zero]
        obtain ⟨A, hA⟩ : ∃ A, le zs = A := ⟨_, rfl⟩
        rw [hA] at hbd' ⊢
        have HA : Hid (le zs = A) := hA
        clear hx hf hbd hA
        go_wp2
        go_ret2
        exact ⟨by rw [HA.out]; rfl, rfl⟩
  · rw [leV_no zs hn]
    have hf := fits_32 ao n c t1 w
    have he : (fit n 4 != 0) = true := by
      rcases Nat.lt_or_gt_of_ne hn with h | h
      · rw [fit_short h]; rfl
      · rw [fit_rest h]; rfl
    generalize fit n 4 = E at *
    go_enter Tryd.func98, Tryd.ntmps98
    go_wp2_with (go_at_call 99; refine hf.mono ?_; rintro e w' ⟨rfl, rfl⟩)
    go_ret2
    exact ⟨rfl, rfl⟩
end Go.Proofs.YtmgkjldjeomcmaaDoor
