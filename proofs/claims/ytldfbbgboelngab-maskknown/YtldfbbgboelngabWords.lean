/- Layer mask, words: what each call on words answers, for every word. -/
import Derived.Test.YtldfbbgboelngabRows
import Derived.Test.YtldfbbgboelngabPlain
import Derived.WalkKit
import Derived.WalkSpells
import Derived.Shelf.Spec.BitsCarry
namespace Go.Proofs.Ytldfbbgboelngab
open Go.RowKit

abbrev Word (x : Int) : Prop := 0 ≤ x ∧ x < 18446744073709551616
theorem word_of_wf {x : Int} (h : (Lit.int .u64 x).wf = true) : Word x := by
  simp [Lit.wf, IntKind.min, IntKind.max, IntKind.signed, IntKind.bits] at h
  exact ⟨by omega, by omega⟩
theorem ret_int {k : IntKind} {a b : Int} (h : a = b) : Ending.returned (.int k a) = .returned (.int k b) := by rw [h]

theorem bit_any (x : Int) (hx : Word x) (w : World) :
    Calls Try.prog 24 #[.int .u64 x] w fun e w' => e = .returned (.int .u64 (mk (x % 2 == 1))) ∧ w' = w := by
  have H : Hid (IntKind.u64.wrap (wrap64 (-wrap64 (bits .and .u64 x 1))) = mk (x % 2 == 1)) := bit_code x hx
  go_enter Try.func24, Try.ntmps24
  go_wp2
  go_ret
  exact ⟨ret_int H.out, rfl⟩

theorem zero_any (x : Int) (hx : Word x) (w : World) :
    Calls Try.prog 9 #[.int .u64 x] w fun e w' => e = .returned (.int .u64 (mk (x == 0))) ∧ w' = w := by
  have hb : Word (bits .or .u64 x (IntKind.u64.wrap (-x)) / 9223372036854775808) := by rw [top_code x hx]; split <;> decide
  have H : Hid (bits .xor .u64 IntKind.u64.max (mk (bits .or .u64 x (IntKind.u64.wrap (-x)) / 9223372036854775808 % 2 == 1)) = mk (x == 0)) := by
    show _ = _
    rw [not_mk, top_code x hx]
    by_cases h : x = 0
    · simp [h]
    · have h' : (x == 0) = false := by simpa using h
      simp [h, h']
  go_enter Try.func9, Try.ntmps9
  go_wp2_with (go_at_call 24; refine (bit_any _ hb _).mono ?_; rintro e w' ⟨rfl, rfl⟩)
  go_ret
  exact ⟨ret_int H.out, rfl⟩

theorem equal_any (x y : Int) (hx : Word x) (hy : Word y) (w : World) :
    Calls Try.prog 7 #[.int .u64 x, .int .u64 y] w fun e w' => e = .returned (.int .u64 (mk (x == y))) ∧ w' = w := by
  have hb : Word (bits .xor .u64 x y) := xor_bd x y hx hy
  have H : Hid ((bits .xor .u64 x y == 0) = (x == y)) := xor_zero_iff x y hx hy
  go_enter Try.func7, Try.ntmps7
  go_wp2_with (go_at_call 9; refine (zero_any _ hb _).mono ?_; rintro e w' ⟨rfl, rfl⟩)
  go_ret
  exact ⟨ret_int (by rw [H.out]), rfl⟩

def bor (x y : Int) : Int := if x < y then 1 else 0
theorem sub64_0 (x y : Int) (hx : Word x) (hy : Word y) (w : World) : (callFunc 23 #[.int .u64 x, .int .u64 y, .int .u64 0]).run Try.prog w =
    .ok (.value (.tuple #[.int .u64 ((x - y) % 18446744073709551616), .int .u64 (bor x y)])) w := by
  obtain ⟨h1, h2⟩ := hx
  obtain ⟨h3, h4⟩ := hy
  obtain ⟨x, rfl⟩ := Int.eq_ofNat_of_zero_le h1
  obtain ⟨y, rfl⟩ := Int.eq_ofNat_of_zero_le h3
  rw [run_callFunc_extern Try.func23 (by kernel_rfl) (by kernel_rfl) (by kernel_rfl) (e := sub64Entry) (by kernel_rfl)]
  have e0 : (Value.int .u64 0) = .int .u64 ((0 : Nat) : Int) := rfl
  rw [e0, run_sub64 x y 0 (by decide)]
  have e1 : (((x + 18446744073709551616 - y - 0) % 18446744073709551616 : Nat) : Int) = ((x : Int) - y) % 18446744073709551616 := by omega
  have e2 : ((if x < y + 0 then 1 else 0 : Nat) : Int) = bor x y := by unfold bor; split <;> split <;> omega
  rw [e1, e2]
  rfl

theorem less_any (x y : Int) (hx : Word x) (hy : Word y) (w : World) :
    Calls Try.prog 6 #[.int .u64 x, .int .u64 y] w fun e w' => e = .returned (.int .u64 (mk (decide (x < y)))) ∧ w' = w := by
  have hb : Word (bor x y) := by unfold bor; split <;> decide
  have H : Hid ((bor x y % 2 == 1) = decide (x < y)) := by show _ = _; unfold bor; split <;> simp [*]
  go_enter Try.func6, Try.ntmps6
  go_wp2_with (first | simp only [sub64_0 x y hx hy] | (go_at_call 24; refine (bit_any _ hb _).mono ?_; rintro e w' ⟨rfl, rfl⟩))
  go_ret
  exact ⟨ret_int (by rw [H.out]), rfl⟩

theorem ch64_any (m x y : Int) (hm : Word m) (hx : Word x) (hy : Word y) (w : World) :
    Calls Try.prog 34 #[.int .u64 m, .int .u64 x, .int .u64 y] w fun e w' => e = .returned (.int .u64 (pk m x y)) ∧ w' = w := by
  have H : Hid (bits .xor .u64 y (bits .and .u64 (bits .xor .u64 x y) m) = pk m x y) := choose_u64 m x y hm hx hy
  go_enter Try.func34, Try.ntmps34
  go_wp2
  go_ret
  exact ⟨ret_int H.out, rfl⟩
theorem ch8_any (m x y : Int) (hm : Word m) (hx : 0 ≤ x ∧ x < 256) (hy : 0 ≤ y ∧ y < 256) (w : World) :
    Calls Try.prog 28 #[.int .u64 m, .int .u8 x, .int .u8 y] w fun e w' => e = .returned (.int .u8 (pk m x y)) ∧ w' = w := by
  have H : Hid (bits .xor .u8 y (bits .and .u8 (bits .xor .u8 x y) (m % 256)) = pk m x y) := choose_u8 m x y hm hx hy
  go_enter Try.func28, Try.ntmps28
  go_wp2
  go_ret
  exact ⟨ret_int H.out, rfl⟩
theorem chi8_works (w : World) :
    Calls Try.prog 26 #[.int .u64 240, .int .i8 (-1), .int .i8 7] w fun e w' => e = .returned (.int .i8 (-9)) ∧ w' = w := by
  go_enter Try.func26, Try.ntmps26
  go_wp2
  go_ret
  exact ⟨ret_int (by decide), rfl⟩

theorem pick_any (m x y : Int) (hm : Word m) (hx : Word x) (hy : Word y) (w : World) :
    Calls Try.prog 25 #[.int .u64 m, .int .u64 x, .int .u64 y] w fun e w' => e = .returned (.int .u64 (pk m x y)) ∧ w' = w := by
  go_enter Try.func25, Try.ntmps25
  go_wp2_with (go_at_call 34; refine (ch64_any _ _ _ hm hx hy _).mono ?_; rintro e w' ⟨rfl, rfl⟩)
  go_ret
  exact ⟨rfl, rfl⟩
theorem ex64_any (m x y : Int) (hm : Word m) (hx : Word x) (hy : Word y) (w : World) :
    Calls Try.prog 52 #[.int .u64 m, .int .u64 x, .int .u64 y] w fun e w' => e = .returned (.tuple #[.int .u64 (pk m y x), .int .u64 (pk m x y)]) ∧ w' = w := by
  go_enter Try.func52, Try.ntmps52
  go_wp2_with (go_at_call 34; refine (ch64_any _ _ _ hm (by assumption) (by assumption) _).mono ?_; rintro e w' ⟨rfl, rfl⟩)
  go_ret2
  exact ⟨rfl, rfl⟩
theorem ex8_any (m x y : Int) (hm : Word m) (hx : 0 ≤ x ∧ x < 256) (hy : 0 ≤ y ∧ y < 256) (w : World) :
    Calls Try.prog 27 #[.int .u64 m, .int .u8 x, .int .u8 y] w fun e w' => e = .returned (.tuple #[.int .u8 (pk m y x), .int .u8 (pk m x y)]) ∧ w' = w := by
  go_enter Try.func27, Try.ntmps27
  go_wp2_with (go_at_call 28; refine (ch8_any _ _ _ hm (by assumption) (by assumption) _).mono ?_; rintro e w' ⟨rfl, rfl⟩)
  go_ret2
  exact ⟨rfl, rfl⟩
theorem swap_any (m x y : Int) (hm : Word m) (hx : Word x) (hy : Word y) (w : World) :
    Calls Try.prog 30 #[.int .u64 m, .int .u64 x, .int .u64 y] w fun e w' => e = .returned (.tuple #[.int .u64 (pk m y x), .int .u64 (pk m x y)]) ∧ w' = w := by
  go_enter Try.func30, Try.ntmps30
  go_wp2_with (go_at_call 52; refine (ex64_any _ _ _ hm hx hy _).mono ?_; rintro e w' ⟨rfl, rfl⟩)
  go_ret2
  exact ⟨rfl, rfl⟩

theorem rmask_any (p : Bool) (w : World) :
    Calls Try.prog 29 #[.bool p] w fun e w' => e = .returned (.int .u64 (mk p)) ∧ w' = w := by
  cases p
  all_goals
    go_enter Try.func29, Try.ntmps29
    go_wp2
    go_ret
    exact ⟨rfl, rfl⟩
theorem rbit_any (x : Int) (k : Nat) (hx : Word x) (hk : k < 64) (w : World) :
    Calls Try.prog 53 #[.int .u64 x, .int .i64 k] w fun e w' => e = .returned (.int .u64 (bitI x k)) ∧ w' = w := by
  have h0 : 0 ≤ x / 2 ^ k := Int.ediv_nonneg hx.1 (Int.le_of_lt (Int.pow_pos (by decide)))
  have H : Hid (bitI x k = x / 2 ^ k % 2) := rfl
  have e : Hid (min (IntKind.u64.wrap (k : Int)).toNat 64 = k) := by show _ = _; rw [IntKind.wrap_u64]; omega
  go_enter Try.func53, Try.ntmps53
  go_wp2
  go_ret
  refine ⟨ret_int ?_, rfl⟩
  first
    | (rw [H.out, e.out, Int.tmod_eq_emod_of_nonneg h0])
    | (rw [H.out, e.out])
    | (rw [H.out, Int.tmod_eq_emod_of_nonneg h0])
    | exact H.out.symm

/-- The document's pick: the loop over the 64 bits. -/
theorem round_sum (m x y : Int) (hm : Word m) (hx : Word x) (hy : Word y) (k : Nat) (hk : k < 64) (b : Int) (hb : b = if bitI m k = 1 then bitI x k else bitI y k) :
    IntKind.u64.wrap (part m x y k + IntKind.u64.wrap (b * 2 ^ k)) = part m x y (k + 1) := by
  subst hb
  have h1 := part_succ m x y hm.1 hx.1 hy.1 k
  have h2 := part_bd m x y (k + 1)
  have h3 := part_bd m x y k
  have h4 : (2 : Int) ^ (k + 1) ≤ 2 ^ 64 := by
    have : (2 : Nat) ^ (k + 1) ≤ 2 ^ 64 := Nat.pow_le_pow_right (by decide) (by omega)
    exact_mod_cast this
  rw [IntKind.wrap_u64, IntKind.wrap_u64]
  generalize (if bitI m k = 1 then bitI x k else bitI y k) * 2 ^ k = c at h1 ⊢
  omega
set_option maxHeartbeats 1000000 in
theorem rpick_any (m x y : Int) (hm : Word m) (hx : Word x) (hy : Word y) (w : World) :
    Calls Try.prog 31 #[.int .u64 m, .int .u64 x, .int .u64 y] w fun e w' => e = .returned (.int .u64 (pk m x y)) ∧ w' = w := by
  have HA : Hid (part m x y 64 = pk m x y) := part_all m x y hx hy
  go_enter Try.func31, Try.ntmps31
  go_wp2
  go_loop [7, 8] (fun o i => ∃ k : Nat, k ≤ 64 ∧ i = .int .i64 k ∧ o = .int .u64 (part m x y k)) (fun _ i => 64 - (intOf i).toNat)
  case atStart => exact ⟨0, Nat.zero_le _, rfl, by rw [part_zero]⟩
  case round =>
    obtain ⟨k, hk, rfl, rfl⟩ := hrel
    by_cases hlt : k < 64
    · rcases bitI_01 m k with h | h
      · have hh : Hid (bitI m k = 0) := h
        have H := round_sum m x y hm hx hy k hlt _ rfl
        rw [if_neg (by omega)] at H
        have HS : Hid (IntKind.u64.wrap (part m x y k + IntKind.u64.wrap (bitI y k * 2 ^ k)) = part m x y (k + 1)) := H
        clear H h
        have h : (bitI m k == 1) = false := by rw [hh.out]; rfl
        go_wp2_with (go_at_call 53; refine (rbit_any _ k (by assumption) hlt _).mono ?_; rintro e w' ⟨rfl, rfl⟩)
        go_round
        case rel => exact ⟨k + 1, by omega, by go_num, by rw [HS.out]⟩
        case measure => simp [intOf]; omega
      · have hh : Hid (bitI m k = 1) := h
        have H := round_sum m x y hm hx hy k hlt _ rfl
        rw [if_pos h] at H
        have HS : Hid (IntKind.u64.wrap (part m x y k + IntKind.u64.wrap (bitI x k * 2 ^ k)) = part m x y (k + 1)) := H
        clear H h
        have h : (bitI m k == 1) = true := by rw [hh.out]; rfl
        go_wp2_with (go_at_call 53; refine (rbit_any _ k (by assumption) hlt _).mono ?_; rintro e w' ⟨rfl, rfl⟩)
        go_round
        case rel => exact ⟨k + 1, by omega, by go_num, by rw [HS.out]⟩
        case measure => simp [intOf]; omega
    · have e : k = 64 := by omega
      subst e
      go_wp2
      go_ret
      exact ⟨ret_int HA.out, rfl⟩
end Go.Proofs.Ytldfbbgboelngab
