/- Layer mask, for record: Bit, Less, Zero, Equal, Pick, Before. -/
import Derived.Test.YtabdjoljdefjdaaSBase
import Derived.Test.YtabdjoljdefjdaaListPlain
import Derived.Shelf.Spec.BitsCarry
namespace Go.Proofs.Ytabdjoljdefjdaa
open Go.RowKit
set_option linter.unusedVariables false
set_option linter.unusedSimpArgs false

theorem bit_any (x : Int) (hx : Word x) (w : World) :
    Calls Try.prog 53 #[.int .u64 x] w fun e w' => e = .returned (.int .u64 (mk (x % 2 == 1))) ∧ w' = w := by
  have H : Hid (IntKind.u64.wrap (wrap64 (-wrap64 (bits .and .u64 x 1))) = mk (x % 2 == 1)) := bit_code x hx
  go_enter Try.func53, Try.ntmps53
  go_wp2
  go_ret
  exact ⟨ret_int H.out, rfl⟩

theorem zero_any (x : Int) (hx : Word x) (w : World) :
    Calls Try.prog 62 #[.int .u64 x] w fun e w' => e = .returned (.int .u64 (mk (x == 0))) ∧ w' = w := by
  have hb : Word (bits .or .u64 x (IntKind.u64.wrap (-x)) / 9223372036854775808) := by rw [top_code x hx]; split <;> decide
  have H : Hid (bits .xor .u64 IntKind.u64.max (mk (bits .or .u64 x (IntKind.u64.wrap (-x)) / 9223372036854775808 % 2 == 1)) = mk (x == 0)) := by
    show _ = _
    rw [not_mk, top_code x hx]
    by_cases h : x = 0
    · simp [h]
    · have h' : (x == 0) = false := by simpa using h
      simp [h, h']
  go_enter Try.func62, Try.ntmps62
  go_wp2_with (go_at_call 53; refine (bit_any _ hb _).mono ?_; rintro e w' ⟨rfl, rfl⟩)
  go_ret
  exact ⟨ret_int H.out, rfl⟩

theorem equal_any (x y : Int) (hx : Word x) (hy : Word y) (w : World) :
    Calls Try.prog 55 #[.int .u64 x, .int .u64 y] w fun e w' => e = .returned (.int .u64 (mk (x == y))) ∧ w' = w := by
  have hb : Word (bits .xor .u64 x y) := xor_bd x y hx hy
  have H : Hid ((bits .xor .u64 x y == 0) = (x == y)) := xor_zero_iff x y hx hy
  go_enter Try.func55, Try.ntmps55
  go_wp2_with (go_at_call 62; refine (zero_any _ hb _).mono ?_; rintro e w' ⟨rfl, rfl⟩)
  go_ret
  exact ⟨ret_int (by rw [H.out]), rfl⟩

def bor (x y : Int) : Int := if x < y then 1 else 0
theorem sub64_0 (x y : Int) (hx : Word x) (hy : Word y) (w : World) : (callFunc 60 #[.int .u64 x, .int .u64 y, .int .u64 0]).run Try.prog w =
    .ok (.value (.tuple #[.int .u64 ((x - y) % 18446744073709551616), .int .u64 (bor x y)])) w := by
  obtain ⟨h1, h2⟩ := hx
  obtain ⟨h3, h4⟩ := hy
  obtain ⟨x, rfl⟩ := Int.eq_ofNat_of_zero_le h1
  obtain ⟨y, rfl⟩ := Int.eq_ofNat_of_zero_le h3
  rw [run_callFunc_extern Try.func60 (by kernel_rfl) (by kernel_rfl) (by kernel_rfl) (e := sub64Entry) (by kernel_rfl)]
  have e0 : (Value.int .u64 0) = .int .u64 ((0 : Nat) : Int) := rfl
  rw [e0, run_sub64 x y 0 (by decide)]
  have e1 : (((x + 18446744073709551616 - y - 0) % 18446744073709551616 : Nat) : Int) = ((x : Int) - y) % 18446744073709551616 := by omega
  have e2 : ((if x < y + 0 then 1 else 0 : Nat) : Int) = bor x y := by unfold bor; split <;> split <;> omega
  rw [e1, e2]
  rfl

theorem less_any (x y : Int) (hx : Word x) (hy : Word y) (w : World) :
    Calls Try.prog 52 #[.int .u64 x, .int .u64 y] w fun e w' => e = .returned (.int .u64 (mk (decide (x < y)))) ∧ w' = w := by
  have hb : Word (bor x y) := by unfold bor; split <;> decide
  have H : Hid ((bor x y % 2 == 1) = decide (x < y)) := by show _ = _; unfold bor; split <;> simp [*]
  go_enter Try.func52, Try.ntmps52
  go_wp2_with (first | simp only [sub64_0 x y hx hy] | (go_at_call 53; refine (bit_any _ hb _).mono ?_; rintro e w' ⟨rfl, rfl⟩))
  go_ret
  exact ⟨ret_int (by rw [H.out]), rfl⟩

theorem ch64_any (m x y : Int) (hm : Word m) (hx : Word x) (hy : Word y) (w : World) :
    Calls Try.prog 61 #[.int .u64 m, .int .u64 x, .int .u64 y] w fun e w' => e = .returned (.int .u64 (pk m x y)) ∧ w' = w := by
  have H : Hid (bits .xor .u64 y (bits .and .u64 (bits .xor .u64 x y) m) = pk m x y) := choose_u64 m x y hm hx hy
  go_enter Try.func61, Try.ntmps61
  go_wp2
  go_ret
  exact ⟨ret_int H.out, rfl⟩
theorem pick_any (m x y : Int) (hm : Word m) (hx : Word x) (hy : Word y) (w : World) :
    Calls Try.prog 54 #[.int .u64 m, .int .u64 x, .int .u64 y] w fun e w' => e = .returned (.int .u64 (pk m x y)) ∧ w' = w := by
  go_enter Try.func54, Try.ntmps54
  go_wp2_with (go_at_call 61; refine (ch64_any _ _ _ hm hx hy _).mono ?_; rintro e w' ⟨rfl, rfl⟩)
  go_ret
  exact ⟨rfl, rfl⟩
theorem before_step (xs ys : List Int) (k : Nat) (hx : k < xs.length) (hy : k < ys.length) (bx : Bytes xs) (by' : Bytes ys) :
    pk (mk (xs.getD k 0 == ys.getD k 0)) (mk (bef (xs.drop (k + 1)) (ys.drop (k + 1)))) (mk (decide (xs.getD k 0 < ys.getD k 0))) = mk (bef (xs.drop k) (ys.drop k)) := by
  rw [bef_drop xs ys k hx hy]
  by_cases h : xs.getD k 0 = ys.getD k 0
  · have e : (xs.getD k 0 == ys.getD k 0) = true := by rw [h]; simp
    rw [if_pos h, e, mk_true, pk_ones _ _ (mk_bd _) (mk_bd _)]
  · have e : (xs.getD k 0 == ys.getD k 0) = false := by simpa using h
    rw [if_neg h, e, mk_false, pk_zero _ _ (mk_bd _).1]

set_option maxHeartbeats 1000000 in
theorem before_any (ao bo : Option Addr) (n n' c c' : Nat) (xs ys : List Int) (w : World) (hx : Seen w ao n xs) (hy : Seen w bo n' ys) :
    Calls Try.prog 46 #[.slice ao n c, .slice bo n' c'] w fun e w' => e = .returned (.int .u64 (mk (bef xs ys))) ∧ ∃ q, w' = w.drewN q := by
  have t1 := hx.top
  have t2 := hy.top
  have HL : Hid (xs.length = n ∧ ys.length = n') := ⟨hx.len, hy.len⟩
  go_enter Try.func46, Try.ntmps46
  go_wp2_with (first | (go_at_call 52; refine (less_any _ _ ⟨by omega, by omega⟩ ⟨by omega, by omega⟩ _).mono ?_; rintro e w ⟨rfl, rfl⟩))
  all_goals
    go_loopw [5, 6] (fun b i wr => ∃ k : Nat, k ≤ min n n' ∧ i = .int .i64 ((k : Int) - 1) ∧ b = .int .u64 (mk (bef (xs.drop k) (ys.drop k))) ∧ ∃ q, wr = w.drewN q) (fun _ i _ => (intOf i + 1).toNat)
    case atStart =>
      refine ⟨min n n', Nat.le_refl _, ?_, ?_, 0, rfl⟩
      · congr 1; omega
      · congr 1; rw [bef_end _ _ _ (by rw [HL.out.1, HL.out.2]), HL.out.1, HL.out.2]
    case round =>
      obtain ⟨k, hk, rfl, rfl, q, rfl⟩ := hrel
      cases k with
      | zero =>
        go_wp2
        go_ret
        exact ⟨ret_int (by simp), _, rfl⟩
      | succ j =>
        have ej : (((j + 1 : Nat) : Int) - 1) = (j : Int) := by omega
        rw [ej]
        obtain ⟨b, o, rfl, hb, hc⟩ := hx.cells (by omega)
        obtain ⟨b', o', rfl, hb', hc'⟩ := hy.cells (by omega)
        have c1 := hc j (by omega)
        have c2 := hc' j (by omega)
        have l1 : j < xs.length := by have := HL.out.1; omega
        have l2 : j < ys.length := by have := HL.out.2; omega
        have HT := before_step xs ys j l1 l2 hx.bytes hy.bytes
        have bX := hx.bytes.at j l1
        have bY := hy.bytes.at j l2
        obtain ⟨X, hX⟩ : ∃ X, xs.getD j 0 = X := ⟨_, rfl⟩
        obtain ⟨Y, hY⟩ : ∃ Y, ys.getD j 0 = Y := ⟨_, rfl⟩
        obtain ⟨P, hP⟩ : ∃ P, bef (xs.drop (j + 1)) (ys.drop (j + 1)) = P := ⟨_, rfl⟩
        rw [hX] at c1 bX HT
        rw [hY] at c2 bY HT
        rw [hP] at HT ⊢
        have HH : Hid (pk (mk (X == Y)) (mk P) (mk (decide (X < Y))) = mk (bef (xs.drop j) (ys.drop j))) := HT
        have wX : Word X := ⟨by omega, by omega⟩
        have wY : Word Y := ⟨by omega, by omega⟩
        have i1 : (0 : Int) ≤ (j : Int) := by omega
        have i2 : (j : Int) < (n : Int) := by omega
        have i3 : (j : Int) < (n' : Int) := by omega
        clear hX hY hP hc hc' hx hy HT hb hb' l1 l2 ej
        go_wp2
        go_quiet (fail)
        go_wp2_with (first | (go_at_call 52; refine (less_any _ _ wX wY _).mono ?_; rintro e w ⟨rfl, rfl⟩) | (go_at_call 55; refine (equal_any _ _ wX wY _).mono ?_; rintro e w ⟨rfl, rfl⟩) | (go_at_call 54; refine (pick_any _ _ _ (mk_bd _) (mk_bd _) (mk_bd _) _).mono ?_; rintro e w ⟨rfl, rfl⟩))
        go_roundw
        case rel => exact ⟨j, by omega, rfl, by rw [HH.out], _, rfl⟩
        case measure => simp [intOf]

end Go.Proofs.Ytabdjoljdefjdaa
