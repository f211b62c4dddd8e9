/- Layer stream: Xor, of a stream and all at once. -/
import Derived.Test.YtpjnimmclncdoaaSLay
namespace Go.Proofs.Ytpjnimmclncdoaa
open Go.RowKit
set_option linter.unusedVariables false
set_option linter.unusedSimpArgs false

set_option maxRecDepth 20000 in
theorem sxor_nil (ao : Option Addr) (n c : Nat) (w : World) : Calls Try.prog 9 #[.pointer none, .slice ao n c] w fun e w' => e = .returned (.tuple #[.slice none 0 0, .int .i64 1]) ∧ w = w' := by
  go_enter Try.func9, Try.ntmps9
  go_wp2_with (go_at_call 15; refine (check_nil n _).mono ?_; rintro e w' ⟨rfl, rfl⟩)
  go_ret2
  exact ⟨rfl, rfl⟩
theorem sxor_bad (g : Nat) (key nonce : List Int) (P n c : Nat) (ao : Option Addr) (hn : n ≤ 140737488355328) (hc : 274877906944 < n + P) (w : World) (h : StAt w g key nonce P) :
    Calls Try.prog 9 #[.pointer (some ⟨g, 0, none⟩), .slice ao n c] w fun e w' => e = .returned (.tuple #[.slice none 0 0, .int .i64 50]) ∧ w = w' := by
  have hk := check_any g key nonce P n (by omega) w h
  rw [chk_over (by omega) (by omega)] at hk
  clear h
  go_enter Try.func9, Try.ntmps9
  go_wp2_with (go_at_call 15; refine hk.mono ?_; rintro e w' ⟨rfl, rfl⟩)
  go_ret2
  exact ⟨rfl, rfl⟩
set_option maxRecDepth 20000 in
set_option maxHeartbeats 1000000 in
theorem sxor_any (g : Nat) (key nonce : List Int) (P n c : Nat) (ao : Option Addr) (zs : List Int) (hc : n + P ≤ 274877906944) (w : World) (h : StAt w g key nonce P) (hx : Seen w ao n zs) :
    Calls Try.prog 9 #[.pointer (some ⟨g, 0, none⟩), .slice ao n c] w fun e w' => ∃ v, e = .returned (.tuple #[v, .int .i64 0]) ∧ w'.ownsRow w.heap.size 5 1 v n ((over key nonce P zs).map (Value.int .u8)) ∧ StAt w' g key nonce (P + n) ∧ Kept (fun b => b = g) w w' := by
  have hk := check_any g key nonce P n (by omega) w h
  rw [chk_ok (by omega) (by omega)] at hk
  have HX : Hid (Seen w ao n zs ∧ StAt w g key nonce P) := ⟨hx, h⟩
  clear h hx
  go_enter Try.func9, Try.ntmps9
  go_wp2_with (first | (go_at_call 15; refine hk.mono ?_; rintro e w' ⟨rfl, rfl⟩) | (go_at_call 16; refine (clone_any ao n c zs _ HX.out.1).mono ?_; rintro e w1 ⟨v, rfl, o1, l1⟩; rcases own_len HX.out.1.len o1 with ⟨rfl, hn0⟩ | ⟨r, cap, rfl, r1, g1, c1, m1⟩))
  · subst hn0
    have hz : zs = [] := List.length_eq_zero_iff.1 HX.out.1.len
    subst hz
    go_loopw [8] (fun v wr => v = .slice none 0 0 ∧ wr = w1) (fun _ _ => 0)
    case atStart => exact ⟨rfl, rfl⟩
    case round =>
      obtain ⟨rfl, rfl⟩ := hrel
      have HL : Hid (Below w.heap.size w wr) := l1
      clear l1 o1
      go_wp2_with fail
      go_ret2
      exact ⟨_, rfl, World.ownsRow_nil _ _ _ _, HX.out.2.later HL.out HX.out.2.lt, Kept.new _ HL.out⟩
  · have HL : Hid (Below w.heap.size w w1 ∧ RowC w1 r cap zs ∧ StAt w1 g key nonce P ∧ g ≠ r ∧ w.heap.size ≤ r ∧ cap ≤ maxLen) := ⟨l1, RowC.of_own o1, HX.out.2.later l1 HX.out.2.lt, by have := HX.out.2.lt; omega, g1, m1⟩
    have HN : Hid (zs.length = n ∧ Bytes zs) := ⟨HX.out.1.len, HX.out.1.bytes⟩
    clear o1 l1 r1 g1 m1
    go_loopw [8] (fun v wr => ∃ (k M C : Nat) (ro : Option Addr), k + M = n ∧ M ≤ C ∧ v = .slice ro M C ∧ (0 < M → ro = some ⟨r, k, none⟩) ∧ RowC wr r cap ((over key nonce P zs).take k ++ zs.drop k) ∧ StAt wr g key nonce (P + k) ∧ Kept (fun b => b = g ∨ b = r) w1 wr) (fun v _ => match v with | .slice _ m _ => m | _ => 0)
    case atStart => exact ⟨0, n, cap, some ⟨r, 0, none⟩, by omega, c1, rfl, fun _ => rfl, by simpa using HL.out.2.1, HL.out.2.2.1, Kept.refl _ _⟩
    case round =>
      obtain ⟨k, M, C, ro, hkM, hMC, rfl, hro, hrow, hst, hkp⟩ := hrel
      by_cases hM : 0 < M
      · obtain rfl := hro hM
        have X0 : Hid (RowC wr r cap ((over key nonce P zs).take k ++ zs.drop k) ∧ StAt wr g key nonce (P + k) ∧ Kept (fun b => b = g ∨ b = r) w1 wr) := ⟨hrow, hst, hkp⟩
        clear hrow hst hkp hro
        have i1 : (0 : Int) < (M : Int) := by omega
        have hly := lay_any g r key nonce zs P k n M C cap HN.out.1 (by omega) (by omega) (by omega) HL.out.2.2.2.1 HN.out.2 hMC wr X0.out.2.1 X0.out.1
        go_wp2_with (go_at_call 17; refine hly.mono ?_; rintro e w2 ⟨i, rfl, hi0, hik, st2, row2, k2⟩; have hsl := sl_l (some ⟨r, k, none⟩) M C i (by omega); have X2 : Hid (RowC w2 r cap ((over key nonce P zs).take (k + i) ++ zs.drop (k + i)) ∧ StAt w2 g key nonce (P + (k + i)) ∧ Kept (fun b => b = g ∨ b = r) w1 w2) := ⟨row2, st2, X0.out.2.2.trans k2⟩; clear row2 st2 k2)
        refine ⟨⟨k + i, M - i, C - i, subA (some ⟨r, k, none⟩) i C, by omega, by omega, rfl, fun h => ?_, X2.out⟩, by simp; omega⟩
        unfold subA
        rw [if_neg (by omega)]
        exact congrArg some (add_mid r k i)
      · obtain rfl : M = 0 := by omega
        obtain rfl : k = n := by omega
        have hlo : (over key nonce P zs).length = k := (over_length _ _ _ _).trans HN.out.1
        rw [List.take_of_length_le (by omega), List.drop_eq_nil_of_le (by have := HN.out.1; omega), List.append_nil] at hrow
        have X0 : Hid (RowC wr r cap (over key nonce P zs) ∧ StAt wr g key nonce (P + k) ∧ Kept (fun b => b = g ∨ b = r) w1 wr ∧ (over key nonce P zs).length = k) := ⟨hrow, hst, hkp, hlo⟩
        clear hrow hst hkp hro hlo
        go_wp2_with fail
        go_ret2
        refine ⟨_, rfl, X0.out.1.own X0.out.2.2.2 HL.out.2.2.2.2.1 HL.out.2.2.2.2.2, X0.out.2.1, ?_⟩
        have kk := X0.out.2.2.1
        have hb := HL.out.1
        exact ⟨by rw [kk.os, hb.os], by rw [kk.tape, hb.tape], by rw [kk.output, hb.output], Nat.le_trans hb.size kk.size, fun b hlt hne => by
          rw [kk.block b (Nat.lt_of_lt_of_le hlt hb.size) (by have := HL.out.2.2.2.2.1; omega), hb.block b hlt]⟩
end Go.Proofs.Ytpjnimmclncdoaa
