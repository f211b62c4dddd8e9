/- Layer octet: Big, PutBig at each type; the statements' little, big, putLittle, putBig, cut. -/
import Derived.Test.YtgcpckkhkppnhaaOUnhex
namespace Go.Proofs.Ytgcpckkhkppnhaa
open Go.RowKit
set_option linter.unusedVariables false
set_option linter.unusedSimpArgs false

theorem le_rev (zs : List Int) (k : Nat) (hk : k < zs.length) : le (zs.take (k + 1)).reverse = zs.getD k 0 + 256 * le (zs.take k).reverse := by
  have e : zs.getD k 0 = zs[k] := by simp [List.getD, hk]
  rw [List.take_succ_eq_append_getElem hk, List.reverse_append, List.reverse_singleton, List.singleton_append, e]
  rfl
theorem le_rev_bd (zs : List Int) (h : Bytes zs) (k : Nat) (hk : k ≤ 7) : 0 ≤ le (zs.take k).reverse ∧ le (zs.take k).reverse * 256 < 18446744073709551616 := by
  have b := le_bd _ (bytes_rev (bytes_take h k))
  have hle : (256 : Int) ^ ((zs.take k).reverse).length ≤ 256 ^ 7 := by
    have : 256 ^ ((zs.take k).reverse).length ≤ 256 ^ 7 := Nat.pow_le_pow_right (by decide) (by simp; omega)
    show ((256 : Nat) : Int) ^ _ ≤ ((256 : Nat) : Int) ^ 7
    rw [← Int.natCast_pow, ← Int.natCast_pow]
    exact Int.ofNat_le.2 this
  omega
theorem rev_at (l : List Int) (K m : Nat) (hl : l.length = K) (hm : m < K) : l.reverse.getD m 0 = l.getD (K - 1 - m) 0 := by
  subst hl
  have h : l.length - 1 - m < l.length := by omega
  simp [List.getD, hm, List.getElem?_reverse, h]
theorem leB_mod (k : Nat) (x : Int) : leB k (x % 256 ^ k) = leB k x := by
  have h := leB_le (leB k x) (leB_bytes k x)
  rw [leB_length, le_leB] at h
  exact h


/-! ### The statements' own roads, by the number of bytes -/
abbrev Width (k : Nat) : Prop := k = 1 ∨ k = 2 ∨ k = 4 ∨ k = 8
theorem leV_bd (k n : Nat) (hk : k ≤ 8) (zs : List Int) (h : Bytes zs) (hl : zs.length = n) : 0 ≤ leV k n zs ∧ leV k n zs < 256 ^ k := by
  unfold leV
  split
  · next h1 => have := le_bd zs h; rw [hl, h1] at this; exact this
  · exact ⟨Int.le_refl _, Int.pow_pos (by decide)⟩
theorem cut_any (x : Int) (hx : Word x) (k : Nat) (hk : Width k) (w : World) :
    Calls Try.prog 30 #[.int .u64 x, .int .i64 k] w fun e w' => e = .returned (.int .u64 (x % 256 ^ k)) ∧ w = w' := by
  rcases hk with rfl | rfl | rfl | rfl
  · go_enter Try.func30, Try.ntmps30
    go_wp2
    go_ret
    exact ⟨ret_int (by rfl), rfl⟩
  · go_enter Try.func30, Try.ntmps30
    go_wp2
    go_ret
    exact ⟨ret_int (by rfl), rfl⟩
  · go_enter Try.func30, Try.ntmps30
    go_wp2
    go_ret
    exact ⟨ret_int (by rfl), rfl⟩
  · have e : x % 256 ^ 8 = x := by have h := hx; simp only [Word] at h; omega
    rw [e]
    go_enter Try.func30, Try.ntmps30
    go_wp2
    go_ret
    exact ⟨rfl, rfl⟩
end Go.Proofs.Ytgcpckkhkppnhaa
