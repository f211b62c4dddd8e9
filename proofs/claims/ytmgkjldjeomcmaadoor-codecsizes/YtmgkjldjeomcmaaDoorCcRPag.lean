/- Layer codec: the document's pages. -/
import Derived.Test.YtmgkjldjeomcmaaDoorCcPgM
namespace Go.Proofs.YtmgkjldjeomcmaaDoor
open Go.RowKit
set_option linter.unusedVariables false
set_option linter.unusedSimpArgs false

theorem wrap_mid (z : Int) (h1 : -4294967296 ≤ z) (h2 : z ≤ 4294967296) : wrap64 z = z := by simp [wrap64]; omega
theorem ceil_eq (n e : Nat) (he : 1 ≤ e) : (n + e - 1) / e = pgsN n e := by
  have h1 := (pgsN_iff n e (pgsN n e) he).1 (Nat.le_refl _)
  apply Nat.le_antisymm
  · apply Nat.lt_succ_iff.1
    rw [Nat.div_lt_iff_lt_mul (by omega)]
    have : (pgsN n e).succ * e = pgsN n e * e + e := Nat.succ_mul _ _
    omega
  · rw [pgsN_iff n e _ he]
    have h2 := Nat.div_add_mod (n + e - 1) e
    have h3 := Nat.mod_lt (n + e - 1) (show e > 0 by omega)
    rw [Nat.mul_comm] at h2
    omega
set_option maxRecDepth 20000 in
set_option maxHeartbeats 1000000 in
theorem rpages_any (n size text : Nat) (hs : 1 ≤ size) (ht : size ≤ text) (htx : text ≤ 1000000) (hn : n ≤ 1000000) (w : World) :
    Calls Tryd.prog 57 #[.int .i64 (n : Int), .int .i64 (size : Int), .int .i64 (text : Int)] w fun e w' => e = .returned (.int .i64 (pgsN n (text / size) : Int)) ∧ w' = w := by
  obtain ⟨each, he⟩ : ∃ e, text / size = e := ⟨_, rfl⟩
  have hepos : 1 ≤ each := by rw [← he]; exact Nat.div_pos ht hs
  have hele : each ≤ 1000000 := by rw [← he]; exact Nat.le_trans (Nat.div_le_self _ _) htx
  rw [he]
  have hp := pgsN_le n each
  obtain ⟨P, hP⟩ : ∃ P, pgsN n each = P := ⟨_, rfl⟩
  rw [hP] at hp ⊢
  have q1 : Int.tdiv (text : Int) (size : Int) = (each : Int) := by rw [divN, he]
  obtain ⟨M, hM⟩ : ∃ M, n + each - 1 = M := ⟨_, rfl⟩
  obtain ⟨S, hS⟩ : ∃ S, n + each = S := ⟨_, rfl⟩
  have q2 : Int.tdiv (M : Int) (each : Int) = (P : Int) := by rw [divN, ← hM, ceil_eq n each hepos, hP]
  have z1 := wrapN each (by omega)
  have z2 := wrapN P (by omega)
  have v1 : (n : Int) + (each : Int) = (S : Int) := by omega
  have v2 : (S : Int) - 1 = (M : Int) := by omega
  have z3 := wrapN S (by omega)
  have z4 := wrapN M (by omega)
  have i1 : ¬ size = 0 := by omega
  have i2 : ¬ each = 0 := by omega
  clear he hP hM hS
  go_enter Tryd.func57, Tryd.ntmps57
  go_wp2
  go_ret
  exact ⟨rfl, rfl⟩
end Go.Proofs.YtmgkjldjeomcmaaDoor
