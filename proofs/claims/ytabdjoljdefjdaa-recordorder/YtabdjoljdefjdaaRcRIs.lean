/- The document's Is and number. -/
import Derived.Test.YtabdjoljdefjdaaRcLaw
namespace Go.Proofs.Ytabdjoljdefjdaa
open Go.RowKit
set_option linter.unusedVariables false
set_option linter.unusedSimpArgs false

theorem list4 {zs : List Int} (h : zs.length = 4) : ∃ a b c d, zs = [a, b, c, d] := by
  match zs, h with
  | [a, b, c, d], _ => exact ⟨a, b, c, d, rfl⟩
set_option maxRecDepth 20000 in
set_option maxHeartbeats 2000000 in
theorem ris_any (ao : Option Addr) (n c : Nat) (zs : List Int) (w : World) (hx : Seen w ao n zs) :
    Calls Try.prog 38 #[.slice ao n c] w fun e w' => e = .returned (.bool (isR zs)) ∧ w = w' := by
  have hl := hx.len
  have t1 := hx.top
  rcases Nat.lt_or_ge n 26 with hn | hn
  · have E : Hid (isR zs = false) := by show _ = _; rw [isR, decide_eq_false (by omega : ¬ 26 ≤ zs.length), Bool.false_and]
    have i1 : ¬ ((26 : Int) ≤ (n : Int)) := by omega
    have i2 : (n : Int) < 26 := by omega
    clear hx hl
    go_enter Try.func38, Try.ntmps38
    go_wp2
    go_ret
    exact ⟨ret_bool E.out.symm, rfl⟩
  · obtain ⟨b, o, rfl, hb0, hcells⟩ := hx.cells (by omega)
    have c0 : w.cell? ⟨b, o, none⟩ = some (.int .u8 (zs.getD 0 0)) := hcells 0 (by omega)
    have c1 : w.cell? ⟨b, o + 1, none⟩ = some (.int .u8 (zs.getD 1 0)) := hcells 1 (by omega)
    have i1 : (26 : Int) ≤ (n : Int) := by omega
    have i3 : (0 : Int) < (n : Int) := by omega
    have i4 : (1 : Int) < (n : Int) := by omega
    have i5 : ¬ ((n : Int) < 26) := by omega
    obtain ⟨A, eA⟩ : ∃ A, zs.getD 0 0 = A := ⟨_, rfl⟩
    obtain ⟨B, eB⟩ : ∃ B, zs.getD 1 0 = B := ⟨_, rfl⟩
    have E : Hid (isR zs = (decide (A < 2) && decide (B < 2))) := by show _ = _; rw [isR, decide_eq_true (by omega : 26 ≤ zs.length), Bool.true_and, eA, eB]
    rw [eA] at c0
    rw [eB] at c1
    clear hx hl hcells eA eB hb0
    by_cases h1 : A ≤ 1
    · by_cases h2 : B ≤ 1
      · have E2 : Hid (isR zs = true) := by show _ = _; rw [E.out, decide_eq_true (by omega : A < 2), decide_eq_true (by omega : B < 2)]; rfl
        go_enter Try.func38, Try.ntmps38
        go_wp2
        go_ret
        exact ⟨ret_bool E2.out.symm, rfl⟩
      · have E2 : Hid (isR zs = false) := by show _ = _; rw [E.out, decide_eq_false (by omega : ¬ B < 2), Bool.and_false]
        go_enter Try.func38, Try.ntmps38
        go_wp2
        go_ret
        exact ⟨ret_bool E2.out.symm, rfl⟩
    · have E2 : Hid (isR zs = false) := by show _ = _; rw [E.out, decide_eq_false (by omega : ¬ A < 2), Bool.false_and]
      go_enter Try.func38, Try.ntmps38
      go_wp2
      go_ret
      exact ⟨ret_bool E2.out.symm, rfl⟩
set_option maxRecDepth 20000 in
set_option maxHeartbeats 2000000 in
theorem rnum_any (ao : Option Addr) (c : Nat) (zs : List Int) (w : World) (hx : Seen w ao 4 zs) :
    Calls Try.prog 39 #[.slice ao 4 c] w fun e w' => e = .returned (.int .u32 (le zs)) ∧ ∃ q, w' = w.drewN q := by
  obtain ⟨z0, z1, z2, z3, rfl⟩ := list4 hx.len
  obtain ⟨b, o, rfl, hb0, hcells⟩ := hx.cells (by decide)
  have c0 : w.cell? ⟨b, o, none⟩ = some (.int .u8 z0) := hcells 0 (by decide)
  have c1 : w.cell? ⟨b, o + 1, none⟩ = some (.int .u8 z1) := hcells 1 (by decide)
  have c2 : w.cell? ⟨b, o + 2, none⟩ = some (.int .u8 z2) := hcells 2 (by decide)
  have c3 : w.cell? ⟨b, o + 3, none⟩ = some (.int .u8 z3) := hcells 3 (by decide)
  have b0 := hx.bytes z0 (by simp)
  have b1 := hx.bytes z1 (by simp)
  have b2 := hx.bytes z2 (by simp)
  have b3 := hx.bytes z3 (by simp)
  have W32 : ∀ x : Int, 0 ≤ x → x < 4294967296 → IntKind.u32.wrap x = x := fun x h1 h2 => by simp only [IntKind.wrap, IntKind.bits, IntKind.signed]; simp; omega
  have e0 := W32 z0 (by omega) (by omega)
  have e1 := W32 z1 (by omega) (by omega)
  have e2 := W32 z2 (by omega) (by omega)
  have e3 := W32 z3 (by omega) (by omega)
  have f1 := W32 (z1 * 256) (by omega) (by omega)
  have f2 := W32 (z2 * 65536) (by omega) (by omega)
  have f3 := W32 (z3 * 16777216) (by omega) (by omega)
  have g1 := W32 (z0 + z1 * 256) (by omega) (by omega)
  have g2 := W32 (z0 + z1 * 256 + z2 * 65536) (by omega) (by omega)
  have g3 := W32 (z0 + z1 * 256 + z2 * 65536 + z3 * 16777216) (by omega) (by omega)
  have E : Hid (z0 + z1 * 256 + z2 * 65536 + z3 * 16777216 = le [z0, z1, z2, z3]) := by
    show _ = _
    simp only [le]
    omega
  clear hx hcells hb0 W32
  go_enter Try.func39, Try.ntmps39
  go_wp2
  go_quiet (fail)
  go_wp2
  go_ret
  exact ⟨ret_int E.out, _, rfl⟩
end Go.Proofs.Ytabdjoljdefjdaa
