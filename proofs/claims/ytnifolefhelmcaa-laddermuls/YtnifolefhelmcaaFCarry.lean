/- Layer field: carry: what is above 51 bits goes to the next limb. -/
import Derived.Test.YtnifolefhelmcaaFMath
import Derived.Test.YtnifolefhelmcaaRInv
namespace Go.Proofs.Ytnifolefhelmcaa
open Go.RowKit
set_option linter.unusedVariables false
set_option linter.unusedSimpArgs false

theorem zeroElem : (Try.prog.info? 27).map (fun i => (i.zero, i.size)) = some (some (.agg (u64s [0, 0, 0, 0, 0]).toArray), 5) := by kernel_rfl
theorem sizeElem : (Try.prog.info? 27).map (·.size) = some 5 := by kernel_rfl
theorem sizeA5 : (Try.prog.info? 25).map (·.size) = some 5 := by kernel_rfl
set_option maxRecDepth 20000 in
set_option maxHeartbeats 1000000 in
theorem carry_any (g : Nat) (a b c d e : Int) (w : World) (hB : Blk w g 27 (u64s [a, b, c, d, e])) (ha : 0 ≤ a ∧ a < 1152921504606846976) (hb : 0 ≤ b ∧ b < 1152921504606846976) (hc : 0 ≤ c ∧ c < 1152921504606846976) (hd : 0 ≤ d ∧ d < 1152921504606846976) (he : 0 ≤ e ∧ e < 1152921504606846976) :
    Calls Try.prog 68 #[.pointer (some ⟨g, 0, none⟩)] w fun x w' => x = .returned (.tuple #[]) ∧ Blk w' g 27 (u64s (cr a b c d e)) ∧ Kept (fun k => k = g) w w' := by
  have c0 : w.cell? ⟨g, 0, none⟩ = some (.int .u64 a) := hB.cell 0
  have c1 : w.cell? ⟨g, 1, none⟩ = some (.int .u64 b) := hB.cell 1
  have c2 : w.cell? ⟨g, 2, none⟩ = some (.int .u64 c) := hB.cell 2
  have c3 : w.cell? ⟨g, 3, none⟩ = some (.int .u64 d) := hB.cell 3
  have c4 : w.cell? ⟨g, 4, none⟩ = some (.int .u64 e) := hB.cell 4
  have HB : Hid (Blk w g 27 (u64s [a, b, c, d, e])) := hB
  clear hB
  go_enter Try.func68, Try.ntmps68
  go_wp2_with fail
  go_quiet (fail)
  go_wp2_with fail
  go_quiet (fail)
  go_wp2_with fail
  go_loopw [38] (fun i wr => ∃ (k : Nat), k ≤ 5 ∧ i = .int .i64 k ∧ Blk wr g 27 (u64s (lowK k [a, b, c, d, e])) ∧ Kept (fun x => x = g) w wr) (fun i _ => 5 - (intOf i).toNat)
  case atStart => exact ⟨0, by omega, rfl, HB.out, Kept.drewN (Kept.drewN (Kept.refl _ _) _) _⟩
  case round =>
    obtain ⟨k, hk, rfl, hblk, hkp⟩ := hrel
    by_cases hlt : k < 5
    · obtain ⟨X, hX⟩ : ∃ X, [a, b, c, d, e][k]'hlt = X := ⟨_, rfl⟩
      have hX2 : 0 ≤ X ∧ X < 18446744073709551616 := by
        match k, hlt, hX with
        | 0, _, h => subst h; exact ⟨ha.1, by have := ha.2; show a < _; omega⟩
        | 1, _, h => subst h; exact ⟨hb.1, by have := hb.2; show b < _; omega⟩
        | 2, _, h => subst h; exact ⟨hc.1, by have := hc.2; show c < _; omega⟩
        | 3, _, h => subst h; exact ⟨hd.1, by have := hd.2; show d < _; omega⟩
        | 4, _, h => subst h; exact ⟨he.1, by have := he.2; show e < _; omega⟩
      have ck : wr.cell? ⟨g, k, none⟩ = some (.int .u64 X) := by
        rw [hblk.cell, u64s, List.getElem?_map, lowK_at k [a, b, c, d, e] hlt, List.getElem?_eq_getElem (l := [a, b, c, d, e]) hlt, hX]; rfl
      have fg := hblk.frozen k
      have i1 : (k : Int) < 5 := by omega
      have i3 : (0 : Int) ≤ (k : Int) := by omega
      have eX := and51 X hX2.1 hX2.2
      have HQ : Hid (Blk wr g 27 (u64s (lowK k [a, b, c, d, e])) ∧ Kept (fun x => x = g) w wr ∧ [a, b, c, d, e][k]'hlt = X) := ⟨hblk, hkp, hX⟩
      clear hblk hkp hX hX2
      clear c0 c1 c2 c3 c4
      go_wp2_with fail
      go_region_with fail
      go_wp2_with fail
      go_roundw
      case rel =>
        have R := (HQ.out.1.set k (.int .u64 (X % 2251799813685248))).drew
        rw [← HQ.out.2.2, u64s_set, lowK_set k [a, b, c, d, e] hlt, HQ.out.2.2] at R
        exact ⟨k + 1, by omega, by go_num, R, (HQ.out.2.1.setCell rfl _).drewN 1⟩
      case measure => simp [intOf]; omega
    · obtain rfl : k = 5 := by omega
      have hW : Blk wr g 27 (u64s [a % 2251799813685248, b % 2251799813685248, c % 2251799813685248, d % 2251799813685248, e % 2251799813685248]) := hblk
      have d0 : wr.cell? ⟨g, 0, none⟩ = some (.int .u64 (a % 2251799813685248)) := hW.cell 0
      have d1 : wr.cell? ⟨g, 1, none⟩ = some (.int .u64 (b % 2251799813685248)) := hW.cell 1
      have d2 : wr.cell? ⟨g, 2, none⟩ = some (.int .u64 (c % 2251799813685248)) := hW.cell 2
      have d3 : wr.cell? ⟨g, 3, none⟩ = some (.int .u64 (d % 2251799813685248)) := hW.cell 3
      have d4 : wr.cell? ⟨g, 4, none⟩ = some (.int .u64 (e % 2251799813685248)) := hW.cell 4
      have f0 := hW.frozen 0
      have f1 := hW.frozen 1
      have f2 := hW.frozen 2
      have f3 := hW.frozen 3
      have f4 := hW.frozen 4
      have w0 : IntKind.u64.wrap (e / 2251799813685248 * 19) = e / 2251799813685248 * 19 := by rw [IntKind.wrap_u64]; omega
      have w1 : IntKind.u64.wrap (a % 2251799813685248 + e / 2251799813685248 * 19) = a % 2251799813685248 + e / 2251799813685248 * 19 := by rw [IntKind.wrap_u64]; omega
      have w2 : IntKind.u64.wrap (b % 2251799813685248 + a / 2251799813685248) = b % 2251799813685248 + a / 2251799813685248 := by rw [IntKind.wrap_u64]; omega
      have w3 : IntKind.u64.wrap (c % 2251799813685248 + b / 2251799813685248) = c % 2251799813685248 + b / 2251799813685248 := by rw [IntKind.wrap_u64]; omega
      have w4 : IntKind.u64.wrap (d % 2251799813685248 + c / 2251799813685248) = d % 2251799813685248 + c / 2251799813685248 := by rw [IntKind.wrap_u64]; omega
      have w5 : IntKind.u64.wrap (e % 2251799813685248 + d / 2251799813685248) = e % 2251799813685248 + d / 2251799813685248 := by rw [IntKind.wrap_u64]; omega
      have HQ : Hid (Blk wr g 27 (u64s [a % 2251799813685248, b % 2251799813685248, c % 2251799813685248, d % 2251799813685248, e % 2251799813685248]) ∧ Kept (fun x => x = g) w wr) := ⟨hW, hkp⟩
      clear hW hblk hkp c0 c1 c2 c3 c4
      go_wp2_with fail
      go_region_with fail
      go_wp2_with fail
      go_region_with fail
      go_wp2_with fail
      go_region_with fail
      go_wp2_with fail
      go_region_with fail
      go_wp2_with fail
      go_region_with fail
      go_wp2_with fail
      go_end0
      have R := ((((HQ.out.1.set 0 (.int .u64 (a % 2251799813685248 + e / 2251799813685248 * 19))).set 1 (.int .u64 (b % 2251799813685248 + a / 2251799813685248))).set 2 (.int .u64 (c % 2251799813685248 + b / 2251799813685248))).set 3 (.int .u64 (d % 2251799813685248 + c / 2251799813685248))).set 4 (.int .u64 (e % 2251799813685248 + d / 2251799813685248))
      simp only [u64s_set, List.set_cons_zero, List.set_cons_succ] at R
      have K := ((((HQ.out.2.setCell (p := ⟨g, 0, none⟩) rfl (.int .u64 (a % 2251799813685248 + e / 2251799813685248 * 19))).setCell (p := ⟨g, 1, none⟩) rfl (.int .u64 (b % 2251799813685248 + a / 2251799813685248))).setCell (p := ⟨g, 2, none⟩) rfl (.int .u64 (c % 2251799813685248 + b / 2251799813685248))).setCell (p := ⟨g, 3, none⟩) rfl (.int .u64 (d % 2251799813685248 + c / 2251799813685248))).setCell (p := ⟨g, 4, none⟩) rfl (.int .u64 (e % 2251799813685248 + d / 2251799813685248))
      exact ⟨rfl, R.drew.drew.drew.drew.drew, ((((K.drewN 1).drewN 1).drewN 1).drewN 1).drewN 1⟩
end Go.Proofs.Ytnifolefhelmcaa
