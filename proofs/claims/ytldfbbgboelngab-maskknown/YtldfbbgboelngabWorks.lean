/- The statements' own examples: 'works' answers true. -/
import Derived.Test.YtldfbbgboelngabMoves
namespace Go.Proofs.Ytldfbbgboelngab
open Go.RowKit

abbrev two (w : World) : World := (w.alloc (.cells #[.int .u8 18] 5)).alloc (.cells #[.int .u8 52] 5)
theorem trade_works (w : World) : Calls Try.prog 13 #[.int .u64 15, .slice (some ⟨w.heap.size, 0, none⟩) 1 1, .slice (some ⟨w.heap.size + 1, 0, none⟩) 1 1] (two w) fun e w' =>
    e = .returned (.int .i64 0) ∧ w'.cell? ⟨w.heap.size, 0, none⟩ = some (.int .u8 20) ∧ w'.cell? ⟨w.heap.size + 1, 0, none⟩ = some (.int .u8 50) ∧ Below w.heap.size w w' := by
  have r1 : RowAt (two w) w.heap.size [18] := (RowAt.new w [18]).alloc _
  have r2 : RowAt (two w) (w.heap.size + 1) [52] := by
    have := RowAt.new (w.alloc (.cells #[.int .u8 18] 5)) [52]
    simpa using this
  have m1 : mix 15 1 [18] [52] = [20] := by decide
  have m2 : mix 15 1 [52] [18] = [50] := by decide
  refine (trade_any 15 (by decide) w.heap.size (w.heap.size + 1) 1 1 1 [18] [52] (by omega) (by simp) (by simp) (by intro z hz; simp at hz; omega) (by intro z hz; simp at hz; omega) (by decide) _ r1 r2).mono ?_
  rintro e w' ⟨rfl, h1, h2, hk⟩
  rw [m1] at h1
  rw [m2] at h2
  have hb0 : Below w.heap.size w (two w) := ((Below.refl _ _).alloc (Nat.le_refl _) _).alloc (by simp) _
  exact ⟨rfl, h1.cell 0 (by decide), h2.cell 0 (by decide), hb0.trans (hk.below (by simp [two]; omega) (fun k hk => by omega))⟩
theorem bit_7 (w : World) : Calls Try.prog 24 #[.int .u64 7] w fun e w' => e = .returned (.int .u64 18446744073709551615) ∧ w' = w := (bit_any 7 (by decide) w).mono fun _ _ h => h
theorem eq_55 (w : World) : Calls Try.prog 7 #[.int .u64 5, .int .u64 5] w fun e w' => e = .returned (.int .u64 18446744073709551615) ∧ w' = w := (equal_any 5 5 (by decide) (by decide) w).mono fun _ _ h => h
theorem eq_54 (w : World) : Calls Try.prog 7 #[.int .u64 5, .int .u64 4] w fun e w' => e = .returned (.int .u64 0) ∧ w' = w := (equal_any 5 4 (by decide) (by decide) w).mono fun _ _ h => h
theorem pick_12 (w : World) : Calls Try.prog 25 #[.int .u64 12, .int .u64 5, .int .u64 9] w fun e w' => e = .returned (.int .u64 5) ∧ w' = w := (pick_any 12 5 9 (by decide) (by decide) (by decide) w).mono fun _ _ h => h

theorem works_any (w : World) :
    Calls Try.prog 12 #[] w fun e w' => e = .returned (.bool true) ∧ Below w.heap.size w w' := by
  go_enter Try.func12, Try.ntmps12
  go_wp2_with (first | (go_at_call 13; refine (trade_works w).mono ?_; rintro e w1 ⟨rfl, c1, c2, hb⟩) | (go_at_call 24; refine (bit_7 _).mono ?_; rintro e w' ⟨rfl, rfl⟩) | (go_at_call 7; first | (refine (eq_55 _).mono ?_; rintro e w' ⟨rfl, rfl⟩) | (refine (eq_54 _).mono ?_; rintro e w' ⟨rfl, rfl⟩)) | (go_at_call 25; refine (pick_12 _).mono ?_; rintro e w' ⟨rfl, rfl⟩) | (go_at_call 26; refine (chi8_works _).mono ?_; rintro e w' ⟨rfl, rfl⟩))
  go_ret
  exact ⟨rfl, by assumption⟩
end Go.Proofs.Ytldfbbgboelngab
