/- Layer octet: readers and writers that are not there. -/
import Derived.Test.YtkkiceldlcfjiabOUnhex
namespace Go.Proofs.Ytkkiceldlcfjiab
open Go.RowKit
set_option linter.unusedVariables false
set_option linter.unusedSimpArgs false

theorem err_nil (w : World) : Calls Try.prog 35 #[.pointer none] w fun e w' => e = .returned (.int .i64 1) ∧ w = w' := by
  go_enter Try.func35, Try.ntmps35
  go_wp2
  go_ret
  exact ⟨rfl, rfl⟩
theorem left_nil (w : World) : Calls Try.prog 25 #[.pointer none] w fun e w' => e = .returned (.int .i64 0) ∧ w = w' := by
  go_enter Try.func25, Try.ntmps25
  go_wp2
  go_ret
  exact ⟨rfl, rfl⟩
theorem end_nil (w : World) : Calls Try.prog 26 #[.pointer none] w fun e w' => e = .returned (.int .i64 1) ∧ w = w' := by
  go_enter Try.func26, Try.ntmps26
  go_wp2_with (go_at_call 35; refine (err_nil _).mono ?_; rintro e w' ⟨rfl, rfl⟩)
  go_ret
  exact ⟨rfl, rfl⟩
theorem next_nil (n : Int) (w : World) : Calls Try.prog 42 #[.pointer none, .int .i64 n] w fun e w' => e = .returned (.slice none 0 0) ∧ w = w' := by
  go_enter Try.func42, Try.ntmps42
  go_wp2_with (go_at_call 35; refine (err_nil _).mono ?_; rintro e w' ⟨rfl, rfl⟩)
  go_ret
  exact ⟨rfl, rfl⟩
set_option maxRecDepth 20000 in
theorem clone_nil (w : World) : Calls Try.prog 38 #[.slice none 0 0] w fun e w' => e = .returned (.slice none 0 0) ∧ w = w' := by
  have hq : ∀ wx, (binOp .eql 26 (.slice none 0 0) (.slice none 0 0)).run Try.prog wx = .ok (.bool true) wx := fun wx => Lib.run_eql_slice_nil wx 26 5 none 0 0 0 0 Try.underlying26
  go_enter Try.func38, Try.ntmps38
  go_wp2
  go_ret
  exact ⟨rfl, rfl⟩
set_option maxRecDepth 20000 in
theorem rbytes_nil (n : Int) (w : World) : Calls Try.prog 22 #[.pointer none, .int .i64 n] w fun e w' => e = .returned (.slice none 0 0) ∧ w = w' := by
  go_enter Try.func22, Try.ntmps22
  go_wp2_with (first | (go_at_call 42; refine (next_nil _ _).mono ?_; rintro e w' ⟨rfl, rfl⟩) | (go_at_call 38; refine (clone_nil _).mono ?_; rintro e w' ⟨rfl, rfl⟩))
  go_ret
  exact ⟨rfl, rfl⟩
theorem take8_nil (w : World) : Calls Try.prog 49 #[.pointer none] w fun e w' => e = .returned (.int .u8 0) ∧ w = w' := by
  have hl := little_8 none 0 0 [] w (Seen.empty _ _)
  rw [leV_no [] (by decide), fit_short (by decide)] at hl
  go_enter Try.func49, Try.ntmps49
  go_wp2_with (first | (go_at_call 61; refine (width_8 _).mono ?_; rintro e w' ⟨rfl, rfl⟩) | (go_at_call 42; refine (next_nil _ _).mono ?_; rintro e w' ⟨rfl, rfl⟩) | (go_at_call 60; refine hl.mono ?_; rintro e w' ⟨rfl, rfl⟩))
  go_ret
  exact ⟨rfl, rfl⟩
theorem ru8_nil (w : World) : Calls Try.prog 31 #[.pointer none] w fun e w' => e = .returned (.int .u8 0) ∧ w = w' := by
  go_enter Try.func31, Try.ntmps31
  go_wp2_with (go_at_call 49; refine (take8_nil _).mono ?_; rintro e w' ⟨rfl, rfl⟩)
  go_ret
  exact ⟨rfl, rfl⟩
theorem take16_nil (w : World) : Calls Try.prog 50 #[.pointer none] w fun e w' => e = .returned (.int .u16 0) ∧ w = w' := by
  have hl := little_16 none 0 0 [] w (Seen.empty _ _)
  rw [leV_no [] (by decide), fit_short (by decide)] at hl
  go_enter Try.func50, Try.ntmps50
  go_wp2_with (first | (go_at_call 63; refine (width_16 _).mono ?_; rintro e w' ⟨rfl, rfl⟩) | (go_at_call 42; refine (next_nil _ _).mono ?_; rintro e w' ⟨rfl, rfl⟩) | (go_at_call 62; refine hl.mono ?_; rintro e w' ⟨rfl, rfl⟩))
  go_ret
  exact ⟨rfl, rfl⟩
theorem ru16_nil (w : World) : Calls Try.prog 32 #[.pointer none] w fun e w' => e = .returned (.int .u16 0) ∧ w = w' := by
  go_enter Try.func32, Try.ntmps32
  go_wp2_with (go_at_call 50; refine (take16_nil _).mono ?_; rintro e w' ⟨rfl, rfl⟩)
  go_ret
  exact ⟨rfl, rfl⟩
theorem take32_nil (w : World) : Calls Try.prog 51 #[.pointer none] w fun e w' => e = .returned (.int .u32 0) ∧ w = w' := by
  have hl := little_32 none 0 0 [] w (Seen.empty _ _)
  rw [leV_no [] (by decide), fit_short (by decide)] at hl
  go_enter Try.func51, Try.ntmps51
  go_wp2_with (first | (go_at_call 55; refine (width_32 _).mono ?_; rintro e w' ⟨rfl, rfl⟩) | (go_at_call 42; refine (next_nil _ _).mono ?_; rintro e w' ⟨rfl, rfl⟩) | (go_at_call 36; refine hl.mono ?_; rintro e w' ⟨rfl, rfl⟩))
  go_ret
  exact ⟨rfl, rfl⟩
theorem ru32_nil (w : World) : Calls Try.prog 33 #[.pointer none] w fun e w' => e = .returned (.int .u32 0) ∧ w = w' := by
  go_enter Try.func33, Try.ntmps33
  go_wp2_with (go_at_call 51; refine (take32_nil _).mono ?_; rintro e w' ⟨rfl, rfl⟩)
  go_ret
  exact ⟨rfl, rfl⟩
theorem take64_nil (w : World) : Calls Try.prog 52 #[.pointer none] w fun e w' => e = .returned (.int .u64 0) ∧ w = w' := by
  have hl := little_64 none 0 0 [] w (Seen.empty _ _)
  rw [leV_no [] (by decide), fit_short (by decide)] at hl
  go_enter Try.func52, Try.ntmps52
  go_wp2_with (first | (go_at_call 65; refine (width_64 _).mono ?_; rintro e w' ⟨rfl, rfl⟩) | (go_at_call 42; refine (next_nil _ _).mono ?_; rintro e w' ⟨rfl, rfl⟩) | (go_at_call 64; refine hl.mono ?_; rintro e w' ⟨rfl, rfl⟩))
  go_ret
  exact ⟨rfl, rfl⟩
theorem ru64_nil (w : World) : Calls Try.prog 34 #[.pointer none] w fun e w' => e = .returned (.int .u64 0) ∧ w = w' := by
  go_enter Try.func34, Try.ntmps34
  go_wp2_with (go_at_call 52; refine (take64_nil _).mono ?_; rintro e w' ⟨rfl, rfl⟩)
  go_ret
  exact ⟨rfl, rfl⟩
theorem wbytes_nil (ao : Option Addr) (n c : Nat) (w : World) : Calls Try.prog 12 #[.pointer none, .slice ao n c] w fun e w' => e = .returned (.tuple #[]) ∧ w = w' := by
  go_enter Try.func12, Try.ntmps12
  go_wp2
  (try simp only [Exit.inBlock, Exit.then]); first | (refine bodyPost_ret (results_none rfl _ _ _) rfl ?_) | (refine bodyPost_end (results_none rfl _ _ _) rfl ?_)
  exact ⟨rfl, rfl⟩
theorem wleft_nil (w : World) : Calls Try.prog 15 #[.pointer none] w fun e w' => e = .returned (.int .i64 0) ∧ w = w' := by
  go_enter Try.func15, Try.ntmps15
  go_wp2
  go_ret
  exact ⟨rfl, rfl⟩
theorem wdone_nil (w : World) : Calls Try.prog 14 #[.pointer none] w fun e w' => e = .returned (.tuple #[.slice none 0 0, .int .i64 1]) ∧ w = w' := by
  go_enter Try.func14, Try.ntmps14
  go_wp2
  go_ret2
  exact ⟨rfl, rfl⟩
theorem lay8_nil (w : World) : Calls Try.prog 45 #[.pointer none, .int .u8 1] w fun e w' => e = .returned (.tuple #[]) ∧ Below w.heap.size w w' := by
  have hp := put_8 none 0 0 [] 1 w (Seen.empty _ _) (fun _ => rfl) (by decide) (by decide)
  go_enter Try.func45, Try.ntmps45
  go_wp2_with fail
  refine hp.mono ?_
  rintro e w1 ⟨v, rfl, o1, b1⟩
  obtain ⟨vo, cap, rfl, s1, _⟩ := own_seen (by rw [List.length_append, leB_length]; rfl) (bytes_app (by intro z hz; cases hz) (leB_bytes _ _)) (by decide) o1
  clear o1 s1 hp
  go_wp2_with fail
  refine (wbytes_nil _ _ _ _).mono ?_
  rintro e w' ⟨rfl, rfl⟩
  go_wp2
  (try simp only [Exit.inBlock, Exit.then]); first | (refine bodyPost_ret (results_none rfl _ _ _) rfl ?_) | (refine bodyPost_end (results_none rfl _ _ _) rfl ?_)
  exact ⟨rfl, b1⟩
theorem wu8_nil (w : World) : Calls Try.prog 27 #[.pointer none, .int .u8 1] w fun e w' => e = .returned (.tuple #[]) ∧ Below w.heap.size w w' := by
  go_enter Try.func27, Try.ntmps27
  go_wp2_with fail
  refine (lay8_nil _).mono ?_
  rintro e w1 ⟨rfl, b1⟩
  go_wp2
  (try simp only [Exit.inBlock, Exit.then]); first | (refine bodyPost_ret (results_none rfl _ _ _) rfl ?_) | (refine bodyPost_end (results_none rfl _ _ _) rfl ?_)
  exact ⟨rfl, b1⟩
theorem lay16_nil (w : World) : Calls Try.prog 46 #[.pointer none, .int .u16 1] w fun e w' => e = .returned (.tuple #[]) ∧ Below w.heap.size w w' := by
  have hp := put_16 none 0 0 [] 1 w (Seen.empty _ _) (fun _ => rfl) (by decide) (by decide)
  go_enter Try.func46, Try.ntmps46
  go_wp2_with fail
  refine hp.mono ?_
  rintro e w1 ⟨v, rfl, o1, b1⟩
  obtain ⟨vo, cap, rfl, s1, _⟩ := own_seen (by rw [List.length_append, leB_length]; rfl) (bytes_app (by intro z hz; cases hz) (leB_bytes _ _)) (by decide) o1
  clear o1 s1 hp
  go_wp2_with fail
  refine (wbytes_nil _ _ _ _).mono ?_
  rintro e w' ⟨rfl, rfl⟩
  go_wp2
  (try simp only [Exit.inBlock, Exit.then]); first | (refine bodyPost_ret (results_none rfl _ _ _) rfl ?_) | (refine bodyPost_end (results_none rfl _ _ _) rfl ?_)
  exact ⟨rfl, b1⟩
theorem wu16_nil (w : World) : Calls Try.prog 28 #[.pointer none, .int .u16 1] w fun e w' => e = .returned (.tuple #[]) ∧ Below w.heap.size w w' := by
  go_enter Try.func28, Try.ntmps28
  go_wp2_with fail
  refine (lay16_nil _).mono ?_
  rintro e w1 ⟨rfl, b1⟩
  go_wp2
  (try simp only [Exit.inBlock, Exit.then]); first | (refine bodyPost_ret (results_none rfl _ _ _) rfl ?_) | (refine bodyPost_end (results_none rfl _ _ _) rfl ?_)
  exact ⟨rfl, b1⟩
theorem lay32_nil (w : World) : Calls Try.prog 47 #[.pointer none, .int .u32 1] w fun e w' => e = .returned (.tuple #[]) ∧ Below w.heap.size w w' := by
  have hp := put_32 none 0 0 [] 1 w (Seen.empty _ _) (fun _ => rfl) (by decide) (by decide)
  go_enter Try.func47, Try.ntmps47
  go_wp2_with fail
  refine hp.mono ?_
  rintro e w1 ⟨v, rfl, o1, b1⟩
  obtain ⟨vo, cap, rfl, s1, _⟩ := own_seen (by rw [List.length_append, leB_length]; rfl) (bytes_app (by intro z hz; cases hz) (leB_bytes _ _)) (by decide) o1
  clear o1 s1 hp
  go_wp2_with fail
  refine (wbytes_nil _ _ _ _).mono ?_
  rintro e w' ⟨rfl, rfl⟩
  go_wp2
  (try simp only [Exit.inBlock, Exit.then]); first | (refine bodyPost_ret (results_none rfl _ _ _) rfl ?_) | (refine bodyPost_end (results_none rfl _ _ _) rfl ?_)
  exact ⟨rfl, b1⟩
theorem wu32_nil (w : World) : Calls Try.prog 29 #[.pointer none, .int .u32 1] w fun e w' => e = .returned (.tuple #[]) ∧ Below w.heap.size w w' := by
  go_enter Try.func29, Try.ntmps29
  go_wp2_with fail
  refine (lay32_nil _).mono ?_
  rintro e w1 ⟨rfl, b1⟩
  go_wp2
  (try simp only [Exit.inBlock, Exit.then]); first | (refine bodyPost_ret (results_none rfl _ _ _) rfl ?_) | (refine bodyPost_end (results_none rfl _ _ _) rfl ?_)
  exact ⟨rfl, b1⟩
theorem lay64_nil (w : World) : Calls Try.prog 48 #[.pointer none, .int .u64 1] w fun e w' => e = .returned (.tuple #[]) ∧ Below w.heap.size w w' := by
  have hp := put_64 none 0 0 [] 1 w (Seen.empty _ _) (fun _ => rfl) (by decide) (by decide)
  go_enter Try.func48, Try.ntmps48
  go_wp2_with fail
  refine hp.mono ?_
  rintro e w1 ⟨v, rfl, o1, b1⟩
  obtain ⟨vo, cap, rfl, s1, _⟩ := own_seen (by rw [List.length_append, leB_length]; rfl) (bytes_app (by intro z hz; cases hz) (leB_bytes _ _)) (by decide) o1
  clear o1 s1 hp
  go_wp2_with fail
  refine (wbytes_nil _ _ _ _).mono ?_
  rintro e w' ⟨rfl, rfl⟩
  go_wp2
  (try simp only [Exit.inBlock, Exit.then]); first | (refine bodyPost_ret (results_none rfl _ _ _) rfl ?_) | (refine bodyPost_end (results_none rfl _ _ _) rfl ?_)
  exact ⟨rfl, b1⟩
theorem wu64_nil (w : World) : Calls Try.prog 30 #[.pointer none, .int .u64 1] w fun e w' => e = .returned (.tuple #[]) ∧ Below w.heap.size w w' := by
  go_enter Try.func30, Try.ntmps30
  go_wp2_with fail
  refine (lay64_nil _).mono ?_
  rintro e w1 ⟨rfl, b1⟩
  go_wp2
  (try simp only [Exit.inBlock, Exit.then]); first | (refine bodyPost_ret (results_none rfl _ _ _) rfl ?_) | (refine bodyPost_end (results_none rfl _ _ _) rfl ?_)
  exact ⟨rfl, b1⟩
end Go.Proofs.Ytkkiceldlcfjiab
