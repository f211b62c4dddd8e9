/- Layer stream: turning words to the left, half, Quarter, cell. -/
import Derived.Test.YtpjnimmclncdoaaSPlain
namespace Go.Proofs.Ytpjnimmclncdoaa
open Go.RowKit
set_option linter.unusedVariables false
set_option linter.unusedSimpArgs false

theorem results_tmp4 {fn : Func} {t u v x : Tmp} (h : fn.results = #[.tmp t, .tmp u, .tmp v, .tmp x]) (tmps : Array Value) (P : Program) (w : World) :
    (results fn tmps).run P w = .ok (.tuple #[tmps.getD t undef, tmps.getD u undef, tmps.getD v undef, tmps.getD x undef]) w := by
  simp [results, h]
def TurnL (k : Nat) : Prop := k = 16 ∨ k = 12 ∨ k = 8 ∨ k = 7
set_option maxRecDepth 20000 in
theorem rotL_any (x : Int) (k : Nat) (hk : TurnL k) (w : World) :
    Calls Try.prog 45 #[.int .u32 x, .int .i64 k] w fun e w' => e = .returned (.int .u32 (rotl x k)) ∧ w = w' := by
  have h1 : bits .and .u64 (k : Int) 31 = k := by
    rcases hk with rfl | rfl | rfl | rfl <;> decide
  rcases hk with rfl | rfl | rfl | rfl
  all_goals
    simp at h1
    go_enter Try.func45, Try.ntmps45
    go_wp2
    go_ret
    exact ⟨rfl, rfl⟩
theorem half_any (a b c d : Int) (n m : Nat) (hn : TurnL n) (hm : TurnL m) (w : World) :
    Calls Try.prog 41 #[.int .u32 a, .int .u32 b, .int .u32 c, .int .u32 d, .int .i64 n, .int .i64 m] w fun e w' => e = .returned (.tuple #[.int .u32 (halfQ ⟨a, b, c, d⟩ n m).a, .int .u32 (halfQ ⟨a, b, c, d⟩ n m).b, .int .u32 (halfQ ⟨a, b, c, d⟩ n m).c, .int .u32 (halfQ ⟨a, b, c, d⟩ n m).d]) ∧ w = w' := by
  go_enter Try.func41, Try.ntmps41
  go_wp2_with fail
  refine (rotL_any _ n hn _).mono ?_
  rintro e w' ⟨rfl, rfl⟩
  go_wp2_with fail
  refine (rotL_any _ m hm _).mono ?_
  rintro e w' ⟨rfl, rfl⟩
  go_wp2
  refine bodyPost_ret (results_tmp4 rfl _ _ _) rfl ?_
  exact ⟨rfl, rfl⟩
theorem quarter_any (a b c d : Int) (w : World) :
    Calls Try.prog 35 #[.int .u32 a, .int .u32 b, .int .u32 c, .int .u32 d] w fun e w' => e = .returned (.tuple #[.int .u32 (quarter ⟨a, b, c, d⟩).a, .int .u32 (quarter ⟨a, b, c, d⟩).b, .int .u32 (quarter ⟨a, b, c, d⟩).c, .int .u32 (quarter ⟨a, b, c, d⟩).d]) ∧ w = w' := by
  go_enter Try.func35, Try.ntmps35
  go_wp2_with fail
  refine (half_any a b c d 16 12 (by simp [TurnL]) (by simp [TurnL]) _).mono ?_
  rintro e w' ⟨rfl, rfl⟩
  go_wp2_with fail
  refine (half_any _ _ _ _ 8 7 (by simp [TurnL]) (by simp [TurnL]) _).mono ?_
  rintro e w' ⟨rfl, rfl⟩
  go_wp2
  refine bodyPost_ret (results_tmp4 rfl _ _ _) rfl ?_
  exact ⟨rfl, rfl⟩
theorem cell_any (r c : Nat) (hr : r < 4) (hc : c < 100) (w : World) :
    Calls Try.prog 33 #[.int .u64 r, .int .u64 c] w fun e w' => e = .returned (.int .u64 ((4 * r + c % 4 : Nat) : Int)) ∧ w = w' := by
  go_enter Try.func33, Try.ntmps33
  go_wp2
  go_ret
  refine ⟨?_, rfl⟩
  show Ending.returned (.int .u64 ((r : Int) * 4 + (c : Int) % 4)) = _
  exact ret_int (by omega)
theorem cell_at (r : Nat) (X : Int) (c : Nat) (hX : X = c) (hr : r < 4) (hc : c < 100) (w : World) :
    Calls Try.prog 33 #[.int .u64 r, .int .u64 X] w fun e w' => e = .returned (.int .u64 ((4 * r + c % 4 : Nat) : Int)) ∧ w = w' := by
  subst hX
  exact cell_any r c hr hc w
end Go.Proofs.Ytpjnimmclncdoaa
