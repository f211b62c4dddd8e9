/- Layer digest: turning words to the right. -/
import Derived.Test.YtiimjhahblmggaaDoorOPlain
namespace Go.Proofs.YtiimjhahblmggaaDoor
open Go.RowKit
set_option linter.unusedVariables false
set_option linter.unusedSimpArgs false

/-- A word turned to the right. -/
def rotr (x : Int) (n : Int) : Int := bits .or .u32 (x * 2 ^ (32 - n.toNat) % 4294967296) (x / 2 ^ n.toNat)
def Turn (k : Int) : Prop := k = 2 ∨ k = 6 ∨ k = 7 ∨ k = 11 ∨ k = 13 ∨ k = 17 ∨ k = 18 ∨ k = 19 ∨ k = 22 ∨ k = 25
set_option maxRecDepth 20000 in
theorem rot_any (x k : Int) (hk : Turn k) (w : World) :
    Calls Tryd.prog 62 #[.int .u32 x, .int .i64 k] w fun e w' => e = .returned (.int .u32 (rotr x k)) ∧ w = w' := by
  have h1 : bits .and .u64 (IntKind.u64.wrap (-k)) 31 = 32 - k := by
    rcases hk with rfl | rfl | rfl | rfl | rfl | rfl | rfl | rfl | rfl | rfl <;> decide
  rcases hk with rfl | rfl | rfl | rfl | rfl | rfl | rfl | rfl | rfl | rfl
  all_goals
    simp at h1
    go_enter Tryd.func62, Tryd.ntmps62
    go_wp2
    go_ret
    exact ⟨rfl, rfl⟩
theorem rot_q (x k : Int) (hk : Turn k) (w : World) :
    Calls Tryd.prog 62 #[.int .u32 x, .int .i64 k] w fun e w' => e = .returned (.int .u32 (rotr x k)) ∧ w' = w := (rot_any x k hk w).mono fun _ _ ⟨a, b⟩ => ⟨a, b.symm⟩
end Go.Proofs.YtiimjhahblmggaaDoor
