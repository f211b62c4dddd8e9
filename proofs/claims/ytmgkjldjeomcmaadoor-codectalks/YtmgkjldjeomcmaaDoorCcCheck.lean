/- Layer codec: a config; within, Check, sizesOf, RequestSize, ReplySize. -/
import Derived.Test.YtmgkjldjeomcmaaDoorOBase
namespace Go.Proofs.YtmgkjldjeomcmaaDoor
open Go.RowKit
set_option linter.unusedVariables false
set_option linter.unusedSimpArgs false

/-- A config: its six numbers. -/
structure Cg where
  bt : Int
  ms : Int
  bk : Int
  tx : Int
  wi : Int
  wk : Int
deriving DecidableEq
def Cg.cs (c : Cg) : List Value := [.int .i64 c.bt, .int .i64 c.ms, .int .i64 c.bk, .int .i64 c.tx, .int .i64 c.wi, .int .i64 c.wk]
def Cg.v (c : Cg) : Value := .agg #[.int .i64 c.bt, .int .i64 c.ms, .int .i64 c.bk, .int .i64 c.tx, .int .i64 c.wi, .int .i64 c.wk]
abbrev I64 (x : Int) : Prop := -9223372036854775808 ≤ x ∧ x ≤ 9223372036854775807
def Cg.Fit (c : Cg) : Prop := I64 c.bt ∧ I64 c.ms ∧ I64 c.bk ∧ I64 c.tx ∧ I64 c.wi ∧ I64 c.wk
/-- n from lo to hi. -/
def inB (n lo hi : Int) : Bool := decide (lo ≤ n ∧ n ≤ hi)
/-- What a config must have. -/
def Cg.least (c : Cg) : Int := 26 + max c.ms 88
def Cg.ok (c : Cg) : Bool := inB c.bt 1 256 && inB c.ms 32 512 && inB c.bk 2 64 && inB c.tx c.least 4096 && inB c.wi 2 16 && inB c.wk 1 16
def Cg.err (c : Cg) : Int := if c.ok then 0 else 200

set_option maxRecDepth 20000 in
theorem within_any (n lo hi : Int) (w : World) : Calls Tryd.prog 52 #[.int .i64 n, .int .i64 lo, .int .i64 hi] w fun e w' => e = .returned (.bool (inB n lo hi)) ∧ w = w' := by
  by_cases h1 : lo ≤ n
  · by_cases h2 : n ≤ hi
    · have HE : Hid (inB n lo hi = true) := by show _ = _; simp [inB, h1, h2]
      go_enter Tryd.func52, Tryd.ntmps52
      go_wp2
      go_ret
      exact ⟨by rw [HE.out]; rfl, rfl⟩
    · have HE : Hid (inB n lo hi = false) := by show _ = _; simp [inB, h2]
      go_enter Tryd.func52, Tryd.ntmps52
      go_wp2
      go_ret
      exact ⟨by rw [HE.out]; rfl, rfl⟩
  · have HE : Hid (inB n lo hi = false) := by show _ = _; simp [inB, h1]
    go_enter Tryd.func52, Tryd.ntmps52
    go_wp2
    go_ret
    exact ⟨by rw [HE.out]; rfl, rfl⟩

set_option maxRecDepth 20000 in
set_option maxHeartbeats 2000000 in
theorem check_in (c : Cg) (L : Int) (hL : (88 ≤ c.ms ∧ L = wrap64 (26 + c.ms)) ∨ (¬ 88 ≤ c.ms ∧ L = 114)) (w : World) : Calls Tryd.prog 10 #[c.v] w fun e w' => e = .returned (.int .i64 (if inB c.bt 1 256 && inB c.ms 32 512 && inB c.bk 2 64 && inB c.tx L 4096 && inB c.wi 2 16 && inB c.wk 1 16 then 0 else 200)) ∧ Below w.heap.size w w' := by
  have H1 : Hid (∀ W, Calls Tryd.prog 52 #[.int .i64 c.bt, .int .i64 1, .int .i64 256] W fun e w' => e = .returned (.bool (inB c.bt 1 256)) ∧ W = w') := fun W => within_any _ _ _ W
  have H2 : Hid (∀ W, Calls Tryd.prog 52 #[.int .i64 c.ms, .int .i64 32, .int .i64 512] W fun e w' => e = .returned (.bool (inB c.ms 32 512)) ∧ W = w') := fun W => within_any _ _ _ W
  have H3 : Hid (∀ W, Calls Tryd.prog 52 #[.int .i64 c.bk, .int .i64 2, .int .i64 64] W fun e w' => e = .returned (.bool (inB c.bk 2 64)) ∧ W = w') := fun W => within_any _ _ _ W
  have H4 : Hid (∀ W, Calls Tryd.prog 52 #[.int .i64 c.tx, .int .i64 L, .int .i64 4096] W fun e w' => e = .returned (.bool (inB c.tx L 4096)) ∧ W = w') := fun W => within_any _ _ _ W
  have H5 : Hid (∀ W, Calls Tryd.prog 52 #[.int .i64 c.wi, .int .i64 2, .int .i64 16] W fun e w' => e = .returned (.bool (inB c.wi 2 16)) ∧ W = w') := fun W => within_any _ _ _ W
  have H6 : Hid (∀ W, Calls Tryd.prog 52 #[.int .i64 c.wk, .int .i64 1, .int .i64 16] W fun e w' => e = .returned (.bool (inB c.wk 1 16)) ∧ W = w') := fun W => within_any _ _ _ W
  have HB : Hid (Below w.heap.size w (w.alloc (.cells #[.int .i64 c.bt, .int .i64 c.ms, .int .i64 c.bk, .int .i64 c.tx, .int .i64 c.wi, .int .i64 c.wk] 23))) := (Below.refl _ _).alloc (Nat.le_refl _) _
  unfold Cg.v
  generalize inB c.bt 1 256 = b1 at *
  generalize inB c.ms 32 512 = b2 at *
  generalize inB c.bk 2 64 = b3 at *
  generalize inB c.tx L 4096 = b4 at *
  generalize inB c.wi 2 16 = b5 at *
  generalize inB c.wk 1 16 = b6 at *
  rcases hL with ⟨hL, rfl⟩ | ⟨hL, rfl⟩ <;>
  cases b1 <;> (try cases b2) <;> (try cases b3) <;> (try cases b4) <;> (try cases b5) <;> (try cases b6) <;>
  (go_enter Tryd.func10, Tryd.ntmps10; go_wp2_with (first | (go_at_call 52; with_reducible refine (H1.out _).mono ?_; rintro e _ ⟨rfl, rfl⟩) | (go_at_call 52; with_reducible refine (H2.out _).mono ?_; rintro e _ ⟨rfl, rfl⟩) | (go_at_call 52; with_reducible refine (H3.out _).mono ?_; rintro e _ ⟨rfl, rfl⟩) | (go_at_call 52; with_reducible refine (H4.out _).mono ?_; rintro e _ ⟨rfl, rfl⟩) | (go_at_call 52; with_reducible refine (H5.out _).mono ?_; rintro e _ ⟨rfl, rfl⟩) | (go_at_call 52; with_reducible refine (H6.out _).mono ?_; rintro e _ ⟨rfl, rfl⟩)); go_ret; exact ⟨rfl, HB.out⟩)
theorem check_any (c : Cg) (w : World) : Calls Tryd.prog 10 #[c.v] w fun e w' => e = .returned (.int .i64 c.err) ∧ Below w.heap.size w w' := by
  have key : ∀ L, ((88 ≤ c.ms ∧ L = wrap64 (26 + c.ms)) ∨ (¬ 88 ≤ c.ms ∧ L = 114)) → (inB c.bt 1 256 && inB c.ms 32 512 && inB c.bk 2 64 && inB c.tx L 4096 && inB c.wi 2 16 && inB c.wk 1 16) = c.ok := by
    intro L hL
    unfold Cg.ok
    cases e : inB c.ms 32 512 with
    | false => simp
    | true =>
      have h1 : 32 ≤ c.ms ∧ c.ms ≤ 512 := by simpa [inB] using e
      have hl : L = c.least := by
        unfold Cg.least
        rcases hL with ⟨h2, rfl⟩ | ⟨h2, rfl⟩
        · have : max c.ms 88 = c.ms := by omega
          rw [this]
          have h3 : 114 ≤ 26 + c.ms ∧ 26 + c.ms ≤ 600 := by omega
          generalize 26 + c.ms = z at h3
          simp [wrap64]; omega
        · have : max c.ms 88 = 88 := by omega
          rw [this]; rfl
      rw [hl]
  have hc := Classical.em (88 ≤ c.ms)
  unfold Cg.err
  rcases hc with h | h
  · have := check_in c _ (.inl ⟨h, rfl⟩) w
    rwa [key _ (.inl ⟨h, rfl⟩)] at this
  · have := check_in c _ (.inr ⟨h, rfl⟩) w
    rwa [key _ (.inr ⟨h, rfl⟩)] at this

end Go.Proofs.YtmgkjldjeomcmaaDoor
