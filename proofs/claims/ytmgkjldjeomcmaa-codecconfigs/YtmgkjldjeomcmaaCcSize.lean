/- Layer codec: sizesOf, RequestSize, ReplySize. -/
import Derived.Test.YtmgkjldjeomcmaaCcCheck
import Derived.Test.YtmgkjldjeomcmaaSBase
namespace Go.Proofs.Ytmgkjldjeomcmaa
open Go.RowKit
set_option linter.unusedVariables false
set_option linter.unusedSimpArgs false

theorem ret_blkt {fn : Func} {p q : Tmp} {ty : TypeId} (h : fn.results = #[.cell p ty, .tmp q]) {R : Ending → World → Prop} {a : Act} {w : World} (g : Nat) (vs : List Value) (d : TypeDesc) (v : Value) (hp : a.tmps.getD p undef = .pointer (some ⟨g, 0, none⟩)) (hq : a.tmps.getD q undef = v)
    (hb : Blk w g ty vs) (hu : Try.prog.underlying ty = some d) (hd : d.isRow = true) (hi : (Try.prog.info? ty).map (·.size) = some vs.length) (hdef : a.defers = []) (hR : R (.returned (.tuple #[.agg vs.toArray, v])) w) : bodyPost Try.prog fn R .ret a w := by
  refine bodyPost_ret (v := .tuple #[.agg vs.toArray, v]) ?_ hdef hR
  have hp' : a.tmps[p]?.getD undef = .pointer (some ⟨g, 0, none⟩) := by simpa using hp
  have hq' : a.tmps[q]?.getD undef = v := by simpa using hq
  have hl := run_loadVar_row (P := Try.prog) w g ty ty vs.toArray (0, 0) d hb hu (by cases d <;> simp_all) (by simpa using hi)
  simp [results, h, hp', hq', asAddr, hl]
theorem ret_btt {fn : Func} {p q r : Tmp} {ty : TypeId} (h : fn.results = #[.cell p ty, .tmp q, .tmp r]) {R : Ending → World → Prop} {a : Act} {w : World} (g : Nat) (vs : List Value) (d : TypeDesc) (v u : Value) (hp : a.tmps.getD p undef = .pointer (some ⟨g, 0, none⟩)) (hq : a.tmps.getD q undef = v) (hr : a.tmps.getD r undef = u)
    (hb : Blk w g ty vs) (hu : Try.prog.underlying ty = some d) (hd : d.isRow = true) (hi : (Try.prog.info? ty).map (·.size) = some vs.length) (hdef : a.defers = []) (hR : R (.returned (.tuple #[.agg vs.toArray, v, u])) w) : bodyPost Try.prog fn R .ret a w := by
  refine bodyPost_ret (v := .tuple #[.agg vs.toArray, v, u]) ?_ hdef hR
  have hp' : a.tmps[p]?.getD undef = .pointer (some ⟨g, 0, none⟩) := by simpa using hp
  have hq' : a.tmps[q]?.getD undef = v := by simpa using hq
  have hr' : a.tmps[r]?.getD undef = u := by simpa using hr
  have hl := run_loadVar_row (P := Try.prog) w g ty ty vs.toArray (0, 0) d hb hu (by cases d <;> simp_all) (by simpa using hi)
  simp [results, h, hp', hq', hr', asAddr, hl]
/-! ### Sizes -/
/-- How long a request, a reply, a record is. -/
def szQ (c : Cg) (k : Int) : Int := if c.ok then if k = 1 then 16 + c.ms else if k = 2 then 92 else 0 else 0
def szP (c : Cg) (k : Int) : Int := if c.ok then if k = 1 then 1 + c.ms else if k = 2 then 16 else 0 else 0
def szR (c : Cg) (k : Int) : Int := if c.ok then if k = 1 then 26 + c.ms else if k = 2 then 114 else 0 else 0
def szE (c : Cg) (k : Int) : Int := if c.ok then if k = 1 ∨ k = 2 then 0 else 253 else 200
theorem ok_ms {c : Cg} (h : c.ok = true) : 32 ≤ c.ms ∧ c.ms ≤ 512 := by
  unfold Cg.ok at h
  simp [inB] at h
  omega
def s3 (a b c : Int) : List Value := [.int .i64 a, .int .i64 b, .int .i64 c]
theorem s3_one (a b c : Int) : ∀ v ∈ s3 a b c, v.oneCell' = true := by intro v hv; simp [s3] at hv; rcases hv with rfl | rfl | rfl <;> rfl
theorem cg_size (c : Cg) : (Try.prog.info? 25).map (·.size) = some c.cs.length := by kernel_rfl
end Go.Proofs.Ytmgkjldjeomcmaa
