/- Layer codec: two like configs are equal; what both read a config as. -/
import Derived.Test.YtmgkjldjeomcmaaDoorCcParse
namespace Go.Proofs.YtmgkjldjeomcmaaDoor
open Go.RowKit
set_option linter.unusedVariables false
set_option linter.unusedSimpArgs false


theorem eqf_stepC (d : Nat) (xs ys : Array Value) (f : Field) (fs : List Field) (u v : Value) (r : Bool) (w : World) (hn : f.name ≠ "_") (pa : (Go.part f.type xs f.offset).run Tryd.prog w = .ok u w) (pb : (Go.part f.type ys f.offset).run Tryd.prog w = .ok v w) (q : (Op.equalIn d f.type u v).run Tryd.prog w = .ok r w) (R : Bool) (h : (Op.eqFields d xs ys fs).run Tryd.prog w = .ok R w) : (Op.eqFields d xs ys (f :: fs)).run Tryd.prog w = .ok (r && R) w := by
  cases r <;> simp [Op.eqFields, pa, pb, q, hn, h]
set_option maxRecDepth 20000 in
theorem equal_cfgD (d : Nat) (c : Cg) (w : World) : (Op.equalIn (d + 2) 23 (.agg c.cs.toArray) (.agg c.cs.toArray)).run Tryd.prog w = .ok true w := by
  have hf : Tryd.prog.underlying 23 = some (.struct (Tryd.prog.fieldsOf 23)) := by kernel_rfl
  have hp : Tryd.prog.stoodInHeld 23 = false := by kernel_rfl
  have hl : (Tryd.prog.fieldsOf 23).toList = [{ name := "Batch", type := 3, offset := 0, embedded := false, tag := "", pkgPath := "", byteOffset := 0 }, { name := "Message", type := 3, offset := 1, embedded := false, tag := "", pkgPath := "", byteOffset := 8 }, { name := "Buckets", type := 3, offset := 2, embedded := false, tag := "", pkgPath := "", byteOffset := 16 }, { name := "Text", type := 3, offset := 3, embedded := false, tag := "", pkgPath := "", byteOffset := 24 }, { name := "Window", type := 3, offset := 4, embedded := false, tag := "", pkgPath := "", byteOffset := 32 }, { name := "Workers", type := 3, offset := 5, embedded := false, tag := "", pkgPath := "", byteOffset := 40 }] := by kernel_rfl
  rw [run_equalIn_struct w (d + 1) 23 _ _ hf hp, hl]
  have p0 : (Go.part 3 c.cs.toArray 0).run Tryd.prog w = .ok (.int .i64 c.bt) w := by simp [Go.part, isAgg, run_underlying Tryd.underlying3, Cg.cs]
  have p1 : (Go.part 3 c.cs.toArray 1).run Tryd.prog w = .ok (.int .i64 c.ms) w := by simp [Go.part, isAgg, run_underlying Tryd.underlying3, Cg.cs]
  have p2 : (Go.part 3 c.cs.toArray 2).run Tryd.prog w = .ok (.int .i64 c.bk) w := by simp [Go.part, isAgg, run_underlying Tryd.underlying3, Cg.cs]
  have p3 : (Go.part 3 c.cs.toArray 3).run Tryd.prog w = .ok (.int .i64 c.tx) w := by simp [Go.part, isAgg, run_underlying Tryd.underlying3, Cg.cs]
  have p4 : (Go.part 3 c.cs.toArray 4).run Tryd.prog w = .ok (.int .i64 c.wi) w := by simp [Go.part, isAgg, run_underlying Tryd.underlying3, Cg.cs]
  have p5 : (Go.part 3 c.cs.toArray 5).run Tryd.prog w = .ok (.int .i64 c.wk) w := by simp [Go.part, isAgg, run_underlying Tryd.underlying3, Cg.cs]
  have h6 : (Op.eqFields (d + 1) c.cs.toArray c.cs.toArray []).run Tryd.prog w = .ok true w := by simp [Op.eqFields]
  have h5 := eqf_stepC (d + 1) c.cs.toArray c.cs.toArray { name := "Workers", type := 3, offset := 5, embedded := false, tag := "", pkgPath := "", byteOffset := 40 } [] _ _ true w (by decide) p5 p5 (by rw [run_equalIn_int w d 3 .i64 .i64 _ _ Tryd.underlying3]; simp) true h6
  rw [Bool.and_true] at h5
  have h4 := eqf_stepC (d + 1) c.cs.toArray c.cs.toArray { name := "Window", type := 3, offset := 4, embedded := false, tag := "", pkgPath := "", byteOffset := 32 } [{ name := "Workers", type := 3, offset := 5, embedded := false, tag := "", pkgPath := "", byteOffset := 40 }] _ _ true w (by decide) p4 p4 (by rw [run_equalIn_int w d 3 .i64 .i64 _ _ Tryd.underlying3]; simp) true h5
  rw [Bool.and_true] at h4
  have h3 := eqf_stepC (d + 1) c.cs.toArray c.cs.toArray { name := "Text", type := 3, offset := 3, embedded := false, tag := "", pkgPath := "", byteOffset := 24 } [{ name := "Window", type := 3, offset := 4, embedded := false, tag := "", pkgPath := "", byteOffset := 32 }, { name := "Workers", type := 3, offset := 5, embedded := false, tag := "", pkgPath := "", byteOffset := 40 }] _ _ true w (by decide) p3 p3 (by rw [run_equalIn_int w d 3 .i64 .i64 _ _ Tryd.underlying3]; simp) true h4
  rw [Bool.and_true] at h3
  have h2 := eqf_stepC (d + 1) c.cs.toArray c.cs.toArray { name := "Buckets", type := 3, offset := 2, embedded := false, tag := "", pkgPath := "", byteOffset := 16 } [{ name := "Text", type := 3, offset := 3, embedded := false, tag := "", pkgPath := "", byteOffset := 24 }, { name := "Window", type := 3, offset := 4, embedded := false, tag := "", pkgPath := "", byteOffset := 32 }, { name := "Workers", type := 3, offset := 5, embedded := false, tag := "", pkgPath := "", byteOffset := 40 }] _ _ true w (by decide) p2 p2 (by rw [run_equalIn_int w d 3 .i64 .i64 _ _ Tryd.underlying3]; simp) true h3
  rw [Bool.and_true] at h2
  have h1 := eqf_stepC (d + 1) c.cs.toArray c.cs.toArray { name := "Message", type := 3, offset := 1, embedded := false, tag := "", pkgPath := "", byteOffset := 8 } [{ name := "Buckets", type := 3, offset := 2, embedded := false, tag := "", pkgPath := "", byteOffset := 16 }, { name := "Text", type := 3, offset := 3, embedded := false, tag := "", pkgPath := "", byteOffset := 24 }, { name := "Window", type := 3, offset := 4, embedded := false, tag := "", pkgPath := "", byteOffset := 32 }, { name := "Workers", type := 3, offset := 5, embedded := false, tag := "", pkgPath := "", byteOffset := 40 }] _ _ true w (by decide) p1 p1 (by rw [run_equalIn_int w d 3 .i64 .i64 _ _ Tryd.underlying3]; simp) true h2
  rw [Bool.and_true] at h1
  have h0 := eqf_stepC (d + 1) c.cs.toArray c.cs.toArray { name := "Batch", type := 3, offset := 0, embedded := false, tag := "", pkgPath := "", byteOffset := 0 } [{ name := "Message", type := 3, offset := 1, embedded := false, tag := "", pkgPath := "", byteOffset := 8 }, { name := "Buckets", type := 3, offset := 2, embedded := false, tag := "", pkgPath := "", byteOffset := 16 }, { name := "Text", type := 3, offset := 3, embedded := false, tag := "", pkgPath := "", byteOffset := 24 }, { name := "Window", type := 3, offset := 4, embedded := false, tag := "", pkgPath := "", byteOffset := 32 }, { name := "Workers", type := 3, offset := 5, embedded := false, tag := "", pkgPath := "", byteOffset := 40 }] _ _ true w (by decide) p0 p0 (by rw [run_equalIn_int w d 3 .i64 .i64 _ _ Tryd.underlying3]; simp) true h1
  rw [Bool.and_true] at h0
  exact h0
theorem equal_cfg (c : Cg) (w : World) : (Op.equalIn 10000 23 (.agg c.cs.toArray) (.agg c.cs.toArray)).run Tryd.prog w = .ok true w := equal_cfgD 9998 c w
theorem neq_cfg (c : Cg) (w : World) : (binOp .neq 23 (.agg c.cs.toArray) (.agg c.cs.toArray)).run Tryd.prog w = .ok (.bool false) w := by
  simp only [binOp]
  simp [Op.equal, Op.maxDepth, equal_cfg c w]
theorem eql_cfg (c : Cg) (w : World) : (binOp .eql 23 (.agg c.cs.toArray) (.agg c.cs.toArray)).run Tryd.prog w = .ok (.bool true) w := by
  simp only [binOp]
  simp [Op.equal, Op.maxDepth, equal_cfg c w]
/-- What bytes are read as. -/
def pcC (zs : List Int) : Cg := if zs.length = 24 then if (cgOf zs).ok then cgOf zs else cg0 else cg0
def pcE (zs : List Int) : Int := if zs.length = 24 then if (cgOf zs).ok then 0 else 200 else 4
theorem parseConfig_any (ao : Option Addr) (n cap : Nat) (zs : List Int) (w : World) (hx : Seen w ao n zs) : Calls Tryd.prog 46 #[.slice ao n cap] w fun e w' => e = .returned (.tuple #[.agg (pcC zs).cs.toArray, .int .i64 (pcE zs)]) ∧ Below w.heap.size w w' := by
  have hl := hx.len
  unfold pcC pcE
  rw [hl]
  by_cases h : n = 24
  · subst h
    rw [if_pos rfl, if_pos rfl]
    cases hok : (cgOf zs).ok with
    | true => exact parseConfig_ok ao cap zs w hx hok
    | false => exact parseConfig_bad ao cap zs w hx hok
  · rw [if_neg h, if_neg h]
    exact parseConfig_len ao n cap (by omega) w
end Go.Proofs.YtmgkjldjeomcmaaDoor
