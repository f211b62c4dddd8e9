/- Layer host: the statements' sameTold, sameLog, fits, last. -/
import Derived.Test.YtobcolpdkcppoaaHToldA
namespace Go.Proofs.Ytobcolpdkcppoaa
open Go.RowKit
set_option linter.unusedVariables false
set_option linter.unusedSimpArgs false

theorem infoByte2 : (Try.prog.info? 5).map (·.size) = some 1 := by kernel_rfl
/-- An array of bytes is itself. -/
theorem equalA (t : TypeId) (n : Nat) (ht : Try.prog.underlying t = some (.array n 5)) (d : Nat) (zs : List Int) (hl : zs.length = n) (w : World) : (Op.equalIn (d + 2) t (.agg (u8s zs).toArray) (.agg (u8s zs).toArray)).run Try.prog w = .ok true w := by
  have hsz : ∀ w, (sizeOf 5).run Try.prog w = .ok 1 w := fun w => by
    have h := infoByte2
    cases hq : Try.prog.info? 5 with
    | none => simp [hq] at h
    | some i => simp [hq] at h; simp [sizeOf, typeInfo, hq, h]
  have he := Try.underlying5
  rw [Op.equalIn]
  simp only [Sem.run_bind, run_underlying ht, Result.andThen_ok, hsz, Std.Legacy.Range.forIn_eq_forIn_range', Std.Legacy.Range.size, Nat.sub_zero, Nat.add_sub_cancel, Nat.div_one]
  have hlr : ∀ i ∈ List.range' 0 n 1, i < n := fun i hi => by simpa using (List.mem_range'_1.1 hi).2
  generalize List.range' 0 n 1 = l at hlr ⊢
  induction l with
  | nil => simp
  | cons i l ih =>
    have hi : i < n := hlr i (by simp)
    have px : (Go.part 5 (u8s zs).toArray (i * 1)).run Try.prog w = .ok (.int .u8 (zs.getD i 0)) w := by
      simp [Go.part, isAgg, run_underlying he, u8s, List.getD, List.getElem?_eq_getElem (show i < zs.length by omega)]
    have pe : (Op.equalIn (d + 1) 5 (.int .u8 (zs.getD i 0)) (.int .u8 (zs.getD i 0))).run Try.prog w = .ok true w := by
      rw [run_equalIn_int w d 5 .u8 .u8 _ _ he]; simp
    simp only [List.forIn_cons, Sem.run_bind, px, pe, Result.andThen_ok]
    simp only [Bool.not_true, Bool.false_eq_true, if_false, Sem.run_pure, Result.andThen_ok]
    exact ih fun j hj => hlr j (by simp [hj])
theorem neq_tc (t : Tc) (ht : t.Good) (w : World) : (binOp .neq 49 (.agg (tcC t).toArray) (.agg (tcC t).toArray)).run Try.prog w = .ok (.bool false) w := by
  have hf : Try.prog.underlying 49 = some (.struct (Try.prog.fieldsOf 49)) := by kernel_rfl
  have hp : Try.prog.stoodInHeld 49 = false := by kernel_rfl
  have hl : (Try.prog.fieldsOf 49).toList = [{ name := "Op", type := 3, offset := 0, embedded := false, tag := "", pkgPath := "", byteOffset := 0 }, { name := "Page", type := 3, offset := 1, embedded := false, tag := "", pkgPath := "", byteOffset := 8 }, { name := "Length", type := 3, offset := 2, embedded := false, tag := "", pkgPath := "", byteOffset := 16 }, { name := "Head", type := 47, offset := 3, embedded := false, tag := "", pkgPath := "", byteOffset := 24 }] := by kernel_rfl
  rw [run_neq_struct, run_equalIn_struct w 9999 49 _ _ hf hp, hl]
  have p0 : (Go.part 3 (tcC t).toArray 0).run Try.prog w = .ok (.int .i64 t.op) w := by simp [Go.part, isAgg, run_underlying Try.underlying3, tcC]
  have p1 : (Go.part 3 (tcC t).toArray 1).run Try.prog w = .ok (.int .i64 t.pg) w := by simp [Go.part, isAgg, run_underlying Try.underlying3, tcC]
  have p2 : (Go.part 3 (tcC t).toArray 2).run Try.prog w = .ok (.int .i64 t.ln) w := by simp [Go.part, isAgg, run_underlying Try.underlying3, tcC]
  have hsn : (sizeOf 47).run Try.prog w = .ok 12 w := by kernel_rfl
  have p3 : (Go.part 47 (tcC t).toArray 3).run Try.prog w = .ok (.agg (u8s t.hd).toArray) w := by
    have hl12 : (u8s t.hd).length = 12 := by rw [u8s_length]; exact ht
    simp [Go.part, isAgg, run_underlying Try.underlying47, hsn, tcC]
    exact hl12.symm ▸ (by simp)
  have q : ∀ z : Int, (Op.equalIn 9999 3 (.int .i64 z) (.int .i64 z)).run Try.prog w = .ok true w := fun z => by rw [run_equalIn_int w 9998 3 .i64 .i64 _ _ Try.underlying3]; simp
  have q3 : (Op.equalIn 9999 47 (.agg (u8s t.hd).toArray) (.agg (u8s t.hd).toArray)).run Try.prog w = .ok true w := equalA 47 12 Try.underlying47 9997 t.hd ht w
  simp [Op.eqFields, p0, p1, p2, p3, q, q3]
end Go.Proofs.Ytobcolpdkcppoaa
