/- Layer ladder: keys held against one another; what the laws say of the plain mathematics. -/
import Derived.Test.YtnifolefhelmcaaLdAgree

namespace Go.Proofs.Ytnifolefhelmcaa
open Go.RowKit
set_option linter.unusedVariables false
set_option linter.unusedSimpArgs false

theorem equalK_no (d : Nat) (zs ys : List Int) (hl : zs.length = 32) (hm : ys.length = 32) (hne : zs ≠ ys) (w : World) : (Op.equalIn (d + 2) 58 (.agg (u8s zs).toArray) (.agg (u8s ys).toArray)).run Try.prog w = .ok false w := by
  have hsz : ∀ w, (sizeOf 5).run Try.prog w = .ok 1 w := fun w => by
    have h := infoB8
    cases hq : Try.prog.info? 5 with
    | none => simp [hq] at h
    | some i => simp [hq] at h; simp [sizeOf, typeInfo, hq, h.2]
  have ht := Try.underlying58
  have he := Try.underlying5
  rw [Op.equalIn]
  simp only [Sem.run_bind, run_underlying ht, Result.andThen_ok, hsz, Std.Legacy.Range.forIn_eq_forIn_range', Std.Legacy.Range.size, Nat.sub_zero, Nat.add_sub_cancel, Nat.div_one]
  have hlr : ∀ i ∈ List.range' 0 32 1, i < 32 := fun i hi => by simpa using (List.mem_range'_1.1 hi).2
  have hex : ∃ i ∈ List.range' 0 32 1, zs.getD i 0 ≠ ys.getD i 0 := by
    apply Classical.byContradiction
    intro hno
    refine hne (List.ext_getElem (by rw [hl, hm]) fun i h1 h2 => ?_)
    have := Classical.not_not.1 fun h => hno ⟨i, List.mem_range'_1.2 ⟨by omega, by omega⟩, h⟩
    simpa [List.getD, h1, h2] using this
  generalize List.range' 0 32 1 = l at hlr hex ⊢
  induction l with
  | nil => obtain ⟨i, hi, _⟩ := hex; cases hi
  | cons i l ih =>
    have hi : i < 32 := hlr i (by simp)
    have px : (Go.part 5 (u8s zs).toArray (i * 1)).run Try.prog w = .ok (.int .u8 (zs.getD i 0)) w := by
      simp [Go.part, isAgg, run_underlying he, u8s, List.getD, List.getElem?_eq_getElem (show i < zs.length by omega)]
    have py : (Go.part 5 (u8s ys).toArray (i * 1)).run Try.prog w = .ok (.int .u8 (ys.getD i 0)) w := by
      simp [Go.part, isAgg, run_underlying he, u8s, List.getD, List.getElem?_eq_getElem (show i < ys.length by omega)]
    by_cases hxy : zs.getD i 0 = ys.getD i 0
    · have pe : (Op.equalIn (d + 1) 5 (.int .u8 (zs.getD i 0)) (.int .u8 (ys.getD i 0))).run Try.prog w = .ok true w := by
        rw [run_equalIn_int w d 5 .u8 .u8 _ _ he, hxy]; simp
      simp only [List.forIn_cons, Sem.run_bind, px, py, pe, Result.andThen_ok]
      simp only [Bool.not_true, Bool.false_eq_true, if_false, Sem.run_pure, Result.andThen_ok]
      refine ih (fun j hj => hlr j (by simp [hj])) ?_
      obtain ⟨j, hj, hd⟩ := hex
      rcases List.mem_cons.1 hj with rfl | hj
      · exact absurd hxy hd
      · exact ⟨j, hj, hd⟩
    · have pe : (Op.equalIn (d + 1) 5 (.int .u8 (zs.getD i 0)) (.int .u8 (ys.getD i 0))).run Try.prog w = .ok false w := by
        rw [run_equalIn_int w d 5 .u8 .u8 _ _ he, show (zs.getD i 0 == ys.getD i 0) = false by rw [beq_eq_false_iff_ne]; exact hxy]
      simp only [List.forIn_cons, Sem.run_bind, px, py, pe, Result.andThen_ok]
      simp
theorem equalK_dec (d : Nat) (zs ys : List Int) (hl : zs.length = 32) (hm : ys.length = 32) (w : World) : (Op.equalIn (d + 2) 58 (.agg (u8s zs).toArray) (.agg (u8s ys).toArray)).run Try.prog w = .ok (decide (zs = ys)) w := by
  by_cases h : zs = ys
  · subst h
    rw [equal32A 58 32 Try.underlying58 d zs hl w]; simp
  · rw [equalK_no d zs ys hl hm h w]; simp [h]
/-- No key. -/
def zK32 : List Int := List.replicate 32 0
theorem build_zero (w : World) : (Instr.build 58 #[]).run Try.prog w = .ok (.agg (u8s zK32).toArray) w := by kernel_rfl
theorem zK_length : zK32.length = 32 := rfl
theorem zK_bytes : Bytes zK32 := fun z hz => by have := (List.mem_replicate.1 hz).2; omega
theorem wpList_build_g {ops : Array Oper} {rest : List Oper} {o : Oper} {a : Act} {Q : Exit → Act → World → Prop} {w : World} (hw : Region.wanted o (yielded ops a.tmps) = true) (t : TypeId) (parts : Array (Nat × Operand)) (ho : o.op = .build t parts) (ps : Array (Nat × Value))
    (hp : (parts.map fun (i, x) => (i, a.eval x)) = ps) (v : Value) (hrun : (Instr.build t ps).run Try.prog w = .ok v w) (h : wpList Try.prog ops Q rest (a.put o.dst v) w) : wpList Try.prog ops Q (o :: rest) a w :=
  wpList_step fun K hK => by
    simp only [hw, if_true]
    unfold Oper.wp execOp
    simp only [ho, hp, Sem.run_bind, hrun, Sem.run_pure, Result.andThen_ok]
    exact hK _ _ h
/-- Products commute. -/
theorem prod_meet (ps bs us : List Int) (ha : ps.length = 32) (hab : Bytes ps) (hb : bs.length = 32) (hbb : Bytes bs) : prodL ps (prodL bs us) = prodL bs (prodL ps us) := by
  unfold prodL prodN
  rw [pub_leB _ (mulI_bd _ _), pub_leB _ (mulI_bd _ _), meetI _ _ _ (cl_of ps ha hab) (cl_of bs hb hbb)]
/-- A secret is not weak. -/
theorem prod_strong (ps bs : List Int) (ha : ps.length = 32) (hab : Bytes ps) (hb : bs.length = 32) (hbb : Bytes bs) : prodN ps (prodL bs nineL) ≠ 0 := by
  unfold prodN
  rw [pub_prod]
  unfold prodN
  rw [nine_pub]
  exact secretI _ _ (cl_of ps ha hab) (cl_of bs hb hbb)
theorem prod_base (ps : List Int) (ha : ps.length = 32) (hab : Bytes ps) : prodN ps nineL ≠ 0 := by
  unfold prodN
  rw [nine_pub]
  exact baseI _ (cl_of ps ha hab)
theorem valid_yes {ks us : List Int} (h : prodN ks us ≠ 0) : validN ks us = 18446744073709551615 := by
  unfold validN
  rw [show (prodN ks us == 0) = false by simpa using h]; rfl
theorem valid_no {ks us : List Int} (h : prodN ks us = 0) : validN ks us = 0 := by
  unfold validN
  rw [h]; rfl
theorem prod_ne {ks us : List Int} (h : prodN ks us ≠ 0) : prodL ks us ≠ zK32 := fun e => h ((prodL_zero ks us).1 e)
end Go.Proofs.Ytnifolefhelmcaa
