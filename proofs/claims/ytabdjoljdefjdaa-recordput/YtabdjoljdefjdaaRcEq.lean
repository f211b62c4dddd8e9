/- Layer record: Groups and heads compared; answers of heads. -/
import Derived.Test.YtabdjoljdefjdaaRcPlain
import Derived.Test.YtabdjoljdefjdaaRInvP
namespace Go.Proofs.Ytabdjoljdefjdaa
open Go.RowKit
set_option linter.unusedVariables false
set_option linter.unusedSimpArgs false

theorem infoByteR : (Try.prog.info? 5).map (fun i => (i.zero, i.size)) = some (some (.int .u8 0), 1) := by kernel_rfl
theorem equalD_self (d : Nat) (zs : List Int) (hl : zs.length = 16) (w : World) : (Op.equalIn (d + 2) 24 (.agg (u8s zs).toArray) (.agg (u8s zs).toArray)).run Try.prog w = .ok true w := by
  have hsz : ∀ w, (sizeOf 5).run Try.prog w = .ok 1 w := fun w => by
    have h := infoByteR
    cases hq : Try.prog.info? 5 with
    | none => simp [hq] at h
    | some i => simp [hq] at h; simp [sizeOf, typeInfo, hq, h.2]
  have ht := Try.underlying24
  have he := Try.underlying5
  rw [Op.equalIn]
  simp only [Sem.run_bind, run_underlying ht, Result.andThen_ok, hsz, Std.Legacy.Range.forIn_eq_forIn_range', Std.Legacy.Range.size, Nat.sub_zero, Nat.add_sub_cancel, Nat.div_one]
  have hlr : ∀ i ∈ List.range' 0 16 1, i < 16 := fun i hi => by simpa using (List.mem_range'_1.1 hi).2
  generalize List.range' 0 16 1 = l at hlr ⊢
  induction l with
  | nil => simp
  | cons i l ih =>
    have hi : i < 16 := hlr i (by simp)
    have px : (Go.part 5 (u8s zs).toArray (i * 1)).run Try.prog w = .ok (.int .u8 (zs.getD i 0)) w := by
      simp [Go.part, isAgg, run_underlying he, u8s, List.getD, List.getElem?_eq_getElem (show i < zs.length by omega)]
    have pe : (Op.equalIn (d + 1) 5 (.int .u8 (zs.getD i 0)) (.int .u8 (zs.getD i 0))).run Try.prog w = .ok true w := by
      rw [run_equalIn_int w d 5 .u8 .u8 _ _ he]; simp
    simp only [List.forIn_cons, Sem.run_bind, px, pe, Result.andThen_ok]
    simp only [Bool.not_true, Bool.false_eq_true, if_false, Sem.run_pure, Result.andThen_ok]
    exact ih fun j hj => hlr j (by simp [hj])
theorem equalD_no (d : Nat) (zs ys : List Int) (hl : zs.length = 16) (hm : ys.length = 16) (hne : zs ≠ ys) (w : World) : (Op.equalIn (d + 2) 24 (.agg (u8s zs).toArray) (.agg (u8s ys).toArray)).run Try.prog w = .ok false w := by
  have hsz : ∀ w, (sizeOf 5).run Try.prog w = .ok 1 w := fun w => by
    have h := infoByteR
    cases hq : Try.prog.info? 5 with
    | none => simp [hq] at h
    | some i => simp [hq] at h; simp [sizeOf, typeInfo, hq, h.2]
  have ht := Try.underlying24
  have he := Try.underlying5
  rw [Op.equalIn]
  simp only [Sem.run_bind, run_underlying ht, Result.andThen_ok, hsz, Std.Legacy.Range.forIn_eq_forIn_range', Std.Legacy.Range.size, Nat.sub_zero, Nat.add_sub_cancel, Nat.div_one]
  have hlr : ∀ i ∈ List.range' 0 16 1, i < 16 := fun i hi => by simpa using (List.mem_range'_1.1 hi).2
  have hex : ∃ i ∈ List.range' 0 16 1, zs.getD i 0 ≠ ys.getD i 0 := by
    apply Classical.byContradiction
    intro hno
    refine hne (List.ext_getElem (by rw [hl, hm]) fun i h1 h2 => ?_)
    have := Classical.not_not.1 fun h => hno ⟨i, List.mem_range'_1.2 ⟨by omega, by omega⟩, h⟩
    simpa [List.getD, h1, h2] using this
  generalize List.range' 0 16 1 = l at hlr hex ⊢
  induction l with
  | nil => obtain ⟨i, hi, _⟩ := hex; cases hi
  | cons i l ih =>
    have hi : i < 16 := hlr i (by simp)
    have px : (Go.part 5 (u8s zs).toArray (i * 1)).run Try.prog w = .ok (.int .u8 (zs.getD i 0)) w := by
      simp [Go.part, isAgg, run_underlying he, u8s, List.getD, List.getElem?_eq_getElem (show i < zs.length by omega)]
    have py : (Go.part 5 (u8s ys).toArray (i * 1)).run Try.prog w = .ok (.int .u8 (ys.getD i 0)) w := by
      simp [Go.part, isAgg, run_underlying he, u8s, List.getD, List.getElem?_eq_getElem (show i < ys.length by omega)]
    by_cases hxy : zs.getD i 0 = ys.getD i 0
    · have pe : (Op.equalIn (d + 1) 5 (.int .u8 (zs.getD i 0)) (.int .u8 (ys.getD i 0))).run Try.prog w = .ok true w := by
        rw [run_equalIn_int w d 5 .u8 .u8 _ _ he, hxy]; simp
      simp only [List.forIn_cons, Sem.run_bind, px, py, pe, Result.andThen_ok]
      simp only [Bool.not_true, Bool.false_eq_true, if_false, Sem.run_pure, Result.andThen_ok]
      refine ih (fun j hj => hlr j (by simp [hj])) ?_
      obtain ⟨j, hj, hd⟩ := hex
      rcases List.mem_cons.1 hj with rfl | hj
      · exact absurd hxy hd
      · exact ⟨j, hj, hd⟩
    · have pe : (Op.equalIn (d + 1) 5 (.int .u8 (zs.getD i 0)) (.int .u8 (ys.getD i 0))).run Try.prog w = .ok false w := by
        rw [run_equalIn_int w d 5 .u8 .u8 _ _ he, show (zs.getD i 0 == ys.getD i 0) = false by rw [beq_eq_false_iff_ne]; exact hxy]
      simp only [List.forIn_cons, Sem.run_bind, px, py, pe, Result.andThen_ok]
      simp
theorem equalD_dec (d : Nat) (zs ys : List Int) (hl : zs.length = 16) (hm : ys.length = 16) (w : World) : (Op.equalIn (d + 2) 24 (.agg (u8s zs).toArray) (.agg (u8s ys).toArray)).run Try.prog w = .ok (decide (ys = zs)) w := by
  by_cases h : ys = zs
  · subst h
    rw [equalD_self d ys hl w]; simp
  · rw [equalD_no d zs ys hl hm (fun e => h e.symm) w]; simp [h]
theorem hsize : (Try.prog.info? 26).map (·.size) = some 20 := by kernel_rfl
theorem hzero : (Try.prog.info? 26).map (fun i => (i.zero, i.size)) = some (some (.agg (hdC hdZ).toArray), 20) := by kernel_rfl
theorem hbuild0 (w : World) : (Instr.build 26 #[]).run Try.prog w = .ok (.agg (hdC hdZ).toArray) w := by kernel_rfl
theorem dsize : (Try.prog.info? 24).map (·.size) = some 16 := by kernel_rfl
theorem hsizeC {h : Hd} (k : h.group.length = 16) : (Try.prog.info? 26).map (·.size) = some (hdC h).length := by rw [hdC_length k]; exact hsize
theorem hdC_group {h : Hd} : hdC h = [.int .u8 h.live, .int .u8 h.flag, .int .u32 h.index, .int .u32 h.rank] ++ (u8s h.group ++ []) := by simp [hdC]
theorem head_parts (h : Hd) (hl : h.group.length = 16) (w : World) : (Go.part 5 (hdC h).toArray 0).run Try.prog w = .ok (.int .u8 h.live) w ∧ (Go.part 5 (hdC h).toArray 1).run Try.prog w = .ok (.int .u8 h.flag) w ∧ (Go.part 22 (hdC h).toArray 2).run Try.prog w = .ok (.int .u32 h.index) w ∧ (Go.part 22 (hdC h).toArray 3).run Try.prog w = .ok (.int .u32 h.rank) w ∧ (Go.part 24 (hdC h).toArray 4).run Try.prog w = .ok (.agg (u8s h.group).toArray) w := by
  refine ⟨?_, ?_, ?_, ?_, ?_⟩
  · simp [Go.part, isAgg, run_underlying Try.underlying5, hdC]
  · simp [Go.part, isAgg, run_underlying Try.underlying5, hdC]
  · simp [Go.part, isAgg, run_underlying Try.underlying22, hdC]
  · simp [Go.part, isAgg, run_underlying Try.underlying22, hdC]
  · have hz : ∀ w, (sizeOf 24).run Try.prog w = .ok 16 w := fun w => by
      have h := dsize
      cases hq : Try.prog.info? 24 with
      | none => simp [hq] at h
      | some i => simp [hq] at h; simp [sizeOf, typeInfo, hq, h]
    have e : (u8s h.group).length = 16 := by rw [u8s_length, hl]
    obtain ⟨g, hg⟩ : ∃ g, u8s h.group = g := ⟨_, rfl⟩
    rw [hg] at e
    simp [Go.part, isAgg, run_underlying Try.underlying24, hdC, hz, hg, e]
    rw [List.take_of_length_le (by omega)]
theorem head_eq (x y : Hd) (hx : x.group.length = 16) (hy : y.group.length = 16) : (x == y) = (x.live == y.live && (x.flag == y.flag && (x.index == y.index && (x.rank == y.rank && decide (y.group = x.group))))) := by
  obtain ⟨a, b, c, d, e⟩ := x
  obtain ⟨a', b', c', d', e'⟩ := y
  rw [Bool.eq_iff_iff]
  simp [Hd.mk.injEq]
  intros
  exact ⟨fun h => h.symm, fun h => h.symm⟩
theorem eqf_step (d : Nat) (xs ys : Array Value) (f : Field) (fs : List Field) (u v : Value) (r : Bool) (w : World) (hn : f.name ≠ "_") (pa : (Go.part f.type xs f.offset).run Try.prog w = .ok u w) (pb : (Go.part f.type ys f.offset).run Try.prog w = .ok v w) (q : (Op.equalIn d f.type u v).run Try.prog w = .ok r w) (R : Bool) (h : (Op.eqFields d xs ys fs).run Try.prog w = .ok R w) : (Op.eqFields d xs ys (f :: fs)).run Try.prog w = .ok (r && R) w := by
  cases r <;> simp [Op.eqFields, pa, pb, q, hn, h]
theorem equal_headD (d : Nat) (x y : Hd) (hx : x.group.length = 16) (hy : y.group.length = 16) (w : World) : (Op.equalIn (d + 3) 26 (.agg (hdC x).toArray) (.agg (hdC y).toArray)).run Try.prog w = .ok (x == y) w := by
  have hf : Try.prog.underlying 26 = some (.struct (Try.prog.fieldsOf 26)) := by kernel_rfl
  have hp : Try.prog.stoodInHeld 26 = false := by kernel_rfl
  have hl : (Try.prog.fieldsOf 26).toList = [{ name := "Live", type := 5, offset := 0, embedded := false, tag := "", pkgPath := "", byteOffset := 0 }, { name := "Flag", type := 5, offset := 1, embedded := false, tag := "", pkgPath := "", byteOffset := 1 }, { name := "Index", type := 22, offset := 2, embedded := false, tag := "", pkgPath := "", byteOffset := 4 }, { name := "Rank", type := 22, offset := 3, embedded := false, tag := "", pkgPath := "", byteOffset := 8 }, { name := "Group", type := 24, offset := 4, embedded := false, tag := "", pkgPath := "", byteOffset := 12 }] := by kernel_rfl
  rw [run_equalIn_struct w (d + 2) 26 _ _ hf hp, hl, head_eq x y hx hy]
  obtain ⟨a0, a1, a2, a3, a4⟩ := head_parts x hx w
  obtain ⟨b0, b1, b2, b3, b4⟩ := head_parts y hy w
  refine eqf_step _ _ _ _ _ _ _ _ w (by decide) a0 b0 (by rw [run_equalIn_int w (d + 1) 5 .u8 .u8 _ _ Try.underlying5]) _ ?_
  refine eqf_step _ _ _ _ _ _ _ _ w (by decide) a1 b1 (by rw [run_equalIn_int w (d + 1) 5 .u8 .u8 _ _ Try.underlying5]) _ ?_
  refine eqf_step _ _ _ _ _ _ _ _ w (by decide) a2 b2 (by rw [run_equalIn_int w (d + 1) 22 .u32 .u32 _ _ Try.underlying22]) _ ?_
  refine eqf_step _ _ _ _ _ _ _ _ w (by decide) a3 b3 (by rw [run_equalIn_int w (d + 1) 22 .u32 .u32 _ _ Try.underlying22]) _ ?_
  have h := eqf_step (d + 2) (hdC x).toArray (hdC y).toArray { name := "Group", type := 24, offset := 4, embedded := false, tag := "", pkgPath := "", byteOffset := 12 } [] (.agg (u8s x.group).toArray) (.agg (u8s y.group).toArray) (decide (y.group = x.group)) w (by decide) a4 b4 (equalD_dec d x.group y.group hx hy w) true (by simp [Op.eqFields])
  rw [Bool.and_true] at h
  exact h
theorem equal_head (x y : Hd) (hx : x.group.length = 16) (hy : y.group.length = 16) (w : World) : (Op.equalIn 10000 26 (.agg (hdC x).toArray) (.agg (hdC y).toArray)).run Try.prog w = .ok (x == y) w := equal_headD 9997 x y hx hy w
theorem neq_head (x y : Hd) (hx : x.group.length = 16) (hy : y.group.length = 16) (w : World) : (binOp .neq 26 (.agg (hdC x).toArray) (.agg (hdC y).toArray)).run Try.prog w = .ok (.bool (!(x == y))) w := by
  rw [run_neq_struct, equal_head x y hx hy]
  rfl
theorem ret_blkt {fn : Func} {p q : Tmp} {ty : TypeId} (h : fn.results = #[.cell p ty, .tmp q]) {R : Ending → World → Prop} {a : Act} {w : World} (g : Nat) (vs : List Value) (d : TypeDesc) (v : Value) (hp : a.tmps.getD p undef = .pointer (some ⟨g, 0, none⟩)) (hq : a.tmps.getD q undef = v)
    (hb : Blk w g ty vs) (hu : Try.prog.underlying ty = some d) (hd : d.isRow = true) (hi : (Try.prog.info? ty).map (·.size) = some vs.length) (hdef : a.defers = []) (hR : R (.returned (.tuple #[.agg vs.toArray, v])) w) : bodyPost Try.prog fn R .ret a w := by
  refine bodyPost_ret (v := .tuple #[.agg vs.toArray, v]) ?_ hdef hR
  have hp' : a.tmps[p]?.getD undef = .pointer (some ⟨g, 0, none⟩) := by simpa using hp
  have hq' : a.tmps[q]?.getD undef = v := by simpa using hq
  have hl := run_loadVar_row (P := Try.prog) w g ty ty vs.toArray (0, 0) d hb hu (by cases d <;> simp_all) (by simpa using hi)
  simp [results, h, hp', hq', asAddr, hl]
theorem ret_btt {fn : Func} {p q r : Tmp} {ty : TypeId} (h : fn.results = #[.cell p ty, .tmp q, .tmp r]) {R : Ending → World → Prop} {a : Act} {w : World} (g : Nat) (vs : List Value) (d : TypeDesc) (v u : Value) (hp : a.tmps.getD p undef = .pointer (some ⟨g, 0, none⟩)) (hq : a.tmps.getD q undef = v) (hr : a.tmps.getD r undef = u)
    (hb : Blk w g ty vs) (hu : Try.prog.underlying ty = some d) (hd : d.isRow = true) (hi : (Try.prog.info? ty).map (·.size) = some vs.length) (hdef : a.defers = []) (hR : R (.returned (.tuple #[.agg vs.toArray, v, u])) w) : bodyPost Try.prog fn R .ret a w := by
  refine bodyPost_ret (v := .tuple #[.agg vs.toArray, v, u]) ?_ hdef hR
  have hp' : a.tmps[p]?.getD undef = .pointer (some ⟨g, 0, none⟩) := by simpa using hp
  have hq' : a.tmps[q]?.getD undef = v := by simpa using hq
  have hr' : a.tmps[r]?.getD undef = u := by simpa using hr
  have hl := run_loadVar_row (P := Try.prog) w g ty ty vs.toArray (0, 0) d hb hu (by cases d <;> simp_all) (by simpa using hi)
  simp [results, h, hp', hq', hr', asAddr, hl]
theorem ret_bbt {fn : Func} {p q r : Tmp} {ty tz : TypeId} (h : fn.results = #[.cell p ty, .cell q tz, .tmp r]) {R : Ending → World → Prop} {a : Act} {w : World} (g g2 : Nat) (vs us : List Value) (d d2 : TypeDesc) (u : Value) (hp : a.tmps.getD p undef = .pointer (some ⟨g, 0, none⟩)) (hq : a.tmps.getD q undef = .pointer (some ⟨g2, 0, none⟩)) (hr : a.tmps.getD r undef = u)
    (hb : Blk w g ty vs) (hb2 : Blk w g2 tz us) (hu : Try.prog.underlying ty = some d) (hu2 : Try.prog.underlying tz = some d2) (hd : d.isRow = true) (hd2 : d2.isRow = true) (hi : (Try.prog.info? ty).map (·.size) = some vs.length) (hi2 : (Try.prog.info? tz).map (·.size) = some us.length) (hdef : a.defers = []) (hR : R (.returned (.tuple #[.agg vs.toArray, .agg us.toArray, u])) w) : bodyPost Try.prog fn R .ret a w := by
  refine bodyPost_ret (v := .tuple #[.agg vs.toArray, .agg us.toArray, u]) ?_ hdef hR
  have hp' : a.tmps[p]?.getD undef = .pointer (some ⟨g, 0, none⟩) := by simpa using hp
  have hq' : a.tmps[q]?.getD undef = .pointer (some ⟨g2, 0, none⟩) := by simpa using hq
  have hr' : a.tmps[r]?.getD undef = u := by simpa using hr
  have hl := run_loadVar_row (P := Try.prog) w g ty ty vs.toArray (0, 0) d hb hu (by cases d <;> simp_all) (by simpa using hi)
  have hl2 := run_loadVar_row (P := Try.prog) w g2 tz tz us.toArray (0, 0) d2 hb2 hu2 (by cases d2 <;> simp_all) (by simpa using hi2)
  simp [results, h, hp', hq', hr', asAddr, hl, hl2]
end Go.Proofs.Ytabdjoljdefjdaa
