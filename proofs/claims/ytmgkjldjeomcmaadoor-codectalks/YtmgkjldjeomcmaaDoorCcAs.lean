/- Layer codec: errors.As at '*api.Errno', of no error, and of a misfit that wraps an Errno, one or two deep. -/
import Derived.Test.YtmgkjldjeomcmaaDoorOBase
import Derived.LaidEql
import Derived.Stop.Asserts
import Derived.RowKitTokens
namespace Go.Proofs.YtmgkjldjeomcmaaDoor
open Go.RowKit Go.Extern.Stop Go.Stop Go.Extern
set_option linter.unusedVariables false
set_option linter.unusedSimpArgs false

/-- errors.As(nil, target). -/
theorem as_nil (t : Value) (w : World) :
    Calls Tryd.prog 72 #[.nilIface, t] w fun e w' => e = .returned (.bool false) ∧ w' = w := by
  go_enter Tryd.func72, Tryd.ntmps72
  go_wp2
  go_ret
  exact ⟨rfl, rfl⟩

/-! ### Closed facts on the model's entries for internal/reflectlite, at this program's types -/
theorem rfValueOf (t : Addr) (w : World) : (ReflectliteValue.unpack (.iface 106 (.pointer (some t)))).run Tryd.prog w
    = .ok (.agg #[.pointer (some ⟨1, 106, none⟩), .pointer (some ⟨w.heap.size, 0, none⟩), .int .u64 150]) (w.alloc (.cells #[.pointer (some t)] 106)) := by kernel_rfl
theorem rfType (a : Addr) (w : World) : (ReflectliteValue.methodAny (ReflectliteValue.valueError "reflectlite.Value.Type" 0) (fun t _ _ _ => ReflectliteType.toType t) #[.agg #[.pointer (some ⟨1, 106, none⟩), .pointer (some a), .int .u64 150]]).run Tryd.prog w
    = .ok (.iface 139 (.agg #[.pointer (some ⟨1, 106, none⟩)])) w := by kernel_rfl
theorem rfMethodKind (h : Value) (w : World) : (Go.method 284 139 (.agg #[h]) "Kind").run Tryd.prog w = .ok (114, h) w := by kernel_rfl
theorem rfKindP (w : World) : ((ReflectliteType.abiMethod fun t => (fun a : Nat => Value.int IntKind.u8 (a : Int)) <$> Rtype.kind t) #[.pointer (some ⟨1, 106, none⟩)]).run Tryd.prog w = .ok (.int .u8 22) w := by kernel_rfl
theorem rfKindE (w : World) : ((ReflectliteType.abiMethod fun t => (fun a : Nat => Value.int IntKind.u8 (a : Int)) <$> Rtype.kind t) #[.pointer (some ⟨1, 25, none⟩)]).run Tryd.prog w = .ok (.int .u8 2) w := by kernel_rfl
theorem rlm (z : Sem Value) (f : TypeId → Addr → Nat → Nat → Sem Value) (v : Value) :
    ReflectliteValue.method z f #[v] = (do match ← ReflectliteValue.parts v with | none => z | some (t, a, fl) => f t a fl (fl % 32)) := rfl
theorem rfPartsP (a : Addr) (w : World) : (ReflectliteValue.parts (.agg #[.pointer (some ⟨1, 106, none⟩), .pointer (some a), .int .u64 150])).run Tryd.prog w = .ok (some (106, a, 150)) w := by kernel_rfl
theorem rfIsNil (a p : Addr) (W : World) (ha : W.cell? a = some (.pointer (some p))) :
    (ReflectliteValue.method (ReflectliteValue.valueError "reflectlite.Value.IsNil" 0) ReflectliteValue.isNil #[.agg #[.pointer (some ⟨1, 106, none⟩), .pointer (some a), .int .u64 150]]).run Tryd.prog W = .ok (.bool false) W := by
  rw [rlm]
  simp only [Sem.run_bind, rfPartsP, Result.andThen]
  simp [ReflectliteValue.isNil, loadVar, isAgg, underlying, Tryd.underlying106, ha, Result.andThen]
theorem rfMethodElem (h : Value) (w : World) : (Go.method 284 139 (.agg #[h]) "Elem").run Tryd.prog w = .ok (126, .agg #[h]) w := by kernel_rfl
theorem rfMethodImplements (h : Value) (w : World) : (Go.method 284 139 (.agg #[h]) "Implements").run Tryd.prog w = .ok (127, .agg #[h]) w := by kernel_rfl
theorem rfMethodAssignableTo (h : Value) (w : World) : (Go.method 284 139 (.agg #[h]) "AssignableTo").run Tryd.prog w = .ok (124, .agg #[h]) w := by kernel_rfl
theorem rfElem (w : World) : (ReflectliteType.method ReflectliteType.elem #[.agg #[.pointer (some ⟨1, 106, none⟩)]]).run Tryd.prog w = .ok (.iface 139 (.agg #[.pointer (some ⟨1, 25, none⟩)])) w := by kernel_rfl
theorem rfImplements (w : World) : (ReflectliteType.relation "Implements" ReflectliteType.implements_ #[.agg #[.pointer (some ⟨1, 25, none⟩)], .iface 139 (.agg #[.pointer (some ⟨1, 69, none⟩)])]).run Tryd.prog w = .ok (.bool true) w := by kernel_rfl
theorem rfTypeOfE (v : Value) (w : World) : (ReflectliteType.typeOf #[.iface 25 v]).run Tryd.prog w = .ok (.iface 139 (.agg #[.pointer (some ⟨1, 25, none⟩)])) w := by kernel_rfl
theorem rfTypeOfM (v : Value) (w : World) : (ReflectliteType.typeOf #[.iface 110 v]).run Tryd.prog w = .ok (.iface 139 (.agg #[.pointer (some ⟨1, 110, none⟩)])) w := by kernel_rfl
theorem rfAssignE (w : World) : (ReflectliteType.relation "AssignableTo" ReflectliteType.assignableTo #[.agg #[.pointer (some ⟨1, 25, none⟩)], .iface 139 (.agg #[.pointer (some ⟨1, 25, none⟩)])]).run Tryd.prog w = .ok (.bool true) w := by kernel_rfl
theorem rfAssignM (w : World) : (ReflectliteType.relation "AssignableTo" ReflectliteType.assignableTo #[.agg #[.pointer (some ⟨1, 110, none⟩)], .iface 139 (.agg #[.pointer (some ⟨1, 25, none⟩)])]).run Tryd.prog w = .ok (.bool false) w := by kernel_rfl
theorem rfValueOfE (x : Int) (w : World) : (ReflectliteValue.unpack (.iface 25 (.int .i64 x))).run Tryd.prog w
    = .ok (.agg #[.pointer (some ⟨1, 25, none⟩), .pointer (some ⟨w.heap.size, 0, none⟩), .int .u64 130]) (w.alloc (.cells #[.int .i64 x] 25)) := by kernel_rfl
theorem rfElemOf (w : World) : (Rtype.elem? 106).run Tryd.prog w = .ok (some 25) w := by kernel_rfl
theorem rfMk (p : Addr) (w : World) : (ReflectliteValue.mk 25 p ReflectliteValue.flagAddr).run Tryd.prog w = .ok (.agg #[.pointer (some ⟨1, 25, none⟩), .pointer (some p), .int .u64 386]) w := by kernel_rfl
theorem rfElemV (a p : Addr) (W : World) (ha : W.cell? a = some (.pointer (some p))) :
    (ReflectliteValue.method (ReflectliteValue.valueError "reflectlite.Value.Elem" 0) ReflectliteValue.elem #[.agg #[.pointer (some ⟨1, 106, none⟩), .pointer (some a), .int .u64 150]]).run Tryd.prog W
      = .ok (.agg #[.pointer (some ⟨1, 25, none⟩), .pointer (some p), .int .u64 386]) W := by
  rw [rlm]
  simp only [Sem.run_bind, rfPartsP, Result.andThen]
  simp [ReflectliteValue.elem, loadVar, isAgg, underlying, Tryd.underlying106, ha, Result.andThen, rfElemOf, rfMk]
theorem rls (v x : Value) : ReflectliteValue.set #[v, x] = (do
    let (some (dst, a, fl), some (src, b, _)) := (← ReflectliteValue.parts v, ← ReflectliteValue.parts x)
      | unsupported (.noEntry "extern/(internal/reflectlite.Value).Set.zeroValue")
    if fl / ReflectliteValue.flagAddr % 2 == 0 then unsupported (.noEntry "extern/(internal/reflectlite.Value).Set.unaddressable")
    let val ← loadVar src b
    if ← Rtype.directlyAssignable dst src then storeVar dst a val
    else if ← Rtype.implements dst src then
      if (← Rtype.kind src) == 20 then
        match val with
        | .nilIface => unsupported (.noEntry "extern/reflectlite: a nil value of one interface type handed on as a value of another")
        | _ => storeVar dst a val
      else storeVar dst a (.iface src val)
    else panicString ("reflectlite.Set: value of type " ++ (← Rtype.spelt src) ++ " is not assignable to type " ++ (← Rtype.spelt dst))
    pure (.tuple #[])) := rfl
theorem rfPartsEa (a : Addr) (w : World) : (ReflectliteValue.parts (.agg #[.pointer (some ⟨1, 25, none⟩), .pointer (some a), .int .u64 386])).run Tryd.prog w = .ok (some (25, a, 386)) w := by kernel_rfl
theorem rfPartsE (a : Addr) (w : World) : (ReflectliteValue.parts (.agg #[.pointer (some ⟨1, 25, none⟩), .pointer (some a), .int .u64 130])).run Tryd.prog w = .ok (some (25, a, 130)) w := by kernel_rfl
theorem rfDirect (w : World) : (Rtype.directlyAssignable 25 25).run Tryd.prog w = .ok true w := by kernel_rfl
theorem rfSet (ta b : Addr) (x : Int) (old : Value) (W : World) (hb : W.cell? b = some (.int .i64 x)) (ht : W.cell? ta = some old) (hf : W.frozen? ta = false) :
    (ReflectliteValue.set #[.agg #[.pointer (some ⟨1, 25, none⟩), .pointer (some ta), .int .u64 386], .agg #[.pointer (some ⟨1, 25, none⟩), .pointer (some b), .int .u64 130]]).run Tryd.prog W
      = .ok (.tuple #[]) (W.setCell ta (.int .i64 x)) := by
  rw [rls]
  simp only [Sem.run_bind, rfPartsEa, rfPartsE, Result.andThen]
  simp [ReflectliteValue.flagAddr, loadVar, isAgg, underlying, Tryd.underlying25, hb, Result.andThen, rfDirect, storeVar, Value.cells, storeCells, Addr.add]
  rw [run_store Tryd.prog W ta _ _ (by rfl)]
  simp [ht, hf]
theorem asNoAs (v : Value) (w : World) : (Instr.typeAssert (.iface 110 v) 69 144 true).run Tryd.prog w = .ok (.tuple #[.nilIface, .bool false]) w :=
  run_typeAssert_lacksB Tryd.underlying144 (by kernel_rfl) (by kernel_rfl) v 69 w
theorem asUnwraps (v : Value) (w : World) : (Instr.typeAssert (.iface 110 v) 69 147 true).run Tryd.prog w = .ok (.tuple #[.iface 110 v, .bool true]) w :=
  run_typeAssert_hasB Tryd.underlying147 (by kernel_rfl) v 69 w
theorem asMethodUnwrap (v : Value) (w : World) : (Go.method 284 110 v "Unwrap").run Tryd.prog w = .ok (119, v) w := by kernel_rfl
theorem unwrap_any (i : Int) (t : TypeId) (v : Value) (w : World) : Calls Tryd.prog 119 #[.agg #[.int .i64 i, .iface t v]] w fun e w' => e = .returned (.iface t v) ∧ w' = w.alloc (.cells #[.int .i64 i, .iface t v] 110) := by
  go_enter Tryd.func119, Tryd.ntmps119
  go_wp2
  go_ret
  exact ⟨rfl, rfl⟩
theorem lt_of_cell {w : World} {p : Addr} {v : Value} (h : w.cell? p = some v) : p.block < w.heap.size := by
  rcases Nat.lt_or_ge p.block w.heap.size with h' | h'
  · exact h'
  · simp [World.cell?, Array.getElem?_eq_none h'] at h
set_option maxHeartbeats 4000000 in
set_option maxRecDepth 20000 in
theorem as_one (i0 x : Int) (a t : Addr) (tv : Value) (old : Value) (w : World) (ha : w.cell? a = some (.pointer (some t))) (ht : w.cell? t = some old) (hf : w.frozen? t = false) :
    Calls Tryd.prog 82 #[.iface 110 (.agg #[.int .i64 i0, .iface 25 (.int .i64 x)]), tv, .agg #[.pointer (some ⟨1, 106, none⟩), .pointer (some a), .int .u64 150], .iface 139 (.agg #[.pointer (some ⟨1, 25, none⟩)])] w fun e w' => e = .returned (.bool true) ∧ ∃ W, Below w.heap.size w W ∧ w' = W.setCell t (.int .i64 x) := by
  have hTo := @run_callFunc_extern Tryd.prog 91 _ ReflectliteType.typeOf Tryd.func91 (by kernel_rfl) (by kernel_rfl) (by kernel_rfl) (by kernel_rfl)
  have hAs := @run_callFunc_extern Tryd.prog 124 _ (ReflectliteType.relation "AssignableTo" ReflectliteType.assignableTo) Tryd.func124 (by kernel_rfl) (by kernel_rfl) (by kernel_rfl) (by kernel_rfl)
  have hEl := @run_callFunc_extern Tryd.prog 92 _ (ReflectliteValue.method (ReflectliteValue.valueError "reflectlite.Value.Elem" 0) ReflectliteValue.elem) Tryd.func92 (by kernel_rfl) (by kernel_rfl) (by kernel_rfl) (by kernel_rfl)
  have hSe := @run_callFunc_extern Tryd.prog 93 _ ReflectliteValue.set Tryd.func93 (by kernel_rfl) (by kernel_rfl) (by kernel_rfl) (by kernel_rfl)
  have hVo := @run_callFunc_extern Tryd.prog 79 _ (fun args => ReflectliteValue.unpack (args.getD 0 (.tuple #[]))) Tryd.func79 (by kernel_rfl) (by kernel_rfl) (by kernel_rfl) (by kernel_rfl)
  have f1 := rfTypeOfM
  have f2 := rfTypeOfE
  have f3 := rfMethodAssignableTo
  have f4 := rfAssignM
  have f5 := rfAssignE
  have f6 := asNoAs
  have f7 := asUnwraps
  have f8 := asMethodUnwrap
  have f9 := rfValueOfE
  have hal : a.block < w.heap.size := lt_of_cell ha
  have htl : t.block < w.heap.size := lt_of_cell ht
  have el := rfElemV a t ((w.alloc (.cells #[.pointer (some ⟨1, 106, none⟩), .pointer (some a), .int .u64 150] 121)).alloc (.cells #[.int .i64 i0, .iface 25 (.int .i64 x)] 110)) (by rw [World.cell?_alloc_lt _ _ _ (by simp; omega)]; rw [World.cell?_alloc_lt _ _ _ hal]; exact ha)
  have st := rfSet t ⟨w.heap.size + 1 + 1, 0, none⟩ x old (((w.alloc (.cells #[.pointer (some ⟨1, 106, none⟩), .pointer (some a), .int .u64 150] 121)).alloc (.cells #[.int .i64 i0, .iface 25 (.int .i64 x)] 110)).alloc (.cells #[.int .i64 x] 25))
    (by rw [World.cell?_alloc_at _ _ _ _ (by simp)]; rfl)
    (by rw [World.cell?_alloc_lt _ _ _ (by simp; omega)]; rw [World.cell?_alloc_lt _ _ _ (by simp; omega)]; rw [World.cell?_alloc_lt _ _ _ htl]; exact ht)
    (by rw [World.frozen?_alloc_old _ _ t (by simp; omega)]; rw [World.frozen?_alloc_old _ _ t (by simp; omega)]; rw [World.frozen?_alloc_old _ _ t (Nat.ne_of_lt htl)]; exact hf)
  have HB : Hid (Below w.heap.size w (((w.alloc (.cells #[.pointer (some ⟨1, 106, none⟩), .pointer (some a), .int .u64 150] 121)).alloc (.cells #[.int .i64 i0, .iface 25 (.int .i64 x)] 110)).alloc (.cells #[.int .i64 x] 25))) := ((((Below.refl _ _).alloc (Nat.le_refl _) _).alloc (by simp <;> omega) _).alloc (by simp <;> omega) _)
  go_enter Tryd.func82, Tryd.ntmps82
  go_wp2
  refine wp_loop_rounds 2 ?_
  rw [rounds_succ]
  go_wp2_with (go_at_call 119; refine (unwrap_any _ _ _ _).mono ?_; rintro e w' ⟨rfl, rfl⟩)
  rw [rounds_succ]
  go_wp2
  go_ret
  exact ⟨rfl, _, HB.out, rfl⟩
set_option maxHeartbeats 4000000 in
set_option maxRecDepth 20000 in
theorem as_two (i0 i1 x : Int) (a t : Addr) (tv : Value) (old : Value) (w : World) (ha : w.cell? a = some (.pointer (some t))) (ht : w.cell? t = some old) (hf : w.frozen? t = false) :
    Calls Tryd.prog 82 #[.iface 110 (.agg #[.int .i64 i0, .iface 110 (.agg #[.int .i64 i1, .iface 25 (.int .i64 x)])]), tv, .agg #[.pointer (some ⟨1, 106, none⟩), .pointer (some a), .int .u64 150], .iface 139 (.agg #[.pointer (some ⟨1, 25, none⟩)])] w fun e w' => e = .returned (.bool true) ∧ ∃ W, Below w.heap.size w W ∧ w' = W.setCell t (.int .i64 x) := by
  have hTo := @run_callFunc_extern Tryd.prog 91 _ ReflectliteType.typeOf Tryd.func91 (by kernel_rfl) (by kernel_rfl) (by kernel_rfl) (by kernel_rfl)
  have hAs := @run_callFunc_extern Tryd.prog 124 _ (ReflectliteType.relation "AssignableTo" ReflectliteType.assignableTo) Tryd.func124 (by kernel_rfl) (by kernel_rfl) (by kernel_rfl) (by kernel_rfl)
  have hEl := @run_callFunc_extern Tryd.prog 92 _ (ReflectliteValue.method (ReflectliteValue.valueError "reflectlite.Value.Elem" 0) ReflectliteValue.elem) Tryd.func92 (by kernel_rfl) (by kernel_rfl) (by kernel_rfl) (by kernel_rfl)
  have hSe := @run_callFunc_extern Tryd.prog 93 _ ReflectliteValue.set Tryd.func93 (by kernel_rfl) (by kernel_rfl) (by kernel_rfl) (by kernel_rfl)
  have hVo := @run_callFunc_extern Tryd.prog 79 _ (fun args => ReflectliteValue.unpack (args.getD 0 (.tuple #[]))) Tryd.func79 (by kernel_rfl) (by kernel_rfl) (by kernel_rfl) (by kernel_rfl)
  have f1 := rfTypeOfM
  have f2 := rfTypeOfE
  have f3 := rfMethodAssignableTo
  have f4 := rfAssignM
  have f5 := rfAssignE
  have f6 := asNoAs
  have f7 := asUnwraps
  have f8 := asMethodUnwrap
  have f9 := rfValueOfE
  have hal : a.block < w.heap.size := lt_of_cell ha
  have htl : t.block < w.heap.size := lt_of_cell ht
  have el := rfElemV a t (((w.alloc (.cells #[.pointer (some ⟨1, 106, none⟩), .pointer (some a), .int .u64 150] 121)).alloc (.cells #[.int .i64 i0, .iface 110 (.agg #[.int .i64 i1, .iface 25 (.int .i64 x)])] 110)).alloc (.cells #[.int .i64 i1, .iface 25 (.int .i64 x)] 110)) (by rw [World.cell?_alloc_lt _ _ _ (by simp; omega)]; rw [World.cell?_alloc_lt _ _ _ (by simp; omega)]; rw [World.cell?_alloc_lt _ _ _ hal]; exact ha)
  have st := rfSet t ⟨w.heap.size + 1 + 1 + 1, 0, none⟩ x old ((((w.alloc (.cells #[.pointer (some ⟨1, 106, none⟩), .pointer (some a), .int .u64 150] 121)).alloc (.cells #[.int .i64 i0, .iface 110 (.agg #[.int .i64 i1, .iface 25 (.int .i64 x)])] 110)).alloc (.cells #[.int .i64 i1, .iface 25 (.int .i64 x)] 110)).alloc (.cells #[.int .i64 x] 25))
    (by rw [World.cell?_alloc_at _ _ _ _ (by simp)]; rfl)
    (by rw [World.cell?_alloc_lt _ _ _ (by simp; omega)]; rw [World.cell?_alloc_lt _ _ _ (by simp; omega)]; rw [World.cell?_alloc_lt _ _ _ (by simp; omega)]; rw [World.cell?_alloc_lt _ _ _ htl]; exact ht)
    (by rw [World.frozen?_alloc_old _ _ t (by simp; omega)]; rw [World.frozen?_alloc_old _ _ t (by simp; omega)]; rw [World.frozen?_alloc_old _ _ t (by simp; omega)]; rw [World.frozen?_alloc_old _ _ t (Nat.ne_of_lt htl)]; exact hf)
  have HB : Hid (Below w.heap.size w ((((w.alloc (.cells #[.pointer (some ⟨1, 106, none⟩), .pointer (some a), .int .u64 150] 121)).alloc (.cells #[.int .i64 i0, .iface 110 (.agg #[.int .i64 i1, .iface 25 (.int .i64 x)])] 110)).alloc (.cells #[.int .i64 i1, .iface 25 (.int .i64 x)] 110)).alloc (.cells #[.int .i64 x] 25))) := (((((Below.refl _ _).alloc (Nat.le_refl _) _).alloc (by simp <;> omega) _).alloc (by simp <;> omega) _).alloc (by simp <;> omega) _)
  go_enter Tryd.func82, Tryd.ntmps82
  go_wp2
  refine wp_loop_rounds 3 ?_
  rw [rounds_succ]
  go_wp2_with (go_at_call 119; refine (unwrap_any _ _ _ _).mono ?_; rintro e w' ⟨rfl, rfl⟩)
  rw [rounds_succ]
  go_wp2_with (go_at_call 119; refine (unwrap_any _ _ _ _).mono ?_; rintro e w' ⟨rfl, rfl⟩)
  rw [rounds_succ]
  go_wp2
  go_ret
  exact ⟨rfl, _, HB.out, rfl⟩
end Go.Proofs.YtmgkjldjeomcmaaDoor
