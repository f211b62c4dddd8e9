/- Layer codec: errors.As over a misfit; told. -/
import Derived.Test.YtmgkjldjeomcmaaDoorCcAs
import Derived.Test.YtmgkjldjeomcmaaDoorSBase
namespace Go.Proofs.YtmgkjldjeomcmaaDoor
open Go.RowKit Go.Extern.Stop Go.Stop Go.Extern
set_option linter.unusedVariables false
set_option linter.unusedSimpArgs false

/-- The variable errors.errorType is as the program's text lays it. -/
def HdlAt (w : World) : Prop := w.cell? ⟨0, 0, none⟩ = some (.iface 139 (.agg #[.pointer (some ⟨1, 69, none⟩)]))
theorem HdlAt.later {w w' : World} (h : HdlAt w) {B : Nat} (hb : Below B w w') (hB : w.heap.size ≤ B) : HdlAt w' := (hb.cell (p := ⟨0, 0, none⟩) (Nat.lt_of_lt_of_le (lt_of_cell h) hB)).trans h
/-- What errors.as does with this error, where it finds a number in it. -/
def Found (er : Value) (x : Int) : Prop := ∀ (a t : Addr) (tv old : Value) (w : World), w.cell? a = some (.pointer (some t)) → w.cell? t = some old → w.frozen? t = false →
    Calls Tryd.prog 82 #[er, tv, .agg #[.pointer (some ⟨1, 106, none⟩), .pointer (some a), .int .u64 150], .iface 139 (.agg #[.pointer (some ⟨1, 25, none⟩)])] w fun e w' => e = .returned (.bool true) ∧ ∃ W, Below w.heap.size w W ∧ w' = W.setCell t (.int .i64 x)
/-- A misfit around a number; around a misfit. -/
def mis1 (i x : Int) : Value := .agg #[.int .i64 i, .iface 25 (.int .i64 x)]
def mis2 (i j x : Int) : Value := .agg #[.int .i64 i, .iface 110 (mis1 j x)]
theorem found_one (i x : Int) : Found (.iface 110 (mis1 i x)) x := fun a t tv old w h1 h2 h3 => as_one i x a t tv old w h1 h2 h3
theorem found_two (i j x : Int) : Found (.iface 110 (mis2 i j x)) x := fun a t tv old w h1 h2 h3 => as_two i j x a t tv old w h1 h2 h3
set_option maxHeartbeats 4000000 in
set_option maxRecDepth 20000 in
theorem As_hit (v : Value) (x : Int) (hfd : Found (.iface 110 v) x) (t : Addr) (old : Value) (w : World) (hg : HdlAt w) (ht : w.cell? t = some old) (hf : w.frozen? t = false) :
    Calls Tryd.prog 72 #[.iface 110 v, .iface 106 (.pointer (some t))] w fun e w' => e = .returned (.bool true) ∧ ∃ W, Below w.heap.size w W ∧ w' = W.setCell t (.int .i64 x) := by
  have h6 := @run_callFunc_extern Tryd.prog 79 _ (fun args => ReflectliteValue.unpack (args.getD 0 (.tuple #[]))) Tryd.func79 (by kernel_rfl) (by kernel_rfl) (by kernel_rfl) (by kernel_rfl)
  have h7 := @run_callFunc_extern Tryd.prog 80 _ (ReflectliteValue.methodAny (ReflectliteValue.valueError "reflectlite.Value.Type" 0) (fun t _ _ _ => ReflectliteType.toType t)) Tryd.func80 (by kernel_rfl) (by kernel_rfl) (by kernel_rfl) (by kernel_rfl)
  have h8 := @run_callFunc_extern Tryd.prog 81 _ (ReflectliteValue.method (ReflectliteValue.valueError "reflectlite.Value.IsNil" 0) ReflectliteValue.isNil) Tryd.func81 (by kernel_rfl) (by kernel_rfl) (by kernel_rfl) (by kernel_rfl)
  have h27 := @run_callFunc_extern Tryd.prog 114 _ (ReflectliteType.abiMethod fun t => do pure (.int .u8 (← Rtype.kind t))) Tryd.func114 (by kernel_rfl) (by kernel_rfl) (by kernel_rfl) (by kernel_rfl)
  have h37 := @run_callFunc_extern Tryd.prog 126 _ (ReflectliteType.method ReflectliteType.elem) Tryd.func126 (by kernel_rfl) (by kernel_rfl) (by kernel_rfl) (by kernel_rfl)
  have h38 := @run_callFunc_extern Tryd.prog 127 _ (ReflectliteType.relation "Implements" ReflectliteType.implements_) Tryd.func127 (by kernel_rfl) (by kernel_rfl) (by kernel_rfl) (by kernel_rfl)
  have f6 := rfValueOf
  have f7 := rfType
  have mK := rfMethodKind
  have mE := rfMethodElem
  have mI := rfMethodImplements
  have kP := rfKindP
  have kE := rfKindE
  have eP := rfElem
  have iE := rfImplements
  have n8 := rfIsNil ⟨w.heap.size, 0, none⟩ t ((w.alloc (.cells #[.pointer (some t)] 106)).alloc (.cells #[.pointer (some ⟨1, 106, none⟩), .pointer (some ⟨w.heap.size, 0, none⟩), .int .u64 150] 121)) (by simp)
  have hlt : 0 < w.heap.size := lt_of_cell hg
  have hg2 : ((w.alloc (.cells #[.pointer (some t)] 106)).alloc (.cells #[.pointer (some ⟨1, 106, none⟩), .pointer (some ⟨w.heap.size, 0, none⟩), .int .u64 150] 121)).cell? ⟨0, 0, none⟩ = some (.iface 139 (.agg #[.pointer (some ⟨1, 69, none⟩)])) := by
    rw [World.cell?_alloc_lt _ _ ⟨0, 0, none⟩ (by simp), World.cell?_alloc_lt _ _ ⟨0, 0, none⟩ hlt]; exact hg
  have htl : t.block < w.heap.size := lt_of_cell ht
  have HA : Hid (∀ tv, Calls Tryd.prog 82 #[.iface 110 v, tv, .agg #[.pointer (some ⟨1, 106, none⟩), .pointer (some ⟨w.heap.size, 0, none⟩), .int .u64 150], .iface 139 (.agg #[.pointer (some ⟨1, 25, none⟩)])] ((w.alloc (.cells #[.pointer (some t)] 106)).alloc (.cells #[.pointer (some ⟨1, 106, none⟩), .pointer (some ⟨w.heap.size, 0, none⟩), .int .u64 150] 121)) fun e w' => e = .returned (.bool true) ∧ ∃ W, Below w.heap.size w W ∧ w' = W.setCell t (.int .i64 x)) := fun tv => by
    refine (hfd ⟨w.heap.size, 0, none⟩ t tv old _ (by rw [World.cell?_alloc_lt _ _ _ (by simp)]; simp) (by rw [World.cell?_alloc_lt _ _ _ (by simp; omega), World.cell?_alloc_lt _ _ _ htl]; exact ht) (by rw [World.frozen?_alloc_old _ _ t (by simp; omega), World.frozen?_alloc_old _ _ t (Nat.ne_of_lt htl)]; exact hf)).mono ?_
    rintro e w' ⟨rfl, W, hb, rfl⟩
    exact ⟨rfl, W, below_chain (((Below.refl _ _).alloc (Nat.le_refl _) _).alloc (by simp) _) hb (by simp; omega), rfl⟩
  clear hfd hg hlt
  go_enter Tryd.func72, Tryd.ntmps72
  go_wp2_with (go_at_call 82; refine (HA.out _).mono ?_; rintro e w' ⟨rfl, W, hW, rfl⟩)
  go_ret
  exact ⟨rfl, W, hW, rfl⟩
theorem told_nil (s : Option Addr) (n c : Nat) (w : World) : Calls Tryd.prog 48 #[.slice s n c, .nilIface] w fun e w' => e = .returned (.tuple #[.slice s n c, .int .i64 0]) ∧ Below w.heap.size w w' := by
  have HB : Hid (Below w.heap.size w (w.alloc (.cells #[.int .i64 0] 25))) := (Below.refl _ _).alloc (Nat.le_refl _) _
  go_enter Tryd.func48, Tryd.ntmps48
  go_wp2_with (go_at_call 72; refine (as_nil _ _).mono ?_; rintro e w' ⟨rfl, rfl⟩)
  go_ret2
  exact ⟨rfl, HB.out⟩
set_option maxHeartbeats 1000000 in
theorem told_bad (s : Option Addr) (n c : Nat) (v : Value) (x : Int) (hfd : Found (.iface 110 v) x) (w : World) (hg : HdlAt w) : Calls Tryd.prog 48 #[.slice s n c, .iface 110 v] w fun e w' => e = .returned (.tuple #[.slice none 0 0, .int .i64 x]) ∧ Below w.heap.size w w' := by
  have B1 : Below w.heap.size w (w.alloc (.cells #[.int .i64 0] 25)) := (Below.refl _ _).alloc (Nat.le_refl _) _
  have HC := As_hit v x hfd ⟨w.heap.size, 0, none⟩ (.int .i64 0) (w.alloc (.cells #[.int .i64 0] 25)) (hg.later B1 (Nat.le_refl _)) (by simp) (by simp)
  have HH : Hid (Blk (w.alloc (.cells #[.int .i64 0] 25)) w.heap.size 25 [.int .i64 0] ∧ Below w.heap.size w (w.alloc (.cells #[.int .i64 0] 25)) ∧ (w.alloc (.cells #[.int .i64 0] 25)).heap.size = w.heap.size + 1) := ⟨heap_alloc_new w _, B1, by simp⟩
  clear hg hfd B1
  go_enter Tryd.func48, Tryd.ntmps48
  go_wp2_with (go_at_call 72; refine HC.mono ?_; rintro e w' ⟨rfl, W, hW, rfl⟩)
  have B : Blk (W.setCell ⟨w.heap.size, 0, none⟩ (.int .i64 x)) w.heap.size 25 [.int .i64 x] := (HH.out.1.later hW (by have := HH.out.2.2; omega)).set 0 _
  have c1 : (W.setCell ⟨w.heap.size, 0, none⟩ (.int .i64 x)).cell? ⟨w.heap.size, 0, none⟩ = some (.int .i64 x) := by rw [B.cell]; rfl
  have HE : Hid (Below w.heap.size w (W.setCell ⟨w.heap.size, 0, none⟩ (.int .i64 x))) := below_kept (below_chain HH.out.2.1 hW (by have := HH.out.2.2; omega)) ((Kept.refl (fun k => k = w.heap.size) W).setCell (p := ⟨w.heap.size, 0, none⟩) rfl _) (by have h1 := hW.size; have := HH.out.2.2; omega) (fun j hj => by omega)
  clear B hW
  generalize W.setCell ⟨w.heap.size, 0, none⟩ (.int .i64 x) = W1 at *
  go_wp2
  go_quiet (fail)
  go_wp2
  go_ret2
  exact ⟨rfl, below_dn HE.out _⟩
end Go.Proofs.YtmgkjldjeomcmaaDoor
