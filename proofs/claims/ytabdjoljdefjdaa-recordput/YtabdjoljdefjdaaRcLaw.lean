/- Layer record, for the laws: operations under guards; what stays of an own head and of what came in. -/
import Derived.Test.YtabdjoljdefjdaaRcAwake
import Derived.Test.YtabdjoljdefjdaaRcPut
import Derived.Test.YtabdjoljdefjdaaREqb
namespace Go.Proofs.Ytabdjoljdefjdaa
open Go.RowKit
set_option linter.unusedVariables false
set_option linter.unusedSimpArgs false

theorem wpList_load_g {ops : Array Oper} {rest : List Oper} {o : Oper} {a : Act} {Q : Exit → Act → World → Prop} {w : World} (hw : Region.wanted o (yielded ops a.tmps) = true) (t : TypeId) (x : Operand) (ho : o.op = .load t x) (g : Nat) (hx : a.eval x = .pointer (some ⟨g, 0, none⟩))
    (vs : List Value) (d : TypeDesc) (hb : Blk w g t vs) (hu : Try.prog.underlying t = some d) (hd : d.isRow = true) (hi : (Try.prog.info? t).map (·.size) = some vs.length)
    (h : wpList Try.prog ops Q rest (a.put o.dst (.agg vs.toArray)) w) : wpList Try.prog ops Q (o :: rest) a w :=
  wpList_step fun K hK => by
    simp only [hw, if_true]
    exact wp_load_mid t x ho g 0 hx vs d (fun j v hv => by rw [Nat.zero_add, hb.cell]; exact hv) hu hd hi (hK _ _ h)
theorem wpList_build_g {ops : Array Oper} {rest : List Oper} {o : Oper} {a : Act} {Q : Exit → Act → World → Prop} {w : World} (hw : Region.wanted o (yielded ops a.tmps) = true) (t : TypeId) (parts : Array (Nat × Operand)) (ho : o.op = .build t parts) (ps : Array (Nat × Value))
    (hp : (parts.map fun (i, x) => (i, a.eval x)) = ps) (v : Value) (hrun : (Instr.build t ps).run Try.prog w = .ok v w) (h : wpList Try.prog ops Q rest (a.put o.dst v) w) : wpList Try.prog ops Q (o :: rest) a w :=
  wpList_step fun K hK => by
    simp only [hw, if_true]
    unfold Oper.wp execOp
    simp only [ho, hp, Sem.run_bind, hrun, Sem.run_pure, Result.andThen_ok]
    exact hK _ _ h
theorem neq_self (h : Hd) (k : h.group.length = 16) (w : World) : (binOp .neq 26 (.agg (hdC h).toArray) (.agg (hdC h).toArray)).run Try.prog w = .ok (.bool false) w := by
  rw [neq_head h h k k w, beq_self_eq_true]
  rfl
theorem neq_zero (w : World) : (binOp .neq 26 (.agg (hdC hdZ).toArray) (.agg #[.int .u8 0, .int .u8 0, .int .u32 0, .int .u32 0, .int .u8 0, .int .u8 0, .int .u8 0, .int .u8 0, .int .u8 0, .int .u8 0, .int .u8 0, .int .u8 0, .int .u8 0, .int .u8 0, .int .u8 0, .int .u8 0, .int .u8 0, .int .u8 0, .int .u8 0, .int .u8 0])).run Try.prog w = .ok (.bool false) w := neq_self hdZ rfl w
/-- The head that was boxed first, and all else that was there. -/
structure Bk (w W : World) (h : Hd) : Prop where
  b : Blk W w.heap.size 26 (hdC h)
  bel : Below w.heap.size w W
theorem Bk.later {w W W' : World} {h : Hd} (s : Bk w W h) (l : Below W.heap.size W W') : Bk w W' h := ⟨s.b.later l s.b.lt, below_chain s.bel l s.bel.size⟩
theorem Bk.kept {S : Nat → Prop} {w W W' : World} {h : Hd} (s : Bk w W h) (k : Kept S W W') (hg : ∀ j, S j → w.heap.size < j) : Bk w W' h := ⟨s.b.kept k (fun e => by have := hg _ e; omega), below_kept s.bel k s.bel.size (fun j hj e => by have := hg _ e; omega)⟩
theorem Bk.drewN {w W : World} {h : Hd} (s : Bk w W h) (q : Nat) : Bk w (W.drewN q) h := ⟨s.b, below_dn s.bel q⟩
theorem isO_drewN {B n : Nat} {zs : List Int} {v : Value} {w : World} (h : isO B n zs v w) (q : Nat) : isO B n zs v (w.drewN q) := h
end Go.Proofs.Ytabdjoljdefjdaa
