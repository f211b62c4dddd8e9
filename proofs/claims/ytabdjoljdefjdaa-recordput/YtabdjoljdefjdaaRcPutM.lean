/- Layer record, for RecordPut: cells of heads written, calls that write, two operations in either order. -/
import Derived.Test.YtabdjoljdefjdaaRcSt
import Derived.Test.YtabdjoljdefjdaaSHeld
import Derived.Test.YtabdjoljdefjdaaRInvF
namespace Go.Proofs.Ytabdjoljdefjdaa
open Go.RowKit
set_option linter.unusedVariables false
set_option linter.unusedSimpArgs false

theorem wp_callG {o : Oper} {a : Act} {w : World} {K : Act → World → Prop} {Q : Exit → Act → World → Prop} (f : FuncId) (args : Array Value) (h : (execOp a.eval o).run Try.prog w = .ok (.enter f args) w) (hC : Calls Try.prog f args w fun e w'' => ∃ v, e = .returned v ∧ K (a.put o.dst v) w'') : o.wp Try.prog a w K Q := by
  unfold Oper.wp
  rw [h, Oper.upon_enter]
  refine hC.mono ?_
  rintro e w'' ⟨v, rfl, h1⟩
  exact h1
theorem last_cellH {o : Oper} {a : Act} {w : World} {K : Act → World → Prop} {Q : Exit → Act → World → Prop} (x y : Operand) (ho : o.op = .store 5 x y) (hdst : o.dst = none) (b off : Nat) (hx : a.eval x = .pointer (some ⟨b, off, none⟩)) (vs : List Value) (u z : Int) (hy : a.eval y = .int .u8 z) (hb : Blk w b 26 vs) (hu : vs[off]? = some (.int .u8 u))
    (h : ∀ w', Blk w' b 26 (vs.set off (.int .u8 z)) → w'.heap.size = w.heap.size → Kept (fun k => k = b) w w' → K a w') : o.wp Try.prog a w K Q := by
  have hc : w.cell? ⟨b, off, none⟩ = some (.int .u8 u) := by rw [hb.cell, hu]
  have hf := hb.frozen off
  have R := hb.set off (.int .u8 z)
  have S : (w.setCell ⟨b, off, none⟩ (.int .u8 z)).heap.size = w.heap.size := by simp [World.setCell]
  have h2 := h _ R S ((Kept.refl _ _).setCell (S := fun k => k = b) rfl _)
  unfold Oper.wp execOp
  simp only [ho, hx, hy]
  go_simp
  exact h2
theorem till_pair {md : Region.Mode} {ops : Array Oper} {Q : Exit → Act → World → Prop} {c : Nat} {S : World → Prop} {oi oj : Oper} {n : Nat} {l : Array Bool} {a : Act} {w : World} (i j : Nat) (hr : Region.ready md ops l = [i, j]) (hi : ops[i]? = some oi) (hj : ops[j]? = some oj)
    (h1 : ∀ K : Act → World → Prop, (∀ a' w', S w' ∧ wpTill md ops Q c S n (l.setIfInBounds i true) a' w' → K a' w') → if Region.wanted oi (yielded ops a.tmps) = true then Oper.wp Try.prog oi a w K Q else K (a.put oi.dst undef) w)
    (h2 : ∀ K : Act → World → Prop, (∀ a' w', S w' ∧ wpTill md ops Q c S n (l.setIfInBounds j true) a' w' → K a' w') → if Region.wanted oj (yielded ops a.tmps) = true then Oper.wp Try.prog oj a w K Q else K (a.put oj.dst undef) w) : wpTill md ops Q c S (n + 1) l a w := by
  refine ⟨fun h0 => (by rw [h0] at hr; cases hr), fun k hk => ?_⟩
  rw [hr] at hk
  rcases List.mem_cons.1 hk with rfl | hk
  · exact wpOp_step hi fun K hK => h1 K (fun a' w' h' => hK a' w' ⟨fun _ _ => h'.1, h'.2⟩)
  · obtain rfl : k = j := by simpa using hk
    exact wpOp_step hj fun K hK => h2 K (fun a' w' h' => hK a' w' ⟨fun _ _ => h'.1, h'.2⟩)
theorem last_valueP {o : Oper} {a : Act} {w : World} {K : Act → World → Prop} {Q : Exit → Act → World → Prop} (d : Option Tmp) (hdst : o.dst = d) (v : Value) (hv : (execOp a.eval o).run Try.prog w = .ok (.value v) w) (h : K (a.put d v) w) : o.wp Try.prog a w K Q := by
  unfold Oper.wp
  rw [hv]
  subst hdst
  exact h
theorem if_yes {c : Prop} [Decidable c] {A B : Prop} (h : c) (hA : A) : if c then A else B := by rw [if_pos h]; exact hA
/-- Live and Flag made bits. -/
def hd2 (h : Hd) : Hd := { h with live := h.live % 2, flag := h.flag % 2 }
theorem hd2_ok {h : Hd} (k : HdOk h) : HdOk (hd2 h) := ⟨⟨by show 0 ≤ h.live % 2; omega, by show h.live % 2 < 256; omega⟩, ⟨by show 0 ≤ h.flag % 2; omega, by show h.flag % 2 < 256; omega⟩, k.index, k.rank, k.len, k.bytes⟩
theorem hd2_isR {h : Hd} (k : HdOk h) (bs : List Int) : isR (hdB (hd2 h) ++ bs) = true := by
  rw [isR_hdB (hd2_ok k), decide_eq_true (by show h.live % 2 < 2; omega), decide_eq_true (by show h.flag % 2 < 2; omega)]; rfl
/-- Two heads of the call's own. -/
structure Tw (w W : World) (p : Nat) (x y : Hd) : Prop where
  bx : Blk W w.heap.size 26 (hdC x)
  bY : Blk W p 26 (hdC y)
  bel : Below w.heap.size w W
  lt : w.heap.size < p
theorem Tw.later {w W W' : World} {p : Nat} {x y : Hd} (s : Tw w W p x y) (l : Below W.heap.size W W') : Tw w W' p x y := ⟨s.bx.later l s.bx.lt, s.bY.later l s.bY.lt, below_chain s.bel l s.bel.size, s.lt⟩
theorem Tw.kept {S : Nat → Prop} {w W W' : World} {p : Nat} {x y : Hd} (s : Tw w W p x y) (k : Kept S W W') (hS : ∀ j, S j → p < j) : Tw w W' p x y := ⟨s.bx.kept k (fun e => by have := hS _ e; have := s.lt; omega), s.bY.kept k (fun e => by have := hS _ e; omega), below_kept s.bel k s.bel.size (fun j hj e => by have := hS _ e; have := s.lt; omega), s.lt⟩
/-- A row that is written over. -/
theorem row_seen {w : World} {g n : Nat} {zs : List Int} {rest : List Value} (b : Blk w g 5 (u8s zs ++ rest)) (hl : zs.length = n) (hb : Bytes zs) (ht : n ≤ 140737488355328) : Seen w (some ⟨g, 0, none⟩) n zs := by
  have r : RowAt w g zs := ⟨rest, b⟩
  have := Seen.of_row (n := n) r (by omega) ht hb
  rwa [List.take_of_length_le (by omega)] at this
end Go.Proofs.Ytabdjoljdefjdaa
