/- Layer host: HostHonest's loop: what holds at its head, and behind told. -/
import Derived.Test.YtobcolpdkcppoaaHHon
namespace Go.Proofs.Ytobcolpdkcppoaa
open Go.RowKit
set_option linter.unusedVariables false
set_option linter.unusedSimpArgs false

/-- The law's own lists: the writes that were done, the log as it should be. -/
structure Lst (w wr : World) (M : Nat → Prop) (rv lv : Value) (rs : List RS) (lg : List Tc) (lf : List Value) : Prop where
  lowM : ∀ j, M j → w.heap.size < j
  rows : wr.ownsRow (w.heap.size + 1) 34 4 rv rs.length (rs.flatMap rsC)
  log : wr.ownsRow (w.heap.size + 1) 49 15 lv lg.length (lg.flatMap tcC)
  good : ∀ t ∈ lg, t.Good
  nr : ∀ g, rv.ownBlock = some g → ¬ M g
  nl : ∀ g, lv.ownBlock = some g → ¬ M g
  sub : ∀ r ∈ rs, Seen w r.a r.s.z.length r.s.z
  bel : Below w.heap.size w wr
  life : Blk wr w.heap.size 25 lf
theorem Lst.kept {w wr wr' : World} {M S : Nat → Prop} {rv lv : Value} {rs : List RS} {lg : List Tc} {lf : List Value} (x : Lst w wr M rv lv rs lg lf) (k : Kept S wr wr') (h1 : ∀ j, S j → w.heap.size < j) (h2 : ∀ g, rv.ownBlock = some g → ¬ S g) (h3 : ∀ g, lv.ownBlock = some g → ¬ S g) : Lst w wr' M rv lv rs lg lf :=
  ⟨x.lowM, own_same x.rows (fun g hg => k.block g (x.rows.lt g hg).2 (h2 g hg)), own_same x.log (fun g hg => k.block g (x.log.lt g hg).2 (h3 g hg)), x.good, x.nr, x.nl, x.sub, below_kept x.bel k x.bel.size (fun j hj e => by have := h1 j e; omega), x.life.kept k (fun e => by have := h1 _ e; omega)⟩
theorem Lst.later {w wr wr' : World} {M : Nat → Prop} {rv lv : Value} {rs : List RS} {lg : List Tc} {lf : List Value} (x : Lst w wr M rv lv rs lg lf) (l : Below wr.heap.size wr wr') : Lst w wr' M rv lv rs lg lf :=
  x.kept (S := fun _ => False) (Kept.new _ l) (fun j h => h.elim) (fun _ _ h => h) (fun _ _ h => h)
theorem Lst.goes {w wr wr' : World} {M M2 : Nat → Prop} {rv lv : Value} {rs : List RS} {lg : List Tc} {lf : List Value} (x : Lst w wr M rv lv rs lg lf) (g : Goes M M2 wr wr') : Lst w wr' M2 rv lv rs lg lf := by
  have y := x.kept g.kept x.lowM x.nr x.nl
  have hs := x.bel.size
  have nw : ∀ {e : TypeId} {z n : Nat} {v : Value} {xs : List Value}, wr.ownsRow (w.heap.size + 1) e z v n xs → ∀ b, v.ownBlock = some b → ¬ M b → ¬ M2 b := fun ho b hb hM e => by
    rcases g.new b e with e | e
    · exact hM e
    · have := (ho.lt b hb).2; omega
  refine ⟨fun j hj => ?_, y.rows, y.log, y.good, fun b hb => nw x.rows b hb (x.nr b hb), fun b hb => nw x.log b hb (x.nl b hb), y.sub, y.bel, y.life⟩
  rcases g.new j hj with e | e
  · exact x.lowM j e
  · have := x.life.lt; omega
/-- A touch more in the log as it should be. -/
theorem Lst.logged {w wr w1 : World} {M : Nat → Prop} {rv lv v' : Value} {rs : List RS} {lg : List Tc} {lf : List Value} (x : Lst w wr M rv lv rs lg lf) (t : Tc) (ht : t.Good) (hM : ∀ j, M j → j < wr.heap.size) (ho : w1.ownsRow (w.heap.size + 1) 49 15 v' (lg.length + 1) (lg.flatMap tcC ++ tcC t)) (hg : (wr.alloc (.cells (tcC t).toArray 49)).grownBy w1 lv.ownBlock) (hat : v'.ownBlock = lv.ownBlock ∨ v'.ownBlock = some (wr.alloc (.cells (tcC t).toArray 49)).heap.size) :
    Lst w w1 M rv v' rs (lg ++ [t]) lf ∧ Kept (fun j => lv.ownBlock = some j) wr w1 := by
  have b0 : Below wr.heap.size wr (wr.alloc (.cells (tcC t).toArray 49)) := (Below.refl _ _).alloc (Nat.le_refl _) _
  have s0 : (wr.alloc (.cells (tcC t).toArray 49)).heap.size = wr.heap.size + 1 := by simp
  have k : Kept (fun j => lv.ownBlock = some j) wr w1 := ⟨hg.os.trans b0.os, hg.tape.trans b0.tape, hg.output.trans b0.output, Nat.le_trans b0.size hg.size, fun j hj hn => (hg.block j (by omega) (Ne.symm hn)).trans (b0.block j hj)⟩
  have rn : ∀ g, rv.ownBlock = some g → ¬ lv.ownBlock = some g := fun g h1 h2 => by
    obtain ⟨vs, hv⟩ := own_blk x.rows h1
    obtain ⟨us, hu⟩ := own_blk x.log h2
    exact blk_ne hv hu (by decide) rfl
  refine ⟨⟨x.lowM, own_same x.rows (fun g hg2 => k.block g (x.rows.lt g hg2).2 (rn g hg2)), ?_, ?_, x.nr, fun g hg2 hM2 => ?_, x.sub, below_kept x.bel k x.bel.size (fun j hj e => by have := (x.log.lt j e).1; omega), x.life.kept k (fun e => by have := (x.log.lt _ e).1; omega)⟩, k⟩
  · have e : (lg ++ [t]).flatMap tcC = lg.flatMap tcC ++ tcC t := by simp [List.flatMap_append]
    rw [List.length_append, List.length_singleton, e]; exact ho
  · intro u hu
    rcases List.mem_append.1 hu with h1 | h1
    · exact x.good u h1
    · simp at h1; subst h1; exact ht
  · rcases hat with e | e
    · rw [e] at hg2; exact x.nl g hg2 hM2
    · rw [e] at hg2
      have : (wr.alloc (.cells (tcC t).toArray 49)).heap.size = g := Option.some.inj hg2
      have := hM g hM2; omega
/-- A write more. -/
theorem Lst.wrote {w wr w1 : World} {M : Nat → Prop} {rv lv v' : Value} {rs : List RS} {lg : List Tc} {lf : List Value} (x : Lst w wr M rv lv rs lg lf) (r : RS) (hr : Seen w r.a r.s.z.length r.s.z) (hM : ∀ j, M j → j < wr.heap.size) (ho : w1.ownsRow (w.heap.size + 1) 34 4 v' (rs.length + 1) (rs.flatMap rsC ++ rsC r)) (hg : (wr.alloc (.cells (rsC r).toArray 34)).grownBy w1 rv.ownBlock) (hat : v'.ownBlock = rv.ownBlock ∨ v'.ownBlock = some (wr.alloc (.cells (rsC r).toArray 34)).heap.size) :
    Lst w w1 M v' lv (rs ++ [r]) lg lf ∧ Kept (fun j => rv.ownBlock = some j) wr w1 := by
  have b0 : Below wr.heap.size wr (wr.alloc (.cells (rsC r).toArray 34)) := (Below.refl _ _).alloc (Nat.le_refl _) _
  have s0 : (wr.alloc (.cells (rsC r).toArray 34)).heap.size = wr.heap.size + 1 := by simp
  have k : Kept (fun j => rv.ownBlock = some j) wr w1 := ⟨hg.os.trans b0.os, hg.tape.trans b0.tape, hg.output.trans b0.output, Nat.le_trans b0.size hg.size, fun j hj hn => (hg.block j (by omega) (Ne.symm hn)).trans (b0.block j hj)⟩
  have rn : ∀ g, lv.ownBlock = some g → ¬ rv.ownBlock = some g := fun g h1 h2 => by
    obtain ⟨vs, hv⟩ := own_blk x.log h1
    obtain ⟨us, hu⟩ := own_blk x.rows h2
    exact blk_ne hv hu (by decide) rfl
  refine ⟨⟨x.lowM, ?_, own_same x.log (fun g hg2 => k.block g (x.log.lt g hg2).2 (rn g hg2)), x.good, fun g hg2 hM2 => ?_, x.nl, ?_, below_kept x.bel k x.bel.size (fun j hj e => by have := (x.rows.lt j e).1; omega), x.life.kept k (fun e => by have := (x.rows.lt _ e).1; omega)⟩, k⟩
  · have e : (rs ++ [r]).flatMap rsC = rs.flatMap rsC ++ rsC r := by simp [List.flatMap_append]
    rw [List.length_append, List.length_singleton, e]; exact ho
  · rcases hat with e | e
    · rw [e] at hg2; exact x.nr g hg2 hM2
    · rw [e] at hg2
      have : (wr.alloc (.cells (rsC r).toArray 34)).heap.size = g := Option.some.inj hg2
      have := hM g hM2; omega
  · intro u hu
    rcases List.mem_append.1 hu with h1 | h1
    · exact x.sub u h1
    · simp at h1; subst h1; exact hr
theorem hostAt_kept {w w' : World} {M S : Nat → Prop} {h : Nat} {s : HSt} (x : HostAt w M h s) (k : Kept S w w') (hS : ∀ j, S j → ¬ M j) : HostAt w' M h s := x.frame (Same.kept k (fun j hj => ⟨x.all j hj, fun e => hS j e hj⟩))
end Go.Proofs.Ytobcolpdkcppoaa
