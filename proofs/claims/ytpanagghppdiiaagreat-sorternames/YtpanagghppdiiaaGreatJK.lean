/- Joined by program: what the theorem reaches. -/
import Derived.RangeFuncBox
import Derived.RangeFuncNested
import Derived.RangeFuncBound
import Derived.RangeFuncCalls
import Derived.RangeFuncLeaves
import Derived.Shelf.Abstract
import Derived.Shelf.RegionOpen
import Derived.WalkKit
import Derived.OwnWalkIn
import Derived.TacticsInMore
import Derived.LoopNIn
import Derived.LoopIn
import Derived.Scope
import Derived.Test.YtpanagghppdiiaaGreatRows
import Derived.Test.YtpanagghppdiiaaGreatJA
import Derived.Test.YtpanagghppdiiaaGreatJC
import Derived.Test.YtpanagghppdiiaaGreatJE
import Derived.Test.YtpanagghppdiiaaGreatJF
import Derived.Test.YtpanagghppdiiaaGreatJI
import Derived.Test.YtpanagghppdiiaaGreatJJ
namespace Go.Proofs.YtpanagghppdiiaaGreat
open Go.RowKit Go.Shelf
set_option linter.unusedVariables false
set_option linter.unusedSimpArgs false
set_option maxRecDepth 20000
set_option maxHeartbeats 2000000
theorem compact_ne (bp a b : Nat) (hab : a ≠ b) (w : World) (ca : w.cell? ⟨bp, 0, none⟩ = some (.int .i64 (a : Int))) (cb : w.cell? ⟨bp, 1, none⟩ = some (.int .i64 (b : Int))) (hl : bp < w.heap.size) :
  Calls Tryz.prog 74 #[.slice (some ⟨bp, 0, none⟩) 2 2] w fun e w' => e = .returned (.slice (some ⟨bp, 0, none⟩) 2 2) ∧ Below w.heap.size w w' := by
 have H : Hid (w.cell? ⟨bp, 0, none⟩ = some (.int .i64 (a : Int)) ∧ w.cell? ⟨bp, 1, none⟩ = some (.int .i64 (b : Int)) ∧ bp < w.heap.size) := ⟨ca, cb, hl⟩
 have HAB : Hid (¬ b = a) := fun e => hab e.symm
 clear ca cb hl hab
 go_enter Tryz.func74, Tryz.ntmps74
 go_wp2
 go_loopw [3] (fun k wr => (k = .int .i64 1 ∧ w = wr) ∨ (k = .int .i64 2 ∧ Below w.heap.size w wr)) (fun k _ => 2 - (intOf k).toNat)
 case atStart => exact .inl ⟨rfl, rfl⟩
 case round =>
  rcases hrel with ⟨rfl, rfl⟩ | ⟨rfl, lr⟩
  ·go_wp2_with fail
   refine region_invT [.val (.slice (some ⟨bp, 0, none⟩) 2 2), .val (.int .i64 1), .val (.pointer (some ⟨bp, 1, none⟩)), .val (.int .i64 (b : Int)), .val (.slice (some ⟨bp, 0, none⟩) 2 2), .val (.int .i64 1), .val (.int .i64 0), .val (.pointer (some ⟨bp, 0, none⟩)), .val (.int .i64 (a : Int))] (by kernel_rfl) (by kernel_rfl) (by kernel_rfl) ?_ ?_
   ·refine Steps'.cons ?_ (Steps'.cons ?_ (Steps'.cons ?_ (Steps'.cons ?_ (Steps'.cons ?_ (Steps'.cons ?_ (Steps'.cons ?_ (Steps'.cons ?_ (Steps'.cons ?_ (Steps'.one _ _ _ _ _ _ _)))))))))
    ·intro ax wx hb hs hd
     have h0 : ax.tmps.getD 0 undef = (.slice (some ⟨bp, 0, none⟩) 2 2) := hs 0 (by kernel_rfl)
     exact Does.value _ (by clear hs hd; go_simp) rfl
    ·intro ax wx hb hs hd
     have h3 : ax.tmps.getD 3 undef = (.int .i64 1) := hs 3 (by kernel_rfl)
     exact Does.value _ (by clear hs hd; go_simp) rfl
    ·intro ax wx hb hs hd
     have h16 := sqV (hd 0 16 rfl (by kernel_rfl) (by decide))
     have h17 := sqV (hd 1 17 rfl (by kernel_rfl) (by decide))
     exact Does.value _ (by clear hs hd; go_simp) rfl
    ·intro ax wx hb hs hd
     have h18 := sqV (hd 2 18 rfl (by kernel_rfl) (by decide))
     have c0 : wx.cell? ⟨bp, 1, none⟩ = some (.int .i64 (b : Int)) := (hb.cell (p := ⟨bp, 1, none⟩) H.out.2.2).trans H.out.2.1
     exact Does.value _ (by clear hs hd; go_simp) rfl
    ·intro ax wx hb hs hd
     have h0 : ax.tmps.getD 0 undef = (.slice (some ⟨bp, 0, none⟩) 2 2) := hs 0 (by kernel_rfl)
     exact Does.value _ (by clear hs hd; go_simp) rfl
    ·intro ax wx hb hs hd
     have h3 : ax.tmps.getD 3 undef = (.int .i64 1) := hs 3 (by kernel_rfl)
     exact Does.value _ (by clear hs hd; go_simp) rfl
    ·intro ax wx hb hs hd
     have h21 := sqV (hd 5 21 rfl (by kernel_rfl) (by decide))
     refine Does.value (.int .i64 0) ?_ rfl
     clear hs hd
     go_simp
     rfl
    ·intro ax wx hb hs hd
     have h20 := sqV (hd 4 20 rfl (by kernel_rfl) (by decide))
     have h22 := sqV (hd 6 22 rfl (by kernel_rfl) (by decide))
     exact Does.value _ (by clear hs hd; go_simp) rfl
    ·intro ax wx hb hs hd
     have h23 := sqV (hd 7 23 rfl (by kernel_rfl) (by decide))
     have c0 : wx.cell? ⟨bp, 0, none⟩ = some (.int .i64 (a : Int)) := (hb.cell (p := ⟨bp, 0, none⟩) H.out.2.2).trans H.out.1
     exact Does.value _ (by clear hs hd; go_simp) rfl
   ·intro wx hb
    iterate 9 refine @Ends.val _ _ _ _ _ _ _ _ _ _ rfl ?_
    refine @Ends.one _ _ _ _ _ _ _ ?_
    simp only [Act.put, sqA, sqB, sqC]
    refine last_valR (some 25) rfl (.bool false) (by have hab := HAB.out; go_simp; omega) ?_
    have L : Hid (Below w.heap.size w wx) := hb
    clear hb
    go_wp2
    exact ⟨.inr ⟨by first | rfl | go_num, L.out⟩, by simp [intOf]⟩
  ·have L : Hid (Below w.heap.size w wr) := lr
   clear lr
   go_wp2
   go_ret
   exact ⟨rfl, L.out⟩
theorem compact_eq (bp a : Nat) (w : World) (hb2 : Blk w bp 3 [.int .i64 (a : Int), .int .i64 (a : Int)]) :
  Calls Tryz.prog 74 #[.slice (some ⟨bp, 0, none⟩) 2 2] w fun e w' => e = .returned (.slice (some ⟨bp, 0, none⟩) 1 2) ∧ w'.cell? ⟨bp, 0, none⟩ = some (.int .i64 (a : Int)) ∧ bp < w'.heap.size ∧ Kept (fun b => b = bp) w w' := by
 obtain ⟨b, hb⟩ : ∃ b, a = b := ⟨_, rfl⟩
 have H : Hid (w.cell? ⟨bp, 0, none⟩ = some (.int .i64 (a : Int)) ∧ w.cell? ⟨bp, 1, none⟩ = some (.int .i64 (b : Int)) ∧ bp < w.heap.size) := ⟨by rw [hb2.cell]; rfl, by rw [hb2.cell, ← hb]; rfl, hb2.lt⟩
 have HAB : Hid (b = a ∧ Blk w bp 3 [.int .i64 (a : Int), .int .i64 (a : Int)]) := ⟨hb.symm, hb2⟩
 clear hb hb2
 go_enter Tryz.func74, Tryz.ntmps74
 go_wp2
 go_loopw [3] (fun k wr => k = .int .i64 1 ∧ w = wr) (fun k _ => 2 - (intOf k).toNat)
 case atStart => exact ⟨rfl, rfl⟩
 case round =>
  obtain ⟨rfl, rfl⟩ := hrel
  ·go_wp2_with fail
   refine region_invT [.val (.slice (some ⟨bp, 0, none⟩) 2 2), .val (.int .i64 1), .val (.pointer (some ⟨bp, 1, none⟩)), .val (.int .i64 (b : Int)), .val (.slice (some ⟨bp, 0, none⟩) 2 2), .val (.int .i64 1), .val (.int .i64 0), .val (.pointer (some ⟨bp, 0, none⟩)), .val (.int .i64 (a : Int))] (by kernel_rfl) (by kernel_rfl) (by kernel_rfl) ?_ ?_
   ·refine Steps'.cons ?_ (Steps'.cons ?_ (Steps'.cons ?_ (Steps'.cons ?_ (Steps'.cons ?_ (Steps'.cons ?_ (Steps'.cons ?_ (Steps'.cons ?_ (Steps'.cons ?_ (Steps'.one _ _ _ _ _ _ _)))))))))
    ·intro ax wx hb hs hd
     have h0 : ax.tmps.getD 0 undef = (.slice (some ⟨bp, 0, none⟩) 2 2) := hs 0 (by kernel_rfl)
     exact Does.value _ (by clear hs hd; go_simp) rfl
    ·intro ax wx hb hs hd
     have h3 : ax.tmps.getD 3 undef = (.int .i64 1) := hs 3 (by kernel_rfl)
     exact Does.value _ (by clear hs hd; go_simp) rfl
    ·intro ax wx hb hs hd
     have h16 := sqV (hd 0 16 rfl (by kernel_rfl) (by decide))
     have h17 := sqV (hd 1 17 rfl (by kernel_rfl) (by decide))
     exact Does.value _ (by clear hs hd; go_simp) rfl
    ·intro ax wx hb hs hd
     have h18 := sqV (hd 2 18 rfl (by kernel_rfl) (by decide))
     have c0 : wx.cell? ⟨bp, 1, none⟩ = some (.int .i64 (b : Int)) := (hb.cell (p := ⟨bp, 1, none⟩) H.out.2.2).trans H.out.2.1
     exact Does.value _ (by clear hs hd; go_simp) rfl
    ·intro ax wx hb hs hd
     have h0 : ax.tmps.getD 0 undef = (.slice (some ⟨bp, 0, none⟩) 2 2) := hs 0 (by kernel_rfl)
     exact Does.value _ (by clear hs hd; go_simp) rfl
    ·intro ax wx hb hs hd
     have h3 : ax.tmps.getD 3 undef = (.int .i64 1) := hs 3 (by kernel_rfl)
     exact Does.value _ (by clear hs hd; go_simp) rfl
    ·intro ax wx hb hs hd
     have h21 := sqV (hd 5 21 rfl (by kernel_rfl) (by decide))
     refine Does.value (.int .i64 0) ?_ rfl
     clear hs hd
     go_simp
     rfl
    ·intro ax wx hb hs hd
     have h20 := sqV (hd 4 20 rfl (by kernel_rfl) (by decide))
     have h22 := sqV (hd 6 22 rfl (by kernel_rfl) (by decide))
     exact Does.value _ (by clear hs hd; go_simp) rfl
    ·intro ax wx hb hs hd
     have h23 := sqV (hd 7 23 rfl (by kernel_rfl) (by decide))
     have c0 : wx.cell? ⟨bp, 0, none⟩ = some (.int .i64 (a : Int)) := (hb.cell (p := ⟨bp, 0, none⟩) H.out.2.2).trans H.out.1
     exact Does.value _ (by clear hs hd; go_simp) rfl
   ·intro wx hb
    iterate 9 refine @Ends.val _ _ _ _ _ _ _ _ _ _ rfl ?_
    refine @Ends.one _ _ _ _ _ _ _ ?_
    simp only [Act.put, sqA, sqB, sqC]
    refine last_valR (some 25) rfl (.bool true) (by have hab := HAB.out.1; go_simp; try omega) ?_
    have L : Hid (Below w.heap.size w wx ∧ Blk wx bp 3 [.int .i64 (a : Int), .int .i64 (a : Int)]) := ⟨hb, HAB.out.2.later hb HAB.out.2.lt⟩
    clear hb
    have hz := zl_l (some ⟨bp, 0, none⟩) 2 2 1 (by decide) wx
    obtain ⟨i0, hi, hz0, hz1, hz2⟩ := info_parts info_int
    have hclr := Lib.run_clear_slice (P := Tryz.prog) wx 133 3 0 (.int .i64 0) Tryz.underlying133 (fun w => by simp [zeroValue, typeInfo, hi, hz0]) rfl rfl bp 1 1 1 (by omega) (fun j hj => by have e : j = 0 := (by omega); subst e; rw [L.out.2.cell]; rfl) (fun j hj => L.out.2.frozen _)
    have hz2' := zl_h (some ⟨bp, 0, none⟩) 2 2 1 (by decide) (wx.setCells bp 1 (List.replicate 1 (.int .i64 0)))
    have R : Hid ((wx.setCells bp 1 (List.replicate 1 (.int .i64 0))).cell? ⟨bp, 0, none⟩ = some (.int .i64 (a : Int)) ∧ bp < (wx.setCells bp 1 (List.replicate 1 (.int .i64 0))).heap.size ∧ Kept (fun b => b = bp) w (wx.setCells bp 1 (List.replicate 1 (.int .i64 0)))) := by
     have B := Blk.setCells (xs := [.int .i64 (a : Int)]) (zs := []) [.int .i64 0] [.int .i64 (a : Int)] rfl (by simpa using L.out.2)
     have K := (Kept.refl (fun b => b = bp) wx).setCells (S := fun b => b = bp) rfl 1 (List.replicate 1 (.int .i64 0))
     refine ⟨?_, Nat.lt_of_lt_of_le L.out.2.lt K.size, (Kept.new _ L.out.1).trans K⟩
     have B2 : Blk (wx.setCells bp 1 (List.replicate 1 (.int .i64 0))) bp 3 [.int .i64 (a : Int), .int .i64 0] := by simpa using B
     rw [B2.cell]; rfl
    clear hi hz0 hz1 hz2 i0
    go_wp2_with fail
    go_loopw [3, 5] (fun k3 k wr => k3 = .int .i64 1 ∧ k = .int .i64 1 ∧ wx = wr) (fun _ k _ => 1)
    case atStart => exact ⟨rfl, rfl, rfl⟩
    case round =>
     obtain ⟨rfl, rfl, rfl⟩ := hrel
     go_wp2_with (at_builtin; refine wpList_clear_run rfl _ 133 0 rfl rfl _ rfl _ _ hclr ?_)
     go_ret
     exact ⟨rfl, R.out⟩
theorem enter_pair1 : ∀ args w, (callFunc 75 args).run Tryz.prog w = .ok (.enter 75 args) w := fun args w => by kernel_rfl
def isZ2 (base a b : Nat) (v : Value) (w : World) : Prop := ∃ p, v = .slice (some ⟨p, 0, none⟩) 2 2 ∧ Blk w p 3 [.int .i64 (a : Int), .int .i64 (b : Int)] ∧ base ≤ p
theorem isZ2_later (base a b : Nat) : ∀ v w w', Below w.heap.size w w' → isZ2 base a b v w → isZ2 base a b v w' := fun _ _ _ hb ⟨p, h1, h2, h3⟩ => ⟨p, h1, h2.later hb h2.lt, h3⟩
theorem isZ2_made (w : World) (a b : Nat) {base : Nat} (hb : base ≤ w.heap.size) : isZ2 base a b (.slice (some ⟨w.heap.size, 0, none⟩) 2 2) (w.alloc (.cells #[.int .i64 (a : Int), .int .i64 (b : Int)] 3)) := ⟨w.heap.size, rfl, heap_alloc_new w _, hb⟩
theorem bsI2 (a b : Nat) (w : World) : (Instr.buildSlice 133 2 #[(0, .int .i64 (a : Int)), (1, .int .i64 (b : Int))]).run Tryz.prog w = .ok (.slice (some ⟨w.heap.size, 0, none⟩) 2 2) (w.alloc (.cells #[.int .i64 (a : Int), .int .i64 (b : Int)] 3)) := by kernel_rfl
theorem Does.int2 {base : Nat} {E : Exp} {ρ : Operand → Value} {o : Oper} {w : World} (x y : Operand) (ho : o.op = .buildSlice 133 2 #[(0, x), (1, y)]) (a b : Nat) (hx : ρ x = .int .i64 (a : Int)) (hy : ρ y = .int .i64 (b : Int)) (hE : E.ok base (.slice (some ⟨w.heap.size, 0, none⟩) 2 2) (w.alloc (.cells #[.int .i64 (a : Int), .int .i64 (b : Int)] 3))) : Does base E ρ o w := by
 refine Does.run (.slice (some ⟨w.heap.size, 0, none⟩) 2 2) ?_ hE ((Below.refl _ _).alloc (Nat.le_refl _) _)
 unfold execOp
 simp only [ho, List.map_toArray, List.map_cons, List.map_nil, hx, hy, Sem.run_bind, bsI2 a b w, Sem.run_pure, Result.andThen_ok]
theorem compact_any (bp a b : Nat) (w : World) (h : Blk w bp 3 [.int .i64 (a : Int), .int .i64 (b : Int)]) :
  Calls Tryz.prog 74 #[.slice (some ⟨bp, 0, none⟩) 2 2] w fun e w' => ∃ m : Nat, e = .returned (.slice (some ⟨bp, 0, none⟩) m 2) ∧ ((a = b ∧ m = 1 ∧ w'.cell? ⟨bp, 0, none⟩ = some (.int .i64 (a : Int))) ∨ (a ≠ b ∧ m = 2 ∧ w'.cell? ⟨bp, 0, none⟩ = some (.int .i64 (a : Int)) ∧ w'.cell? ⟨bp, 1, none⟩ = some (.int .i64 (b : Int)))) ∧ bp < w'.heap.size ∧ Kept (fun k => k = bp) w w' := by
 have c0 : w.cell? ⟨bp, 0, none⟩ = some (.int .i64 (a : Int)) := by rw [h.cell]; rfl
 have c1 : w.cell? ⟨bp, 1, none⟩ = some (.int .i64 (b : Int)) := by rw [h.cell]; rfl
 by_cases e : a = b
 ·subst e
  refine (compact_eq bp a w h).mono ?_
  rintro e w' ⟨rfl, h1, h2, h3⟩
  exact ⟨1, rfl, .inl ⟨rfl, rfl, h1⟩, h2, h3⟩
 ·refine (compact_ne bp a b e w c0 c1 h.lt).mono ?_
  rintro e' w' ⟨rfl, hb⟩
  exact ⟨2, rfl, .inr ⟨e, rfl, (hb.cell (p := ⟨bp, 0, none⟩) h.lt).trans c0, (hb.cell (p := ⟨bp, 1, none⟩) h.lt).trans c1⟩, Nat.lt_of_lt_of_le h.lt hb.size, Kept.new _ hb⟩
def Nm.pair (cf : Cf) (n : Nm) (a b : Nat) : Nm := if a = b then (n.load cf a).save cf a else (((n.load cf a).load cf b).save cf a).save cf b
theorem upn_upn {α : Type} (f : Nat → α) (q : Nat) (x y : α) : upn (upn f q x) q y = upn f q y := by funext k; unfold upn; split <;> rfl
theorem setT_two (txt : Nat → List Int) (v : SlV) (i j : Nat) (A' B' : List Int) (qa qb : Nat) (ha : v.first + i / v.each = qa) (hb : v.first + j / v.each = qb) :
  setT (setT txt v i A') v j B' = if qa = qb then upn txt qa (putL (putL (txt qa) (i % v.each * v.size) A') (j % v.each * v.size) B') else upn (upn txt qa (putL (txt qa) (i % v.each * v.size) A')) qb (putL (txt qb) (j % v.each * v.size) B') := by
 unfold setT
 rw [ha, hb]
 by_cases e : qa = qb
 ·subst e
  rw [if_pos rfl, upn_upn]
  congr 2
  unfold upn; rw [if_pos rfl]
 ·rw [if_neg e]
  congr 2
  unfold upn; rw [if_neg (fun h => e h.symm)]
theorem pair_S (g : Nat) (v : SlV) (l : List Ax) (h : Nat) (cf : Cf) (n : Nm) (txt : Nat → List Int) (F : Nat → Prop) (i j : Nat) (B : FuncId) (caps : Array Value) (A' B' : List Int) (w : World) (x : PagS w v.p h cf n.ord n txt F) (y : SlS w g v l) (hd : ∀ b, slF g v b → ¬ F b) (hn : SlN v cf) (hi : i < v.n) (hj : j < v.n) (hij : i ≠ j) (hl : l.length ≤ 1000000000)
  (hol : n.ord.length ≤ cf.win) (hlog : n.log.length < 800000000) (hwr : n.writes < 800000000) (hent : ∀ args W, (callFunc B args).run Tryz.prog W = .ok (.enter B args) W) (hA : A'.length = v.size ∧ Bytes A' ∧ B'.length = v.size ∧ Bytes B')
  (HF : ∀ W, Kept (fun b => F b ∨ slF g v b) w W → FPair W B caps v.size (recL txt v i) (recL txt v j) A' B') :
  Calls Tryz.prog 42 #[.pointer (some ⟨g, 0, none⟩), .int .i64 (i : Int), .int .i64 (j : Int), .func (.func B) #[] caps] w fun e w' => e = .returned (.int .i64 0) ∧ ∃ F' lg, PagS w' v.p h cf (n.pair cf (v.first + i / v.each) (v.first + j / v.each)).ord (n.pair cf (v.first + i / v.each) (v.first + j / v.each)) (setT (setT txt v i A') v j B') F' ∧ SlS w' g { v with log := lg } (l ++ [⟨2, i, j⟩]) ∧ (∀ b, slF g { v with log := lg } b → ¬ F' b) ∧ Kept (fun b => F b ∨ slF g v b) w w' ∧ (∀ b, F' b ∨ slF g { v with log := lg } b → F b ∨ slF g v b ∨ w.heap.size ≤ b) := by
 obtain ⟨qa, hqa⟩ : ∃ q, v.first + i / v.each = q := ⟨_, rfl⟩
 obtain ⟨qb, hqb⟩ : ∃ q, v.first + j / v.each = q := ⟨_, rfl⟩
 have HQ : Hid (v.first + i / v.each = qa ∧ v.first + j / v.each = qb) := ⟨hqa, hqb⟩
 have hqp := hn.pages i hi
 have hqp2 := hn.pages j hj
 rw [hqa] at hqp ⊢
 rw [hqb] at hqp2 ⊢
 have N : Hid (1 ≤ v.each ∧ 1 ≤ v.size ∧ i ≤ 1000000000 ∧ j ≤ 1000000000 ∧ i % v.each * v.size + v.size ≤ cf.text ∧ j % v.each * v.size + v.size ≤ cf.text ∧ cf.text ≤ 4096 ∧ (qa < 1000000 ∧ qb < 1000000) ∧ qa < cf.pages ∧ qb < cf.pages) := ⟨hn.each, hn.size, by have := hn.n; omega, by have := hn.n; omega, hn.place i, hn.place j, x.good.text.2, by have := x.good.pages; exact ⟨by omega, by omega⟩, hqp, hqp2⟩
 have X0 : Hid (PagS w v.p h cf n.ord n txt F ∧ SlS w g v l ∧ (∀ b, slF g v b → ¬ F b)) := ⟨x, y, hd⟩
 have HB : Hid (n.ord.length ≤ cf.win ∧ n.log.length < 800000000 ∧ n.writes < 800000000) := ⟨hol, hlog, hwr⟩
 have HA : Hid (A'.length = v.size ∧ Bytes A' ∧ B'.length = v.size ∧ Bytes B') := hA
 have HE : Hid (∀ args W, (callFunc B args).run Tryz.prog W = .ok (.enter B args) W) := hent
 have HFK : Hid (∀ W, Kept (fun b => F b ∨ slF g v b) w W → FPair W B caps v.size (recL txt v i) (recL txt v j) A' B') := HF
 have HTL : Hid (((txt qa).length = cf.text ∧ Bytes (txt qa)) ∧ (txt qb).length = cf.text ∧ Bytes (txt qb)) := by
  obtain ⟨gh, gp, v', fh, fp, szp, Mh, s, Mt, y, hf, ha⟩ := x
  exact ⟨y.tl qa, y.tl qb⟩
 have CN : Hid (∀ W, Below w.heap.size w W → Calls Tryz.prog 50 #[.pointer (some ⟨g, 0, none⟩), .int .i64 2, .int .i64 (i : Int), .int .i64 (j : Int)] W fun e w' => e = .returned (.tuple #[]) ∧ ∃ lg, SlS w' g { v with log := lg } (l ++ [⟨2, i, j⟩]) ∧ Kept (slF g v) W w' ∧ ∀ b, lg.ownBlock = some b → v.log.ownBlock = some b ∨ W.heap.size ≤ b) := fun W hW => note_any g v l 2 i j W (y.later hW) hl
 have CH : Hid (∀ W, Below w.heap.size w W → Calls Tryz.prog 49 #[.pointer (some ⟨g, 0, none⟩), .int .i64 (i : Int)] W fun e w' => e = .returned (.bool true) ∧ W = w') := fun W hW => has_yes g v i hi W (y.later hW).blk
 have CJ : Hid (∀ W, Below w.heap.size w W → Calls Tryz.prog 49 #[.pointer (some ⟨g, 0, none⟩), .int .i64 (j : Int)] W fun e w' => e = .returned (.bool true) ∧ W = w') := fun W hW => has_yes g v j hj W (y.later hW).blk
 have hne : ((i : Int) == (j : Int)) = false := by simp; omega
 have hne2 : ¬ (i : Int) = (j : Int) := by omega
 clear x y hd hn hi hj hij hl hA hent HF hol hlog hwr hqa hqb hqp hqp2
 go_enter Tryz.func42, Tryz.ntmps42
 have M1 : Hid True := trivial
 have M2 : Hid True := trivial
 have M3 : Hid True := trivial
 have M4 : Hid True := trivial
 have M5 : Hid True := trivial
 have M6 : Hid True := trivial
 have M7 : Hid True := trivial
 go_wp2_with (first | (clear M1; refine wpList_boxV rfl 43 _ rfl (.pointer (some ⟨g, 0, none⟩)) rfl rfl ?_; intro w1 b1 s1 l1; have S1 : Hid (w1.heap.size = w.heap.size + 1) := s1; clear s1) | (clear M2; refine wpList_boxV rfl 3 _ rfl (.int .i64 (i : Int)) rfl rfl ?_; intro w2 b2 s2 l2; have S2 : Hid (w2.heap.size = w1.heap.size + 1) := s2; clear s2) | (clear M3; refine wpList_boxV rfl 3 _ rfl (.int .i64 (j : Int)) rfl rfl ?_; intro w3 b3 s3 l3; have S3 : Hid (w3.heap.size = w2.heap.size + 1) := s3; clear s3) | (clear M4; refine wpList_boxV rfl 77 _ rfl (.func (.func B) #[] caps) rfl rfl ?_; intro w4 b4 s4 l4; have S4 : Hid (w4.heap.size = w3.heap.size + 1) := s4; clear s4; have c1 : w4.cell? ⟨w.heap.size, 0, none⟩ = some (.pointer (some ⟨g, 0, none⟩)) := blk_c0 (((b1.later l2 b1.lt).later l3 (by have := S1.out; have := S2.out; omega)).later l4 (by have := S1.out; have := S2.out; have := S3.out; omega)); have c2 : w4.cell? ⟨w1.heap.size, 0, none⟩ = some (.int .i64 (i : Int)) := blk_c0 ((b2.later l3 (by have := S2.out; omega)).later l4 (by have := S2.out; have := S3.out; omega)); have c3 : w4.cell? ⟨w2.heap.size, 0, none⟩ = some (.int .i64 (j : Int)) := blk_c0 (b3.later l4 (by have := S3.out; omega)); have c4 : w4.cell? ⟨w3.heap.size, 0, none⟩ = some (.func (.func B) #[] caps) := blk_c0 b4; have L : Below w.heap.size w w4 := below_chain (below_chain (below_chain l1 l2 (by have := S1.out; omega)) l3 (by have := S1.out; have := S2.out; omega)) l4 (by have := S1.out; have := S2.out; have := S3.out; omega)) | (clear M5; go_at_call 49; refine (CH.out w4 L).mono ?_; rintro e _ ⟨rfl, rfl⟩) | (clear M6; go_at_call 49; refine (CJ.out w4 L).mono ?_; rintro e _ ⟨rfl, rfl⟩) | (clear M7; go_at_call 50; refine (CN.out w4 L).mono ?_; rintro e w6 ⟨rfl, lg, y6, k6, f6⟩; have nS : ∀ b, w.heap.size ≤ b → ¬ slF g v b := fun b hb hs => by have := X0.out.2.1.all b hs; omega))
 obtain ⟨z1, hz1⟩ : ∃ z1, w1.heap.size = z1 := ⟨_, rfl⟩
 obtain ⟨z2, hz2⟩ : ∃ z2, w2.heap.size = z2 := ⟨_, rfl⟩
 obtain ⟨z3, hz3⟩ : ∃ z3, w3.heap.size = z3 := ⟨_, rfl⟩
 have Y6 : Hid (PagS w6 v.p h cf n.ord n txt F ∧ SlS w6 g { v with log := lg } (l ++ [⟨2, i, j⟩]) ∧ Kept (slF g v) w w6 ∧ (∀ b, lg.ownBlock = some b → v.log.ownBlock = some b ∨ w.heap.size ≤ b) ∧ (∀ b, slF g { v with log := lg } b → ¬ F b)) := by
  refine ⟨(X0.out.1.later L).off k6 (fun b hb hF => X0.out.2.2 b hb hF), y6, (Kept.new _ L).trans k6, fun b hb => (f6 b hb).imp id (fun e => Nat.le_trans L.size e), fun b hb hF => ?_⟩
  rcases hb with e | e
  ·exact X0.out.2.2 b (.inl e) hF
  ·rcases f6 b e with e | e
   ·exact X0.out.2.2 b (.inr e) hF
   ·have := X0.out.1.all b hF; have := L.size; omega
 have Z6 : Hid (w.heap.size < w6.heap.size ∧ z1 < w6.heap.size ∧ z2 < w6.heap.size ∧ z3 < w6.heap.size ∧ w6.cell? ⟨w.heap.size, 0, none⟩ = some (.pointer (some ⟨g, 0, none⟩)) ∧ w6.cell? ⟨z1, 0, none⟩ = some (.int .i64 (i : Int)) ∧ w6.cell? ⟨z2, 0, none⟩ = some (.int .i64 (j : Int)) ∧ w6.cell? ⟨z3, 0, none⟩ = some (.func (.func B) #[] caps) ∧ w.heap.size < z1 ∧ w.heap.size < z2 ∧ w.heap.size < z3) := by
  have h6 := k6.size
  have := S1.out; have := S2.out; have := S3.out; have := S4.out
  rw [hz1] at c2; rw [hz2] at c3; rw [hz3] at c4
  exact ⟨by omega, by omega, by omega, by omega, kept_cell k6 _ _ (by omega) (nS _ (by omega)) c1, kept_cell k6 _ _ (by omega) (nS _ (by omega)) c2, kept_cell k6 _ _ (by omega) (nS _ (by omega)) c3, kept_cell k6 _ _ (by omega) (nS _ (by omega)) c4, by omega, by omega, by omega⟩
 rw [hz1, hz2, hz3]
 clear c1 c2 c3 c4 b1 b2 b3 b4 l1 l2 l3 l4 L hz1 hz2 hz3 y6 k6 f6 nS hne hne2 S1 S2 S3 S4 CN CH CJ
 refine region_invP 7 ((.val (.pointer (some ⟨g, 0, none⟩))) :: (.val (.int .i64 (i : Int))) :: (.val (.int .i64 (qa : Int))) :: (.val (.pointer (some ⟨g, 0, none⟩))) :: (.val (.int .i64 (j : Int))) :: (.val (.int .i64 (qb : Int))) :: (.any (isZ2 w6.heap.size qa qb) (isZ2_later _ _ _)) :: []) (by kernel_rfl) (by kernel_rfl) (by kernel_rfl) [] ⟨.inl rfl, .inl rfl, .inl rfl, .inl rfl, .inl rfl, .inl rfl, .inl rfl, trivial⟩ (by kernel_rfl) ?_ ?_
 ·refine Steps'.cons ?_ (Steps'.cons ?_ (Steps'.cons ?_ (Steps'.cons ?_ (Steps'.cons ?_ (Steps'.cons ?_ (Steps'.cons ?_ (Steps'.one _ _ _ _ _ _ _)))))))
  ·intro ax wx hb hs hd
   have h4 : ax.tmps.getD 4 undef = (.pointer (some ⟨w.heap.size, 0, none⟩)) := hs 4 (by kernel_rfl)
   have c0 : wx.cell? ⟨w.heap.size, 0, none⟩ = some (.pointer (some ⟨g, 0, none⟩)) := (hb.cell (p := ⟨w.heap.size, 0, none⟩) Z6.out.1).trans Z6.out.2.2.2.2.1
   exact Does.value _ (by clear hs hd; go_simp) rfl
  ·intro ax wx hb hs hd
   have h5 : ax.tmps.getD 5 undef = (.pointer (some ⟨z1, 0, none⟩)) := hs 5 (by kernel_rfl)
   have c0 : wx.cell? ⟨z1, 0, none⟩ = some (.int .i64 (i : Int)) := (hb.cell (p := ⟨z1, 0, none⟩) Z6.out.2.1).trans Z6.out.2.2.2.2.2.1
   exact Does.value _ (by clear hs hd; go_simp) rfl
  ·intro ax wx hb hs hd
   have h31 := sqV (hd 0 31 rfl (by kernel_rfl) (by decide))
   have h32 := sqV (hd 1 32 rfl (by kernel_rfl) (by decide))
   refine Does.call 54 #[(.pointer (some ⟨g, 0, none⟩)), .int .i64 (i : Int)] (by clear hs hd; go_simp) ?_
   refine (page_any g { v with log := lg } i wx (Y6.out.2.1.blk.later hb Y6.out.2.1.blk.lt) N.out.1 (by have := HQ.out; have := N.out; show v.first + i / v.each ≤ 1000000; omega) N.out.2.2.1).mono ?_
   rintro e w' ⟨rfl, l⟩
   exact ⟨_, rfl, by show Value.int .i64 ((v.first + i / v.each : Nat) : Int) = _; rw [HQ.out.1], l⟩
  ·intro ax wx hb hs hd
   have h4 : ax.tmps.getD 4 undef = (.pointer (some ⟨w.heap.size, 0, none⟩)) := hs 4 (by kernel_rfl)
   have c0 : wx.cell? ⟨w.heap.size, 0, none⟩ = some (.pointer (some ⟨g, 0, none⟩)) := (hb.cell (p := ⟨w.heap.size, 0, none⟩) Z6.out.1).trans Z6.out.2.2.2.2.1
   exact Does.value _ (by clear hs hd; go_simp) rfl
  ·intro ax wx hb hs hd
   have h6 : ax.tmps.getD 6 undef = (.pointer (some ⟨z2, 0, none⟩)) := hs 6 (by kernel_rfl)
   have c0 : wx.cell? ⟨z2, 0, none⟩ = some (.int .i64 (j : Int)) := (hb.cell (p := ⟨z2, 0, none⟩) Z6.out.2.2.1).trans Z6.out.2.2.2.2.2.2.1
   exact Does.value _ (by clear hs hd; go_simp) rfl
  ·intro ax wx hb hs hd
   have h34 := sqV (hd 3 34 rfl (by kernel_rfl) (by decide))
   have h35 := sqV (hd 4 35 rfl (by kernel_rfl) (by decide))
   refine Does.call 54 #[(.pointer (some ⟨g, 0, none⟩)), .int .i64 (j : Int)] (by clear hs hd; go_simp) ?_
   refine (page_any g { v with log := lg } j wx (Y6.out.2.1.blk.later hb Y6.out.2.1.blk.lt) N.out.1 (by have := HQ.out; have := N.out; show v.first + j / v.each ≤ 1000000; omega) N.out.2.2.2.1).mono ?_
   rintro e w' ⟨rfl, l⟩
   exact ⟨_, rfl, by show Value.int .i64 ((v.first + j / v.each : Nat) : Int) = _; rw [HQ.out.2], l⟩
  ·intro ax wx hb hs hd
   have h33 := sqV (hd 2 33 rfl (by kernel_rfl) (by decide))
   have h36 := sqV (hd 5 36 rfl (by kernel_rfl) (by decide))
   exact Does.int2 (.tmp 33) (.tmp 36) rfl qa qb h33 h36 (isZ2_made wx qa qb hb.size)
 ·intro wx hb
  iterate 6 refine @EndsP.val _ _ _ _ _ _ _ _ _ rfl ?_
  refine @EndsP.any _ _ _ _ _ _ _ _ (isZ2 w6.heap.size qa qb) (isZ2_later _ _ _) rfl ?_
  intro v37 p37
  intro hD nf hn
  obtain ⟨bp, rfl, cb, hbp⟩ := p37
  obtain ⟨mf, rfl⟩ : ∃ mf, nf = mf + 2 := ⟨nf - 2, by have h3 : 2 ≤ nf := hn; omega⟩
  clear hD hn
  simp only [Act.put, sqA, sqB, sqC]
  have hF0 := X0.out.1.all
  have nF : ∀ b, w.heap.size ≤ b → ¬ F b := fun b hb hF => by have := hF0 b hF; omega
  clear hF0
  have h6w := Z6.out.1
  have BX : Hid (Below w6.heap.size w6 wx ∧ w6.heap.size ≤ bp) := ⟨hb, hbp⟩
  clear hb hbp
  refine wpAny_ready (rs := [7]) (by kernel_rfl) (by simp) (AllReady.cons rfl (fun K hK => ?_) AllReady.nil)
  go_simp
  go_wp2_with (go_at_call 74; refine (compact_any bp qa qb wx cb).mono ?_; rintro e w8 ⟨m, rfl, hm, hbl, k8⟩)
  refine take_op 8 (some 9) (.slice (some ⟨bp, 0, none⟩) m 2) rfl rfl (by kernel_rfl) (by kernel_rfl) (by kernel_rfl) (fun _ _ _ h => h) (by rfl) (fun W' => by go_simp) ?_
  simp only [Act.put, sqA, sqB, sqC]
  refine wpAny_done (by kernel_rfl) (NoPanic.normal ?_) _
  have W8 : Hid (PagS w8 v.p h cf n.ord n txt F ∧ SlS w8 g { v with log := lg } (l ++ [⟨2, i, j⟩]) ∧ (Below w6.heap.size w6 w8 ∧ Kept (fun b => F b ∨ slF g v b) w w8) ∧ (bp < w8.heap.size ∧ ¬ F bp)) := by
   have hbx := BX.out.1
   have hbp := BX.out.2
   have LB : Below w6.heap.size w6 w8 := ⟨k8.os.trans hbx.os, k8.tape.trans hbx.tape, k8.output.trans hbx.output, Nat.le_trans hbx.size k8.size, fun k hk => (k8.block k (Nat.lt_of_lt_of_le hk hbx.size) (fun e => by omega)).trans (hbx.block k hk)⟩
   refine ⟨Y6.out.1.later LB, Y6.out.2.1.later LB, ⟨LB, ?_⟩, hbl, nF bp (by omega)⟩
   have k6 := Y6.out.2.2.1
   exact ⟨LB.os.trans k6.os, LB.tape.trans k6.tape, LB.output.trans k6.output, Nat.le_trans k6.size LB.size, fun k hk hs => (LB.block k (Nat.lt_of_lt_of_le hk k6.size)).trans (k6.block k hk (fun e => hs (.inr e)))⟩
  clear cb hbl k8
  rcases hm with ⟨hab, rfl, c0⟩ | ⟨hab, rfl, c0, c1⟩
  ·have CO : Hid (Calls Tryz.prog 64 #[.pointer (some ⟨g, 0, none⟩), (.func (.func 75) #[] #[.pointer (some ⟨w.heap.size, 0, none⟩), .pointer (some ⟨z1, 0, none⟩), .pointer (some ⟨z2, 0, none⟩), .pointer (some ⟨z3, 0, none⟩)]), .slice (some ⟨bp, 0, none⟩) 1 2] w8 fun e w' => e = .returned (.int .i64 0) ∧ ∃ F', PagS w' v.p h cf ((n.load cf qa).save cf qa).ord ((n.load cf qa).save cf qa) (upn txt qa (putL (putL (txt qa) (i % v.each * v.size) A') (j % v.each * v.size) B')) F' ∧ Ev F F' w8 w') := by
    have hla : (putL (txt qa) (i % v.each * v.size) A').length = cf.text := (by rw [putL_length (by have := N.out; have := HA.out.1; rw [HTL.out.1.1]; omega)]; exact HTL.out.1.1)
    refine change_one g { v with log := lg } h cf n txt F qa bp 2 75 _ (putL (putL (txt qa) (i % v.each * v.size) A') (j % v.each * v.size) B') w8 W8.out.1 W8.out.2.1.blk (fun hF => Y6.out.2.2.2.2 g (.inl rfl) hF) c0 W8.out.2.2.2 N.out.2.2.2.2.2.2.2.2.1 HB.out.1 (by have := HB.out; omega) (by have := HB.out; omega) enter_pair1 (by rw [putL_length (by rw [hla]; have := N.out; have := HA.out.2.2.1; omega)]; exact hla) (putL_bytes (putL_bytes HTL.out.1.2 HA.out.2.1) HA.out.2.2.2) ?_
    intro wq F1 ub uc T tc rest ev hubF hr ct huc hub hT hTu
    have hz := Z6.out
    have h8 := W8.out.2.2.1
    have hev := ev.kept.size
    have h68 : w6.heap.size ≤ w8.heap.size := h8.1.size
    have gg : P1 wq 1 g { v with log := lg } i j w.heap.size z1 z2 z3 ub ub T cf.text uc uc (.func (.func B) #[] caps) (txt qa) (txt qa) rest rest := by
     refine ⟨kept_cell ev.kept _ _ (by omega) (nF _ (by omega)) ((h8.1.cell (p := ⟨w.heap.size, 0, none⟩) hz.1).trans hz.2.2.2.2.1), kept_cell ev.kept _ _ (by omega) (nF _ (by omega)) ((h8.1.cell (p := ⟨z1, 0, none⟩) hz.2.1).trans hz.2.2.2.2.2.1), kept_cell ev.kept _ _ (by omega) (nF _ (by omega)) ((h8.1.cell (p := ⟨z2, 0, none⟩) hz.2.2.1).trans hz.2.2.2.2.2.2.1), kept_cell ev.kept _ _ (by omega) (nF _ (by omega)) ((h8.1.cell (p := ⟨z3, 0, none⟩) hz.2.2.2.1).trans hz.2.2.2.2.2.2.2.1), ct, ct, W8.out.2.1.blk.kept ev.kept (fun hF => Y6.out.2.2.2.2 g (.inl rfl) hF), hr, hr, ⟨by omega, by omega, by omega, by omega, hT⟩⟩
    have KW : Kept (fun b => F b ∨ slF g v b) w wq := ⟨ev.kept.os.trans h8.2.os, ev.kept.tape.trans h8.2.tape, ev.kept.output.trans h8.2.output, Nat.le_trans h8.2.size ev.kept.size, fun k hk hs => (ev.kept.block k (Nat.lt_of_lt_of_le hk h8.2.size) (fun e => hs (.inl e))).trans (h8.2.block k hk hs)⟩
    have FF := HFK.out wq KW
    unfold recL at FF
    rw [HQ.out.1, HQ.out.2] at FF
    rw [← hab] at FF; show Calls Tryz.prog 75 #[.slice (some ⟨T, 0, none⟩) 1 tc, .pointer (some ⟨w.heap.size, 0, none⟩), .pointer (some ⟨z1, 0, none⟩), .pointer (some ⟨z2, 0, none⟩), .pointer (some ⟨z3, 0, none⟩)] wq _
    exact pair1_one g { v with log := lg } i j w.heap.size z1 z2 z3 ub ub T tc cf.text uc uc B caps (txt qa) (txt qa) A' B' rest rest wq gg N.out.1 N.out.2.2.2.2.1 N.out.2.2.2.2.2.1 N.out.2.2.2.2.2.2.1 huc huc N.out.2.2.1 N.out.2.2.2.1 N.out.2.1 HTL.out.1.1 HTL.out.1.1 HTL.out.1.2 HTL.out.1.2 HE.out HA.out FF ⟨rfl, rfl, rfl⟩
   have h68 : w6.heap.size ≤ w8.heap.size := W8.out.2.2.1.1.size
   have e1 : w8.cell? ⟨w.heap.size, 0, none⟩ = some (.pointer (some ⟨g, 0, none⟩)) := (W8.out.2.2.1.1.cell (p := ⟨w.heap.size, 0, none⟩) Z6.out.1).trans Z6.out.2.2.2.2.1
   go_wp2_with (go_at_call 64; refine CO.out.mono ?_; rintro e w9 ⟨rfl, F9, x9, e9⟩)
   have E9 : Hid (PagS w9 v.p h cf (n.pair cf qa qb).ord (n.pair cf qa qb) (setT (setT txt v i A') v j B') F9 ∧ SlS w9 g { v with log := lg } (l ++ [⟨2, i, j⟩]) ∧ (∀ b, slF g { v with log := lg } b → ¬ F9 b) ∧ Kept (fun b => F b ∨ slF g v b) w w9 ∧ (∀ b, F9 b ∨ slF g { v with log := lg } b → F b ∨ slF g v b ∨ w.heap.size ≤ b)) := by
    have h8 := W8.out.2.2.1
    refine ⟨?_, W8.out.2.1.off e9.kept (fun b hb hs => Y6.out.2.2.2.2 b hs hb), fun b hs hF => ?_, ?_, fun b hb => ?_⟩
    ·rw [setT_two txt v i j A' B' qa qb HQ.out.1 HQ.out.2, Nm.pair]
     rw [if_pos hab, if_pos hab]
     exact x9
    ·rcases e9.new b hF with e | e
     ·exact Y6.out.2.2.2.2 b hs e
     ·have := W8.out.2.1.all b hs; omega
    ·exact ⟨e9.kept.os.trans h8.2.os, e9.kept.tape.trans h8.2.tape, e9.kept.output.trans h8.2.output, Nat.le_trans h8.2.size e9.kept.size, fun k hk hs => (e9.kept.block k (Nat.lt_of_lt_of_le hk h8.2.size) (fun e => hs (.inl e))).trans (h8.2.block k hk hs)⟩
    ·rcases hb with hb | hb
     ·rcases e9.new b hb with e | e
      ·exact .inl e
      ·exact .inr (.inr (Nat.le_trans h8.2.size e))
     ·rcases hb with e | e
      ·exact .inr (.inl (.inl e))
      ·rcases Y6.out.2.2.2.1 b e with e | e
       ·exact .inr (.inl (.inr e))
       ·exact .inr (.inr e)
   clear x9 e9
   go_wp2
   go_ret
   exact ⟨rfl, F9, lg, E9.out⟩
  ·have CO : Hid (Calls Tryz.prog 64 #[.pointer (some ⟨g, 0, none⟩), (.func (.func 75) #[] #[.pointer (some ⟨w.heap.size, 0, none⟩), .pointer (some ⟨z1, 0, none⟩), .pointer (some ⟨z2, 0, none⟩), .pointer (some ⟨z3, 0, none⟩)]), .slice (some ⟨bp, 0, none⟩) 2 2] w8 fun e w' => e = .returned (.int .i64 0) ∧ ∃ F', PagS w' v.p h cf ((((n.load cf qa).load cf qb).save cf qa).save cf qb).ord ((((n.load cf qa).load cf qb).save cf qa).save cf qb) (upn (upn txt qa (putL (txt qa) (i % v.each * v.size) A')) qb (putL (txt qb) (j % v.each * v.size) B')) F' ∧ Ev F F' w8 w') := by
    refine change_two g { v with log := lg } h cf n txt F qa qb bp 2 75 _ (putL (txt qa) (i % v.each * v.size) A') (putL (txt qb) (j % v.each * v.size) B') w8 W8.out.1 W8.out.2.1.blk (fun hF => Y6.out.2.2.2.2 g (.inl rfl) hF) c0 c1 W8.out.2.2.2 N.out.2.2.2.2.2.2.2.2.1 N.out.2.2.2.2.2.2.2.2.2 HB.out.1 (by have := HB.out; omega) (by have := HB.out; omega) enter_pair1 ⟨(by rw [putL_length (by have := N.out; have := HA.out.1; rw [HTL.out.1.1]; omega)]; exact HTL.out.1.1), putL_bytes HTL.out.1.2 HA.out.2.1, by rw [putL_length (by have := N.out; have := HA.out.2.2.1; rw [HTL.out.2.1]; omega)]; exact HTL.out.2.1, putL_bytes HTL.out.2.2 HA.out.2.2.2⟩ ?_
    intro wq F1 ua ca ub cb T tc ra rb ev hubF hr hr2 ct ct2 hca hcb hua hub hT hTa hTb
    have hz := Z6.out
    have h8 := W8.out.2.2.1
    have hev := ev.kept.size
    have h68 : w6.heap.size ≤ w8.heap.size := h8.1.size
    have gg : P1 wq 2 g { v with log := lg } i j w.heap.size z1 z2 z3 ua ub T cf.text ca cb (.func (.func B) #[] caps) (txt qa) (txt qb) ra rb := by
     refine ⟨kept_cell ev.kept _ _ (by omega) (nF _ (by omega)) ((h8.1.cell (p := ⟨w.heap.size, 0, none⟩) hz.1).trans hz.2.2.2.2.1), kept_cell ev.kept _ _ (by omega) (nF _ (by omega)) ((h8.1.cell (p := ⟨z1, 0, none⟩) hz.2.1).trans hz.2.2.2.2.2.1), kept_cell ev.kept _ _ (by omega) (nF _ (by omega)) ((h8.1.cell (p := ⟨z2, 0, none⟩) hz.2.2.1).trans hz.2.2.2.2.2.2.1), kept_cell ev.kept _ _ (by omega) (nF _ (by omega)) ((h8.1.cell (p := ⟨z3, 0, none⟩) hz.2.2.2.1).trans hz.2.2.2.2.2.2.2.1), ct, ct2, W8.out.2.1.blk.kept ev.kept (fun hF => Y6.out.2.2.2.2 g (.inl rfl) hF), hr, hr2, ⟨by omega, by omega, by omega, by omega, hT⟩⟩
    have KW : Kept (fun b => F b ∨ slF g v b) w wq := ⟨ev.kept.os.trans h8.2.os, ev.kept.tape.trans h8.2.tape, ev.kept.output.trans h8.2.output, Nat.le_trans h8.2.size ev.kept.size, fun k hk hs => (ev.kept.block k (Nat.lt_of_lt_of_le hk h8.2.size) (fun e => hs (.inl e))).trans (h8.2.block k hk hs)⟩
    have FF := HFK.out wq KW
    unfold recL at FF
    rw [HQ.out.1, HQ.out.2] at FF
    show Calls Tryz.prog 75 #[.slice (some ⟨T, 0, none⟩) 2 tc, .pointer (some ⟨w.heap.size, 0, none⟩), .pointer (some ⟨z1, 0, none⟩), .pointer (some ⟨z2, 0, none⟩), .pointer (some ⟨z3, 0, none⟩)] wq _
    exact pair1_two g { v with log := lg } i j w.heap.size z1 z2 z3 ua ub T tc cf.text ca cb B caps (txt qa) (txt qb) A' B' ra rb wq gg N.out.1 N.out.2.2.2.2.1 N.out.2.2.2.2.2.1 N.out.2.2.2.2.2.2.1 hca hcb N.out.2.2.1 N.out.2.2.2.1 N.out.2.1 HTL.out.1.1 HTL.out.2.1 HTL.out.1.2 HTL.out.2.2 HE.out HA.out FF hubF.2.2
   have h68 : w6.heap.size ≤ w8.heap.size := W8.out.2.2.1.1.size
   have e1 : w8.cell? ⟨w.heap.size, 0, none⟩ = some (.pointer (some ⟨g, 0, none⟩)) := (W8.out.2.2.1.1.cell (p := ⟨w.heap.size, 0, none⟩) Z6.out.1).trans Z6.out.2.2.2.2.1
   go_wp2_with (go_at_call 64; refine CO.out.mono ?_; rintro e w9 ⟨rfl, F9, x9, e9⟩)
   have E9 : Hid (PagS w9 v.p h cf (n.pair cf qa qb).ord (n.pair cf qa qb) (setT (setT txt v i A') v j B') F9 ∧ SlS w9 g { v with log := lg } (l ++ [⟨2, i, j⟩]) ∧ (∀ b, slF g { v with log := lg } b → ¬ F9 b) ∧ Kept (fun b => F b ∨ slF g v b) w w9 ∧ (∀ b, F9 b ∨ slF g { v with log := lg } b → F b ∨ slF g v b ∨ w.heap.size ≤ b)) := by
    have h8 := W8.out.2.2.1
    refine ⟨?_, W8.out.2.1.off e9.kept (fun b hb hs => Y6.out.2.2.2.2 b hs hb), fun b hs hF => ?_, ?_, fun b hb => ?_⟩
    ·rw [setT_two txt v i j A' B' qa qb HQ.out.1 HQ.out.2, Nm.pair]
     rw [if_neg hab, if_neg hab]
     exact x9
    ·rcases e9.new b hF with e | e
     ·exact Y6.out.2.2.2.2 b hs e
     ·have := W8.out.2.1.all b hs; omega
    ·exact ⟨e9.kept.os.trans h8.2.os, e9.kept.tape.trans h8.2.tape, e9.kept.output.trans h8.2.output, Nat.le_trans h8.2.size e9.kept.size, fun k hk hs => (e9.kept.block k (Nat.lt_of_lt_of_le hk h8.2.size) (fun e => hs (.inl e))).trans (h8.2.block k hk hs)⟩
    ·rcases hb with hb | hb
     ·rcases e9.new b hb with e | e
      ·exact .inl e
      ·exact .inr (.inr (Nat.le_trans h8.2.size e))
     ·rcases hb with e | e
      ·exact .inr (.inl (.inl e))
      ·rcases Y6.out.2.2.2.1 b e with e | e
       ·exact .inr (.inl (.inr e))
       ·exact .inr (.inr e)
   clear x9 e9
   go_wp2
   go_ret
   exact ⟨rfl, F9, lg, E9.out⟩
theorem wpList_mk {ops : Array Oper} {rest : List Oper} {o : Oper} {a : Act} {Q : Exit → Act → World → Prop} {w : World} (hgd : o.guard = none) (t : TypeId) (x y : Operand) (ho : o.op = .makeSlice t x y) (vx vy : Value) (hx : a.eval x = vx) (hy : a.eval y = vy) (v : Value) (w' : World) (hr : (Instr.makeSlice t vx vy).run Tryz.prog w = .ok v w') (h : wpList Tryz.prog ops Q rest (a.put o.dst v) w') : wpList Tryz.prog ops Q (o :: rest) a w := by
 refine wpList_plain hgd fun K hK => ?_
 unfold Oper.wp execOp
 simp only [ho, hx, hy, Sem.run_bind, hr, Sem.run_pure, Result.andThen_ok]
 exact hK _ _ h
theorem hTake {md : Region.Mode} {ops : Array Oper} {Q : Exit → Act → World → Prop} {S : World → Prop} {oi : Oper} {fuel : Nat} {listed : Array Bool} {a : Act} {w : World} (i : Nat) (d : Option Tmp) (v : Value) (hi : ops[i]? = some oi) (hd : oi.dst = d)
  (hs : Region.noSelect ops = true) (hf : Region.free md ops listed i = true) (hr : (Region.ready md ops listed).contains i = true) (hQ : ∀ c a w, Q (.panic c) (a.put d v) w → Q (.panic c) a w)
  (hw : Region.wanted oi (yielded ops a.tmps) = true) (hy : ∀ w, S w → (execOp a.eval oi).run Tryz.prog w = .ok (.value v) w) (hS : S w)
  (h : wpAnyH Tryz.prog md ops Q S fuel (listed.setIfInBounds i true) (a.put d v) w) : wpAnyH Tryz.prog md ops Q S (fuel + 1) listed a w := by
 subst hd
 exact wpAnyH_take hi hs hf hr hQ (Or.inl ⟨hw, hy⟩) hS h
theorem hLoad {md : Region.Mode} {ops : Array Oper} {Q : Exit → Act → World → Prop} {S : World → Prop} {oi : Oper} {fuel : Nat} {listed : Array Bool} {a : Act} {w : World} (i : Nat) (d : Option Tmp) (cs : List Value) (hi : ops[i]? = some oi) (hd : oi.dst = d)
  (hs : Region.noSelect ops = true) (hf : Region.free md ops listed i = true) (hr : (Region.ready md ops listed).contains i = true) (hQ : ∀ c a w, Q (.panic c) (a.put d (.agg cs.toArray)) w → Q (.panic c) a w)
  (hw : Region.wanted oi (yielded ops a.tmps) = true) (ty : TypeId) (x : Operand) (ho : oi.op = .load ty x) (b off : Nat) (hx : a.eval x = .pointer (some ⟨b, off, none⟩)) (ds : TypeDesc) (hc : ∀ w, S w → w.rangeAt b off cs)
  (hu : Tryz.prog.underlying ty = some ds) (hdr : ds.isRow = true) (hz : (Tryz.prog.info? ty).map (·.size) = some cs.length) (hS : S w)
  (h : wpAnyH Tryz.prog md ops Q S fuel (listed.setIfInBounds i true) (a.put d (.agg cs.toArray)) w) : wpAnyH Tryz.prog md ops Q S (fuel + 1) listed a w := by
 subst hd
 exact wpAnyH_take hi hs hf hr hQ (yieldsIf_load_mid hw ty x ho b off hx cs ds hc hu hdr hz) hS h
instance : Inhabited Ax := ⟨⟨0, 0, 0⟩⟩
def pgsN (n each : Nat) : Nat := if 0 < n % each then n / each + 1 else n / each
theorem spages_good (n size text : Nat) (hs : 1 ≤ size) (ht : size ≤ text) (htx : text ≤ 1000000) (hn : n ≤ 1000000000) (hp : pgsN n (text / size) ≤ 65536) (w : World) :
  Calls Tryz.prog 84 #[.int .i64 (n : Int), .int .i64 (size : Int), .int .i64 (text : Int)] w fun e w' => e = .returned (.tuple #[.int .i64 (pgsN n (text / size) : Int), .int .i64 0]) ∧ w = w' := by
 obtain ⟨each, he⟩ : ∃ e, text / size = e := ⟨_, rfl⟩
 have hepos : 1 ≤ each := by rw [← he]; exact Nat.div_pos ht hs
 rw [he] at hp ⊢
 obtain ⟨pg, hpg⟩ : ∃ p, n / each = p := ⟨_, rfl⟩
 obtain ⟨r, hr⟩ : ∃ r, n % each = r := ⟨_, rfl⟩
 have q1 : Int.tdiv (text : Int) (size : Int) = (each : Int) := by rw [divN, he]
 have q2 : Int.tdiv (n : Int) (each : Int) = (pg : Int) := by rw [divN, hpg]
 have q3 : Int.tmod (n : Int) (each : Int) = (r : Int) := by rw [modN, hr]
 have hbd : pg ≤ 65536 ∧ each ≤ 1000000 ∧ r ≤ 1000000000 := by
  refine ⟨?_, by rw [← he]; exact Nat.le_trans (Nat.div_le_self _ _) htx, by rw [← hr]; exact Nat.le_trans (Nat.mod_le _ _) hn⟩
  unfold pgsN at hp
  rw [hpg] at hp
  split at hp <;> omega
 have z1 := wrapN each (by omega)
 have z2 := wrapN pg (by omega)
 have i1 : ¬ size = 0 := by omega
 have i2 : ¬ each = 0 := by omega
 have i3 : ¬ size < 1 := by omega
 have i4 : ¬ text < size := by omega
 unfold pgsN at hp ⊢
 rw [hr, hpg] at hp ⊢
 clear he hpg hr
 by_cases h0 : 0 < r
 ·rw [if_pos h0] at hp ⊢
  obtain ⟨pg1, h1⟩ : ∃ pg1, pg + 1 = pg1 := ⟨_, rfl⟩
  rw [h1] at hp ⊢
  have q4 : (pg : Int) + 1 = (pg1 : Int) := by omega
  have z3 := wrapN pg1 (by omega)
  have i5 : ¬ 65536 < pg1 := by omega
  clear h1
  go_enter Tryz.func84, Tryz.ntmps84
  go_wp2
  go_ret2
  exact ⟨rfl, rfl⟩
 ·rw [if_neg h0] at hp ⊢
  have i5 : ¬ 65536 < pg := by omega
  go_enter Tryz.func84, Tryz.ntmps84
  go_wp2
  go_ret2
  exact ⟨rfl, rfl⟩
theorem sbuild (p f n s e : Nat) (w : World) : (Instr.build 93 #[(0, .pointer (some ⟨p, 0, none⟩)), (1, .int .i64 (f : Int)), (2, .int .i64 (n : Int)), (3, .int .i64 (s : Int)), (4, .int .i64 (e : Int))]).run Tryz.prog w = .ok (.agg (slC ⟨p, f, n, s, e, .slice none 0 0⟩).toArray) w := by kernel_rfl
theorem snew_good (p first n size h : Nat) (cf : Cf) (hl : List Nat) (nm : Nm) (txt : Nat → List Int) (F : Nat → Prop) (w : World) (x : PagS w p h cf hl nm txt F) (hs : 1 ≤ size) (ht : size ≤ cf.text) (hn : n ≤ 1000000000) (hp : first + pgsN n (cf.text / size) ≤ cf.pages) :
  Calls Tryz.prog 63 #[.pointer (some ⟨p, 0, none⟩), .int .i64 (first : Int), .int .i64 (n : Int), .int .i64 (size : Int)] w fun e w' => ∃ g, e = .returned (.tuple #[.pointer (some ⟨g, 0, none⟩), .int .i64 0]) ∧ SlS w' g ⟨p, first, n, size, cf.text / size, .slice none 0 0⟩ [] ∧ w.heap.size ≤ g ∧ Below w.heap.size w w' := by
 have hg := x.good
 have CT : Hid (Calls Tryz.prog 85 #[.pointer (some ⟨p, 0, none⟩)] w fun e w' => e = .returned (.int .i64 (cf.text : Int)) ∧ w = w') := by
  obtain ⟨gh, gp, v, fh, fp, szp, Mh, s, Mt, y, hf, ha⟩ := x
  have := gtext_any p v w y.o.m.pa
  rw [y.et] at this
  exact this
 have CP : Hid (Calls Tryz.prog 86 #[.pointer (some ⟨p, 0, none⟩)] w fun e w' => e = .returned (.int .i64 (cf.pages : Int)) ∧ w = w') := by
  obtain ⟨gh, gp, v, fh, fp, szp, Mh, s, Mt, y, hf, ha⟩ := x
  have := gpages_any p v w y.o.m.pa
  rw [y.ep] at this
  exact this
 have CS : Hid (Calls Tryz.prog 84 #[.int .i64 (n : Int), .int .i64 (size : Int), .int .i64 (cf.text : Int)] w fun e w' => e = .returned (.tuple #[.int .i64 (pgsN n (cf.text / size) : Int), .int .i64 0]) ∧ w = w') := spages_good n size cf.text hs ht (by have := hg.text; omega) hn (by have := hg.pages; omega) w
 obtain ⟨each, he⟩ : ∃ e, cf.text / size = e := ⟨_, rfl⟩
 rw [he] at hp CS ⊢
 obtain ⟨pg, hpg⟩ : ∃ q, pgsN n each = q := ⟨_, rfl⟩
 rw [hpg] at hp CS
 obtain ⟨df, hdf⟩ : ∃ d, cf.pages - pg = d := ⟨_, rfl⟩
 have q1 : Int.tdiv (cf.text : Int) (size : Int) = (each : Int) := by rw [divN, he]
 have q2 : (cf.pages : Int) - (pg : Int) = (df : Int) := by omega
 have hpb := hg.pages
 have z1 := wrapN each (by have := hg.text; have := Nat.div_le_self cf.text size; omega)
 have z2 := wrapN df (by omega)
 have i1 : ¬ size = 0 := by omega
 have i2 : ¬ df < first := by omega
 have HSB : Hid (∀ W, (Instr.build 93 #[(0, .pointer (some ⟨p, 0, none⟩)), (1, .int .i64 (first : Int)), (2, .int .i64 (n : Int)), (3, .int .i64 (size : Int)), (4, .int .i64 (each : Int))]).run Tryz.prog W = .ok (.agg (slC ⟨p, first, n, size, each, .slice none 0 0⟩).toArray) W) := sbuild p first n size each
 clear x hs ht hn hp hg hdf hpg he hpb
 go_enter Tryz.func63, Tryz.ntmps63
 go_wp2_with (first | (go_at_call 85; refine CT.out.mono ?_; rintro e _ ⟨rfl, rfl⟩) | (go_at_call 84; refine CS.out.mono ?_; rintro e _ ⟨rfl, rfl⟩) | (go_at_call 86; refine CP.out.mono ?_; rintro e _ ⟨rfl, rfl⟩) | ((with_reducible show wpList _ _ _ (({ dst := some 41, op := _, type := _, pos := _, after := _, guard := _ } : Oper) :: _) _ _); refine wpList_build rfl 93 _ rfl #[(0, .pointer (some ⟨p, 0, none⟩)), (1, .int .i64 (first : Int)), (2, .int .i64 (n : Int)), (3, .int .i64 (size : Int)), (4, .int .i64 (each : Int))] (by simp [Act.eval]; done) _ (HSB.out _) ?_) | ((with_reducible show wpList _ _ _ (({ dst := some 42, op := _, type := _, pos := _, after := _, guard := _ } : Oper) :: _) _ _); refine wpList_box_new rfl 93 _ rfl (slC ⟨p, first, n, size, each, .slice none 0 0⟩) rfl ?_; intro w1 b1 s1 l1; clear s1))
 go_ret2
 exact ⟨_, rfl, ⟨b1, World.ownsRow_nil _ _ _ _⟩, Nat.le_refl _, l1⟩
theorem axs_one1 (a : Ax) : ∀ u ∈ axC a, u.oneCell' = true := fun u h => by
 simp [axC] at h
 rcases h with rfl | rfl | rfl <;> rfl
theorem own_made_a (w : World) : (w.alloc (.cells #[] 89)).ownsRow w.heap.size 89 3 (.slice (some ⟨w.heap.size, 0, none⟩) 0 0) 0 [] :=
 World.ownsRow_made w _ 0 (Nat.le_refl _) (Nat.zero_le _) rfl
theorem cloneA_any (v : Value) (l : List Ax) (w : World) (ho : w.ownsRow 0 89 3 v l.length (l.flatMap axC)) (hl : l.length ≤ 3000000000000) : Calls Tryz.prog 45 #[v] w fun e w' => ∃ v', e = .returned v' ∧ w'.ownsRow w.heap.size 89 3 v' l.length (l.flatMap axC) ∧ Below w.heap.size w w' := by
 obtain ⟨i0, hi, hz0, hz1, hz2⟩ := info_parts info_ax
 rcases ho.2 with ⟨rfl, h0⟩ | ⟨g, cap, cur, rfl, _, hh, hc, hm, hs, ht⟩
 ·obtain rfl : l = [] := List.length_eq_zero_iff.1 h0
  have hq : ∀ wx, (binOp .eql 48 (.slice none 0 0) (.slice none 0 0)).run Tryz.prog wx = .ok (.bool true) wx := fun wx => Lib.run_eql_slice_nil wx 48 89 none 0 0 0 0 Tryz.underlying48
  clear ho
  go_enter Tryz.func45, Tryz.ntmps45
  go_wp2
  go_ret
  exact ⟨_, rfl, World.ownsRow_nil _ _ _ _, Below.refl _ _⟩
 ·have hb1 : Below w.heap.size w (w.alloc (.cells #[] 89)) := (Below.refl _ _).alloc (Nat.le_refl _) _
  have ho1 := own_made_a w
  have gl : g < w.heap.size := lt_of_block hh
  have HNW : Hid (∀ j u, (l.flatMap axC)[j]? = some u → (w.alloc (.cells #[] 89)).cell? ((⟨g, 0, none⟩ : Addr).add j) = some u) := fun j u hu => by
   have := ho.cells (g := g) rfl j u hu
   rw [add_mid] at this ⊢
   exact (hb1.cell (p := ⟨g, 0 + j, none⟩) gl).trans this
  have HL : Hid ((l.flatMap axC).length = l.length * 3) := ho.1
  have H1 : Hid (∀ u ∈ l.flatMap axC, u.oneCell' = true) := fun u hu => by
   obtain ⟨t, _, h2⟩ := List.mem_flatMap.1 hu
   exact axs_one1 t u h2
  have hq : ∀ wx, (binOp .eql 48 (.slice (some ⟨g, 0, none⟩) l.length cap) (.slice none 0 0)).run Tryz.prog wx = .ok (.bool false) wx := fun wx => Lib.run_eql_slice_nil wx 48 89 (some ⟨g, 0, none⟩) l.length cap 0 0 Tryz.underlying48
  obtain ⟨n, hn⟩ : ∃ n, l.length = n := ⟨_, rfl⟩
  rw [hn] at hq HL hl ⊢
  clear ho hh hc hm hs ht hn
  go_enter Tryz.func45, Tryz.ntmps45
  go_wp2_with (at_builtin; refine wpList_append_own _ rfl _ _ 48 rfl w.heap.size 89 i0 (.agg #[.int .i64 0, .int .i64 0, .int .i64 0]) 3 24 Tryz.underlying48 hi hz0 hz1 hz2 rfl (by decide) _ 0 [] rfl ho1 ⟨g, 0, none⟩ n cap (l.flatMap axC) rfl HL.out HNW.out H1.out ?c3 ?c4 hb1.size ?_)
  case c3 => unfold maxLen; omega
  case c4 => omega
  ·intro v' w1 hown hgrow _
   have R : Hid (Below w.heap.size w w1) := hb1.grown hgrow hb1.size (fun j hj => (ho1.lt j hj).1)
   try simp only [Nat.zero_add, List.nil_append] at hown
   have HO : Hid (w1.ownsRow w.heap.size 89 3 v' n (l.flatMap axC)) := hown
   clear hown hgrow ho1
   go_wp2
   go_ret
   exact ⟨_, rfl, HO.out, R.out⟩
theorem slog_any (g : Nat) (v : SlV) (l : List Ax) (w : World) (x : SlS w g v l) (hl : l.length ≤ 1000000000) : Calls Tryz.prog 18 #[.pointer (some ⟨g, 0, none⟩)] w fun e w' => ∃ ao c, e = .returned (.slice ao l.length c) ∧ w'.ownsRow w.heap.size 89 3 (.slice ao l.length c) l.length (l.flatMap axC) ∧ Below w.heap.size w w' := by
 have C : Hid (Calls Tryz.prog 45 #[v.log] w fun e w' => ∃ v', e = .returned v' ∧ w'.ownsRow w.heap.size 89 3 v' l.length (l.flatMap axC) ∧ Below w.heap.size w w') := cloneA_any v.log l w x.own (by omega)
 have c5 : w.cell? ⟨g, 5, none⟩ = some v.log := x.blk.cellS 5 _ rfl
 obtain ⟨lo, ln, lc, hv⟩ : ∃ a n c, v.log = .slice a n c := by rcases x.own.2 with ⟨h, _⟩ | ⟨g, cap, cur, h, _⟩ <;> exact ⟨_, _, _, h⟩
 rw [hv] at C c5
 clear x hv hl
 go_enter Tryz.func18, Tryz.ntmps18
 go_wp2_with (go_at_call 45; refine C.out.mono ?_; rintro e w1 ⟨u, rfl, o1, l1⟩)
 go_ret
 obtain ⟨ao, c, rfl⟩ : ∃ a c, u = .slice a l.length c := by
  rcases o1.2 with ⟨h, h0⟩ | ⟨g, cap, cur, h, _⟩
  ·exact ⟨none, 0, by rw [h, h0]⟩
  ·exact ⟨_, _, h⟩
 exact ⟨ao, c, rfl, o1, l1⟩
def k1 : List Int := 1 :: List.replicate 31 0
def wiN (i : Int) (n : Nat) : Nat := if i.tmod (n : Int) < 0 then (i.tmod (n : Int) + n).toNat else (i.tmod (n : Int)).toNat
theorem wiN_lt (i : Int) (n : Nat) (hn : 0 < n) : wiN i n < n := by
 obtain ⟨r, hr, h1, h2⟩ := tmod_bd i n hn
 unfold wiN; rw [hr]; split <;> omega
theorem wi17_is (i : Int) (n : Nat) (hn : 0 < n) (hn2 : n ≤ 140737488355328) (w : World) :
  Calls Tryz.prog 43 #[.int .i64 i, .int .i64 n] w fun e w' => e = .returned (.int .i64 ((wiN i n : Nat) : Int)) ∧ w = w' := by
 obtain ⟨r, hr, h1, h2⟩ := tmod_bd i n hn
 have HW : Hid (wiN i n = if r < 0 then (r + n).toNat else r.toNat) := by show _ = _; unfold wiN; rw [hr]
 have h0 : (n : Int) ≠ 0 := by omega
 have hv : Value.int .i64 (wrap64 r) = Value.int .i64 r := by congr 1; unfold wrap64; omega
 by_cases hneg : r < 0
 ·go_enter Tryz.func43, Tryz.ntmps43
  go_wp2_with fail
  go_ret
  exact ⟨ret_int (by rw [HW.out, if_pos hneg]; omega), rfl⟩
 ·go_enter Tryz.func43, Tryz.ntmps43
  go_wp2_with fail
  go_ret
  exact ⟨ret_int (by rw [HW.out, if_neg (by omega)]; omega), rfl⟩
theorem take_good (n each : Nat) (hE : 1 ≤ each) (hE2 : each ≤ 1000000) (hn : n ≤ 1000000000) (w : World) :
  Calls Tryz.prog 76 #[.int .i64 (n : Int), .int .i64 (each : Int)] w fun e w' => e = .returned (.int .i64 (pgsN n each : Int)) ∧ w = w' := by
 obtain ⟨pg, hpg⟩ : ∃ p, n / each = p := ⟨_, rfl⟩
 obtain ⟨r, hr⟩ : ∃ r, n % each = r := ⟨_, rfl⟩
 have q2 : Int.tdiv (n : Int) (each : Int) = (pg : Int) := by rw [divN, hpg]
 have q3 : Int.tmod (n : Int) (each : Int) = (r : Int) := by rw [modN, hr]
 have hbd : pg ≤ 1000000000 ∧ r ≤ 1000000000 := ⟨by rw [← hpg]; exact Nat.le_trans (Nat.div_le_self _ _) hn, by rw [← hr]; exact Nat.le_trans (Nat.mod_le _ _) hn⟩
 have z2 := wrapN pg (by omega)
 have i2 : ¬ each = 0 := by omega
 unfold pgsN
 rw [hr, hpg]
 clear hpg hr
 by_cases h0 : 0 < r
 ·rw [if_pos h0]
  obtain ⟨pg1, h1⟩ : ∃ pg1, pg + 1 = pg1 := ⟨_, rfl⟩
  rw [h1]
  have q4 : (pg : Int) + 1 = (pg1 : Int) := by omega
  have z3 := wrapN pg1 (by omega)
  clear h1
  go_enter Tryz.func76, Tryz.ntmps76
  go_wp2
  go_ret
  exact ⟨rfl, rfl⟩
 ·rw [if_neg h0]
  go_enter Tryz.func76, Tryz.ntmps76
  go_wp2
  go_ret
  exact ⟨rfl, rfl⟩
theorem rpages_good (n size text : Nat) (hs : 1 ≤ size) (ht : size ≤ text) (htx : text ≤ 1000000) (hn : n ≤ 1000000000) (hp : pgsN n (text / size) ≤ 65536) (w : World) :
  Calls Tryz.prog 44 #[.int .i64 (n : Int), .int .i64 (size : Int), .int .i64 (text : Int)] w fun e w' => e = .returned (.tuple #[.int .i64 (pgsN n (text / size) : Int), .int .i64 0]) ∧ w = w' := by
 obtain ⟨each, he⟩ : ∃ e, text / size = e := ⟨_, rfl⟩
 have hepos : 1 ≤ each := by rw [← he]; exact Nat.div_pos ht hs
 have heb : each ≤ 1000000 := by rw [← he]; exact Nat.le_trans (Nat.div_le_self _ _) htx
 rw [he] at hp ⊢
 have q1 : Int.tdiv (text : Int) (size : Int) = (each : Int) := by rw [divN, he]
 have z1 := wrapN each (by omega)
 have C : Hid (∀ W, Calls Tryz.prog 76 #[.int .i64 (n : Int), .int .i64 (each : Int)] W fun e w' => e = .returned (.int .i64 (pgsN n each : Int)) ∧ W = w') := fun W => take_good n each hepos heb hn W
 obtain ⟨k, hk⟩ : ∃ k, pgsN n each = k := ⟨_, rfl⟩
 rw [hk] at hp C ⊢
 have i1 : ¬ size = 0 := by omega
 have i3 : ¬ size < 1 := by omega
 have i4 : ¬ text < size := by omega
 have i5 : ¬ 65536 < k := by omega
 clear he hk
 go_enter Tryz.func44, Tryz.ntmps44
 go_wp2_with (go_at_call 76; refine (C.out _).mono ?_; rintro e _ ⟨rfl, rfl⟩)
 go_ret2
 exact ⟨rfl, rfl⟩
def wldS (size text window : Int) (key : List Int) (round : Int) (fv rv sv : Value) : List Value := [.int .i64 size, .int .i64 text, .int .i64 window] ++ u8s key ++ [.int .u64 round, fv, rv, sv]
theorem wldS_at (size text window : Int) (key : List Int) (round : Int) (fv rv sv : Value) (hk : key.length = 32) :
  (wldS size text window key round fv rv sv)[0]? = some (.int .i64 size) ∧ (wldS size text window key round fv rv sv)[1]? = some (.int .i64 text) ∧ (wldS size text window key round fv rv sv)[2]? = some (.int .i64 window) ∧ (wldS size text window key round fv rv sv)[35]? = some (.int .u64 round) ∧ (wldS size text window key round fv rv sv)[37]? = some rv := by
 have hl : ([.int .i64 size, .int .i64 text, .int .i64 window] ++ u8s key : List Value).length = 35 := by simp [u8s_length, hk]
 have hr : ∀ j, 35 ≤ j → (wldS size text window key round fv rv sv)[j]? = ([.int .u64 round, fv, rv, sv] : List Value)[j - 35]? := fun j hj => by
  unfold wldS
  rw [List.getElem?_append_right (by omega), hl]
 exact ⟨rfl, rfl, rfl, hr 35 (by omega), hr 37 (by omega)⟩
structure Zn where
 sz : Nat
 tx : Nat
 win : Nat
 n : Nat
 pg : Nat
def Zn.c (z : Zn) : List Value := [.int .i64 (z.sz : Int), .int .i64 (z.tx : Int), .int .i64 (z.win : Int), .int .i64 (z.n : Int), .int .i64 (z.pg : Int)]
theorem Zn.one (z : Zn) : ∀ v ∈ z.c, v.oneCell' = true := by
 intro v hv
 simp only [Zn.c, List.mem_cons, List.not_mem_nil, or_false] at hv
 rcases hv with rfl | rfl | rfl | rfl | rfl <;> rfl
def znOf (size text window : Int) (rn : Nat) : Zn :=
 let sz := 1 + wiN (IntKind.i64.wrap (size - 1)) 100
 let tx := sz + wiN text (401 - sz)
 let n := min rn 40
 ⟨sz, tx, 2 + wiN (IntKind.i64.wrap (window - 2)) 15, n, pgsN n (tx / sz)⟩
structure Zn.Fit (z : Zn) : Prop where
 sz : 1 ≤ z.sz ∧ z.sz ≤ 100
 tx : z.sz ≤ z.tx ∧ z.tx ≤ 400
 win : 2 ≤ z.win ∧ z.win ≤ 16
 n : z.n ≤ 40
 pg : z.pg = pgsN z.n (z.tx / z.sz) ∧ z.pg ≤ 41
theorem pgsN_le (n each : Nat) : pgsN n each ≤ n + 1 := by
 unfold pgsN
 have := Nat.div_le_self n each
 split <;> omega
theorem zn_fit (size text window : Int) (rn : Nat) : (znOf size text window rn).Fit := by
 have h1 := wiN_lt (IntKind.i64.wrap (size - 1)) 100 (by decide)
 have h2 := wiN_lt text (401 - (1 + wiN (IntKind.i64.wrap (size - 1)) 100)) (by omega)
 have h3 := wiN_lt (IntKind.i64.wrap (window - 2)) 15 (by decide)
 have h4 : min rn 40 ≤ 40 := Nat.min_le_right _ _
 refine ⟨⟨by show 1 ≤ 1 + _; omega, by show 1 + _ ≤ 100; omega⟩, ⟨by show 1 + _ ≤ 1 + _ + _; omega, by show 1 + _ + _ ≤ 400; omega⟩, ⟨by show 2 ≤ 2 + _; omega, by show 2 + _ ≤ 16; omega⟩, h4, rfl, ?_⟩
 have := pgsN_le (min rn 40) ((znOf size text window rn).tx / (znOf size text window rn).sz)
 show pgsN _ _ ≤ 41
 exact Nat.le_trans this (by omega)
theorem zeroShape : (Tryz.prog.info? 39).map (fun i => (i.zero, i.size)) = some (some (.agg (Zn.c ⟨0, 0, 0, 0, 0⟩).toArray), 5) := by kernel_rfl
theorem sizeShape : (Tryz.prog.info? 39).map (·.size) = some 5 := by kernel_rfl
theorem bShape (a b c : Nat) (w : World) : (Instr.build 39 #[(0, .int .i64 (a : Int)), (2, .int .i64 (b : Int)), (3, .int .i64 (c : Int))]).run Tryz.prog w = .ok (.agg (Zn.c ⟨a, 0, b, c, 0⟩).toArray) w := by kernel_rfl
theorem shape_any (size text window : Int) (key : List Int) (round : Int) (fv : Value) (ro : Option Addr) (rn rc : Nat) (sv : Value) (w : World) (hkey : key.length = 32) (hrn : rn ≤ 140737488355328) :
  Calls Tryz.prog 12 #[.agg (wldS size text window key round fv (.slice ro rn rc) sv).toArray] w fun e w' => e = .returned (.agg (znOf size text window rn).c.toArray) ∧ Below w.heap.size w w' := by
 have HF : Hid ((znOf size text window rn).Fit) := zn_fit _ _ _ _
 obtain ⟨si, hsi⟩ : ∃ t, IntKind.i64.wrap (size - 1) = t := ⟨_, rfl⟩
 obtain ⟨a1, ha1⟩ : ∃ a, wiN si 100 = a := ⟨_, rfl⟩
 obtain ⟨sz, hsz⟩ : ∃ t, 1 + a1 = t := ⟨_, rfl⟩
 obtain ⟨m, hm⟩ : ∃ t, 401 - sz = t := ⟨_, rfl⟩
 obtain ⟨a2, ha2⟩ : ∃ a, wiN text m = a := ⟨_, rfl⟩
 obtain ⟨tx, htx⟩ : ∃ t, sz + a2 = t := ⟨_, rfl⟩
 obtain ⟨wi, hwi⟩ : ∃ t, IntKind.i64.wrap (window - 2) = t := ⟨_, rfl⟩
 obtain ⟨a3, ha3⟩ : ∃ a, wiN wi 15 = a := ⟨_, rfl⟩
 obtain ⟨win, hwin⟩ : ∃ t, 2 + a3 = t := ⟨_, rfl⟩
 obtain ⟨n, hn⟩ : ∃ t, min rn 40 = t := ⟨_, rfl⟩
 obtain ⟨pg, hpg⟩ : ∃ t, pgsN n (tx / sz) = t := ⟨_, rfl⟩
 have HQ : Hid (znOf size text window rn = ⟨sz, tx, win, n, pg⟩) := by
  show _ = _
  simp only [znOf, hsi, ha1, hsz, hm, ha2, htx, hwi, ha3, hwin, hn, hpg]
 rw [HQ.out] at HF ⊢
 have fit := HF.out
 have b1 : 1 ≤ sz ∧ sz ≤ 100 := fit.sz
 have b2 : sz ≤ tx ∧ tx ≤ 400 := fit.tx
 have b3 : 2 ≤ win ∧ win ≤ 16 := fit.win
 have b4 : n ≤ 40 := fit.n
 have b5 : pg ≤ 41 := fit.pg.2
 have W1 : Hid (∀ W, Calls Tryz.prog 43 #[.int .i64 si, .int .i64 100] W fun e w' => e = .returned (.int .i64 (a1 : Int)) ∧ W = w') := fun W => by rw [← ha1]; exact wi17_is si 100 (by decide) (by decide) W
 have W2 : Hid (∀ W, Calls Tryz.prog 43 #[.int .i64 text, .int .i64 (m : Int)] W fun e w' => e = .returned (.int .i64 (a2 : Int)) ∧ W = w') := fun W => by rw [← ha2]; exact wi17_is text m (by omega) (by omega) W
 have W3 : Hid (∀ W, Calls Tryz.prog 43 #[.int .i64 wi, .int .i64 15] W fun e w' => e = .returned (.int .i64 (a3 : Int)) ∧ W = w') := fun W => by rw [← ha3]; exact wi17_is wi 15 (by decide) (by decide) W
 have CP : Hid (∀ W, Calls Tryz.prog 44 #[.int .i64 (n : Int), .int .i64 (sz : Int), .int .i64 (tx : Int)] W fun e w' => e = .returned (.tuple #[.int .i64 (pg : Int), .int .i64 0]) ∧ W = w') := fun W => by rw [← hpg]; exact rpages_good n sz tx b1.1 b2.1 (by omega) (by omega) (by rw [hpg]; omega) W
 have Q1 : Hid ((1 : Int) + (a1 : Int) = (sz : Int)) := by show _ = _; omega
 have Q2 : Hid ((401 : Int) - (sz : Int) = (m : Int)) := by show _ = _; omega
 have Q3 : Hid ((sz : Int) + (a2 : Int) = (tx : Int)) := by show _ = _; omega
 have Q4 : Hid ((2 : Int) + (a3 : Int) = (win : Int)) := by show _ = _; omega
 have Z1 : Hid (IntKind.i64.wrap (sz : Int) = (sz : Int)) := wrapN sz (by omega)
 have Z2 : Hid (IntKind.i64.wrap (m : Int) = (m : Int)) := wrapN m (by omega)
 have Z3 : Hid (IntKind.i64.wrap (tx : Int) = (tx : Int)) := wrapN tx (by omega)
 have Z4 : Hid (IntKind.i64.wrap (win : Int) = (win : Int)) := wrapN win (by omega)
 have HSI : Hid (IntKind.i64.wrap (size - 1) = si ∧ IntKind.i64.wrap (window - 2) = wi) := ⟨hsi, hwi⟩
 have HN : Hid (True ∧ (rn ≤ 40 → n = rn) ∧ (40 ≤ rn → n = 40)) := ⟨trivial, by omega, by omega⟩
 have hC := wldS_at size text window key round fv (.slice ro rn rc) sv hkey
 obtain ⟨cs, hcs⟩ : ∃ cs, wldS size text window key round fv (.slice ro rn rc) sv = cs := ⟨_, rfl⟩
 rw [hcs] at hC ⊢
 have HC : Hid (cs[0]? = some (.int .i64 size) ∧ cs[1]? = some (.int .i64 text) ∧ cs[2]? = some (.int .i64 window) ∧ cs[35]? = some (.int .u64 round) ∧ cs[37]? = some (.slice ro rn rc)) := hC
 clear hC hcs hkey ha1 ha2 ha3 hsz hm htx hwin hn hpg hsi hwi b1 b2 b3 b4 b5 fit
 go_enter Tryz.func12, Tryz.ntmps12
 go_wp2_with (first | (refine wpList_box_new rfl 36 _ rfl cs rfl ?_; intro w1 d1 s1 l1) | (refine wpList_alloc_new rfl 39 rfl 5 _ zeroShape ?_; intro w2 d2 s2 l2))
 have D : Hid (Blk w2 w.heap.size 36 cs ∧ Blk w2 w1.heap.size 39 (Zn.c ⟨0, 0, 0, 0, 0⟩) ∧ Below w.heap.size w w2 ∧ w1.heap.size = w.heap.size + 1 ∧ w2.heap.size = w1.heap.size + 1) := ⟨d1.later l2 d1.lt, d2, below_chain l1 l2 l1.size, s1, s2⟩
 obtain ⟨gt, hgt⟩ : ∃ g, w1.heap.size = g := ⟨_, rfl⟩
 rw [hgt] at D ⊢
 obtain ⟨gw, hgw⟩ : ∃ g, w.heap.size = g := ⟨_, rfl⟩
 rw [hgw] at D ⊢
 clear d1 d2 s1 s2 l1 l2 hgt
 refine region_invP 16 ((.val (.pointer (some ⟨gw, 0, none⟩))) :: (.val (.int .i64 size)) :: (.val (.int .i64 si)) :: (.val (.int .i64 (a1 : Int))) :: (.val (.int .i64 (sz : Int))) :: (.val (.pointer (some ⟨gw, 2, none⟩))) :: (.val (.int .i64 window)) :: (.val (.int .i64 wi)) :: (.val (.int .i64 (a3 : Int))) :: (.val (.int .i64 (win : Int))) :: (.val (.pointer (some ⟨gw, 37, none⟩))) :: (.val (.slice ro rn rc)) :: (.val (.int .i64 (rn : Int))) :: (.val (.int .i64 (n : Int))) :: (.val (.agg (Zn.c ⟨sz, 0, win, n, 0⟩).toArray)) :: (.blk 39 (Zn.c ⟨0, 0, 0, 0, 0⟩)) :: []) (by kernel_rfl) (by kernel_rfl) (by kernel_rfl) [3] ⟨.inl rfl, .inl rfl, .inl rfl, .inl rfl, .inl rfl, .inl rfl, .inl rfl, .inl rfl, .inl rfl, .inl rfl, .inl rfl, .inl rfl, .inl rfl, .inl rfl, .inl rfl, .inr ⟨39, _, 5, rfl, rfl, zeroShape⟩, trivial⟩ (by kernel_rfl) ?_ ?_
 ·refine Steps'.cons ?_ (Steps'.cons ?_ (Steps'.cons ?_ (Steps'.cons ?_ (Steps'.cons ?_ (Steps'.cons ?_ (Steps'.cons ?_ (Steps'.cons ?_ (Steps'.cons ?_ (Steps'.cons ?_ (Steps'.cons ?_ (Steps'.cons ?_ (Steps'.cons ?_ (Steps'.cons ?_ (Steps'.cons ?_ (Steps'.cons ?_ (Steps'.one _ _ _ _ _ _ _))))))))))))))))
  ·intro ax wx hb hs hd
   have h1 : ax.tmps.getD 1 undef = (.pointer (some ⟨gw, 0, none⟩)) := hs 1 (by kernel_rfl)
   exact Does.value _ (by clear hs hd; go_simp) rfl
  ·intro ax wx hb hs hd
   have h4 := sqV (hd 0 4 rfl (by kernel_rfl) (by decide))
   have c0 : wx.cell? ⟨gw, 0, none⟩ = some (.int .i64 size) := ((D.out.1.later hb D.out.1.lt).cell 0).trans HC.out.1
   exact Does.value _ (by clear hs hd; go_simp) rfl
  ·intro ax wx hb hs hd
   have h5 := sqV (hd 1 5 rfl (by kernel_rfl) (by decide))
   have z := HSI.out.1
   exact Does.value _ (by clear hs hd; go_simp) rfl
  ·intro ax wx hb hs hd
   have h6 := sqV (hd 2 6 rfl (by kernel_rfl) (by decide))
   refine Does.call 43 #[(.int .i64 si), (.int .i64 100)] (by clear hs hd; go_simp) ?_
   refine (W1.out wx).mono ?_
   rintro e w' ⟨rfl, rfl⟩
   exact ⟨_, rfl, rfl, Below.refl _ _⟩
  ·intro ax wx hb hs hd
   have h7 := sqV (hd 3 7 rfl (by kernel_rfl) (by decide))
   have z := Q1.out
   have z2 := Z1.out
   exact Does.value _ (by clear hs hd; go_simp) rfl
  ·intro ax wx hb hs hd
   have h1 : ax.tmps.getD 1 undef = (.pointer (some ⟨gw, 0, none⟩)) := hs 1 (by kernel_rfl)
   exact Does.value _ (by clear hs hd; go_simp) rfl
  ·intro ax wx hb hs hd
   have h9 := sqV (hd 5 9 rfl (by kernel_rfl) (by decide))
   have c0 : wx.cell? ⟨gw, 2, none⟩ = some (.int .i64 window) := ((D.out.1.later hb D.out.1.lt).cell 2).trans HC.out.2.2.1
   exact Does.value _ (by clear hs hd; go_simp) rfl
  ·intro ax wx hb hs hd
   have h10 := sqV (hd 6 10 rfl (by kernel_rfl) (by decide))
   have z := HSI.out.2
   exact Does.value _ (by clear hs hd; go_simp) rfl
  ·intro ax wx hb hs hd
   have h11 := sqV (hd 7 11 rfl (by kernel_rfl) (by decide))
   refine Does.call 43 #[(.int .i64 wi), (.int .i64 15)] (by clear hs hd; go_simp) ?_
   refine (W3.out wx).mono ?_
   rintro e w' ⟨rfl, rfl⟩
   exact ⟨_, rfl, rfl, Below.refl _ _⟩
  ·intro ax wx hb hs hd
   have h12 := sqV (hd 8 12 rfl (by kernel_rfl) (by decide))
   have z := Q4.out
   have z2 := Z4.out
   exact Does.value _ (by clear hs hd; go_simp) rfl
  ·intro ax wx hb hs hd
   have h1 : ax.tmps.getD 1 undef = (.pointer (some ⟨gw, 0, none⟩)) := hs 1 (by kernel_rfl)
   exact Does.value _ (by clear hs hd; go_simp) rfl
  ·intro ax wx hb hs hd
   have h14 := sqV (hd 10 14 rfl (by kernel_rfl) (by decide))
   have c0 : wx.cell? ⟨gw, 37, none⟩ = some (.slice ro rn rc) := ((D.out.1.later hb D.out.1.lt).cell 37).trans HC.out.2.2.2.2
   exact Does.value _ (by clear hs hd; go_simp) rfl
  ·intro ax wx hb hs hd
   have h15 := sqV (hd 11 15 rfl (by kernel_rfl) (by decide))
   exact Does.value _ (by clear hs hd; go_simp) rfl
  ·intro ax wx hb hs hd
   have h16 := sqV (hd 12 16 rfl (by kernel_rfl) (by decide))
   by_cases hle : rn ≤ 40
   ·have e := HN.out.2.1 hle
    subst e
    have i1 : (n : Int) ≤ 40 := by omega
    refine Does.value (.int .i64 (n : Int)) ?_ rfl
    clear hs hd
    go_simp
    try (intro hq; omega)
   ·have e := HN.out.2.2 (by omega)
    subst e
    have i1 : ¬ (rn : Int) ≤ 40 := by omega
    refine Does.value (.int .i64 ((40 : Nat) : Int)) ?_ rfl
    clear hs hd
    go_simp
    try (intro hq; omega)
  ·intro ax wx hb hs hd
   have h8 := sqV (hd 4 8 rfl (by kernel_rfl) (by decide))
   have h13 := sqV (hd 9 13 rfl (by kernel_rfl) (by decide))
   have h17 := sqV (hd 13 17 rfl (by kernel_rfl) (by decide))
   exact Does.build 39 _ rfl #[(0, .int .i64 (sz : Int)), (2, .int .i64 (win : Int)), (3, .int .i64 (n : Int))] (by have e1 : ax.eval (.tmp 8) = .int .i64 (sz : Int) := h8; have e2 : ax.eval (.tmp 13) = .int .i64 (win : Int) := h13; have e3 : ax.eval (.tmp 17) = .int .i64 (n : Int) := h17; simp [e1, e2, e3]) _ (bShape sz win n wx)
  ·intro ax wx hb hs hd
   exact Does.alloc 39 rfl 5 _ zeroShape hb.size
 ·intro wx hb
  iterate 15 refine @EndsP.val _ _ _ _ _ _ _ _ _ rfl ?_
  refine @EndsP.blk _ _ _ _ _ _ _ _ 39 (Zn.c ⟨0, 0, 0, 0, 0⟩) rfl ?_
  intro gz hgz bgz
  intro hD nf hnf
  obtain ⟨mf, rfl⟩ : ∃ mf, nf = mf + 1 := ⟨nf - 1, by have h3 : 1 ≤ nf := hnf; omega⟩
  clear hD hnf
  simp only [Act.put, sqA, sqB, sqC]
  refine wpAny_ready (rs := [16]) (by kernel_rfl) (by simp) (AllReady.cons rfl (fun K hK => ?_) AllReady.nil)
  try rw [if_pos (by rfl)]
  refine last_store 39 (.tmp 3) (.tmp 18) rfl rfl gz rfl 39 _ (Zn.c ⟨sz, 0, win, n, 0⟩) rfl bgz rfl sizeShape (Zn.one _) ?_
  intro w3 b3 s3 k3
  refine hK _ _ ?_
  refine wpAny_done (by kernel_rfl) (NoPanic.normal ?_) _
  have V : Hid (Below gw w w3 ∧ Blk w3 gw 36 cs ∧ Blk w3 gt 39 (Zn.c ⟨0, 0, 0, 0, 0⟩) ∧ Blk w3 gz 39 (Zn.c ⟨sz, 0, win, n, 0⟩) ∧ gw < gt ∧ gt < gz) := by
   have q1 := D.out.1.lt
   have q2 := D.out.2.1.lt
   have q3 := D.out.2.2.2
   have q4 := hb.size
   exact ⟨below_kept (below_chain D.out.2.2.1 hb (by omega)) k3 (by omega) (fun j hj => by omega), (D.out.1.later hb q1).kept k3 (by omega), (D.out.2.1.later hb q2).kept k3 (by omega), b3, by omega, by omega⟩
  clear hb b3 s3 k3 bgz hgz hK D
  try simp only [Act.put, sqA, sqB, sqC]
  go_wp2_with fail
  refine region_invP 10 ((.val (.pointer (some ⟨gz, 0, none⟩))) :: (.val (.int .i64 (sz : Int))) :: (.val (.pointer (some ⟨gw, 1, none⟩))) :: (.val (.int .i64 text)) :: (.val (.pointer (some ⟨gz, 0, none⟩))) :: (.val (.int .i64 (sz : Int))) :: (.val (.int .i64 (m : Int))) :: (.val (.int .i64 (a2 : Int))) :: (.val (.int .i64 (tx : Int))) :: (.val (.pointer (some ⟨gz, 1, none⟩))) :: []) (by kernel_rfl) (by kernel_rfl) (by kernel_rfl) [] ⟨.inl rfl, .inl rfl, .inl rfl, .inl rfl, .inl rfl, .inl rfl, .inl rfl, .inl rfl, .inl rfl, .inl rfl, trivial⟩ (by kernel_rfl) ?_ ?_
  ·refine Steps'.cons ?_ (Steps'.cons ?_ (Steps'.cons ?_ (Steps'.cons ?_ (Steps'.cons ?_ (Steps'.cons ?_ (Steps'.cons ?_ (Steps'.cons ?_ (Steps'.cons ?_ (Steps'.cons ?_ (Steps'.one _ _ _ _ _ _ _))))))))))
   ·intro ax wx hb hs hd
    have h3 : ax.tmps.getD 3 undef = (.pointer (some ⟨gz, 0, none⟩)) := hs 3 (by kernel_rfl)
    exact Does.value _ (by clear hs hd; go_simp) rfl
   ·intro ax wx hb hs hd
    have h19 := sqV (hd 0 19 rfl (by kernel_rfl) (by decide))
    have c0 : wx.cell? ⟨gz, 0, none⟩ = some (.int .i64 (sz : Int)) := (V.out.2.2.2.1.later hb V.out.2.2.2.1.lt).cell 0
    exact Does.value _ (by clear hs hd; go_simp) rfl
   ·intro ax wx hb hs hd
    have h1 : ax.tmps.getD 1 undef = (.pointer (some ⟨gw, 0, none⟩)) := hs 1 (by kernel_rfl)
    exact Does.value _ (by clear hs hd; go_simp) rfl
   ·intro ax wx hb hs hd
    have h21 := sqV (hd 2 21 rfl (by kernel_rfl) (by decide))
    have c0 : wx.cell? ⟨gw, 1, none⟩ = some (.int .i64 text) := ((V.out.2.1.later hb V.out.2.1.lt).cell 1).trans HC.out.2.1
    exact Does.value _ (by clear hs hd; go_simp) rfl
   ·intro ax wx hb hs hd
    have h3 : ax.tmps.getD 3 undef = (.pointer (some ⟨gz, 0, none⟩)) := hs 3 (by kernel_rfl)
    exact Does.value _ (by clear hs hd; go_simp) rfl
   ·intro ax wx hb hs hd
    have h23 := sqV (hd 4 23 rfl (by kernel_rfl) (by decide))
    have c0 : wx.cell? ⟨gz, 0, none⟩ = some (.int .i64 (sz : Int)) := (V.out.2.2.2.1.later hb V.out.2.2.2.1.lt).cell 0
    exact Does.value _ (by clear hs hd; go_simp) rfl
   ·intro ax wx hb hs hd
    have h24 := sqV (hd 5 24 rfl (by kernel_rfl) (by decide))
    have z := Q2.out
    have z2 := Z2.out
    exact Does.value _ (by clear hs hd; go_simp) rfl
   ·intro ax wx hb hs hd
    have h22 := sqV (hd 3 22 rfl (by kernel_rfl) (by decide))
    have h25 := sqV (hd 6 25 rfl (by kernel_rfl) (by decide))
    refine Does.call 43 #[(.int .i64 text), (.int .i64 (m : Int))] (by clear hs hd; go_simp) ?_
    refine (W2.out wx).mono ?_
    rintro e w' ⟨rfl, rfl⟩
    exact ⟨_, rfl, rfl, Below.refl _ _⟩
   ·intro ax wx hb hs hd
    have h20 := sqV (hd 1 20 rfl (by kernel_rfl) (by decide))
    have h26 := sqV (hd 7 26 rfl (by kernel_rfl) (by decide))
    have z := Q3.out
    have z2 := Z3.out
    exact Does.value _ (by clear hs hd; go_simp) rfl
   ·intro ax wx hb hs hd
    have h3 : ax.tmps.getD 3 undef = (.pointer (some ⟨gz, 0, none⟩)) := hs 3 (by kernel_rfl)
    exact Does.value _ (by clear hs hd; go_simp) rfl
  ·intro wx hb
   iterate 10 refine @EndsP.val _ _ _ _ _ _ _ _ _ rfl ?_
   intro hD nf hnf
   obtain ⟨mf, rfl⟩ : ∃ mf, nf = mf + 1 := ⟨nf - 1, by have h3 : 1 ≤ nf := hnf; omega⟩
   clear hD hnf
   simp only [Act.put, sqA, sqB, sqC]
   have V4 : Hid (Below gw w wx ∧ Blk wx gt 39 (Zn.c ⟨0, 0, 0, 0, 0⟩) ∧ Blk wx gz 39 (Zn.c ⟨sz, 0, win, n, 0⟩) ∧ gw < gt ∧ gt < gz) := by
    have q1 := V.out.1.size
    have q2 := V.out.2.1.lt
    exact ⟨below_chain V.out.1 hb (by omega), V.out.2.2.1.later hb V.out.2.2.1.lt, V.out.2.2.2.1.later hb V.out.2.2.2.1.lt, V.out.2.2.2.2⟩
   have c1 : wx.cell? ⟨gz, 1, none⟩ = some (.int .i64 0) := V4.out.2.2.1.cell 1
   have f1 : wx.frozen? ⟨gz, 1, none⟩ = false := V4.out.2.2.1.frozen 1
   clear hb V
   refine wpAny_ready (rs := [10]) (by kernel_rfl) (by simp) (AllReady.cons rfl (fun K hK => ?_) AllReady.nil)
   go_simp
   refine hK _ _ ?_
   refine wpAny_done (by kernel_rfl) (NoPanic.normal ?_) _
   have b5 := V4.out.2.2.1.set 1 (.int .i64 (tx : Int))
   have k5 := (Kept.refl (fun b => b = gz) wx).setCell (p := ⟨gz, 1, none⟩) rfl (.int .i64 (tx : Int))
   obtain ⟨w5, hw5⟩ : ∃ W, wx.setCell ⟨gz, 1, none⟩ (.int .i64 (tx : Int)) = W := ⟨_, rfl⟩
   rw [hw5] at b5 k5 ⊢
   have V5 : Hid (Below gw w w5 ∧ Blk w5 gt 39 (Zn.c ⟨0, 0, 0, 0, 0⟩) ∧ Blk w5 gz 39 (Zn.c ⟨sz, tx, win, n, 0⟩) ∧ gw < gt ∧ gt < gz) := by
    have q0 := V4.out.2.2.2
    have q1 := V4.out.2.1.lt
    exact ⟨below_kept V4.out.1 k5 (by omega) (fun j hj => by omega), V4.out.2.1.kept k5 (by omega), b5, q0⟩
   clear V4 c1 f1 b5 k5 hw5 hK
   have c0 : w5.cell? ⟨gz, 0, none⟩ = some (.int .i64 (sz : Int)) := V5.out.2.2.1.cell 0
   have c1 : w5.cell? ⟨gz, 1, none⟩ = some (.int .i64 (tx : Int)) := V5.out.2.2.1.cell 1
   have c3 : w5.cell? ⟨gz, 3, none⟩ = some (.int .i64 (n : Int)) := V5.out.2.2.1.cell 3
   have c4 : w5.cell? ⟨gz, 4, none⟩ = some (.int .i64 0) := V5.out.2.2.1.cell 4
   have f4 : w5.frozen? ⟨gz, 4, none⟩ = false := V5.out.2.2.1.frozen 4
   have V6 : Hid (Below gw w (w5.setCell ⟨gz, 4, none⟩ (.int .i64 (pg : Int))) ∧ Blk (w5.setCell ⟨gz, 4, none⟩ (.int .i64 (pg : Int))) gt 39 (Zn.c ⟨0, 0, 0, 0, 0⟩) ∧ Blk (w5.setCell ⟨gz, 4, none⟩ (.int .i64 (pg : Int))) gz 39 (Zn.c ⟨sz, tx, win, n, pg⟩) ∧ gw < gt ∧ gt < gz) := by
    have q0 := V5.out.2.2.2
    have q1 := V5.out.2.1.lt
    have k6 := (Kept.refl (fun b => b = gz) w5).setCell (p := ⟨gz, 4, none⟩) rfl (.int .i64 (pg : Int))
    exact ⟨below_kept V5.out.1 k6 (by omega) (fun j hj => by omega), V5.out.2.1.kept k6 (by omega), V5.out.2.2.1.set 4 (.int .i64 (pg : Int)), q0⟩
   try simp only [Act.put, sqA, sqB, sqC]
   go_wp2_with (first | (go_at_call 44; refine (CP.out _).mono ?_; rintro e _ ⟨rfl, rfl⟩) | (refine wpList_load_blk rfl 39 _ rfl gz rfl (Zn.c ⟨sz, tx, win, n, pg⟩) _ V6.out.2.2.1 Tryz.underlying39 rfl sizeShape ?_) | (refine wpList_store_blk rfl 39 39 _ _ rfl gt rfl _ (Zn.c ⟨sz, tx, win, n, pg⟩) rfl V6.out.2.1 rfl sizeShape (Zn.one _) ?_; intro w7 b7 s7 k7))
   refine ret_blk rfl gt (Zn.c ⟨sz, tx, win, n, pg⟩) _ rfl b7 Tryz.underlying39 rfl sizeShape rfl ?_
   have q0 := V6.out.2.2.2
   refine ⟨rfl, ?_⟩
   rw [hgw]
   exact below_kept V6.out.1 k7 (by have := V6.out.2.1.lt; omega) (fun j hj => by omega)
structure Sn where
 l : List Ax
 nm : Nm
def Sn.get (cf : Cf) (v : SlV) (s : Sn) (i : Nat) : Sn := ⟨s.l ++ [⟨0, i, 0⟩], s.nm.load cf (v.first + i / v.each)⟩
def Sn.set (cf : Cf) (v : SlV) (s : Sn) (i : Nat) : Sn := ⟨s.l ++ [⟨1, i, 0⟩], (s.nm.load cf (v.first + i / v.each)).save cf (v.first + i / v.each)⟩
def Sn.pair (cf : Cf) (v : SlV) (s : Sn) (i j : Nat) : Sn := ⟨s.l ++ [⟨2, i, j⟩], s.nm.pair cf (v.first + i / v.each) (v.first + j / v.each)⟩
structure Bn (cf : Cf) (s : Sn) (m : Nat) : Prop where
 l : s.l.length ≤ m
 ord : s.nm.ord.length ≤ cf.win
 log : s.nm.log.length ≤ 6 * m
 wr : s.nm.writes ≤ 6 * m
theorem Bn.get {cf : Cf} {s : Sn} {m : Nat} (hw : 2 ≤ cf.win) (v : SlV) (b : Bn cf s m) (i : Nat) : Bn cf (s.get cf v i) (m + 1) := by
 have h := load_len cf s.nm (v.first + i / v.each) b.ord hw
 exact ⟨by have := b.l; show (s.l ++ _).length ≤ _; simp; omega, h.1, by have := b.log; have := h.2.1; show (s.nm.load _ _).log.length ≤ _; omega, by have := b.wr; have := h.2.2; show (s.nm.load _ _).writes ≤ _; omega⟩
theorem Bn.set {cf : Cf} {s : Sn} {m : Nat} (hw : 2 ≤ cf.win) (v : SlV) (b : Bn cf s m) (i : Nat) : Bn cf (s.set cf v i) (m + 1) := by
 have h := load_len cf s.nm (v.first + i / v.each) b.ord hw
 have h2 := save_len cf (s.nm.load cf (v.first + i / v.each)) (v.first + i / v.each) h.1 hw
 exact ⟨by have := b.l; show (s.l ++ _).length ≤ _; simp; omega, h2.1, by have := b.log; have := h.2.1; have := h2.2.1; show ((s.nm.load _ _).save _ _).log.length ≤ _; omega, by have := b.wr; have := h.2.2; have := h2.2.2; show ((s.nm.load _ _).save _ _).writes ≤ _; omega⟩
theorem Bn.pair {cf : Cf} {s : Sn} {m : Nat} (hw : 2 ≤ cf.win) (v : SlV) (b : Bn cf s m) (i j : Nat) : Bn cf (s.pair cf v i j) (m + 1) := by
 obtain ⟨a, ha⟩ : ∃ a, v.first + i / v.each = a := ⟨_, rfl⟩
 obtain ⟨c, hc⟩ : ∃ c, v.first + j / v.each = c := ⟨_, rfl⟩
 have hp : (s.pair cf v i j).nm = s.nm.pair cf a c := by show s.nm.pair cf _ _ = _; rw [ha, hc]
 have hl : (s.pair cf v i j).l.length ≤ m + 1 := by have := b.l; show (s.l ++ _).length ≤ _; simp; omega
 have h := load_len cf s.nm a b.ord hw
 by_cases e : a = c
 ·have h2 := save_len cf (s.nm.load cf a) a h.1 hw
  have hp : (s.pair cf v i j).nm = (s.nm.load cf a).save cf a := by rw [hp]; unfold Nm.pair; rw [if_pos e]
  exact ⟨hl, by rw [hp]; exact h2.1, by rw [hp]; have := b.log; have := h.2.1; have := h2.2.1; omega, by rw [hp]; have := b.wr; have := h.2.2; have := h2.2.2; omega⟩
 ·have h1 := load_len cf (s.nm.load cf a) c h.1 hw
  have h2 := save_len cf ((s.nm.load cf a).load cf c) a h1.1 hw
  have h3 := save_len cf (((s.nm.load cf a).load cf c).save cf a) c h2.1 hw
  have hp : (s.pair cf v i j).nm = (((s.nm.load cf a).load cf c).save cf a).save cf c := by rw [hp]; unfold Nm.pair; rw [if_neg e]
  exact ⟨hl, by rw [hp]; exact h3.1, by rw [hp]; have := b.log; have := h.2.1; have := h1.2.1; have := h2.2.1; have := h3.2.1; omega, by rw [hp]; have := b.wr; have := h.2.2; have := h1.2.2; have := h2.2.2; have := h3.2.2; omega⟩
def Lr (w : World) (cf : Cf) (v : SlV) (g h : Nat) (s : Sn) (R : Nat → List Int) (S : Nat → Prop) : Prop :=
 ∃ lg txt F, PagS w v.p h cf s.nm.ord s.nm txt F ∧ SlS w g { v with log := lg } s.l ∧ (∀ b, slF g { v with log := lg } b → ¬ F b) ∧ (∀ b, S b ↔ (F b ∨ slF g { v with log := lg } b)) ∧ ∀ i, i < v.n → recL txt v i = R i
section
variable {w w' : World} {cf : Cf} {v : SlV} {g h : Nat} {s : Sn} {R : Nat → List Int} {S T : Nat → Prop}
theorem Lr.lt (x : Lr w cf v g h s R S) : ∀ b, S b → b < w.heap.size := by
 obtain ⟨lg, txt, F, a, b, c, d, e⟩ := x
 intro i hi
 rcases (d i).1 hi with e | e
 ·exact a.all i e
 ·exact b.all i e
theorem Lr.off (x : Lr w cf v g h s R S) (hk : Kept T w w') (hd : ∀ b, T b → ¬ S b) : Lr w' cf v g h s R S := by
 obtain ⟨lg, txt, F, a, b, c, d, e⟩ := x
 exact ⟨lg, txt, F, a.off hk (fun i hi hF => hd i hi ((d i).2 (.inl hF))), b.off hk (fun i hi hs => hd i hi ((d i).2 (.inr hs))), c, d, e⟩
theorem Lr.later (x : Lr w cf v g h s R S) (hb : Below w.heap.size w w') : Lr w' cf v g h s R S :=
 x.off (Kept.new (fun _ => False) hb) (fun _ h => h.elim)
theorem Lr.rows {R' : Nat → List Int} (x : Lr w cf v g h s R S) (hR : ∀ i, i < v.n → R i = R' i) : Lr w cf v g h s R' S := by
 obtain ⟨lg, txt, F, a, b, c, d, e⟩ := x
 exact ⟨lg, txt, F, a, b, c, d, fun i hi => (e i hi).trans (hR i hi)⟩
theorem Lr.good (x : Lr w cf v g h s R S) : cf.Good := by
 obtain ⟨lg, txt, F, a, _⟩ := x
 exact a.good
theorem Lr.row (hn : SlN v cf) (x : Lr w cf v g h s R S) (i : Nat) (hi : i < v.n) : (R i).length = v.size ∧ Bytes (R i) := by
 obtain ⟨lg, txt, F, a, b, c, d, e⟩ := x
 have tl : ∀ s, (txt s).length = cf.text ∧ Bytes (txt s) := by
  obtain ⟨gh, gp, v', fh, fp, szp, Mh, s, Mt, z, hf, ha⟩ := a
  exact z.tl
 rw [← e i hi]
 have h1 := hn.place i
 have h2 := tl (v.first + i / v.each)
 refine ⟨?_, fun z hz => h2.2 z (List.mem_of_mem_drop (List.mem_of_mem_take hz))⟩
 unfold recL
 rw [List.length_take, List.length_drop, h2.1]
 omega
theorem len_R (x : Lr w cf v g h s R S) : Calls Tryz.prog 48 #[.pointer (some ⟨g, 0, none⟩)] w fun e w' => e = .returned (.int .i64 (v.n : Int)) ∧ w = w' := by
 obtain ⟨lg, txt, F, a, y, c, d⟩ := x
 exact len_any g { v with log := lg } w y.blk
theorem get_R (x : Lr w cf v g h s R S) (hn : SlN v cf) (i m : Nat) (b : Bn cf s m) (hm : m ≤ 100000000) (hi : i < v.n) :
  Calls Tryz.prog 29 #[.pointer (some ⟨g, 0, none⟩), .int .i64 (i : Int)] w fun e w' => ∃ rb, e = .returned (.tuple #[.slice (some ⟨rb, 0, none⟩) v.size v.size, .int .i64 0]) ∧ Blk w' rb 5 (u8s (R i)) ∧ w.heap.size ≤ rb ∧ ∃ S', Lr w' cf v g h (s.get cf v i) R S' ∧ ¬ S' rb ∧ Kept S w w' ∧ ∀ b, S' b → S b ∨ w.heap.size ≤ b := by
 obtain ⟨lg, txt, F, a, y, c, d, e⟩ := x
 refine (get_S g { v with log := lg } s.l h cf s.nm txt F i w a y c ⟨hn.each, hn.size, hn.fit, hn.n, hn.pages⟩ hi (by have := b.l; omega) b.ord (by have := b.log; omega) (by have := b.wr; omega)).mono ?_
 rintro _ w' ⟨rb, F', lg', rfl, hb, x', y', c', k', f', h1, h2, h3⟩
 rw [← e i hi]
 exact ⟨rb, rfl, hb, h1, fun b => F' b ∨ slF g { v with log := lg' } b, ⟨lg', txt, F', x', y', c', fun b => Iff.rfl, e⟩, fun h => h.elim h2 h3, k'.mono (fun b hb => (d b).2 hb), fun b hb => (f' b hb).elim (fun e => .inl ((d b).2 (.inl e))) (fun e => e.elim (fun e => .inl ((d b).2 (.inr e))) .inr)⟩
theorem set_R (x : Lr w cf v g h s R S) (hn : SlN v cf) (i m : Nat) (b : Bn cf s m) (hm : m ≤ 100000000) (hi : i < v.n) (bo : Option Addr) (bc : Nat) (bs : List Int) (hs : Seen w bo v.size bs) (hbo : ∀ b o, bo = some ⟨b, o, none⟩ → b < w.heap.size ∧ ¬ S b) :
  Calls Tryz.prog 37 #[.pointer (some ⟨g, 0, none⟩), .int .i64 (i : Int), .slice bo v.size bc] w fun e w' => e = .returned (.int .i64 0) ∧ ∃ S', Lr w' cf v g h (s.set cf v i) (upn R i bs) S' ∧ Kept S w w' ∧ ∀ b, S' b → S b ∨ w.heap.size ≤ b := by
 obtain ⟨lg, txt, F, a, y, c, d, e⟩ := x
 have tl : ∀ s, (txt s).length = cf.text ∧ Bytes (txt s) := by
  obtain ⟨gh, gp, v', fh, fp, szp, Mh, s, Mt, z, hf, ha⟩ := a
  exact z.tl
 refine (set_S g { v with log := lg } s.l h cf s.nm txt F i bo bc bs w a y c ⟨hn.each, hn.size, hn.fit, hn.n, hn.pages⟩ hi (by have := b.l; omega) hs (fun b' o e => ⟨(hbo b' o e).1, fun hF => (hbo b' o e).2 ((d _).2 (.inl hF)), fun hF => (hbo b' o e).2 ((d _).2 (.inr hF))⟩) b.ord (by have := b.log; omega) (by have := b.wr; omega)).mono ?_
 rintro _ w' ⟨rfl, F', lg', x', y', c', k', f'⟩
 refine ⟨rfl, fun b => F' b ∨ slF g { v with log := lg' } b, ⟨lg', _, F', x', y', c', fun b => Iff.rfl, fun j hj => ?_⟩, k'.mono (fun b hb => (d b).2 hb), fun b hb => (f' b hb).elim (fun e => .inl ((d b).2 (.inl e))) (fun e => e.elim (fun e => .inl ((d b).2 (.inr e))) .inr)⟩
 have hk : i % v.each * v.size + v.size ≤ (txt (v.first + i / v.each)).length := by rw [(tl _).1]; exact hn.place i
 by_cases hij : j = i
 ·subst hij
  refine (rec_same txt v j bs hs.len hk).trans ?_
  unfold upn; rw [if_pos rfl]
 ·refine (rec_other txt v i j bs hn.each hs.len hk (fun e => hij e.symm)).trans ?_
  unfold upn; rw [if_neg hij]; exact e j hj
theorem pair_R (x : Lr w cf v g h s R S) (hn : SlN v cf) (i j m : Nat) (b : Bn cf s m) (hm : m ≤ 100000000) (hi : i < v.n) (hj : j < v.n) (hij : i ≠ j) (B : FuncId) (caps : Array Value) (A' B' : List Int) (hent : ∀ args W, (callFunc B args).run Tryz.prog W = .ok (.enter B args) W)
  (hA : A'.length = v.size ∧ Bytes A' ∧ B'.length = v.size ∧ Bytes B') (HF : ∀ W, Kept S w W → FPair W B caps v.size (R i) (R j) A' B') :
  Calls Tryz.prog 42 #[.pointer (some ⟨g, 0, none⟩), .int .i64 (i : Int), .int .i64 (j : Int), .func (.func B) #[] caps] w fun e w' => e = .returned (.int .i64 0) ∧ ∃ S', Lr w' cf v g h (s.pair cf v i j) (upn (upn R i A') j B') S' ∧ Kept S w w' ∧ ∀ b, S' b → S b ∨ w.heap.size ≤ b := by
 obtain ⟨lg, txt, F, a, y, c, d, e⟩ := x
 have tl : ∀ s, (txt s).length = cf.text ∧ Bytes (txt s) := by
  obtain ⟨gh, gp, v', fh, fp, szp, Mh, s, Mt, z, hf, ha⟩ := a
  exact z.tl
 have hk : ∀ k, k % v.each * v.size + v.size ≤ (txt (v.first + k / v.each)).length := fun k => by rw [(tl _).1]; exact hn.place k
 refine (pair_S g { v with log := lg } s.l h cf s.nm txt F i j B caps A' B' w a y c ⟨hn.each, hn.size, hn.fit, hn.n, hn.pages⟩ hi hj hij (by have := b.l; omega) b.ord (by have := b.log; omega) (by have := b.wr; omega) hent hA (fun W hW => by
  have h1 : recL txt { v with log := lg } i = R i := e i hi
  have h2 : recL txt { v with log := lg } j = R j := e j hj
  rw [h1, h2]
  exact HF W (hW.mono (fun b hb => (d b).2 hb)))).mono ?_
 rintro _ w' ⟨rfl, F', lg', x', y', c', k', f'⟩
 refine ⟨rfl, fun b => F' b ∨ slF g { v with log := lg' } b, ⟨lg', _, F', x', y', c', fun b => Iff.rfl, fun k hk' => ?_⟩, k'.mono (fun b hb => (d b).2 hb), fun b hb => (f' b hb).elim (fun e => .inl ((d b).2 (.inl e))) (fun e => e.elim (fun e => .inl ((d b).2 (.inr e))) .inr)⟩
 have hk2 : ∀ k, k % v.each * v.size + v.size ≤ (setT txt v i A' (v.first + k / v.each)).length := fun k => by
  unfold setT upn
  split
  ·rw [putL_length (by rw [hA.1]; exact hk i), (tl _).1]; exact hn.place k
  ·exact hk k
 show recL (setT (setT txt v i A') v j B') v k = _
 by_cases e1 : k = j
 ·subst e1
  refine (rec_same _ v k B' hA.2.2.1 (hk2 k)).trans ?_
  unfold upn; rw [if_pos rfl]
 ·refine (rec_other _ v j k B' hn.each hA.2.2.1 (hk2 j) (fun e => e1 e.symm)).trans ?_
  by_cases e2 : k = i
  ·subst e2
   refine (rec_same txt v k A' hA.1 (hk k)).trans ?_
   unfold upn; rw [if_neg e1, if_pos rfl]
  ·refine (rec_other txt v i k A' hn.each hA.1 (hk i) (fun e => e2 e.symm)).trans ?_
   unfold upn; rw [if_neg e1, if_neg e2]; exact e k hk'
end
structure Opr where
 k : Int
 wh : Int
 i : Int
 j : Int
 b : List Int
instance : Inhabited Opr := ⟨⟨0, 0, 0, 0, []⟩⟩
theorem wldS_length (size text window : Int) (key : List Int) (round : Int) (fv rv sv : Value) (hk : key.length = 32) : (wldS size text window key round fv rv sv).length = 39 := by
 simp [wldS, u8s_length, hk]
theorem sizeWldS (size text window : Int) (key : List Int) (round : Int) (fv rv sv : Value) (hk : key.length = 32) : (Tryz.prog.info? 36).map (·.size) = some (wldS size text window key round fv rv sv).length := by
 rw [wldS_length _ _ _ _ _ _ _ _ hk]; kernel_rfl
theorem wldS_key {w : World} {g : Nat} {t : TypeId} {size text window : Int} {key : List Int} {round : Int} {fv rv sv : Value} (h : Blk w g t (wldS size text window key round fv rv sv)) : w.rangeAt g 3 (u8s key) := by
 unfold wldS at h
 rw [List.append_assoc] at h
 exact Blk.range (xs := [.int .i64 size, .int .i64 text, .int .i64 window]) h
def Zn.cf (z : Zn) (k : List Int) (round : Int) : Cf := ⟨k, round, z.win, z.pg, z.tx⟩
def Zn.sl (z : Zn) (p : Nat) : SlV := ⟨p, 0, z.n, z.sz, z.tx / z.sz, .slice none 0 0⟩
theorem Zn.Fit.sln {z : Zn} (hz : z.Fit) (k : List Int) (r : Int) (p : Nat) : SlN (z.sl p) (z.cf k r) := by
 have h1 := hz.sz
 have h2 := hz.tx
 have h3 : 1 ≤ z.tx / z.sz := Nat.div_pos h2.1 (by omega)
 refine ⟨h3, h1.1, Nat.div_mul_le_self _ _, by have := hz.n; show z.n ≤ _; omega, fun i hi => ?_⟩
 have hi : i < z.n := hi
 show 0 + i / (z.tx / z.sz) < z.pg
 rw [Nat.zero_add, hz.pg.1]
 obtain ⟨each, he⟩ : ∃ e, z.tx / z.sz = e := ⟨_, rfl⟩
 rw [he] at h3 ⊢
 have h4 := Nat.div_add_mod z.n each
 have h5 := Nat.mod_lt z.n h3
 refine (Nat.div_lt_iff_lt_mul h3).2 ?_
 unfold pgsN
 split
 ·have : (z.n / each + 1) * each = each * (z.n / each) + each := by rw [Nat.add_mul, Nat.mul_comm, Nat.one_mul]
  omega
 ·have : z.n / each * each = each * (z.n / each) := Nat.mul_comm _ _
  omega
theorem begun_any (size text window : Int) (key : List Int) (round : Int) (fv : Value) (ro : Option Addr) (rn rc : Nat) (sv : Value) (w : World) (hkey : key.length = 32) (hkb : Bytes key) (hr : Word round) (hrn : rn ≤ 140737488355328) :
  Calls Tryz.prog 36 #[.agg (wldS size text window key round fv (.slice ro rn rc) sv).toArray, .slice none 0 0] w fun e w' => ∃ g h p S, e = .returned (.tuple #[.pointer (some ⟨h, 0, none⟩), .pointer (some ⟨g, 0, none⟩), .bool true]) ∧ Lr w' ((znOf size text window rn).cf key round) ((znOf size text window rn).sl p) g h ⟨[], nm0⟩ (fun _ => List.replicate (znOf size text window rn).sz 0) S ∧ (∀ b, S b → w.heap.size ≤ b) ∧ Below w.heap.size w w' := by
 have CS : Hid (∀ W, Calls Tryz.prog 12 #[.agg (wldS size text window key round fv (.slice ro rn rc) sv).toArray] W fun e w' => e = .returned (.agg (znOf size text window rn).c.toArray) ∧ Below W.heap.size W w') := fun W => shape_any size text window key round fv ro rn rc sv W hkey hrn
 have HF : Hid ((znOf size text window rn).Fit) := zn_fit _ _ _ _
 obtain ⟨z, hz⟩ : ∃ z, znOf size text window rn = z := ⟨_, rfl⟩
 rw [hz] at CS HF ⊢
 obtain ⟨tz, htz⟩ : ∃ t, z.tx + 28 = t := ⟨_, rfl⟩
 have b1 := HF.out.sz
 have b2 := HF.out.tx
 have b3 := HF.out.win
 have b4 := HF.out.n
 have b5 := HF.out.pg
 have q1 : (z.tx : Int) + 28 = (tz : Int) := by omega
 have z1 := wrapN tz (by omega)
 have HKK : Hid ((Tryz.prog.info? 30).map (·.size) = some (u8s key).length) := by show _ = _; rw [u8s_length, hkey]; kernel_rfl
 have HS : Hid ((Tryz.prog.info? 36).map (·.size) = some (wldS size text window key round fv (.slice ro rn rc) sv).length) := sizeWldS size text window key round fv (.slice ro rn rc) sv hkey
 have HC := wldS_at size text window key round fv (.slice ro rn rc) sv hkey
 have HC35 : Hid ((wldS size text window key round fv (.slice ro rn rc) sv)[35]? = some (.int .u64 round)) := HC.2.2.2.1
 have RK : Hid (∀ {W : World} {g t : Nat}, Blk W g t (wldS size text window key round fv (.slice ro rn rc) sv) → W.rangeAt g 3 (u8s key)) := fun {W g t} h => wldS_key h
 obtain ⟨cs, hcs⟩ : ∃ cs, wldS size text window key round fv (.slice ro rn rc) sv = cs := ⟨_, rfl⟩
 rw [hcs] at CS HS HC35 RK ⊢
 have CH : Hid (∀ W, Calls Tryz.prog 61 #[.int .i64 (z.pg : Int), .int .i64 (tz : Int), .slice none 0 0] W fun e w' => ∃ h, e = .returned (.tuple #[.pointer (some ⟨h, 0, none⟩), .int .i64 0]) ∧ HostAt w' (fun k => W.heap.size ≤ k ∧ k < w'.heap.size) h (newS z.pg tz []) ∧ Below W.heap.size W w') := fun W => new_good z.pg tz (.slice none 0 0) [] (fun _ => False) W (FlS.nil _ _) (fun k h => h.elim) (by decide) (by omega) (by omega) rfl
 have HK : Hid (key.length = 32 ∧ Bytes key ∧ Word round ∧ z.tx + 28 = tz) := ⟨hkey, hkb, hr, htz⟩
 have NB : Hid (True ∧ 1 ≤ z.sz ∧ z.sz ≤ 100 ∧ z.sz ≤ z.tx ∧ z.tx ≤ 400 ∧ 2 ≤ z.win ∧ z.win ≤ 16 ∧ z.n ≤ 40 ∧ z.pg = pgsN z.n (z.tx / z.sz) ∧ z.pg ≤ 41) := ⟨trivial, b1.1, b1.2, b2.1, b2.2, b3.1, b3.2, b4, b5.1, b5.2⟩
 have N1 : Hid True := trivial
 have N2 : Hid True := trivial
 have N3 : Hid True := trivial
 have L1 : Hid True := trivial
 have L2 : Hid True := trivial
 have M1 : Hid True := trivial
 have M2 : Hid True := trivial
 have M3 : Hid True := trivial
 have M4 : Hid True := trivial
 clear hcs HC hz hkey hkb hr hrn b1 b2 b3 b4 b5 htz
 go_enter Tryz.func36, Tryz.ntmps36
 go_wp2_with (first
  | (clear N1; refine wpList_box_new rfl 36 _ rfl cs rfl ?_; intro w2 d1 s1 l1; have D2 : Hid (Blk w2 w.heap.size 36 cs ∧ Below w.heap.size w w2) := ⟨d1, l1⟩; clear d1 s1 l1)
  | (clear L1; refine wpList_load_blk rfl 36 _ rfl _ rfl cs _ D2.out.1 Tryz.underlying36 rfl HS.out ?_)
  | (clear M1; go_at_call 12; refine (CS.out w2).mono ?_; rintro e w3 ⟨rfl, l3⟩; have D3 : Hid (Blk w3 w.heap.size 36 cs ∧ Below w.heap.size w w3) := ⟨D2.out.1.later l3 D2.out.1.lt, below_chain D2.out.2 l3 D2.out.2.size⟩; clear l3)
  | (clear N2; refine wpList_alloc_new rfl 39 rfl 5 _ zeroShape ?_; intro w4 d4 s4 l4)
  | (clear N3; refine wpList_store_blk rfl 39 39 _ _ rfl w3.heap.size rfl _ z.c rfl d4 rfl sizeShape z.one ?_; intro w5 d5 s5 k5; obtain ⟨gz, hgz⟩ : ∃ g, w3.heap.size = g := ⟨_, rfl⟩; rw [hgz] at d5 k5 s4 l4 ⊢; have D5 : Hid (Blk w5 w.heap.size 36 cs ∧ Blk w5 gz 39 z.c ∧ Below w.heap.size w w5 ∧ w.heap.size < gz ∧ gz < w5.heap.size) := (by have h1 := D3.out.1.lt; have l4' : Below w3.heap.size w3 w4 := (by rw [hgz]; exact l4); exact ⟨(D3.out.1.later l4' h1).kept k5 (by omega), d5, below_kept (below_chain D3.out.2 l4' D3.out.2.size) k5 (by omega) (fun j hj => by omega), by omega, d5.lt⟩); have c0 : w5.cell? ⟨gz, 0, none⟩ = some (.int .i64 (z.sz : Int)) := d5.cell 0; have c1 : w5.cell? ⟨gz, 1, none⟩ = some (.int .i64 (z.tx : Int)) := d5.cell 1; have c2 : w5.cell? ⟨gz, 2, none⟩ = some (.int .i64 (z.win : Int)) := d5.cell 2; have c3 : w5.cell? ⟨gz, 3, none⟩ = some (.int .i64 (z.n : Int)) := d5.cell 3; have c4 : w5.cell? ⟨gz, 4, none⟩ = some (.int .i64 (z.pg : Int)) := d5.cell 4; clear d4 s4 l4 d5 s5 k5 D3 D2 hgz)
  | (clear M2; go_at_call 61; refine (CH.out w5).mono ?_; rintro e w6 ⟨h, rfl, x6, l6⟩; have D6 : Hid (Blk w6 w.heap.size 36 cs ∧ Blk w6 gz 39 z.c ∧ Below w.heap.size w w6 ∧ HostAt w6 (fun k => w5.heap.size ≤ k ∧ k < w6.heap.size) h (newS z.pg tz []) ∧ w.heap.size ≤ w5.heap.size) := ⟨D5.out.1.later l6 D5.out.1.lt, D5.out.2.1.later l6 D5.out.2.1.lt, below_chain D5.out.2.2.1 l6 D5.out.2.2.1.size, x6, D5.out.2.2.1.size⟩; clear x6 l6 c0 c1 c2 c3 c4; have c2 : w6.cell? ⟨gz, 2, none⟩ = some (.int .i64 (z.win : Int)) := D6.out.2.1.cell 2; have c35 : w6.cell? ⟨w.heap.size, 35, none⟩ = some (.int .u64 round) := (D6.out.1.cell 35).trans HC35.out; have CP : Hid (Calls Tryz.prog 62 #[.iface 42 (.pointer (some ⟨h, 0, none⟩)), .agg (u8s key).toArray, .int .u64 round, .int .i64 (z.win : Int)] w6 fun e w' => ∃ p F, e = .returned (.tuple #[.pointer (some ⟨p, 0, none⟩), .int .i64 0]) ∧ PagS w' p h (z.cf key round) [] nm0 (txt0 (z.cf key round)) F ∧ Below w6.heap.size w6 w' ∧ ∀ b, F b → (fun k => w5.heap.size ≤ k ∧ k < w6.heap.size) b ∨ w6.heap.size ≤ b) := pnew_S (z.cf key round) h _ w6 ⟨by have := NB.out; show 2 ≤ z.win ∧ z.win ≤ 16; omega, by have := NB.out; show z.pg ≤ 65536; omega, by have := NB.out; show 1 ≤ z.tx ∧ z.tx ≤ 4096; omega, HK.out.2.2.1⟩ HK.out.1 HK.out.2.1 (by have := D6.out.2.2.2.1; rw [← HK.out.2.2.2] at this; exact this))
  | (clear L2; refine wpList_load_mid rfl 30 _ rfl w.heap.size 3 rfl (u8s key) _ (RK.out D6.out.1) Tryz.underlying30 rfl HKK.out ?_)
  | (clear M3; go_at_call 62; refine CP.out.mono ?_; rintro e w7 ⟨p, F, rfl, x7, l7, f7⟩; have D7 : Hid (PagS w7 p h (z.cf key round) [] nm0 (txt0 (z.cf key round)) F ∧ Blk w7 gz 39 z.c ∧ Below w.heap.size w w7 ∧ (∀ b, F b → w.heap.size ≤ b ∧ b < w7.heap.size)) := ⟨x7, D6.out.2.1.later l7 D6.out.2.1.lt, below_chain D6.out.2.2.1 l7 D6.out.2.2.1.size, fun b hb => ⟨by have h0 := D6.out.2.2.1.size; have h1 := D6.out.2.2.2.2; rcases f7 b hb with e | e; have e2 : w5.heap.size ≤ b := e.1; omega; omega, x7.all b hb⟩⟩; clear x7 l7 f7 c2 c35; have c0 : w7.cell? ⟨gz, 0, none⟩ = some (.int .i64 (z.sz : Int)) := D7.out.2.1.cell 0; have c3 : w7.cell? ⟨gz, 3, none⟩ = some (.int .i64 (z.n : Int)) := D7.out.2.1.cell 3; have CN : Hid (Calls Tryz.prog 63 #[.pointer (some ⟨p, 0, none⟩), .int .i64 0, .int .i64 (z.n : Int), .int .i64 (z.sz : Int)] w7 fun e w' => ∃ g, e = .returned (.tuple #[.pointer (some ⟨g, 0, none⟩), .int .i64 0]) ∧ SlS w' g (z.sl p) [] ∧ w7.heap.size ≤ g ∧ Below w7.heap.size w7 w') := snew_good p 0 z.n z.sz h (z.cf key round) [] nm0 (txt0 (z.cf key round)) F w7 D7.out.1 NB.out.2.1 (by have := NB.out; show z.sz ≤ z.tx; omega) (by have := NB.out; omega) (by show 0 + pgsN z.n (z.tx / z.sz) ≤ z.pg; have := NB.out; omega))
  | (clear M4; go_at_call 63; refine CN.out.mono ?_; rintro e w8 ⟨g, rfl, y8, hg8, l8⟩))
 refine bodyPost_ret (results_tmp3 rfl _ _ _) rfl ?_
 have hs : ∀ b, slF g (z.sl p) b → b = g := fun b hb => by rcases hb with e | e; exact e; cases e
 have hsz := D7.out.2.2.1.size
 refine ⟨g, h, p, fun b => F b ∨ slF g (z.sl p) b, rfl, ⟨.slice none 0 0, _, F, D7.out.1.later l8, y8, fun b hb hf => by have := (D7.out.2.2.2 b hf).2; have := hs b hb; omega, fun b => Iff.rfl, fun i hi => ?_⟩, fun b hb => ?_, below_chain D7.out.2.2.1 l8 D7.out.2.2.1.size⟩
 ·have hp := (HF.out.sln key round p).place i
  have hp' : i % (z.tx / z.sz) * z.sz + z.sz ≤ z.tx := hp
  show ((List.replicate z.tx (0 : Int)).drop (i % (z.tx / z.sz) * z.sz)).take z.sz = List.replicate z.sz 0
  rw [List.drop_replicate, List.take_replicate]
  congr 1
  omega
 ·rcases hb with e | e
  ·exact (D7.out.2.2.2 b e).1
  ·rw [hs b e]; omega
theorem ex8_any (m x y : Int) (hm : Word m) (hx : 0 ≤ x ∧ x < 256) (hy : 0 ≤ y ∧ y < 256) (w : World) :
  Calls Tryz.prog 93 #[.int .u64 m, .int .u8 x, .int .u8 y] w fun e w' => e = .returned (.tuple #[.int .u8 (pk m y x), .int .u8 (pk m x y)]) ∧ w' = w := by
 go_enter Tryz.func93, Tryz.ntmps93
 go_wp2_with (go_at_call 108; refine (ch8_any _ _ _ hm (by assumption) (by assumption) _).mono ?_; rintro e w' ⟨rfl, rfl⟩)
 go_ret2
 exact ⟨rfl, rfl⟩
theorem mtrade_mix (m : Int) (hm : Word m) (g h n : Nat) (xs ys : List Int) (hgh : g ≠ h) (hx : xs.length = n) (hy : ys.length = n) (hbx : Bytes xs) (hby : Bytes ys) (hn : n ≤ 1048576) (w : World) (hg : Blk w g 5 (u8s xs)) (hh : Blk w h 5 (u8s ys)) :
  Calls Tryz.prog 70 #[.int .u64 m, .slice (some ⟨g, 0, none⟩) n n, .slice (some ⟨h, 0, none⟩) n n] w fun e w' =>
   e = .returned (.int .i64 0) ∧ Blk w' g 5 (u8s (mix m n xs ys)) ∧ Blk w' h 5 (u8s (mix m n ys xs)) ∧ Kept (fun k => k = g ∨ k = h) w w' := by
 have HL : Hid (xs.length = n ∧ ys.length = n ∧ Bytes xs ∧ Bytes ys) := ⟨hx, hy, hbx, hby⟩
 clear hx hy hbx hby
 go_enter Tryz.func70, Tryz.ntmps70
 go_wp2
 go_loopw [15] (fun i wr => ∃ k : Nat, k ≤ n ∧ i = .int .i64 k ∧ Blk wr g 5 (u8s (mix m k xs ys)) ∧ Blk wr h 5 (u8s (mix m k ys xs)) ∧ Kept (fun k => k = g ∨ k = h) w wr) (fun i _ => n - (intOf i).toNat)
 case atStart => exact ⟨0, Nat.zero_le _, rfl, by rw [mix_zero]; exact hg, by rw [mix_zero]; exact hh, Kept.refl _ _⟩
 case round =>
  obtain ⟨k, hk, rfl, hrg, hrh, hkept⟩ := hrel
  by_cases hlt : k < n
  ·obtain ⟨X, hX⟩ : ∃ X, xs.getD k 0 = X := ⟨_, rfl⟩
   obtain ⟨Y, hY⟩ : ∃ Y, ys.getD k 0 = Y := ⟨_, rfl⟩
   have c1 : wr.cell? ⟨g, k, none⟩ = some (.int .u8 X) := by rw [u8s_cell hrg k (by rw [mix_length]; have := HL.out.1; omega), mix_getD _ _ _ _ _ (by have := HL.out.1; omega), if_neg (by omega), hX]
   have c2 : wr.cell? ⟨h, k, none⟩ = some (.int .u8 Y) := by rw [u8s_cell hrh k (by rw [mix_length]; have := HL.out.2.1; omega), mix_getD _ _ _ _ _ (by have := HL.out.2.1; omega), if_neg (by omega), hY]
   have R : Blk (((wr.setCell ⟨g, k, none⟩ (.int .u8 (pk m Y X))).setCell ⟨h, k, none⟩ (.int .u8 (pk m X Y))).drew) g 5 (u8s (mix m (k + 1) xs ys)) ∧ Blk (((wr.setCell ⟨g, k, none⟩ (.int .u8 (pk m Y X))).setCell ⟨h, k, none⟩ (.int .u8 (pk m X Y))).drew) h 5 (u8s (mix m (k + 1) ys xs)) ∧ Kept (fun k => k = g ∨ k = h) w (((wr.setCell ⟨g, k, none⟩ (.int .u8 (pk m Y X))).setCell ⟨h, k, none⟩ (.int .u8 (pk m X Y))).drew) := by
    refine ⟨?_, ?_, ((hkept.setCell (by exact Or.inl rfl) _).setCell (by exact Or.inr rfl) _).drew⟩
    ·rw [mix_succ m k xs ys (by have := HL.out.1; omega), ← u8s_set, hX, hY]
     exact ((hrg.set k _).other (by exact hgh) _).drew
    ·rw [mix_succ m k ys xs (by have := HL.out.2.1; omega), ← u8s_set, hX, hY]
     exact ((hrh.other (p := ⟨g, k, none⟩) (fun e => hgh e.symm) _).set k _).drew
   have f1 : wr.frozen? ⟨g, k, none⟩ = false := hrg.frozen k
   have f2 : wr.frozen? ⟨h, k, none⟩ = false := hrh.frozen k
   have bX : 0 ≤ X ∧ X < 256 := by rw [← hX]; exact HL.out.2.2.1.at k (by have := HL.out.1; omega)
   have bY : 0 ≤ Y ∧ Y < 256 := by rw [← hY]; exact HL.out.2.2.2.at k (by have := HL.out.2.1; omega)
   have HR : Hid _ := R
   have i1 : (0 : Int) ≤ (k : Int) := by omega
   have i2 : (k : Int) < (n : Int) := by omega
   clear hX hY hrg hrh hkept hg hh R
   go_wp2
   go_region_with (go_at_call 93; refine (ex8_any _ _ _ hm bX bY _).mono ?_; rintro e w' ⟨rfl, rfl⟩)
   all_goals
    go_wp2
    go_roundw
    case rel => exact ⟨k + 1, by omega, by go_num, HR.out.1, HR.out.2.1, HR.out.2.2⟩
    case measure => simp [intOf]; omega
  ·have e : k = n := by omega
   subst e
   go_wp2
   go_ret
   exact ⟨rfl, hrg, hrh, hkept⟩
theorem mtrade_any (b : Bool) (g h n : Nat) (xs ys : List Int) (hgh : g ≠ h) (hx : xs.length = n) (hy : ys.length = n) (hbx : Bytes xs) (hby : Bytes ys) (hn : n ≤ 1048576) (w : World) (hg : Blk w g 5 (u8s xs)) (hh : Blk w h 5 (u8s ys)) :
  Calls Tryz.prog 70 #[.int .u64 (mk b), .slice (some ⟨g, 0, none⟩) n n, .slice (some ⟨h, 0, none⟩) n n] w fun e w' =>
   e = .returned (.int .i64 0) ∧ Blk w' g 5 (u8s (if b then ys else xs)) ∧ Blk w' h 5 (u8s (if b then xs else ys)) ∧ Kept (fun k => k = g ∨ k = h) w w' := by
 refine (mtrade_mix (mk b) (mk_bd b) g h n xs ys hgh hx hy hbx hby hn w hg hh).mono ?_
 rintro e w' ⟨rfl, h1, h2, h3⟩
 cases b with
 | true =>
  rw [mk_true] at h1 h2
  have e1 : mix 18446744073709551615 n xs ys = ys := by subst hx; exact mix_yes xs ys hbx hby (by omega)
  have e2 : mix 18446744073709551615 n ys xs = xs := by subst hy; exact mix_yes ys xs hby hbx (by omega)
  rw [e1] at h1; rw [e2] at h2
  exact ⟨rfl, h1, h2, h3⟩
 | false =>
  rw [mk_false] at h1 h2
  rw [mix_no n xs ys hbx] at h1; rw [mix_no n ys xs hby] at h2
  exact ⟨rfl, h1, h2, h3⟩
structure OrdB (B : FuncId) (s : Nat) (lt : List Int → List Int → Bool) : Prop where
 ent : ∀ args W, (callFunc B args).run Tryz.prog W = .ok (.enter B args) W
 ans : ∀ (W : World) (ao bo : Option Addr) (c d : Nat) (a b : List Int), Seen W ao s a → Seen W bo s b → s ≤ c → s ≤ d → Calls Tryz.prog B #[.slice ao s c, .slice bo s d] W fun e W' => e = .returned (.int .u64 (mk (lt a b))) ∧ Below W.heap.size W W'
theorem soask_any (B : FuncId) (s : Nat) (lt : List Int → List Int → Bool) (hB : OrdB B s lt) (ao bo : Option Addr) (c d : Nat) (a b : List Int) (w : World) (ha : Seen w ao s a) (hb : Seen w bo s b) :
  Calls Tryz.prog 30 #[.func (.func B) #[] #[], .slice ao s c, .slice bo s d] w fun e w' => e = .returned (.int .u64 (mk (lt a b))) ∧ Below w.heap.size w w' := by
 have HH : Hid (Seen w ao s a ∧ Seen w bo s b ∧ OrdB B s lt) := ⟨ha, hb, hB⟩
 clear ha hb hB
 go_enter Tryz.func30, Tryz.ntmps30
 have M1 : Hid True := trivial
 have M2 : Hid True := trivial
 have M3 : Hid True := trivial
 go_wp2_with (first
  | (clear M1; go_at_call 55; refine (clone_any ao s c a w HH.out.1).mono ?_; rintro e w1 ⟨v1, rfl, o1, l1⟩; obtain ⟨ao1, c1, rfl, s1, hc1, _⟩ := pown_sl (n := s) HH.out.1.len HH.out.1.bytes HH.out.1.top o1; have S1 : Hid (Seen w1 ao1 s a ∧ s ≤ c1 ∧ Below w.heap.size w w1) := ⟨s1, hc1, l1⟩; clear s1 hc1 l1 o1)
  | (clear M2; go_at_call 55; refine (clone_any bo s d b w1 (HH.out.2.1.later S1.out.2.2 (Nat.le_refl _))).mono ?_; rintro e w2 ⟨v2, rfl, o2, l2⟩; obtain ⟨bo2, c2, rfl, s2, hc2, _⟩ := pown_sl (n := s) HH.out.2.1.len HH.out.2.1.bytes HH.out.2.1.top o2; have S2 : Hid (Seen w2 ao1 s a ∧ Seen w2 bo2 s b ∧ s ≤ c2 ∧ Below w.heap.size w w2) := ⟨S1.out.1.later l2 (Nat.le_refl _), s2, hc2, below_chain S1.out.2.2 l2 S1.out.2.2.size⟩; clear s2 hc2 l2 o2)
  | (clear M3; (with_reducible show wpList _ _ _ (({ dst := some 12, op := _, type := _, pos := _, after := _, guard := _ } : Oper) :: _) _ _); refine wpList_doV2 rfl (.tmp 7) (.tmp 9) (.tmp 11) _ rfl B #[] rfl _ _ rfl rfl (HH.out.2.2.ent _ _) (fun r w' => r = .int .u64 (mk (lt a b)) ∧ Below w2.heap.size w2 w') ((HH.out.2.2.ans w2 ao1 bo2 c1 c2 a b S2.out.1 S2.out.2.1 S1.out.2.1 S2.out.2.2.1).mono fun e w' h => ⟨_, h.1, rfl, h.2⟩) ?_; rintro r w3 ⟨rfl, l3⟩; have S3 : Hid (Below w.heap.size w w3) := below_chain S2.out.2.2.2 l3 S2.out.2.2.2.size; clear l3))
 go_ret
 exact ⟨rfl, S3.out⟩
theorem trader_any (B : FuncId) (w : World) :
  Calls Tryz.prog 40 #[.func (.func B) #[] #[]] w fun e w' => e = .returned (.func (.func 69) #[] #[.pointer (some ⟨w.heap.size, 0, none⟩)]) ∧ Boxed w' w.heap.size 25 (.func (.func B) #[] #[]) ∧ Below w.heap.size w w' := by
 go_enter Tryz.func40, Tryz.ntmps40
 go_wp2
 go_ret
 exact ⟨rfl, Boxed.new w _ _, (Below.refl _ _).alloc (Nat.le_refl _) _⟩
theorem enter_trader1 : ∀ args w, (callFunc 69 args).run Tryz.prog w = .ok (.enter 69 args) w := fun args w => by kernel_rfl
theorem trader1_any (B : FuncId) (s : Nat) (lt : List Int → List Int → Bool) (hB : OrdB B s lt) (bx : Nat) (A B0 : List Int) (w : World) (hA : A.length = s ∧ Bytes A) (hB0 : B0.length = s ∧ Bytes B0) (hs : s ≤ 1048576) (hbx : Boxed w bx 25 (.func (.func B) #[] #[])) :
  FPair w 69 #[.pointer (some ⟨bx, 0, none⟩)] s A B0 (if lt B0 A then B0 else A) (if lt B0 A then A else B0) := by
 intro W ga gb hb h1 h2 hne ba bb
 show Calls Tryz.prog 69 #[.slice (some ⟨ga, 0, none⟩) s s, .slice (some ⟨gb, 0, none⟩) s s, .pointer (some ⟨bx, 0, none⟩)] W _
 have bX : Boxed W bx 25 (.func (.func B) #[] #[]) := (hb.block bx hbx.lt).trans hbx
 have cX : W.cell? ⟨bx, 0, none⟩ = some (.func (.func B) #[] #[]) := bX.cell
 have SA : Seen W (some ⟨ga, 0, none⟩) s A := by have := seen_blk ba hA.2 (by rw [hA.1]; omega); rwa [hA.1] at this
 have SB : Seen W (some ⟨gb, 0, none⟩) s B0 := by have := seen_blk bb hB0.2 (by rw [hB0.1]; omega); rwa [hB0.1] at this
 have HH : Hid (OrdB B s lt ∧ Seen W (some ⟨ga, 0, none⟩) s A ∧ Seen W (some ⟨gb, 0, none⟩) s B0 ∧ Blk W ga 5 (u8s A) ∧ Blk W gb 5 (u8s B0) ∧ ga ≠ gb ∧ (A.length = s ∧ Bytes A) ∧ (B0.length = s ∧ Bytes B0) ∧ s ≤ 1048576) := ⟨hB, SA, SB, ba, bb, hne, hA, hB0, hs⟩
 obtain ⟨t, ht⟩ : ∃ t, lt B0 A = t := ⟨_, rfl⟩
 have HT : Hid (lt B0 A = t) := ht
 rw [ht]
 obtain ⟨A', hA'⟩ : ∃ A', (if t then B0 else A) = A' := ⟨_, rfl⟩
 obtain ⟨B', hB'⟩ : ∃ B', (if t then A else B0) = B' := ⟨_, rfl⟩
 have HE : Hid ((if t then B0 else A) = A' ∧ (if t then A else B0) = B') := ⟨hA', hB'⟩
 rw [hA', hB']
 clear hA' hB' ht hB SA SB ba bb hne hA hB0 hs bX hb h1 h2 hbx
 go_enter Tryz.func69, Tryz.ntmps69
 go_wp2_with (first
  | (go_at_call 30; refine (soask_any B s lt HH.out.1 (some ⟨gb, 0, none⟩) (some ⟨ga, 0, none⟩) s s B0 A W HH.out.2.2.1 HH.out.2.1).mono ?_; rw [HT.out]; rintro e w1 ⟨rfl, l1⟩; have L1 : Hid (Below W.heap.size W w1) := l1; clear l1)
  | (go_at_call 70; refine (mtrade_any t ga gb s A B0 HH.out.2.2.2.2.2.1 HH.out.2.2.2.2.2.2.1.1 HH.out.2.2.2.2.2.2.2.1.1 HH.out.2.2.2.2.2.2.1.2 HH.out.2.2.2.2.2.2.2.1.2 HH.out.2.2.2.2.2.2.2.2 w1 (HH.out.2.2.2.1.later L1.out HH.out.2.2.2.1.lt) (HH.out.2.2.2.2.1.later L1.out HH.out.2.2.2.2.1.lt)).mono ?_; rw [HE.out.1, HE.out.2]; rintro e w2 ⟨rfl, b1, b2, k2⟩; have B2 : Hid (Blk w2 ga 5 (u8s A') ∧ Blk w2 gb 5 (u8s B') ∧ Kept (fun k => k = ga ∨ k = gb) w1 w2) := ⟨b1, b2, k2⟩; clear b1 b2 k2))
 go_end0
 exact ⟨⟨_, rfl⟩, B2.out.1, B2.out.2.1, (Kept.new _ L1.out).trans B2.out.2.2⟩
attribute [local go_sem] Oper.semAt_some
section
variable {F : Fence} {n : Nat} {P : Program} {Q : Exit → Act → World → Prop} {a : Act} {w : World} {b : Frame} {k : List Item} {cs : List Frame}
theorem stepR_scope {c : Code} : step P (lone (b.atR a (.code (.scope c) :: k)) cs w) = .next (lone (b.atR a (.code c :: .inScope c :: k)) cs w) :=
  step_lone_go (by simp [stepG, stepG.exec, Frame.atR])
theorem stepR_inScope {c : Code} : step P (lone (b.atR a (.inScope c :: k)) cs w) = .next (lone (b.atR a k) cs w) :=
  step_lone_go (by simp [stepG, stepG.exec, Frame.atR])
theorem wpIn_scope {c : Code} (h : c.wpIn F n P (Exit.noGoto Q) a w) : (Code.scope c).wpIn F n P Q a w := by
  intro b k cs hro hb hr
  have h0 : (lone (b.atR a (.code (.scope c) :: k)) cs w).fenced P F := fenced_calm hb hr rfl
  obtain ⟨e, a₁, w₁, hq, harr⟩ := h b (.inScope c :: k) cs hro hb hr
  cases e with
  | normal => exact ⟨.normal, a₁, w₁, hq, .head h0 stepR_scope (StepsIn.trans harr (.one (fenced_calm hb hr rfl) stepR_inScope))⟩
  | exit id =>
    have hx : exitTo id (.inScope c :: k) = exitTo id k := by simp [exitTo]
    exact ⟨.exit id, a₁, w₁, hq, fun k' hk => .head h0 stepR_scope (harr.1 k' (by rw [hx]; exact hk)),
      fun hr' hk => let ⟨k₁, h1, h2⟩ := harr.2 hr' (by rw [hx]; exact hk); ⟨k₁, h1, .head h0 stepR_scope h2⟩⟩
  | goto l => exact hq.elim
  | ret => exact ⟨_, a₁, w₁, hq, .of_steps (.one h0 stepR_scope) harr⟩
  | panic ch => exact ⟨_, a₁, w₁, hq, .of_steps (.one h0 stepR_scope) harr⟩
  | outgrown => exact ⟨_, a₁, w₁, hq, .of_steps (.one h0 stepR_scope) harr⟩
end
theorem len_of_pre {α : Type} {a c : List α} {x : α} (h : a ++ [x] <+: c) : a.length < c.length := by
  have := h.length_le
  simp at this; omega
def KpB (Bn : Nat) (n : Int) (W W' : World) : Prop := Boxed W Bn 3 (.int .i64 n) → Boxed W' Bn 3 (.int .i64 n)
def hopV (x : Int × Int) : Array Value := #[.agg #[.int .i64 x.1, .int .i64 x.2]]
structure Books (W : World) (d : Nat) (r : Loop) : Prop where
 rec_ : W.heap[d + 1]? = some (.loop r)
 def_ : W.heap[d]? = some (.deferred (some []))
theorem Books.lt {W : World} {d : Nat} {r : Loop} (h : Books W d r) : d + 1 < W.heap.size := (Array.getElem?_eq_some_iff.1 h.rec_).1
theorem Books.put {W : World} {d : Nat} {r : Loop} (h : Books W d r) (r' : Loop) : Books (W.putObj (d + 1) (.loop r')) d r' :=
 ⟨World.putObj_heap_same h.lt, (World.putObj_heap_other (by omega)).trans h.def_⟩
variable {F : Fence} {n : Nat} {P : Program}
theorem kept_put {S : Nat → Prop} (A : World) (l : Nat) (o : Obj) (hl : S l) : Kept S A (A.putObj l o) := ⟨rfl, rfl, rfl, by simp [World.putObj], fun k _ hs => World.putObj_heap_other (fun e => hs (e ▸ hl))⟩
structure Foot {α : Type} (J : List α → (Nat → Prop) → World → Prop) : Prop where
 off : ∀ (pre : List α) (T : Nat → Prop) (A A' : World) (U : Nat → Prop), J pre T A → Kept U A A' → (∀ b, U b → ¬ T b) → J pre T A'
 lt : ∀ (pre : List α) (T : Nat → Prop) (A : World), J pre T A → ∀ b, T b → b < A.heap.size
theorem Foot.new {α : Type} {J : List α → (Nat → Prop) → World → Prop} (h : Foot J) {pre : List α} {T : Nat → Prop} {A A' : World} (x : J pre T A) (hb : Below A.heap.size A A') : J pre T A' :=
 h.off pre T A A' (fun _ => False) x (Kept.new _ hb) (fun _ e => e.elim)
def SeqF {α : Type} (F : Fence) (n : Nat) (P : Program) (g : Nat) (lb : Array Value) (encs : α → Array Value) (S : List α → Prop) (N : Nat) (w : World) (X : Nat → Prop) : Prop :=
 ∀ (l : Nat) (J : List α → (Nat → Prop) → World → Prop) (W : World) (T0 : Nat → Prop), Foot J → Below w.heap.size w W →
  (∀ pre x V T, J pre T V → pre.length < N → YieldAt F (n - 1) P l (encs x) V fun e V' => e = .returned (.bool true) ∧ ∃ T', J (pre ++ [x]) T' V' ∧ Kept T V V' ∧ ∀ b, T' b → T b ∨ V.heap.size ≤ b) →
  J [] T0 W → (∀ b, T0 b → ¬ X b) →
  CallsIn F n P g (#[.func (.yield l) #[] #[]] ++ lb) W fun e V => (∃ v, e = .returned v) ∧ ∃ xs T, S xs ∧ J xs T V ∧ Kept T0 W V ∧ ∀ b, T b → T0 b ∨ W.heap.size ≤ b
variable {F : Fence} {n : Nat} {P : Program}
theorem Books.off {W W' : World} {d : Nat} {r : Loop} (h : Books W d r) {U : Nat → Prop} (hk : Kept U W W') (h1 : ¬ U d) (h2 : ¬ U (d + 1)) : Books W' d r :=
 ⟨(hk.block _ h.lt h2).trans h.rec_, (hk.block _ (by have := h.lt; omega) h1).trans h.def_⟩
theorem range_foot {α : Type} {g : Operand} {ps : Array Tmp} {assign body : Code} {Q : Exit → Act → World → Prop} {a : Act} {w : World}
  (hro : F.round = none) (h1 : 1 ≤ n) {gf : Nat} {lb : Array Value} (hg : a.eval g = .func (.func gf) #[] lb) (hFg : F.fn gf) (eg : ∀ args w, (callFunc gf args).run P w = .ok (.enter gf args) w)
  {encs : α → Array Value} {S : List α → Prop} {N : Nat} {X : Nat → Prop} (hseq : SeqF F (n - 1) P gf lb encs S N w X) (hXl : ∀ b, X b → b < w.heap.size) (hps : ∀ x, (encs x).size = ps.size)
  (I : List α → (Nat → Prop) → World → Prop) (hI : Foot I) (T0 : Nat → Prop) (h0 : I [] T0 w) (hX : ∀ b, T0 b → ¬ X b) (Ax : α → (Nat → Prop) → Act → World → Prop) (hAx : ∀ x T a' W l r o, W.heap[l]? = some (.loop r) → Ax x T a' W → Ax x T a' (W.putObj l o))
  (hassign : ∀ (l : Nat) (pre : List α) (x : α) (T : Nat → Prop) (W : World) (K : Act → World → Prop), I pre T W → w.heap.size ≤ W.heap.size → (∀ a' W', Below W.heap.size W W' → Ax x T a' W' → K a' W') →
   assign.wpIn (F.inRound l) (n - 1 - 1) P (Exit.then K (fun _ _ _ => False)) { tmps := (ps.zip (encs x)).foldl (fun t (p, v) => t.setIfInBounds p v) a.tmps, defers := [] } W)
  (hbody : ∀ (l : Nat) (pre : List α) (x : α) (T : Nat → Prop) (a' : Act) (W : World), (∃ r, W.heap[l]? = some (.loop r)) → ¬ T l → w.heap.size ≤ W.heap.size → I pre T W → Ax x T a' W → pre.length < N → body.wpIn (F.inRound l) (n - 1 - 1) P (fun e _ W' => e = .normal ∧ ∃ T', I (pre ++ [x]) T' W' ∧ Kept T W W' ∧ ∀ b, T' b → T b ∨ W.heap.size ≤ b) a' W)
  (hdone : ∀ (D : Nat) (xs : List α) (T : Nat → Prop) (W : World), w.heap.size ≤ D → S xs → I xs T W → ¬ T D → Kept T0 w W → (∀ b, T b → T0 b ∨ w.heap.size ≤ b) → W.heap[D]? = some (.deferred (some [])) → Q .normal { a with defers := { target := .collected D, args := #[] } :: a.defers } W) :
  (Code.rangeFunc g ps assign body).wpIn F n P Q a w := by
 refine wpIn_rangeFunc fun fn hfn => ?_
 rw [hro]
 obtain ⟨d, hd⟩ : ∃ d, w.heap.size = d := ⟨_, rfl⟩
 obtain ⟨R, hR⟩ : ∃ R : LoopState → Option Code → Loop, R = fun st pe => { state := st, pending := pe, fn, tmps := a.tmps, params := ps, assign, body, defers := d } := ⟨_, rfl⟩
 obtain ⟨W1, hW1⟩ : ∃ W1, (w.alloc (.deferred (some []))).alloc (.loop (R .ready none)) = W1 := ⟨_, rfl⟩
 have b1 : Books W1 d (R .ready none) := by
  subst hd
  rw [← hW1]
  refine ⟨?_, (Below.heap_alloc _ _ _ (by simp)).trans (World.alloc_heap_new w _)⟩
  have := World.alloc_heap_new (w.alloc (.deferred (some []))) (.loop (R .ready none))
  rwa [World.size_alloc] at this
 have s1 : W1.heap.size = d + 2 := by rw [← hW1]; simp [hd]
 have e1 : Below d w W1 := by rw [← hW1, ← hd]; exact ((Below.refl _ w).alloc (Nat.le_refl _) _).alloc (by simp) _
 have i1 : I [] T0 W1 := hI.new h0 (by rw [hd]; exact e1)
 have t0 : ∀ b, T0 b → b < d := fun b hb => by rw [← hd]; exact hI.lt _ _ _ h0 b hb
 rw [hd] at hXl hassign hbody hdone
 unfold SeqF at hseq
 rw [hd] at hseq
 have iJ : ∃ J : List α → (Nat → Prop) → World → Prop, J = fun pre TJ W => ∃ T, (∀ b, TJ b ↔ T b ∨ b = d ∨ b = d + 1) ∧ ¬ T d ∧ ¬ T (d + 1) ∧ I pre T W ∧ Books W d (R .ready none) := ⟨_, rfl⟩
 obtain ⟨J, hJ⟩ := iJ
 have fJ : Foot J := by
  rw [hJ]
  refine ⟨fun pre TJ A A' U hx hk hd' => ?_, fun pre TJ A hx b hb => ?_⟩
  ·obtain ⟨T, h1, h2, h3, h4, h5⟩ := hx
   exact ⟨T, h1, h2, h3, hI.off _ _ _ _ _ h4 hk (fun b hu ht => hd' b hu ((h1 b).2 (.inl ht))), h5.off hk (fun hu => hd' _ hu ((h1 _).2 (.inr (.inl rfl)))) (fun hu => hd' _ hu ((h1 _).2 (.inr (.inr rfl))))⟩
  ·obtain ⟨T, h1, h2, h3, h4, h5⟩ := hx
   rcases (h1 b).1 hb with h | rfl | rfl
   ·exact hI.lt _ _ _ h4 b h
   ·have := h5.lt; omega
   ·exact h5.lt
 refine ⟨d + 1, [{ target := .collected d, args := #[] }], W1, { target := .fn (.func gf) lb, args := #[.func (.yield (d + 1)) #[] #[]] }, W1, gf, #[.func (.yield (d + 1)) #[] #[]] ++ lb, W1, ?_, ?_, ?_, ?_, fun _ => h1, ?_⟩
 ·rw [← hW1, hR, ← hd]; exact run_enterLoop_outer _ _ _ _ _
 ·simp only [resolve, hg]; simp [go_sem]
 ·intro f hf; simp [Target.leads] at hf; subst hf; exact hFg
 ·simp [invoke, go_sem, eg]
 refine (hseq (d + 1) J W1 (fun b => T0 b ∨ b = d ∨ b = d + 1) fJ e1 (fun pre x V TJ hs hlen => ?_) (by rw [hJ]; exact ⟨T0, fun b => Iff.rfl, fun h => by have := t0 _ h; omega, fun h => by have := t0 _ h; omega, i1, b1⟩) (fun b hb hx => by have := hXl b hx; rcases hb with h | rfl | rfl; exact hX b h hx; omega; omega)).mono ?_
 ·rw [hJ] at hs
  obtain ⟨T, hTJ, nd, nd1, hi, hb⟩ := hs
  have hy := run_yield (P := P) (args := encs x) hb.rec_ (by rw [hR]; exact hps x)
  rw [hR] at hy
  refine ⟨fn, _, assign, body, hy, roundIn_of_wpIn hfn (hassign _ pre x T V _ hi (by have := hb.lt; omega) fun a' V1 kf av => ?_)⟩
  clear hy
  have kf' : Kept TJ V V1 := Kept.new _ kf
  have hv : Books V1 d (R .ready none) := hb.off (Kept.new (fun _ => False) kf) (fun h => h) (fun h => h)
  have iv : I pre T V1 := hI.new hi kf
  refine ⟨_, run_beginRound hv.rec_ (by rw [hR]), ?_⟩
  have hv2 := hv.put { R .ready none with state := .busy }
  have k2 : Kept (fun b => b = d + 1) V1 (V1.putObj (d + 1) (.loop { R .ready none with state := .busy })) := kept_put _ _ _ rfl
  refine wpIn_mono (hbody _ pre x T a' _ ⟨_, hv2.rec_⟩ nd1 (Nat.le_of_lt (Nat.lt_of_succ_lt hv2.lt)) (hI.off _ _ _ _ _ iv k2 (fun b e => e ▸ nd1)) (hAx x T a' _ _ _ _ hv.rec_ av) hlen) ?_
  rintro e a3 U ⟨rfl, T', hi', hk', hT'⟩
  have hU := hv2.off hk' nd nd1
  have q1 : (Instr.endRound (d + 1) none).run P U = .ok (.bool true) (U.putObj (d + 1) (.loop (R .ready none))) := by
   have := run_endRound (P := P) none hU.rec_
   rw [hR] at this ⊢
   exact this
  have hsz : d + 1 < V1.heap.size := hv.lt
  have hsz2 : (V1.putObj (d + 1) (.loop { R .ready none with state := .busy })).heap.size = V1.heap.size := by simp [World.putObj]
  rw [hsz2] at hT'
  have nd' : ¬ T' d := fun h => (hT' d h).elim nd (fun e => by omega)
  have nd1' : ¬ T' (d + 1) := fun h => (hT' _ h).elim nd1 (fun e => by omega)
  refine ⟨_, _, q1, rfl, fun b => T' b ∨ b = d ∨ b = d + 1, ?_, ?_, ?_⟩
  ·rw [hJ]
   exact ⟨T', fun b => Iff.rfl, nd', nd1', hI.off _ _ _ _ _ hi' (kept_put (S := fun b => b = d + 1) _ _ _ rfl) (fun b e => e ▸ nd1'), hU.put _⟩
  ·exact ((kf'.trans (k2.mono (fun b e => (hTJ b).2 (.inr (.inr e))))).trans (hk'.mono (fun b h => (hTJ b).2 (.inl h)))).trans (kept_put _ _ _ ((hTJ _).2 (.inr (.inr rfl))))
  ·rintro b (h | rfl | rfl)
   ·exact (hT' b h).imp (fun h => (hTJ b).2 (.inl h)) (fun h => Nat.le_trans kf.size h)
   ·exact .inl ((hTJ _).2 (.inr (.inl rfl)))
   ·exact .inl ((hTJ _).2 (.inr (.inr rfl)))
 ·rintro e W2 ⟨⟨v, rfl⟩, xs, TJ, hS, hx, hk, hsub⟩
  rw [hJ] at hx
  obtain ⟨T, hTJ, nd, nd1, hi, hb⟩ := hx
  refine ⟨none, _, by have := run_endLoop (P := P) hb.rec_ (by rw [hR]; simp); rw [hR] at this; exact this, hdone d xs T _ (Nat.le_refl _) hS (hI.off _ _ _ _ _ hi (kept_put (S := fun b => b = d + 1) _ _ _ rfl) (fun b e => e ▸ nd1)) nd ?_ (fun b h => ?_) ((World.putObj_heap_other (by omega)).trans hb.def_)⟩
  ·refine ⟨hk.os.trans e1.os, hk.tape.trans e1.tape, hk.output.trans e1.output, ?_, fun k hlt hn => ?_⟩
   ·have := hk.size; simp [World.putObj]; omega
   ·rw [World.putObj_heap_other (by omega), hk.block k (by omega) (by rintro (h | rfl | rfl); exact hn h; omega; omega), e1.block k (by omega)]
  ·rcases hsub b ((hTJ b).2 (.inl h)) with (h2 | rfl | rfl) | h2
   ·exact .inl h2
   ·exact absurd h nd
   ·exact absurd h nd1
   ·exact .inr (by omega)
theorem range_footN {α : Type} {g : Operand} {ps : Array Tmp} {assign body : Code} {Q : Exit → Act → World → Prop} {a : Act} {w : World}
  {l₀ : Nat} {r₀ : Loop} (hro : F.round = some l₀) (hl₀ : w.heap[l₀]? = some (.loop r₀)) (h1 : 1 ≤ n) {gf : Nat} {lb : Array Value} (hg : a.eval g = .func (.func gf) #[] lb) (hFg : F.fn gf) (eg : ∀ args w, (callFunc gf args).run P w = .ok (.enter gf args) w)
  {encs : α → Array Value} {S : List α → Prop} {N : Nat} {X : Nat → Prop} (hseq : SeqF F (n - 1) P gf lb encs S N w X) (hXl : ∀ b, X b → b < w.heap.size) (hps : ∀ x, (encs x).size = ps.size)
  (I : List α → (Nat → Prop) → World → Prop) (hI : Foot I) (T0 : Nat → Prop) (h0 : I [] T0 w) (hX : ∀ b, T0 b → ¬ X b) (Ax : α → (Nat → Prop) → Act → World → Prop) (hAx : ∀ x T a' W l r o, W.heap[l]? = some (.loop r) → Ax x T a' W → Ax x T a' (W.putObj l o))
  (hassign : ∀ (l : Nat) (pre : List α) (x : α) (T : Nat → Prop) (W : World) (K : Act → World → Prop), I pre T W → w.heap.size ≤ W.heap.size → (∀ a' W', Below W.heap.size W W' → Ax x T a' W' → K a' W') →
   assign.wpIn (F.inRound l) (n - 1 - 1) P (Exit.then K (fun _ _ _ => False)) { tmps := (ps.zip (encs x)).foldl (fun t (p, v) => t.setIfInBounds p v) a.tmps, defers := [] } W)
  (hbody : ∀ (l : Nat) (pre : List α) (x : α) (T : Nat → Prop) (a' : Act) (W : World), (∃ r, W.heap[l]? = some (.loop r)) → ¬ T l → w.heap.size ≤ W.heap.size → I pre T W → Ax x T a' W → pre.length < N → body.wpIn (F.inRound l) (n - 1 - 1) P (fun e _ W' => e = .normal ∧ ∃ T', I (pre ++ [x]) T' W' ∧ Kept T W W' ∧ ∀ b, T' b → T b ∨ W.heap.size ≤ b) a' W)
  (hdone : ∀ (xs : List α) (T : Nat → Prop) (W : World), S xs → I xs T W → Kept T0 w W → (∀ b, T b → T0 b ∨ w.heap.size ≤ b) → Q .normal a W) :
  (Code.rangeFunc g ps assign body).wpIn F n P Q a w := by
 refine wpIn_rangeFunc fun fn hfn => ?_
 rw [hro]
 obtain ⟨d, hd⟩ : ∃ d, w.heap.size = d := ⟨_, rfl⟩
 obtain ⟨R, hR⟩ : ∃ R : LoopState → Option Code → Loop, R = fun st pe => { state := st, pending := pe, fn, tmps := a.tmps, params := ps, assign, body, defers := r₀.defers } := ⟨_, rfl⟩
 obtain ⟨W1, hW1⟩ : ∃ W1, w.alloc (.loop (R .ready none)) = W1 := ⟨_, rfl⟩
 have b1 : W1.heap[d]? = some (.loop (R .ready none)) := by rw [← hW1, ← hd]; exact World.alloc_heap_new w _
 have s1 : W1.heap.size = d + 1 := by rw [← hW1]; simp [hd]
 have e1 : Below d w W1 := by rw [← hW1, ← hd]; exact (Below.refl _ w).alloc (Nat.le_refl _) _
 have i1 : I [] T0 W1 := hI.new h0 (by rw [hd]; exact e1)
 have t0 : ∀ b, T0 b → b < d := fun b hb => by rw [← hd]; exact hI.lt _ _ _ h0 b hb
 rw [hd] at hXl hassign hbody hdone
 unfold SeqF at hseq
 rw [hd] at hseq
 have lt : ∀ {U : World} {r : Loop}, U.heap[d]? = some (.loop r) → d < U.heap.size := fun h => (Array.getElem?_eq_some_iff.1 h).1
 have iJ : ∃ J : List α → (Nat → Prop) → World → Prop, J = fun pre TJ W => ∃ T, (∀ b, TJ b ↔ T b ∨ b = d) ∧ ¬ T d ∧ I pre T W ∧ W.heap[d]? = some (.loop (R .ready none)) := ⟨_, rfl⟩
 obtain ⟨J, hJ⟩ := iJ
 have fJ : Foot J := by
  rw [hJ]
  refine ⟨fun pre TJ A A' U hx hk hd' => ?_, fun pre TJ A hx b hb => ?_⟩
  ·obtain ⟨T, h1, h2, h4, h5⟩ := hx
   exact ⟨T, h1, h2, hI.off _ _ _ _ _ h4 hk (fun b hu ht => hd' b hu ((h1 b).2 (.inl ht))), (hk.block d (lt h5) (fun hu => hd' _ hu ((h1 _).2 (.inr rfl)))).trans h5⟩
  ·obtain ⟨T, h1, h2, h4, h5⟩ := hx
   rcases (h1 b).1 hb with h | rfl
   ·exact hI.lt _ _ _ h4 b h
   ·exact lt h5
 refine ⟨d, [], W1, { target := .fn (.func gf) lb, args := #[.func (.yield d) #[] #[]] }, W1, gf, #[.func (.yield d) #[] #[]] ++ lb, W1, ?_, ?_, ?_, ?_, fun _ => h1, ?_⟩
 ·rw [← hW1, hR, ← hd]; exact run_enterLoop_inner hl₀ _ _ _ _ _
 ·simp only [resolve, hg]; simp [go_sem]
 ·intro f hf; simp [Target.leads] at hf; subst hf; exact hFg
 ·simp [invoke, go_sem, eg]
 refine (hseq d J W1 (fun b => T0 b ∨ b = d) fJ e1 (fun pre x V TJ hs hlen => ?_) (by rw [hJ]; exact ⟨T0, fun b => Iff.rfl, fun h => by have := t0 _ h; omega, i1, b1⟩) (fun b hb hx => by have := hXl b hx; rcases hb with h | rfl; exact hX b h hx; omega)).mono ?_
 ·rw [hJ] at hs
  obtain ⟨T, hTJ, nd, hi, hb⟩ := hs
  have hy := run_yield (P := P) (args := encs x) hb (by rw [hR]; exact hps x)
  rw [hR] at hy
  refine ⟨fn, _, assign, body, hy, roundIn_of_wpIn hfn (hassign _ pre x T V _ hi (by have := lt hb; omega) fun a' V1 kf av => ?_)⟩
  clear hy
  have kf' : Kept TJ V V1 := Kept.new _ kf
  have hv : V1.heap[d]? = some (.loop (R .ready none)) := (kf.block d (lt hb)).trans hb
  have iv : I pre T V1 := hI.new hi kf
  refine ⟨_, run_beginRound hv (by rw [hR]), ?_⟩
  have hv2 : (V1.putObj d (.loop { R .ready none with state := .busy })).heap[d]? = some (.loop { R .ready none with state := .busy }) := World.putObj_heap_same (lt hv)
  have k2 : Kept (fun b => b = d) V1 (V1.putObj d (.loop { R .ready none with state := .busy })) := kept_put _ _ _ rfl
  refine wpIn_mono (hbody _ pre x T a' _ ⟨_, hv2⟩ nd (Nat.le_of_lt (lt hv2)) (hI.off _ _ _ _ _ iv k2 (fun b e => e ▸ nd)) (hAx x T a' _ _ _ _ hv av) hlen) ?_
  rintro e a3 U ⟨rfl, T', hi', hk', hT'⟩
  have hU : U.heap[d]? = some (.loop { R .ready none with state := .busy }) := (hk'.block d (lt hv2) nd).trans hv2
  have q1 : (Instr.endRound d none).run P U = .ok (.bool true) (U.putObj d (.loop (R .ready none))) := by
   have := run_endRound (P := P) none hU
   rw [hR] at this ⊢
   exact this
  have hsz : d < V1.heap.size := lt hv
  have hsz2 : (V1.putObj d (.loop { R .ready none with state := .busy })).heap.size = V1.heap.size := by simp [World.putObj]
  rw [hsz2] at hT'
  have nd' : ¬ T' d := fun h => (hT' d h).elim nd (fun e => by omega)
  refine ⟨_, _, q1, rfl, fun b => T' b ∨ b = d, ?_, ?_, ?_⟩
  ·rw [hJ]
   exact ⟨T', fun b => Iff.rfl, nd', hI.off _ _ _ _ _ hi' (kept_put (S := fun b => b = d) _ _ _ rfl) (fun b e => e ▸ nd'), World.putObj_heap_same (lt hU)⟩
  ·exact ((kf'.trans (k2.mono (fun b e => (hTJ b).2 (.inr e)))).trans (hk'.mono (fun b h => (hTJ b).2 (.inl h)))).trans (kept_put _ _ _ ((hTJ _).2 (.inr rfl)))
  ·rintro b (h | rfl)
   ·exact (hT' b h).imp (fun h => (hTJ b).2 (.inl h)) (fun h => Nat.le_trans kf.size h)
   ·exact .inl ((hTJ _).2 (.inr rfl))
 ·rintro e W2 ⟨⟨v, rfl⟩, xs, TJ, hS, hx, hk, hsub⟩
  rw [hJ] at hx
  obtain ⟨T, hTJ, nd, hi, hb⟩ := hx
  refine ⟨none, _, by have := run_endLoop (P := P) hb (by rw [hR]; simp); rw [hR] at this; exact this, hdone xs T _ hS (hI.off _ _ _ _ _ hi (kept_put (S := fun b => b = d) _ _ _ rfl) (fun b e => e ▸ nd)) ?_ (fun b h => ?_)⟩
  ·refine ⟨hk.os.trans e1.os, hk.tape.trans e1.tape, hk.output.trans e1.output, ?_, fun k hlt hn => ?_⟩
   ·have := hk.size; simp [World.putObj]; omega
   ·rw [World.putObj_heap_other (by omega), hk.block k (by omega) (by rintro (h | rfl); exact hn h; omega), e1.block k (by omega)]
  ·rcases hsub b ((hTJ b).2 (.inl h)) with (h2 | rfl) | h2
   ·exact .inl h2
   ·exact absurd h nd
   ·exact .inr (by omega)
end Go.Proofs.YtpanagghppdiiaaGreat
