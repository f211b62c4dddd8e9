/- Layer ladder: one step. -/
import Derived.Test.YtnifolefhelmcaaLdRat
import Derived.Test.YtnifolefhelmcaaLdTimes
import Derived.Test.YtnifolefhelmcaaFSquare
import Derived.Test.YtnifolefhelmcaaECInt
namespace Go.Proofs.Ytnifolefhelmcaa
open Go.RowKit
set_option linter.unusedVariables false
set_option linter.unusedSimpArgs false

theorem build_rat (a b : List Int) (ha : a.length = 5) (hb : b.length = 5) (w : World) : (Instr.build 103 #[(0, .agg (u64s a).toArray), (1, .agg (u64s b).toArray)]).run Try.prog w = .ok (.agg (rt a b).toArray) w := by
  obtain ⟨a0, a1, a2, a3, a4, rfl⟩ := five ha
  obtain ⟨b0, b1, b2, b3, b4, rfl⟩ := five hb
  kernel_rfl
/-- A ratio of two numbers. -/
def isR (x z : Int) (v : Value) (w : World) : Prop := ∃ a b, v = .agg (rt a b).toArray ∧ Fe a x ∧ Fe b z
theorem isR_later (x z : Int) : ∀ v w w', Below w.heap.size w w' → isR x z v w → isR x z v w' := fun _ _ _ _ h => h
theorem does_rat {base : Nat} {ρ : Operand → Value} {o : Oper} {w : World} (x y : Operand) (ho : o.op = .build 103 #[(0, x), (1, y)]) (a b : List Int) (hx : ρ x = .agg (u64s a).toArray) (hy : ρ y = .agg (u64s b).toArray) (X Z : Int) (fa : Fe a X) (fb : Fe b Z) : Does base (.any (isR X Z) (isR_later X Z)) ρ o w := by
  refine Does.value (.agg (rt a b).toArray) ?_ ⟨a, b, rfl, fa, fb⟩
  unfold execOp
  simp [ho, hx, hy, Sem.run_bind, build_rat a b fa.len fb.len, Sem.run_pure, Result.andThen_ok]
set_option maxRecDepth 20000 in
set_option maxHeartbeats 8000000 in
theorem step_any (lu px pz qx qz : List Int) (u x2 z2 x3 z3 : Int) (h0 : Fe lu u) (h1 : Fe px x2) (h2 : Fe pz z2) (h3 : Fe qx x3) (h4 : Fe qz z3) (w : World) :
    Calls Try.prog 73 #[.agg (u64s lu).toArray, .agg (rt px pz).toArray, .agg (rt qx qz).toArray] w fun e w' => ∃ a b c d, e = .returned (.tuple #[.agg (rt a b).toArray, .agg (rt c d).toArray]) ∧ (Fe a (stI u x2 z2 x3 z3).1 ∧ Fe b (stI u x2 z2 x3 z3).2.1 ∧ Fe c (stI u x2 z2 x3 z3).2.2.1 ∧ Fe d (stI u x2 z2 x3 z3).2.2.2) ∧ Below w.heap.size w w' := by
  have HP : Hid (Fe lu u ∧ Fe px x2 ∧ Fe pz z2 ∧ Fe qx x3 ∧ Fe qz z3) := ⟨h0, h1, h2, h3, h4⟩
  have HL : Hid (lu.length = 5 ∧ px.length = 5 ∧ pz.length = 5 ∧ qx.length = 5 ∧ qz.length = 5) := ⟨h0.len, h1.len, h2.len, h3.len, h4.len⟩
  have L5 : Hid (∀ l : List Int, l.length = 5 → (Try.prog.info? 27).map (·.size) = some (u64s l).length) := fun l h => by rw [u64s_length, h]; exact sizeElem
  have L10 : Hid (∀ a b : List Int, a.length = 5 → b.length = 5 → (Try.prog.info? 103).map (·.size) = some (rt a b).length) := fun a b ha hb => by rw [rt_length ha hb]; exact sizeRatio
  clear h0 h1 h2 h3 h4
  go_enter Try.func73, Try.ntmps73
  go_wp2_with (first | (refine wpList_box_new rfl 27 (.tmp 0) rfl (u64s lu) rfl ?_; intro w0 b0 s0 l0) | (refine wpList_box_new rfl 103 (.tmp 1) rfl (rt px pz) rfl ?_; intro w1 b1 s1 l1) | (refine wpList_box_new rfl 103 (.tmp 2) rfl (rt qx qz) rfl ?_; intro w2 b2 s2 l2) | ((with_reducible show wpList _ _ _ (({ dst := some 6, op := _, type := _, pos := _, after := _, guard := _ } : Oper) :: _) _ _); refine wpList_alloc_new rfl 103 rfl 10 _ zeroRatio ?_; intro w3 b3 s3 l3) | ((with_reducible show wpList _ _ _ (({ dst := some 7, op := _, type := _, pos := _, after := _, guard := _ } : Oper) :: _) _ _); refine wpList_alloc_new rfl 103 rfl 10 _ zeroRatio ?_; intro w4 b4 s4 l4))
  have e1 : w0.heap.size = w.heap.size + 1 := s0
  have e2 : w1.heap.size = w.heap.size + 1 + 1 := by omega
  have e3 : w2.heap.size = w.heap.size + 1 + 1 + 1 := by omega
  have e4 : w3.heap.size = w.heap.size + 1 + 1 + 1 + 1 := by omega
  rw [e1] at b1
  rw [e2] at b2
  rw [e3] at b3
  rw [e4] at b4
  have V0 : Hid (Below w.heap.size w w4 ∧ Blk w4 w.heap.size 27 (u64s lu) ∧ Blk w4 (w.heap.size + 1) 103 (rt px pz) ∧ Blk w4 (w.heap.size + 1 + 1) 103 (rt qx qz) ∧ Blk w4 (w.heap.size + 1 + 1 + 1) 103 (rt [0, 0, 0, 0, 0] [0, 0, 0, 0, 0]) ∧ Blk w4 (w.heap.size + 1 + 1 + 1 + 1) 103 (rt [0, 0, 0, 0, 0] [0, 0, 0, 0, 0])) := ⟨below_chain (below_chain (below_chain (below_chain l0 l1 (by omega)) l2 (by omega)) l3 (by omega)) l4 (by omega), (((b0.later l1 (by omega)).later l2 (by omega)).later l3 (by omega)).later l4 (by omega), ((b1.later l2 (by omega)).later l3 (by omega)).later l4 (by omega), (b2.later l3 (by omega)).later l4 (by omega), b3.later l4 (by omega), b4⟩
  simp only [Act.put, List.setIfInBounds_toArray, List.set_cons_zero, List.set_cons_succ, e1, e2, e3, e4]
  clear b0 s0 l0 b1 s1 l1 b2 s2 l2 b3 s3 l3 b4 s4 l4 e1 e2 e3 e4
  refine region_invP 12 ((.val (.pointer (some ⟨(w.heap.size + 1), 0, none⟩))) :: (.val (.agg (u64s px).toArray)) :: (.val (.pointer (some ⟨(w.heap.size + 1), 5, none⟩))) :: (.val (.agg (u64s pz).toArray)) :: (.any (isF ((x2 + z2) % PR)) (isF_later ((x2 + z2) % PR))) :: (.val (.pointer (some ⟨(w.heap.size + 1), 0, none⟩))) :: (.val (.agg (u64s px).toArray)) :: (.val (.pointer (some ⟨(w.heap.size + 1), 5, none⟩))) :: (.val (.agg (u64s pz).toArray)) :: (.any (isF ((x2 - z2) % PR)) (isF_later ((x2 - z2) % PR))) :: (.blk 27 (u64s [0, 0, 0, 0, 0])) :: (.blk 27 (u64s [0, 0, 0, 0, 0])) :: []) (by kernel_rfl) (by kernel_rfl) (by kernel_rfl) [8, 9] ⟨.inl rfl, .inl rfl, .inl rfl, .inl rfl, .inl rfl, .inl rfl, .inl rfl, .inl rfl, .inl rfl, .inl rfl, .inr ⟨27, _, 5, rfl, rfl, zeroElem⟩, .inr ⟨27, _, 5, rfl, rfl, zeroElem⟩, trivial⟩ (by kernel_rfl) ?_ ?_
  · refine Steps'.cons ?_ (Steps'.cons ?_ (Steps'.cons ?_ (Steps'.cons ?_ (Steps'.cons ?_ (Steps'.cons ?_ (Steps'.cons ?_ (Steps'.cons ?_ (Steps'.cons ?_ (Steps'.cons ?_ (Steps'.cons ?_ (Steps'.cons ?_ (Steps'.one _ _ _ _ _ _ _))))))))))))
    · intro ax wx hb hs hd
      have h4 : ax.tmps.getD 4 undef = (.pointer (some ⟨(w.heap.size + 1), 0, none⟩)) := hs 4 (by kernel_rfl)
      refine Does.value (.pointer (some ⟨(w.heap.size + 1), 0, none⟩)) ?_ rfl
      clear hs hd
      go_simp
    · intro ax wx hb hs hd
      have h17 : ax.tmps.getD 17 undef = (.pointer (some ⟨(w.heap.size + 1), 0, none⟩)) := hd 0 17 rfl (by kernel_rfl) (by decide)
      exact Does.load 27 (.tmp 17) rfl (w.heap.size + 1) 0 h17 (u64s px) _ (((Blk.later V0.out.2.2.1 hb (Blk.lt V0.out.2.2.1))).fst) Try.underlying27 rfl (L5.out _ HL.out.2.1)
    · intro ax wx hb hs hd
      have h4 : ax.tmps.getD 4 undef = (.pointer (some ⟨(w.heap.size + 1), 0, none⟩)) := hs 4 (by kernel_rfl)
      refine Does.value (.pointer (some ⟨(w.heap.size + 1), 5, none⟩)) ?_ rfl
      clear hs hd
      go_simp
    · intro ax wx hb hs hd
      have h19 : ax.tmps.getD 19 undef = (.pointer (some ⟨(w.heap.size + 1), 5, none⟩)) := hd 2 19 rfl (by kernel_rfl) (by decide)
      exact Does.load 27 (.tmp 19) rfl (w.heap.size + 1) 5 h19 (u64s pz) _ (((Blk.later V0.out.2.2.1 hb (Blk.lt V0.out.2.2.1))).snd HL.out.2.1) Try.underlying27 rfl (L5.out _ HL.out.2.2.1)
    · intro ax wx hb hs hd
      have h18 : ax.tmps.getD 18 undef = (.agg (u64s px).toArray) := hd 1 18 rfl (by kernel_rfl) (by decide)
      have h20 : ax.tmps.getD 20 undef = (.agg (u64s pz).toArray) := hd 3 20 rfl (by kernel_rfl) (by decide)
      refine Does.call 29 #[(.agg (u64s px).toArray), (.agg (u64s pz).toArray)] (by clear hs hd; go_simp) ?_
      refine (add_any _ _ _ _ HP.out.2.1 HP.out.2.2.1 _).mono ?_
      rintro z w' ⟨r, rfl, fr, l⟩
      exact ⟨_, rfl, ⟨r, rfl, fr⟩, l⟩
    · intro ax wx hb hs hd
      have h4 : ax.tmps.getD 4 undef = (.pointer (some ⟨(w.heap.size + 1), 0, none⟩)) := hs 4 (by kernel_rfl)
      refine Does.value (.pointer (some ⟨(w.heap.size + 1), 0, none⟩)) ?_ rfl
      clear hs hd
      go_simp
    · intro ax wx hb hs hd
      have h22 : ax.tmps.getD 22 undef = (.pointer (some ⟨(w.heap.size + 1), 0, none⟩)) := hd 5 22 rfl (by kernel_rfl) (by decide)
      exact Does.load 27 (.tmp 22) rfl (w.heap.size + 1) 0 h22 (u64s px) _ (((Blk.later V0.out.2.2.1 hb (Blk.lt V0.out.2.2.1))).fst) Try.underlying27 rfl (L5.out _ HL.out.2.1)
    · intro ax wx hb hs hd
      have h4 : ax.tmps.getD 4 undef = (.pointer (some ⟨(w.heap.size + 1), 0, none⟩)) := hs 4 (by kernel_rfl)
      refine Does.value (.pointer (some ⟨(w.heap.size + 1), 5, none⟩)) ?_ rfl
      clear hs hd
      go_simp
    · intro ax wx hb hs hd
      have h24 : ax.tmps.getD 24 undef = (.pointer (some ⟨(w.heap.size + 1), 5, none⟩)) := hd 7 24 rfl (by kernel_rfl) (by decide)
      exact Does.load 27 (.tmp 24) rfl (w.heap.size + 1) 5 h24 (u64s pz) _ (((Blk.later V0.out.2.2.1 hb (Blk.lt V0.out.2.2.1))).snd HL.out.2.1) Try.underlying27 rfl (L5.out _ HL.out.2.2.1)
    · intro ax wx hb hs hd
      have h23 : ax.tmps.getD 23 undef = (.agg (u64s px).toArray) := hd 6 23 rfl (by kernel_rfl) (by decide)
      have h25 : ax.tmps.getD 25 undef = (.agg (u64s pz).toArray) := hd 8 25 rfl (by kernel_rfl) (by decide)
      refine Does.call 52 #[(.agg (u64s px).toArray), (.agg (u64s pz).toArray)] (by clear hs hd; go_simp) ?_
      refine (sub_any _ _ _ _ HP.out.2.1 HP.out.2.2.1 _).mono ?_
      rintro z w' ⟨r, rfl, fr, l⟩
      exact ⟨_, rfl, ⟨r, rfl, fr⟩, l⟩
    · intro ax wx hb hs hd
      exact Does.alloc 27 rfl 5 _ zeroElem hb.size
    · intro ax wx hb hs hd
      exact Does.alloc 27 rfl 5 _ zeroElem hb.size
  · intro wx hb
    refine @EndsP.val _ _ _ _ _ _ _ _ (.pointer (some ⟨(w.heap.size + 1), 0, none⟩)) rfl ?_
    refine @EndsP.val _ _ _ _ _ _ _ _ (.agg (u64s px).toArray) rfl ?_
    refine @EndsP.val _ _ _ _ _ _ _ _ (.pointer (some ⟨(w.heap.size + 1), 5, none⟩)) rfl ?_
    refine @EndsP.val _ _ _ _ _ _ _ _ (.agg (u64s pz).toArray) rfl ?_
    refine @EndsP.any _ _ _ _ _ _ _ _ (isF ((x2 + z2) % PR)) (isF_later ((x2 + z2) % PR)) rfl ?_
    intro v4 p4
    refine @EndsP.val _ _ _ _ _ _ _ _ (.pointer (some ⟨(w.heap.size + 1), 0, none⟩)) rfl ?_
    refine @EndsP.val _ _ _ _ _ _ _ _ (.agg (u64s px).toArray) rfl ?_
    refine @EndsP.val _ _ _ _ _ _ _ _ (.pointer (some ⟨(w.heap.size + 1), 5, none⟩)) rfl ?_
    refine @EndsP.val _ _ _ _ _ _ _ _ (.agg (u64s pz).toArray) rfl ?_
    refine @EndsP.any _ _ _ _ _ _ _ _ (isF ((x2 - z2) % PR)) (isF_later ((x2 - z2) % PR)) rfl ?_
    intro v9 p9
    refine @EndsP.blk _ _ _ _ _ _ _ _ 27 (u64s [0, 0, 0, 0, 0]) rfl ?_
    intro g10 hg10 bg10
    refine @EndsP.blk _ _ _ _ _ _ _ _ 27 (u64s [0, 0, 0, 0, 0]) rfl ?_
    intro g11 hg11 bg11
    intro hD nf hn
    obtain ⟨mf, rfl⟩ : ∃ mf, nf = mf + 2 := ⟨nf - 2, by have h3 : 2 ≤ nf := hn; omega⟩
    obtain ⟨la, rfl, F_la⟩ := p4
    obtain ⟨lb, rfl, F_lb⟩ := p9
    have d01 : g10 ≠ g11 := fun e => hD 8 (by simp) 9 (by simp) (by decide) (by subst e; kernel_rfl)
    have N_la : Hid ((u64s la).length = 5) := by rw [u64s_length, F_la.len]; rfl
    have N_lb : Hid ((u64s lb).length = 5) := by rw [u64s_length, F_lb.len]; rfl
    clear hD hn
    simp only [Act.put, List.setIfInBounds_toArray, List.set_cons_zero, List.set_cons_succ]
    refine wpAny_ready (rs := [12]) (by kernel_rfl) (by simp) (AllReady.cons rfl (fun K hK => ?_) AllReady.nil)
    rw [if_pos (by rfl)]
    refine last_store 27 (.tmp 8) (.tmp 21) rfl rfl g10 rfl 27 _ (u64s la) rfl bg10 (by rw [N_la.out]; rfl) (by rw [N_la.out]; exact sizeElem) (u64s_one _) ?_
    intro w0 b0 s0 k0
    refine hK _ _ ?_
    refine wpAny_ready (rs := [13]) (by kernel_rfl) (by simp) (AllReady.cons rfl (fun K hK => ?_) AllReady.nil)
    rw [if_pos (by rfl)]
    refine last_store 27 (.tmp 9) (.tmp 26) rfl rfl g11 rfl 27 _ (u64s lb) rfl (bg11.kept k0 (by omega)) (by rw [N_lb.out]; rfl) (by rw [N_lb.out]; exact sizeElem) (u64s_one _) ?_
    intro w1 b1 s1 k1
    refine hK _ _ ?_
    refine wpAny_done (by kernel_rfl) (NoPanic.normal ?_) _
    have V1 : Hid (Below w.heap.size w w1 ∧ Blk w1 w.heap.size 27 (u64s lu) ∧ Blk w1 (w.heap.size + 1) 103 (rt px pz) ∧ Blk w1 (w.heap.size + 1 + 1) 103 (rt qx qz) ∧ Blk w1 (w.heap.size + 1 + 1 + 1) 103 (rt [0, 0, 0, 0, 0] [0, 0, 0, 0, 0]) ∧ Blk w1 (w.heap.size + 1 + 1 + 1 + 1) 103 (rt [0, 0, 0, 0, 0] [0, 0, 0, 0, 0]) ∧ Blk w1 g10 27 (u64s la) ∧ Blk w1 g11 27 (u64s lb)) := by
      have qb := hb.size
      have qw := V0.out.1.size
      have q0 := V0.out.2.1.lt
      have q1 := V0.out.2.2.1.lt
      have q2 := V0.out.2.2.2.1.lt
      have q3 := V0.out.2.2.2.2.1.lt
      have q4 := V0.out.2.2.2.2.2.lt
      exact ⟨below_kept (below_kept (below_chain V0.out.1 hb (by omega)) k0 (by omega) (fun j hj => by omega)) k1 (by omega) (fun j hj => by omega), (((V0.out.2.1.later hb V0.out.2.1.lt).kept k0 (by omega)).kept k1 (by omega)), (((V0.out.2.2.1.later hb V0.out.2.2.1.lt).kept k0 (by omega)).kept k1 (by omega)), (((V0.out.2.2.2.1.later hb V0.out.2.2.2.1.lt).kept k0 (by omega)).kept k1 (by omega)), (((V0.out.2.2.2.2.1.later hb V0.out.2.2.2.2.1.lt).kept k0 (by omega)).kept k1 (by omega)), (((V0.out.2.2.2.2.2.later hb V0.out.2.2.2.2.2.lt).kept k0 (by omega)).kept k1 (by omega)), (b0.kept k1 (by omega)), b1⟩
    obtain ⟨ga, rfl⟩ : ∃ q, q = g10 := ⟨_, rfl⟩
    obtain ⟨gb, rfl⟩ : ∃ q, q = g11 := ⟨_, rfl⟩
    obtain ⟨yV1, rfl⟩ : ∃ q, q = w1 := ⟨_, rfl⟩
    clear hb V0 hK b0 s0 k0 b1 s1 k1 bg10 hg10 bg11 hg11 d01
    obtain ⟨A, EA⟩ : ∃ z, ((x2 + z2) % PR) = z := ⟨_, rfl⟩
    rw [EA] at F_la
    have QA : Hid (((x2 + z2) % PR) = A) := EA
    have H_la : Hid (Fe la A) := F_la
    clear EA F_la
    obtain ⟨B, EB⟩ : ∃ z, ((x2 - z2) % PR) = z := ⟨_, rfl⟩
    rw [EB] at F_lb
    have QB : Hid (((x2 - z2) % PR) = B) := EB
    have H_lb : Hid (Fe lb B) := F_lb
    clear EB F_lb
    try simp only [Act.put, List.setIfInBounds_toArray, List.set_cons_zero, List.set_cons_succ]
    go_wp2_with fail
    refine region_invP 12 ((.val (.pointer (some ⟨(w.heap.size + 1 + 1), 0, none⟩))) :: (.val (.agg (u64s qx).toArray)) :: (.val (.pointer (some ⟨(w.heap.size + 1 + 1), 5, none⟩))) :: (.val (.agg (u64s qz).toArray)) :: (.any (isF ((x3 + z3) % PR)) (isF_later ((x3 + z3) % PR))) :: (.val (.pointer (some ⟨(w.heap.size + 1 + 1), 0, none⟩))) :: (.val (.agg (u64s qx).toArray)) :: (.val (.pointer (some ⟨(w.heap.size + 1 + 1), 5, none⟩))) :: (.val (.agg (u64s qz).toArray)) :: (.any (isF ((x3 - z3) % PR)) (isF_later ((x3 - z3) % PR))) :: (.blk 27 (u64s [0, 0, 0, 0, 0])) :: (.blk 27 (u64s [0, 0, 0, 0, 0])) :: []) (by kernel_rfl) (by kernel_rfl) (by kernel_rfl) [10, 11] ⟨.inl rfl, .inl rfl, .inl rfl, .inl rfl, .inl rfl, .inl rfl, .inl rfl, .inl rfl, .inl rfl, .inl rfl, .inr ⟨27, _, 5, rfl, rfl, zeroElem⟩, .inr ⟨27, _, 5, rfl, rfl, zeroElem⟩, trivial⟩ (by kernel_rfl) ?_ ?_
    · refine Steps'.cons ?_ (Steps'.cons ?_ (Steps'.cons ?_ (Steps'.cons ?_ (Steps'.cons ?_ (Steps'.cons ?_ (Steps'.cons ?_ (Steps'.cons ?_ (Steps'.cons ?_ (Steps'.cons ?_ (Steps'.cons ?_ (Steps'.cons ?_ (Steps'.one _ _ _ _ _ _ _))))))))))))
      · intro ax wx hb hs hd
        have h5 : ax.tmps.getD 5 undef = (.pointer (some ⟨(w.heap.size + 1 + 1), 0, none⟩)) := hs 5 (by kernel_rfl)
        refine Does.value (.pointer (some ⟨(w.heap.size + 1 + 1), 0, none⟩)) ?_ rfl
        clear hs hd
        go_simp
      · intro ax wx hb hs hd
        have h27 : ax.tmps.getD 27 undef = (.pointer (some ⟨(w.heap.size + 1 + 1), 0, none⟩)) := hd 0 27 rfl (by kernel_rfl) (by decide)
        exact Does.load 27 (.tmp 27) rfl (w.heap.size + 1 + 1) 0 h27 (u64s qx) _ (((Blk.later V1.out.2.2.2.1 hb (Blk.lt V1.out.2.2.2.1))).fst) Try.underlying27 rfl (L5.out _ HL.out.2.2.2.1)
      · intro ax wx hb hs hd
        have h5 : ax.tmps.getD 5 undef = (.pointer (some ⟨(w.heap.size + 1 + 1), 0, none⟩)) := hs 5 (by kernel_rfl)
        refine Does.value (.pointer (some ⟨(w.heap.size + 1 + 1), 5, none⟩)) ?_ rfl
        clear hs hd
        go_simp
      · intro ax wx hb hs hd
        have h29 : ax.tmps.getD 29 undef = (.pointer (some ⟨(w.heap.size + 1 + 1), 5, none⟩)) := hd 2 29 rfl (by kernel_rfl) (by decide)
        exact Does.load 27 (.tmp 29) rfl (w.heap.size + 1 + 1) 5 h29 (u64s qz) _ (((Blk.later V1.out.2.2.2.1 hb (Blk.lt V1.out.2.2.2.1))).snd HL.out.2.2.2.1) Try.underlying27 rfl (L5.out _ HL.out.2.2.2.2)
      · intro ax wx hb hs hd
        have h28 : ax.tmps.getD 28 undef = (.agg (u64s qx).toArray) := hd 1 28 rfl (by kernel_rfl) (by decide)
        have h30 : ax.tmps.getD 30 undef = (.agg (u64s qz).toArray) := hd 3 30 rfl (by kernel_rfl) (by decide)
        refine Does.call 29 #[(.agg (u64s qx).toArray), (.agg (u64s qz).toArray)] (by clear hs hd; go_simp) ?_
        refine (add_any _ _ _ _ HP.out.2.2.2.1 HP.out.2.2.2.2 _).mono ?_
        rintro z w' ⟨r, rfl, fr, l⟩
        exact ⟨_, rfl, ⟨r, rfl, fr⟩, l⟩
      · intro ax wx hb hs hd
        have h5 : ax.tmps.getD 5 undef = (.pointer (some ⟨(w.heap.size + 1 + 1), 0, none⟩)) := hs 5 (by kernel_rfl)
        refine Does.value (.pointer (some ⟨(w.heap.size + 1 + 1), 0, none⟩)) ?_ rfl
        clear hs hd
        go_simp
      · intro ax wx hb hs hd
        have h32 : ax.tmps.getD 32 undef = (.pointer (some ⟨(w.heap.size + 1 + 1), 0, none⟩)) := hd 5 32 rfl (by kernel_rfl) (by decide)
        exact Does.load 27 (.tmp 32) rfl (w.heap.size + 1 + 1) 0 h32 (u64s qx) _ (((Blk.later V1.out.2.2.2.1 hb (Blk.lt V1.out.2.2.2.1))).fst) Try.underlying27 rfl (L5.out _ HL.out.2.2.2.1)
      · intro ax wx hb hs hd
        have h5 : ax.tmps.getD 5 undef = (.pointer (some ⟨(w.heap.size + 1 + 1), 0, none⟩)) := hs 5 (by kernel_rfl)
        refine Does.value (.pointer (some ⟨(w.heap.size + 1 + 1), 5, none⟩)) ?_ rfl
        clear hs hd
        go_simp
      · intro ax wx hb hs hd
        have h34 : ax.tmps.getD 34 undef = (.pointer (some ⟨(w.heap.size + 1 + 1), 5, none⟩)) := hd 7 34 rfl (by kernel_rfl) (by decide)
        exact Does.load 27 (.tmp 34) rfl (w.heap.size + 1 + 1) 5 h34 (u64s qz) _ (((Blk.later V1.out.2.2.2.1 hb (Blk.lt V1.out.2.2.2.1))).snd HL.out.2.2.2.1) Try.underlying27 rfl (L5.out _ HL.out.2.2.2.2)
      · intro ax wx hb hs hd
        have h33 : ax.tmps.getD 33 undef = (.agg (u64s qx).toArray) := hd 6 33 rfl (by kernel_rfl) (by decide)
        have h35 : ax.tmps.getD 35 undef = (.agg (u64s qz).toArray) := hd 8 35 rfl (by kernel_rfl) (by decide)
        refine Does.call 52 #[(.agg (u64s qx).toArray), (.agg (u64s qz).toArray)] (by clear hs hd; go_simp) ?_
        refine (sub_any _ _ _ _ HP.out.2.2.2.1 HP.out.2.2.2.2 _).mono ?_
        rintro z w' ⟨r, rfl, fr, l⟩
        exact ⟨_, rfl, ⟨r, rfl, fr⟩, l⟩
      · intro ax wx hb hs hd
        exact Does.alloc 27 rfl 5 _ zeroElem hb.size
      · intro ax wx hb hs hd
        exact Does.alloc 27 rfl 5 _ zeroElem hb.size
    · intro wx hb
      refine @EndsP.val _ _ _ _ _ _ _ _ (.pointer (some ⟨(w.heap.size + 1 + 1), 0, none⟩)) rfl ?_
      refine @EndsP.val _ _ _ _ _ _ _ _ (.agg (u64s qx).toArray) rfl ?_
      refine @EndsP.val _ _ _ _ _ _ _ _ (.pointer (some ⟨(w.heap.size + 1 + 1), 5, none⟩)) rfl ?_
      refine @EndsP.val _ _ _ _ _ _ _ _ (.agg (u64s qz).toArray) rfl ?_
      refine @EndsP.any _ _ _ _ _ _ _ _ (isF ((x3 + z3) % PR)) (isF_later ((x3 + z3) % PR)) rfl ?_
      intro v4 p4
      refine @EndsP.val _ _ _ _ _ _ _ _ (.pointer (some ⟨(w.heap.size + 1 + 1), 0, none⟩)) rfl ?_
      refine @EndsP.val _ _ _ _ _ _ _ _ (.agg (u64s qx).toArray) rfl ?_
      refine @EndsP.val _ _ _ _ _ _ _ _ (.pointer (some ⟨(w.heap.size + 1 + 1), 5, none⟩)) rfl ?_
      refine @EndsP.val _ _ _ _ _ _ _ _ (.agg (u64s qz).toArray) rfl ?_
      refine @EndsP.any _ _ _ _ _ _ _ _ (isF ((x3 - z3) % PR)) (isF_later ((x3 - z3) % PR)) rfl ?_
      intro v9 p9
      refine @EndsP.blk _ _ _ _ _ _ _ _ 27 (u64s [0, 0, 0, 0, 0]) rfl ?_
      intro g10 hg10 bg10
      refine @EndsP.blk _ _ _ _ _ _ _ _ 27 (u64s [0, 0, 0, 0, 0]) rfl ?_
      intro g11 hg11 bg11
      intro hD nf hn
      obtain ⟨mf, rfl⟩ : ∃ mf, nf = mf + 2 := ⟨nf - 2, by have h3 : 2 ≤ nf := hn; omega⟩
      obtain ⟨lc, rfl, F_lc⟩ := p4
      obtain ⟨ld, rfl, F_ld⟩ := p9
      have d01 : g10 ≠ g11 := fun e => hD 10 (by simp) 11 (by simp) (by decide) (by subst e; kernel_rfl)
      have N_lc : Hid ((u64s lc).length = 5) := by rw [u64s_length, F_lc.len]; rfl
      have N_ld : Hid ((u64s ld).length = 5) := by rw [u64s_length, F_ld.len]; rfl
      clear hD hn
      simp only [Act.put, List.setIfInBounds_toArray, List.set_cons_zero, List.set_cons_succ]
      refine wpAny_ready (rs := [12]) (by kernel_rfl) (by simp) (AllReady.cons rfl (fun K hK => ?_) AllReady.nil)
      rw [if_pos (by rfl)]
      refine last_store 27 (.tmp 10) (.tmp 31) rfl rfl g10 rfl 27 _ (u64s lc) rfl bg10 (by rw [N_lc.out]; rfl) (by rw [N_lc.out]; exact sizeElem) (u64s_one _) ?_
      intro w0 b0 s0 k0
      refine hK _ _ ?_
      refine wpAny_ready (rs := [13]) (by kernel_rfl) (by simp) (AllReady.cons rfl (fun K hK => ?_) AllReady.nil)
      rw [if_pos (by rfl)]
      refine last_store 27 (.tmp 11) (.tmp 36) rfl rfl g11 rfl 27 _ (u64s ld) rfl (bg11.kept k0 (by omega)) (by rw [N_ld.out]; rfl) (by rw [N_ld.out]; exact sizeElem) (u64s_one _) ?_
      intro w1 b1 s1 k1
      refine hK _ _ ?_
      refine wpAny_done (by kernel_rfl) (NoPanic.normal ?_) _
      have V2 : Hid (Below w.heap.size w w1 ∧ Blk w1 w.heap.size 27 (u64s lu) ∧ Blk w1 (w.heap.size + 1) 103 (rt px pz) ∧ Blk w1 (w.heap.size + 1 + 1) 103 (rt qx qz) ∧ Blk w1 (w.heap.size + 1 + 1 + 1) 103 (rt [0, 0, 0, 0, 0] [0, 0, 0, 0, 0]) ∧ Blk w1 (w.heap.size + 1 + 1 + 1 + 1) 103 (rt [0, 0, 0, 0, 0] [0, 0, 0, 0, 0]) ∧ Blk w1 ga 27 (u64s la) ∧ Blk w1 gb 27 (u64s lb) ∧ Blk w1 g10 27 (u64s lc) ∧ Blk w1 g11 27 (u64s ld)) := by
        have qb := hb.size
        have qw := V1.out.1.size
        have q0 := V1.out.2.1.lt
        have q1 := V1.out.2.2.1.lt
        have q2 := V1.out.2.2.2.1.lt
        have q3 := V1.out.2.2.2.2.1.lt
        have q4 := V1.out.2.2.2.2.2.1.lt
        have q5 := V1.out.2.2.2.2.2.2.1.lt
        have q6 := V1.out.2.2.2.2.2.2.2.lt
        exact ⟨below_kept (below_kept (below_chain V1.out.1 hb (by omega)) k0 (by omega) (fun j hj => by omega)) k1 (by omega) (fun j hj => by omega), (((V1.out.2.1.later hb V1.out.2.1.lt).kept k0 (by omega)).kept k1 (by omega)), (((V1.out.2.2.1.later hb V1.out.2.2.1.lt).kept k0 (by omega)).kept k1 (by omega)), (((V1.out.2.2.2.1.later hb V1.out.2.2.2.1.lt).kept k0 (by omega)).kept k1 (by omega)), (((V1.out.2.2.2.2.1.later hb V1.out.2.2.2.2.1.lt).kept k0 (by omega)).kept k1 (by omega)), (((V1.out.2.2.2.2.2.1.later hb V1.out.2.2.2.2.2.1.lt).kept k0 (by omega)).kept k1 (by omega)), (((V1.out.2.2.2.2.2.2.1.later hb V1.out.2.2.2.2.2.2.1.lt).kept k0 (by omega)).kept k1 (by omega)), (((V1.out.2.2.2.2.2.2.2.later hb V1.out.2.2.2.2.2.2.2.lt).kept k0 (by omega)).kept k1 (by omega)), (b0.kept k1 (by omega)), b1⟩
      obtain ⟨gc, rfl⟩ : ∃ q, q = g10 := ⟨_, rfl⟩
      obtain ⟨gd, rfl⟩ : ∃ q, q = g11 := ⟨_, rfl⟩
      obtain ⟨yV2, rfl⟩ : ∃ q, q = w1 := ⟨_, rfl⟩
      clear hb V1 hK b0 s0 k0 b1 s1 k1 bg10 hg10 bg11 hg11 d01
      obtain ⟨C, EC⟩ : ∃ z, ((x3 + z3) % PR) = z := ⟨_, rfl⟩
      rw [EC] at F_lc
      have QC : Hid (((x3 + z3) % PR) = C) := EC
      have H_lc : Hid (Fe lc C) := F_lc
      clear EC F_lc
      obtain ⟨D, ED⟩ : ∃ z, ((x3 - z3) % PR) = z := ⟨_, rfl⟩
      rw [ED] at F_ld
      have QD : Hid (((x3 - z3) % PR) = D) := ED
      have H_ld : Hid (Fe ld D) := F_ld
      clear ED F_ld
      try simp only [Act.put, List.setIfInBounds_toArray, List.set_cons_zero, List.set_cons_succ]
      go_wp2_with fail
      refine region_invP 8 ((.val (.agg (u64s ld).toArray)) :: (.val (.agg (u64s la).toArray)) :: (.any (isF (D * A % PR)) (isF_later (D * A % PR))) :: (.val (.agg (u64s lc).toArray)) :: (.val (.agg (u64s lb).toArray)) :: (.any (isF (C * B % PR)) (isF_later (C * B % PR))) :: (.blk 27 (u64s [0, 0, 0, 0, 0])) :: (.blk 27 (u64s [0, 0, 0, 0, 0])) :: []) (by kernel_rfl) (by kernel_rfl) (by kernel_rfl) [12, 13] ⟨.inl rfl, .inl rfl, .inl rfl, .inl rfl, .inl rfl, .inl rfl, .inr ⟨27, _, 5, rfl, rfl, zeroElem⟩, .inr ⟨27, _, 5, rfl, rfl, zeroElem⟩, trivial⟩ (by kernel_rfl) ?_ ?_
      · refine Steps'.cons ?_ (Steps'.cons ?_ (Steps'.cons ?_ (Steps'.cons ?_ (Steps'.cons ?_ (Steps'.cons ?_ (Steps'.cons ?_ (Steps'.cons ?_ (Steps'.one _ _ _ _ _ _ _))))))))
        · intro ax wx hb hs hd
          have h11 : ax.tmps.getD 11 undef = (.pointer (some ⟨gd, 0, none⟩)) := hs 11 (by kernel_rfl)
          exact Does.load 27 (.tmp 11) rfl gd 0 h11 (u64s ld) _ ((Blk.later V2.out.2.2.2.2.2.2.2.2.2 hb (Blk.lt V2.out.2.2.2.2.2.2.2.2.2)).whole) Try.underlying27 rfl (L5.out _ H_ld.out.len)
        · intro ax wx hb hs hd
          have h8 : ax.tmps.getD 8 undef = (.pointer (some ⟨ga, 0, none⟩)) := hs 8 (by kernel_rfl)
          exact Does.load 27 (.tmp 8) rfl ga 0 h8 (u64s la) _ ((Blk.later V2.out.2.2.2.2.2.2.1 hb (Blk.lt V2.out.2.2.2.2.2.2.1)).whole) Try.underlying27 rfl (L5.out _ H_la.out.len)
        · intro ax wx hb hs hd
          have h37 : ax.tmps.getD 37 undef = (.agg (u64s ld).toArray) := hd 0 37 rfl (by kernel_rfl) (by decide)
          have h38 : ax.tmps.getD 38 undef = (.agg (u64s la).toArray) := hd 1 38 rfl (by kernel_rfl) (by decide)
          refine Does.call 31 #[(.agg (u64s ld).toArray), (.agg (u64s la).toArray)] (by clear hs hd; go_simp) ?_
          refine (mul_any _ _ _ _ H_ld.out H_la.out _).mono ?_
          rintro z w' ⟨r, rfl, fr, l⟩
          exact ⟨_, rfl, ⟨r, rfl, fr⟩, l⟩
        · intro ax wx hb hs hd
          have h10 : ax.tmps.getD 10 undef = (.pointer (some ⟨gc, 0, none⟩)) := hs 10 (by kernel_rfl)
          exact Does.load 27 (.tmp 10) rfl gc 0 h10 (u64s lc) _ ((Blk.later V2.out.2.2.2.2.2.2.2.2.1 hb (Blk.lt V2.out.2.2.2.2.2.2.2.2.1)).whole) Try.underlying27 rfl (L5.out _ H_lc.out.len)
        · intro ax wx hb hs hd
          have h9 : ax.tmps.getD 9 undef = (.pointer (some ⟨gb, 0, none⟩)) := hs 9 (by kernel_rfl)
          exact Does.load 27 (.tmp 9) rfl gb 0 h9 (u64s lb) _ ((Blk.later V2.out.2.2.2.2.2.2.2.1 hb (Blk.lt V2.out.2.2.2.2.2.2.2.1)).whole) Try.underlying27 rfl (L5.out _ H_lb.out.len)
        · intro ax wx hb hs hd
          have h40 : ax.tmps.getD 40 undef = (.agg (u64s lc).toArray) := hd 3 40 rfl (by kernel_rfl) (by decide)
          have h41 : ax.tmps.getD 41 undef = (.agg (u64s lb).toArray) := hd 4 41 rfl (by kernel_rfl) (by decide)
          refine Does.call 31 #[(.agg (u64s lc).toArray), (.agg (u64s lb).toArray)] (by clear hs hd; go_simp) ?_
          refine (mul_any _ _ _ _ H_lc.out H_lb.out _).mono ?_
          rintro z w' ⟨r, rfl, fr, l⟩
          exact ⟨_, rfl, ⟨r, rfl, fr⟩, l⟩
        · intro ax wx hb hs hd
          exact Does.alloc 27 rfl 5 _ zeroElem hb.size
        · intro ax wx hb hs hd
          exact Does.alloc 27 rfl 5 _ zeroElem hb.size
      · intro wx hb
        refine @EndsP.val _ _ _ _ _ _ _ _ (.agg (u64s ld).toArray) rfl ?_
        refine @EndsP.val _ _ _ _ _ _ _ _ (.agg (u64s la).toArray) rfl ?_
        refine @EndsP.any _ _ _ _ _ _ _ _ (isF (D * A % PR)) (isF_later (D * A % PR)) rfl ?_
        intro v2 p2
        refine @EndsP.val _ _ _ _ _ _ _ _ (.agg (u64s lc).toArray) rfl ?_
        refine @EndsP.val _ _ _ _ _ _ _ _ (.agg (u64s lb).toArray) rfl ?_
        refine @EndsP.any _ _ _ _ _ _ _ _ (isF (C * B % PR)) (isF_later (C * B % PR)) rfl ?_
        intro v5 p5
        refine @EndsP.blk _ _ _ _ _ _ _ _ 27 (u64s [0, 0, 0, 0, 0]) rfl ?_
        intro g6 hg6 bg6
        refine @EndsP.blk _ _ _ _ _ _ _ _ 27 (u64s [0, 0, 0, 0, 0]) rfl ?_
        intro g7 hg7 bg7
        intro hD nf hn
        obtain ⟨mf, rfl⟩ : ∃ mf, nf = mf + 2 := ⟨nf - 2, by have h3 : 2 ≤ nf := hn; omega⟩
        obtain ⟨lda, rfl, F_lda⟩ := p2
        obtain ⟨lcb, rfl, F_lcb⟩ := p5
        have d01 : g6 ≠ g7 := fun e => hD 12 (by simp) 13 (by simp) (by decide) (by subst e; kernel_rfl)
        have N_lda : Hid ((u64s lda).length = 5) := by rw [u64s_length, F_lda.len]; rfl
        have N_lcb : Hid ((u64s lcb).length = 5) := by rw [u64s_length, F_lcb.len]; rfl
        clear hD hn
        simp only [Act.put, List.setIfInBounds_toArray, List.set_cons_zero, List.set_cons_succ]
        refine wpAny_ready (rs := [8]) (by kernel_rfl) (by simp) (AllReady.cons rfl (fun K hK => ?_) AllReady.nil)
        rw [if_pos (by rfl)]
        refine last_store 27 (.tmp 12) (.tmp 39) rfl rfl g6 rfl 27 _ (u64s lda) rfl bg6 (by rw [N_lda.out]; rfl) (by rw [N_lda.out]; exact sizeElem) (u64s_one _) ?_
        intro w0 b0 s0 k0
        refine hK _ _ ?_
        refine wpAny_ready (rs := [9]) (by kernel_rfl) (by simp) (AllReady.cons rfl (fun K hK => ?_) AllReady.nil)
        rw [if_pos (by rfl)]
        refine last_store 27 (.tmp 13) (.tmp 42) rfl rfl g7 rfl 27 _ (u64s lcb) rfl (bg7.kept k0 (by omega)) (by rw [N_lcb.out]; rfl) (by rw [N_lcb.out]; exact sizeElem) (u64s_one _) ?_
        intro w1 b1 s1 k1
        refine hK _ _ ?_
        refine wpAny_done (by kernel_rfl) (NoPanic.normal ?_) _
        have V3 : Hid (Below w.heap.size w w1 ∧ Blk w1 w.heap.size 27 (u64s lu) ∧ Blk w1 (w.heap.size + 1) 103 (rt px pz) ∧ Blk w1 (w.heap.size + 1 + 1) 103 (rt qx qz) ∧ Blk w1 (w.heap.size + 1 + 1 + 1) 103 (rt [0, 0, 0, 0, 0] [0, 0, 0, 0, 0]) ∧ Blk w1 (w.heap.size + 1 + 1 + 1 + 1) 103 (rt [0, 0, 0, 0, 0] [0, 0, 0, 0, 0]) ∧ Blk w1 ga 27 (u64s la) ∧ Blk w1 gb 27 (u64s lb) ∧ Blk w1 gc 27 (u64s lc) ∧ Blk w1 gd 27 (u64s ld) ∧ Blk w1 g6 27 (u64s lda) ∧ Blk w1 g7 27 (u64s lcb)) := by
          have qb := hb.size
          have qw := V2.out.1.size
          have q0 := V2.out.2.1.lt
          have q1 := V2.out.2.2.1.lt
          have q2 := V2.out.2.2.2.1.lt
          have q3 := V2.out.2.2.2.2.1.lt
          have q4 := V2.out.2.2.2.2.2.1.lt
          have q5 := V2.out.2.2.2.2.2.2.1.lt
          have q6 := V2.out.2.2.2.2.2.2.2.1.lt
          have q7 := V2.out.2.2.2.2.2.2.2.2.1.lt
          have q8 := V2.out.2.2.2.2.2.2.2.2.2.lt
          exact ⟨below_kept (below_kept (below_chain V2.out.1 hb (by omega)) k0 (by omega) (fun j hj => by omega)) k1 (by omega) (fun j hj => by omega), (((V2.out.2.1.later hb V2.out.2.1.lt).kept k0 (by omega)).kept k1 (by omega)), (((V2.out.2.2.1.later hb V2.out.2.2.1.lt).kept k0 (by omega)).kept k1 (by omega)), (((V2.out.2.2.2.1.later hb V2.out.2.2.2.1.lt).kept k0 (by omega)).kept k1 (by omega)), (((V2.out.2.2.2.2.1.later hb V2.out.2.2.2.2.1.lt).kept k0 (by omega)).kept k1 (by omega)), (((V2.out.2.2.2.2.2.1.later hb V2.out.2.2.2.2.2.1.lt).kept k0 (by omega)).kept k1 (by omega)), (((V2.out.2.2.2.2.2.2.1.later hb V2.out.2.2.2.2.2.2.1.lt).kept k0 (by omega)).kept k1 (by omega)), (((V2.out.2.2.2.2.2.2.2.1.later hb V2.out.2.2.2.2.2.2.2.1.lt).kept k0 (by omega)).kept k1 (by omega)), (((V2.out.2.2.2.2.2.2.2.2.1.later hb V2.out.2.2.2.2.2.2.2.2.1.lt).kept k0 (by omega)).kept k1 (by omega)), (((V2.out.2.2.2.2.2.2.2.2.2.later hb V2.out.2.2.2.2.2.2.2.2.2.lt).kept k0 (by omega)).kept k1 (by omega)), (b0.kept k1 (by omega)), b1⟩
        obtain ⟨gda, rfl⟩ : ∃ q, q = g6 := ⟨_, rfl⟩
        obtain ⟨gcb, rfl⟩ : ∃ q, q = g7 := ⟨_, rfl⟩
        obtain ⟨yV3, rfl⟩ : ∃ q, q = w1 := ⟨_, rfl⟩
        clear hb V2 hK b0 s0 k0 b1 s1 k1 bg6 hg6 bg7 hg7 d01
        obtain ⟨DA, EDA⟩ : ∃ z, (D * A % PR) = z := ⟨_, rfl⟩
        rw [EDA] at F_lda
        have QDA : Hid ((D * A % PR) = DA) := EDA
        have H_lda : Hid (Fe lda DA) := F_lda
        clear EDA F_lda
        obtain ⟨CB, ECB⟩ : ∃ z, (C * B % PR) = z := ⟨_, rfl⟩
        rw [ECB] at F_lcb
        have QCB : Hid ((C * B % PR) = CB) := ECB
        have H_lcb : Hid (Fe lcb CB) := F_lcb
        clear ECB F_lcb
        try simp only [Act.put, List.setIfInBounds_toArray, List.set_cons_zero, List.set_cons_succ]
        go_wp2_with fail
        refine region_invP 6 ((.val (.agg (u64s la).toArray)) :: (.any (isF (A * A % PR)) (isF_later (A * A % PR))) :: (.val (.agg (u64s lb).toArray)) :: (.any (isF (B * B % PR)) (isF_later (B * B % PR))) :: (.blk 27 (u64s [0, 0, 0, 0, 0])) :: (.blk 27 (u64s [0, 0, 0, 0, 0])) :: []) (by kernel_rfl) (by kernel_rfl) (by kernel_rfl) [14, 15] ⟨.inl rfl, .inl rfl, .inl rfl, .inl rfl, .inr ⟨27, _, 5, rfl, rfl, zeroElem⟩, .inr ⟨27, _, 5, rfl, rfl, zeroElem⟩, trivial⟩ (by kernel_rfl) ?_ ?_
        · refine Steps'.cons ?_ (Steps'.cons ?_ (Steps'.cons ?_ (Steps'.cons ?_ (Steps'.cons ?_ (Steps'.cons ?_ (Steps'.one _ _ _ _ _ _ _))))))
          · intro ax wx hb hs hd
            have h8 : ax.tmps.getD 8 undef = (.pointer (some ⟨ga, 0, none⟩)) := hs 8 (by kernel_rfl)
            exact Does.load 27 (.tmp 8) rfl ga 0 h8 (u64s la) _ ((Blk.later V3.out.2.2.2.2.2.2.1 hb (Blk.lt V3.out.2.2.2.2.2.2.1)).whole) Try.underlying27 rfl (L5.out _ H_la.out.len)
          · intro ax wx hb hs hd
            have h43 : ax.tmps.getD 43 undef = (.agg (u64s la).toArray) := hd 0 43 rfl (by kernel_rfl) (by decide)
            refine Does.call 53 #[(.agg (u64s la).toArray)] (by clear hs hd; go_simp) ?_
            refine (square_any _ _ H_la.out _).mono ?_
            rintro z w' ⟨r, rfl, fr, l⟩
            exact ⟨_, rfl, ⟨r, rfl, fr⟩, l⟩
          · intro ax wx hb hs hd
            have h9 : ax.tmps.getD 9 undef = (.pointer (some ⟨gb, 0, none⟩)) := hs 9 (by kernel_rfl)
            exact Does.load 27 (.tmp 9) rfl gb 0 h9 (u64s lb) _ ((Blk.later V3.out.2.2.2.2.2.2.2.1 hb (Blk.lt V3.out.2.2.2.2.2.2.2.1)).whole) Try.underlying27 rfl (L5.out _ H_lb.out.len)
          · intro ax wx hb hs hd
            have h45 : ax.tmps.getD 45 undef = (.agg (u64s lb).toArray) := hd 2 45 rfl (by kernel_rfl) (by decide)
            refine Does.call 53 #[(.agg (u64s lb).toArray)] (by clear hs hd; go_simp) ?_
            refine (square_any _ _ H_lb.out _).mono ?_
            rintro z w' ⟨r, rfl, fr, l⟩
            exact ⟨_, rfl, ⟨r, rfl, fr⟩, l⟩
          · intro ax wx hb hs hd
            exact Does.alloc 27 rfl 5 _ zeroElem hb.size
          · intro ax wx hb hs hd
            exact Does.alloc 27 rfl 5 _ zeroElem hb.size
        · intro wx hb
          refine @EndsP.val _ _ _ _ _ _ _ _ (.agg (u64s la).toArray) rfl ?_
          refine @EndsP.any _ _ _ _ _ _ _ _ (isF (A * A % PR)) (isF_later (A * A % PR)) rfl ?_
          intro v1 p1
          refine @EndsP.val _ _ _ _ _ _ _ _ (.agg (u64s lb).toArray) rfl ?_
          refine @EndsP.any _ _ _ _ _ _ _ _ (isF (B * B % PR)) (isF_later (B * B % PR)) rfl ?_
          intro v3 p3
          refine @EndsP.blk _ _ _ _ _ _ _ _ 27 (u64s [0, 0, 0, 0, 0]) rfl ?_
          intro g4 hg4 bg4
          refine @EndsP.blk _ _ _ _ _ _ _ _ 27 (u64s [0, 0, 0, 0, 0]) rfl ?_
          intro g5 hg5 bg5
          intro hD nf hn
          obtain ⟨mf, rfl⟩ : ∃ mf, nf = mf + 2 := ⟨nf - 2, by have h3 : 2 ≤ nf := hn; omega⟩
          obtain ⟨laa, rfl, F_laa⟩ := p1
          obtain ⟨lbb, rfl, F_lbb⟩ := p3
          have d01 : g4 ≠ g5 := fun e => hD 14 (by simp) 15 (by simp) (by decide) (by subst e; kernel_rfl)
          have N_laa : Hid ((u64s laa).length = 5) := by rw [u64s_length, F_laa.len]; rfl
          have N_lbb : Hid ((u64s lbb).length = 5) := by rw [u64s_length, F_lbb.len]; rfl
          clear hD hn
          simp only [Act.put, List.setIfInBounds_toArray, List.set_cons_zero, List.set_cons_succ]
          refine wpAny_ready (rs := [6]) (by kernel_rfl) (by simp) (AllReady.cons rfl (fun K hK => ?_) AllReady.nil)
          rw [if_pos (by rfl)]
          refine last_store 27 (.tmp 14) (.tmp 44) rfl rfl g4 rfl 27 _ (u64s laa) rfl bg4 (by rw [N_laa.out]; rfl) (by rw [N_laa.out]; exact sizeElem) (u64s_one _) ?_
          intro w0 b0 s0 k0
          refine hK _ _ ?_
          refine wpAny_ready (rs := [7]) (by kernel_rfl) (by simp) (AllReady.cons rfl (fun K hK => ?_) AllReady.nil)
          rw [if_pos (by rfl)]
          refine last_store 27 (.tmp 15) (.tmp 46) rfl rfl g5 rfl 27 _ (u64s lbb) rfl (bg5.kept k0 (by omega)) (by rw [N_lbb.out]; rfl) (by rw [N_lbb.out]; exact sizeElem) (u64s_one _) ?_
          intro w1 b1 s1 k1
          refine hK _ _ ?_
          refine wpAny_done (by kernel_rfl) (NoPanic.normal ?_) _
          have V4 : Hid (Below w.heap.size w w1 ∧ Blk w1 w.heap.size 27 (u64s lu) ∧ Blk w1 (w.heap.size + 1) 103 (rt px pz) ∧ Blk w1 (w.heap.size + 1 + 1) 103 (rt qx qz) ∧ Blk w1 (w.heap.size + 1 + 1 + 1) 103 (rt [0, 0, 0, 0, 0] [0, 0, 0, 0, 0]) ∧ Blk w1 (w.heap.size + 1 + 1 + 1 + 1) 103 (rt [0, 0, 0, 0, 0] [0, 0, 0, 0, 0]) ∧ Blk w1 ga 27 (u64s la) ∧ Blk w1 gb 27 (u64s lb) ∧ Blk w1 gc 27 (u64s lc) ∧ Blk w1 gd 27 (u64s ld) ∧ Blk w1 gda 27 (u64s lda) ∧ Blk w1 gcb 27 (u64s lcb) ∧ Blk w1 g4 27 (u64s laa) ∧ Blk w1 g5 27 (u64s lbb)) := by
            have qb := hb.size
            have qw := V3.out.1.size
            have q0 := V3.out.2.1.lt
            have q1 := V3.out.2.2.1.lt
            have q2 := V3.out.2.2.2.1.lt
            have q3 := V3.out.2.2.2.2.1.lt
            have q4 := V3.out.2.2.2.2.2.1.lt
            have q5 := V3.out.2.2.2.2.2.2.1.lt
            have q6 := V3.out.2.2.2.2.2.2.2.1.lt
            have q7 := V3.out.2.2.2.2.2.2.2.2.1.lt
            have q8 := V3.out.2.2.2.2.2.2.2.2.2.1.lt
            have q9 := V3.out.2.2.2.2.2.2.2.2.2.2.1.lt
            have q10 := V3.out.2.2.2.2.2.2.2.2.2.2.2.lt
            exact ⟨below_kept (below_kept (below_chain V3.out.1 hb (by omega)) k0 (by omega) (fun j hj => by omega)) k1 (by omega) (fun j hj => by omega), (((V3.out.2.1.later hb V3.out.2.1.lt).kept k0 (by omega)).kept k1 (by omega)), (((V3.out.2.2.1.later hb V3.out.2.2.1.lt).kept k0 (by omega)).kept k1 (by omega)), (((V3.out.2.2.2.1.later hb V3.out.2.2.2.1.lt).kept k0 (by omega)).kept k1 (by omega)), (((V3.out.2.2.2.2.1.later hb V3.out.2.2.2.2.1.lt).kept k0 (by omega)).kept k1 (by omega)), (((V3.out.2.2.2.2.2.1.later hb V3.out.2.2.2.2.2.1.lt).kept k0 (by omega)).kept k1 (by omega)), (((V3.out.2.2.2.2.2.2.1.later hb V3.out.2.2.2.2.2.2.1.lt).kept k0 (by omega)).kept k1 (by omega)), (((V3.out.2.2.2.2.2.2.2.1.later hb V3.out.2.2.2.2.2.2.2.1.lt).kept k0 (by omega)).kept k1 (by omega)), (((V3.out.2.2.2.2.2.2.2.2.1.later hb V3.out.2.2.2.2.2.2.2.2.1.lt).kept k0 (by omega)).kept k1 (by omega)), (((V3.out.2.2.2.2.2.2.2.2.2.1.later hb V3.out.2.2.2.2.2.2.2.2.2.1.lt).kept k0 (by omega)).kept k1 (by omega)), (((V3.out.2.2.2.2.2.2.2.2.2.2.1.later hb V3.out.2.2.2.2.2.2.2.2.2.2.1.lt).kept k0 (by omega)).kept k1 (by omega)), (((V3.out.2.2.2.2.2.2.2.2.2.2.2.later hb V3.out.2.2.2.2.2.2.2.2.2.2.2.lt).kept k0 (by omega)).kept k1 (by omega)), (b0.kept k1 (by omega)), b1⟩
          obtain ⟨gaa, rfl⟩ : ∃ q, q = g4 := ⟨_, rfl⟩
          obtain ⟨gbb, rfl⟩ : ∃ q, q = g5 := ⟨_, rfl⟩
          obtain ⟨yV4, rfl⟩ : ∃ q, q = w1 := ⟨_, rfl⟩
          clear hb V3 hK b0 s0 k0 b1 s1 k1 bg4 hg4 bg5 hg5 d01
          obtain ⟨AA, EAA⟩ : ∃ z, (A * A % PR) = z := ⟨_, rfl⟩
          rw [EAA] at F_laa
          have QAA : Hid ((A * A % PR) = AA) := EAA
          have H_laa : Hid (Fe laa AA) := F_laa
          clear EAA F_laa
          obtain ⟨BB, EBB⟩ : ∃ z, (B * B % PR) = z := ⟨_, rfl⟩
          rw [EBB] at F_lbb
          have QBB : Hid ((B * B % PR) = BB) := EBB
          have H_lbb : Hid (Fe lbb BB) := F_lbb
          clear EBB F_lbb
          try simp only [Act.put, List.setIfInBounds_toArray, List.set_cons_zero, List.set_cons_succ]
          have HS := sub_any laa lbb AA BB H_laa.out H_lbb.out
          go_wp2_with (first | ((with_reducible show wpList _ _ _ (({ dst := some 47, op := _, type := _, pos := _, after := _, guard := _ } : Oper) :: _) _ _); refine wpList_load_blk rfl 27 (.tmp 14) rfl gaa rfl (u64s laa) _ V4.out.2.2.2.2.2.2.2.2.2.2.2.2.1 Try.underlying27 rfl (L5.out _ H_laa.out.len) ?_) | ((with_reducible show wpList _ _ _ (({ dst := some 48, op := _, type := _, pos := _, after := _, guard := _ } : Oper) :: _) _ _); refine wpList_load_blk rfl 27 (.tmp 15) rfl gbb rfl (u64s lbb) _ V4.out.2.2.2.2.2.2.2.2.2.2.2.2.2 Try.underlying27 rfl (L5.out _ H_lbb.out.len) ?_) | (go_at_call 52; refine (HS _).mono ?_; rintro e w5 ⟨le, rfl, F_le, l5⟩) | ((with_reducible show wpList _ _ _ (({ dst := some 16, op := _, type := _, pos := _, after := _, guard := _ } : Oper) :: _) _ _); refine wpList_alloc_new rfl 27 rfl 5 _ zeroElem ?_; intro w6 b6 s6 l6) | (refine wpList_store_blk rfl 27 27 _ _ rfl _ rfl _ (u64s le) rfl b6 (by rw [u64s_length, F_le.len]; rfl) (L5.out _ F_le.len) (u64s_one _) ?_; intro w7 b7 s7 k7))
          have V5 : Hid (Below w.heap.size w w7 ∧ Blk w7 w.heap.size 27 (u64s lu) ∧ Blk w7 (w.heap.size + 1) 103 (rt px pz) ∧ Blk w7 (w.heap.size + 1 + 1) 103 (rt qx qz) ∧ Blk w7 (w.heap.size + 1 + 1 + 1) 103 (rt [0, 0, 0, 0, 0] [0, 0, 0, 0, 0]) ∧ Blk w7 (w.heap.size + 1 + 1 + 1 + 1) 103 (rt [0, 0, 0, 0, 0] [0, 0, 0, 0, 0]) ∧ Blk w7 ga 27 (u64s la) ∧ Blk w7 gb 27 (u64s lb) ∧ Blk w7 gc 27 (u64s lc) ∧ Blk w7 gd 27 (u64s ld) ∧ Blk w7 gda 27 (u64s lda) ∧ Blk w7 gcb 27 (u64s lcb) ∧ Blk w7 gaa 27 (u64s laa) ∧ Blk w7 gbb 27 (u64s lbb) ∧ Blk w7 w5.heap.size 27 (u64s le)) := by
            have q0 := V4.out.1.size
            have q1 := l5.size
            have q2 := l6.size
            exact ⟨below_kept (below_chain (below_chain V4.out.1 l5 (by omega)) l6 (by omega)) k7 (by omega) (fun j hj => by omega), (((V4.out.2.1).later l5 (V4.out.2.1).lt).later l6 (by have := (V4.out.2.1).lt; have := l5.size; omega)).kept k7 (by have := (V4.out.2.1).lt; have := l5.size; omega), (((V4.out.2.2.1).later l5 (V4.out.2.2.1).lt).later l6 (by have := (V4.out.2.2.1).lt; have := l5.size; omega)).kept k7 (by have := (V4.out.2.2.1).lt; have := l5.size; omega), (((V4.out.2.2.2.1).later l5 (V4.out.2.2.2.1).lt).later l6 (by have := (V4.out.2.2.2.1).lt; have := l5.size; omega)).kept k7 (by have := (V4.out.2.2.2.1).lt; have := l5.size; omega), (((V4.out.2.2.2.2.1).later l5 (V4.out.2.2.2.2.1).lt).later l6 (by have := (V4.out.2.2.2.2.1).lt; have := l5.size; omega)).kept k7 (by have := (V4.out.2.2.2.2.1).lt; have := l5.size; omega), (((V4.out.2.2.2.2.2.1).later l5 (V4.out.2.2.2.2.2.1).lt).later l6 (by have := (V4.out.2.2.2.2.2.1).lt; have := l5.size; omega)).kept k7 (by have := (V4.out.2.2.2.2.2.1).lt; have := l5.size; omega), (((V4.out.2.2.2.2.2.2.1).later l5 (V4.out.2.2.2.2.2.2.1).lt).later l6 (by have := (V4.out.2.2.2.2.2.2.1).lt; have := l5.size; omega)).kept k7 (by have := (V4.out.2.2.2.2.2.2.1).lt; have := l5.size; omega), (((V4.out.2.2.2.2.2.2.2.1).later l5 (V4.out.2.2.2.2.2.2.2.1).lt).later l6 (by have := (V4.out.2.2.2.2.2.2.2.1).lt; have := l5.size; omega)).kept k7 (by have := (V4.out.2.2.2.2.2.2.2.1).lt; have := l5.size; omega), (((V4.out.2.2.2.2.2.2.2.2.1).later l5 (V4.out.2.2.2.2.2.2.2.2.1).lt).later l6 (by have := (V4.out.2.2.2.2.2.2.2.2.1).lt; have := l5.size; omega)).kept k7 (by have := (V4.out.2.2.2.2.2.2.2.2.1).lt; have := l5.size; omega), (((V4.out.2.2.2.2.2.2.2.2.2.1).later l5 (V4.out.2.2.2.2.2.2.2.2.2.1).lt).later l6 (by have := (V4.out.2.2.2.2.2.2.2.2.2.1).lt; have := l5.size; omega)).kept k7 (by have := (V4.out.2.2.2.2.2.2.2.2.2.1).lt; have := l5.size; omega), (((V4.out.2.2.2.2.2.2.2.2.2.2.1).later l5 (V4.out.2.2.2.2.2.2.2.2.2.2.1).lt).later l6 (by have := (V4.out.2.2.2.2.2.2.2.2.2.2.1).lt; have := l5.size; omega)).kept k7 (by have := (V4.out.2.2.2.2.2.2.2.2.2.2.1).lt; have := l5.size; omega), (((V4.out.2.2.2.2.2.2.2.2.2.2.2.1).later l5 (V4.out.2.2.2.2.2.2.2.2.2.2.2.1).lt).later l6 (by have := (V4.out.2.2.2.2.2.2.2.2.2.2.2.1).lt; have := l5.size; omega)).kept k7 (by have := (V4.out.2.2.2.2.2.2.2.2.2.2.2.1).lt; have := l5.size; omega), (((V4.out.2.2.2.2.2.2.2.2.2.2.2.2.1).later l5 (V4.out.2.2.2.2.2.2.2.2.2.2.2.2.1).lt).later l6 (by have := (V4.out.2.2.2.2.2.2.2.2.2.2.2.2.1).lt; have := l5.size; omega)).kept k7 (by have := (V4.out.2.2.2.2.2.2.2.2.2.2.2.2.1).lt; have := l5.size; omega), (((V4.out.2.2.2.2.2.2.2.2.2.2.2.2.2).later l5 (V4.out.2.2.2.2.2.2.2.2.2.2.2.2.2).lt).later l6 (by have := (V4.out.2.2.2.2.2.2.2.2.2.2.2.2.2).lt; have := l5.size; omega)).kept k7 (by have := (V4.out.2.2.2.2.2.2.2.2.2.2.2.2.2).lt; have := l5.size; omega), b7⟩
          obtain ⟨ge, hge⟩ : ∃ q, w5.heap.size = q := ⟨_, rfl⟩
          rw [hge] at V5 ⊢
          clear b6 s6 l6 b7 s7 k7 l5 hge HS V4
          obtain ⟨E, EE⟩ : ∃ z, ((AA - BB) % PR) = z := ⟨_, rfl⟩
          rw [EE] at F_le
          have QE : Hid (((AA - BB) % PR) = E) := EE
          have H_le : Hid (Fe le E) := F_le
          clear EE F_le
          simp only [Act.put, List.setIfInBounds_toArray, List.set_cons_zero, List.set_cons_succ]
          have DD_V6 : w.heap.size ≠ (w.heap.size + 1) ∧ (w.heap.size + 1 + 1) ≠ (w.heap.size + 1) ∧ (w.heap.size + 1 + 1 + 1) ≠ (w.heap.size + 1) ∧ (w.heap.size + 1 + 1 + 1 + 1) ≠ (w.heap.size + 1) ∧ ga ≠ (w.heap.size + 1) ∧ gb ≠ (w.heap.size + 1) ∧ gc ≠ (w.heap.size + 1) ∧ gd ≠ (w.heap.size + 1) ∧ gda ≠ (w.heap.size + 1) ∧ gcb ≠ (w.heap.size + 1) ∧ gaa ≠ (w.heap.size + 1) ∧ gbb ≠ (w.heap.size + 1) ∧ ge ≠ (w.heap.size + 1) := ⟨blk_ne V5.out.2.1 V5.out.2.2.1 (by decide), by omega, by omega, by omega, blk_ne V5.out.2.2.2.2.2.2.1 V5.out.2.2.1 (by decide), blk_ne V5.out.2.2.2.2.2.2.2.1 V5.out.2.2.1 (by decide), blk_ne V5.out.2.2.2.2.2.2.2.2.1 V5.out.2.2.1 (by decide), blk_ne V5.out.2.2.2.2.2.2.2.2.2.1 V5.out.2.2.1 (by decide), blk_ne V5.out.2.2.2.2.2.2.2.2.2.2.1 V5.out.2.2.1 (by decide), blk_ne V5.out.2.2.2.2.2.2.2.2.2.2.2.1 V5.out.2.2.1 (by decide), blk_ne V5.out.2.2.2.2.2.2.2.2.2.2.2.2.1 V5.out.2.2.1 (by decide), blk_ne V5.out.2.2.2.2.2.2.2.2.2.2.2.2.2.1 V5.out.2.2.1 (by decide), blk_ne V5.out.2.2.2.2.2.2.2.2.2.2.2.2.2.2 V5.out.2.2.1 (by decide)⟩
          refine region_invP 10 ((.val (.agg (u64s laa).toArray)) :: (.val (.agg (u64s lbb).toArray)) :: (.any (isF (AA * BB % PR)) (isF_later (AA * BB % PR))) :: (.val (.agg (u64s le).toArray)) :: (.val (.agg (u64s laa).toArray)) :: (.val (.agg (u64s le).toArray)) :: (.any (isF (E * 121665 % PR)) (isF_later (E * 121665 % PR))) :: (.any (isF ((AA + (E * 121665 % PR)) % PR)) (isF_later ((AA + (E * 121665 % PR)) % PR))) :: (.any (isF (E * ((AA + (E * 121665 % PR)) % PR) % PR)) (isF_later (E * ((AA + (E * 121665 % PR)) % PR) % PR))) :: (.any (isR (AA * BB % PR) (E * ((AA + (E * 121665 % PR)) % PR) % PR)) (isR_later (AA * BB % PR) (E * ((AA + (E * 121665 % PR)) % PR) % PR))) :: []) (by kernel_rfl) (by kernel_rfl) (by kernel_rfl) [] ⟨.inl rfl, .inl rfl, .inl rfl, .inl rfl, .inl rfl, .inl rfl, .inl rfl, .inl rfl, .inl rfl, .inl rfl, trivial⟩ (by kernel_rfl) ?_ ?_
          · refine Steps'.cons ?_ (Steps'.cons ?_ (Steps'.cons ?_ (Steps'.cons ?_ (Steps'.cons ?_ (Steps'.cons ?_ (Steps'.cons ?_ (Steps'.cons ?_ (Steps'.cons ?_ (Steps'.cons ?_ (Steps'.one _ _ _ _ _ _ _))))))))))
            · intro ax wx hb hs hd
              have h14 : ax.tmps.getD 14 undef = (.pointer (some ⟨gaa, 0, none⟩)) := hs 14 (by kernel_rfl)
              exact Does.load 27 (.tmp 14) rfl gaa 0 h14 (u64s laa) _ ((Blk.later V5.out.2.2.2.2.2.2.2.2.2.2.2.2.1 hb (Blk.lt V5.out.2.2.2.2.2.2.2.2.2.2.2.2.1)).whole) Try.underlying27 rfl (L5.out _ H_laa.out.len)
            · intro ax wx hb hs hd
              have h15 : ax.tmps.getD 15 undef = (.pointer (some ⟨gbb, 0, none⟩)) := hs 15 (by kernel_rfl)
              exact Does.load 27 (.tmp 15) rfl gbb 0 h15 (u64s lbb) _ ((Blk.later V5.out.2.2.2.2.2.2.2.2.2.2.2.2.2.1 hb (Blk.lt V5.out.2.2.2.2.2.2.2.2.2.2.2.2.2.1)).whole) Try.underlying27 rfl (L5.out _ H_lbb.out.len)
            · intro ax wx hb hs hd
              have h50 : ax.tmps.getD 50 undef = (.agg (u64s laa).toArray) := hd 0 50 rfl (by kernel_rfl) (by decide)
              have h51 : ax.tmps.getD 51 undef = (.agg (u64s lbb).toArray) := hd 1 51 rfl (by kernel_rfl) (by decide)
              refine Does.call 31 #[(.agg (u64s laa).toArray), (.agg (u64s lbb).toArray)] (by clear hs hd; go_simp) ?_
              refine (mul_any _ _ _ _ H_laa.out H_lbb.out _).mono ?_
              rintro z w' ⟨r, rfl, fr, l⟩
              exact ⟨_, rfl, ⟨r, rfl, fr⟩, l⟩
            · intro ax wx hb hs hd
              have h16 : ax.tmps.getD 16 undef = (.pointer (some ⟨ge, 0, none⟩)) := hs 16 (by kernel_rfl)
              exact Does.load 27 (.tmp 16) rfl ge 0 h16 (u64s le) _ ((Blk.later V5.out.2.2.2.2.2.2.2.2.2.2.2.2.2.2 hb (Blk.lt V5.out.2.2.2.2.2.2.2.2.2.2.2.2.2.2)).whole) Try.underlying27 rfl (L5.out _ H_le.out.len)
            · intro ax wx hb hs hd
              have h14 : ax.tmps.getD 14 undef = (.pointer (some ⟨gaa, 0, none⟩)) := hs 14 (by kernel_rfl)
              exact Does.load 27 (.tmp 14) rfl gaa 0 h14 (u64s laa) _ ((Blk.later V5.out.2.2.2.2.2.2.2.2.2.2.2.2.1 hb (Blk.lt V5.out.2.2.2.2.2.2.2.2.2.2.2.2.1)).whole) Try.underlying27 rfl (L5.out _ H_laa.out.len)
            · intro ax wx hb hs hd
              have h16 : ax.tmps.getD 16 undef = (.pointer (some ⟨ge, 0, none⟩)) := hs 16 (by kernel_rfl)
              exact Does.load 27 (.tmp 16) rfl ge 0 h16 (u64s le) _ ((Blk.later V5.out.2.2.2.2.2.2.2.2.2.2.2.2.2.2 hb (Blk.lt V5.out.2.2.2.2.2.2.2.2.2.2.2.2.2.2)).whole) Try.underlying27 rfl (L5.out _ H_le.out.len)
            · intro ax wx hb hs hd
              have h55 : ax.tmps.getD 55 undef = (.agg (u64s le).toArray) := hd 5 55 rfl (by kernel_rfl) (by decide)
              refine Does.call 30 #[(.agg (u64s le).toArray), (.int .u32 121665)] (by clear hs hd; go_simp) ?_
              refine (times_any 121665 (by decide) _ _ H_le.out _).mono ?_
              rintro z w' ⟨r, rfl, fr, l⟩
              exact ⟨_, rfl, ⟨r, rfl, fr⟩, l⟩
            · intro ax wx hb hs hd
              have h54 : ax.tmps.getD 54 undef = (.agg (u64s laa).toArray) := hd 4 54 rfl (by kernel_rfl) (by decide)
              obtain ⟨l56, h56, f56⟩ : isF (E * 121665 % PR) (ax.tmps.getD 56 undef) wx := hd 6 56 rfl (by kernel_rfl) (by decide)
              refine Does.call 29 #[(.agg (u64s laa).toArray), (.agg (u64s l56).toArray)] (by clear hs hd; go_simp) ?_
              refine (add_any _ _ _ _ H_laa.out f56 _).mono ?_
              rintro z w' ⟨r, rfl, fr, l⟩
              exact ⟨_, rfl, ⟨r, rfl, fr⟩, l⟩
            · intro ax wx hb hs hd
              have h53 : ax.tmps.getD 53 undef = (.agg (u64s le).toArray) := hd 3 53 rfl (by kernel_rfl) (by decide)
              obtain ⟨l57, h57, f57⟩ : isF ((AA + (E * 121665 % PR)) % PR) (ax.tmps.getD 57 undef) wx := hd 7 57 rfl (by kernel_rfl) (by decide)
              refine Does.call 31 #[(.agg (u64s le).toArray), (.agg (u64s l57).toArray)] (by clear hs hd; go_simp) ?_
              refine (mul_any _ _ _ _ H_le.out f57 _).mono ?_
              rintro z w' ⟨r, rfl, fr, l⟩
              exact ⟨_, rfl, ⟨r, rfl, fr⟩, l⟩
            · intro ax wx hb hs hd
              obtain ⟨l52, h52, f52⟩ : isF (AA * BB % PR) (ax.tmps.getD 52 undef) wx := hd 2 52 rfl (by kernel_rfl) (by decide)
              obtain ⟨l58, h58, f58⟩ : isF (E * ((AA + (E * 121665 % PR)) % PR) % PR) (ax.tmps.getD 58 undef) wx := hd 8 58 rfl (by kernel_rfl) (by decide)
              exact does_rat (.tmp 52) (.tmp 58) rfl l52 l58 h52 h58 _ _ f52 f58
          · intro wx hb
            refine @EndsP.val _ _ _ _ _ _ _ _ (.agg (u64s laa).toArray) rfl ?_
            refine @EndsP.val _ _ _ _ _ _ _ _ (.agg (u64s lbb).toArray) rfl ?_
            refine @EndsP.any _ _ _ _ _ _ _ _ (isF (AA * BB % PR)) (isF_later (AA * BB % PR)) rfl ?_
            intro v2 p2
            refine @EndsP.val _ _ _ _ _ _ _ _ (.agg (u64s le).toArray) rfl ?_
            refine @EndsP.val _ _ _ _ _ _ _ _ (.agg (u64s laa).toArray) rfl ?_
            refine @EndsP.val _ _ _ _ _ _ _ _ (.agg (u64s le).toArray) rfl ?_
            refine @EndsP.any _ _ _ _ _ _ _ _ (isF (E * 121665 % PR)) (isF_later (E * 121665 % PR)) rfl ?_
            intro v6 p6
            refine @EndsP.any _ _ _ _ _ _ _ _ (isF ((AA + (E * 121665 % PR)) % PR)) (isF_later ((AA + (E * 121665 % PR)) % PR)) rfl ?_
            intro v7 p7
            refine @EndsP.any _ _ _ _ _ _ _ _ (isF (E * ((AA + (E * 121665 % PR)) % PR) % PR)) (isF_later (E * ((AA + (E * 121665 % PR)) % PR) % PR)) rfl ?_
            intro v8 p8
            refine @EndsP.any _ _ _ _ _ _ _ _ (isR (AA * BB % PR) (E * ((AA + (E * 121665 % PR)) % PR) % PR)) (isR_later (AA * BB % PR) (E * ((AA + (E * 121665 % PR)) % PR) % PR)) rfl ?_
            intro v9 p9
            intro hD nf hn
            obtain ⟨mf, rfl⟩ : ∃ mf, nf = mf + 1 := ⟨nf - 1, by have h3 : 1 ≤ nf := hn; omega⟩
            clear hD hn
            obtain ⟨rx, rz, rfl, F_rx, F_rz⟩ := p9
            simp only [Act.put, List.setIfInBounds_toArray, List.set_cons_zero, List.set_cons_succ]
            refine wpAny_ready (rs := [10]) (by kernel_rfl) (by simp) (AllReady.cons rfl (fun K hK => ?_) AllReady.nil)
            rw [if_pos (by rfl)]
            refine last_store 103 (.tmp 4) (.tmp 59) rfl rfl (w.heap.size + 1) rfl 103 _ (rt rx rz) rfl (Blk.later V5.out.2.2.1 hb (Blk.lt V5.out.2.2.1)) (by rw [rt_length HL.out.2.1 HL.out.2.2.1, rt_length F_rx.len F_rz.len]) (L10.out _ _ F_rx.len F_rz.len) (rt_one _ _) ?_
            intro y6 b6 s6 k6
            refine hK _ _ ?_
            refine wpAny_done (by kernel_rfl) (NoPanic.normal ?_) _
            clear hK
            have D_ : Hid (w.heap.size ≠ (w.heap.size + 1) ∧ (w.heap.size + 1 + 1) ≠ (w.heap.size + 1) ∧ (w.heap.size + 1 + 1 + 1) ≠ (w.heap.size + 1) ∧ (w.heap.size + 1 + 1 + 1 + 1) ≠ (w.heap.size + 1) ∧ ga ≠ (w.heap.size + 1) ∧ gb ≠ (w.heap.size + 1) ∧ gc ≠ (w.heap.size + 1) ∧ gd ≠ (w.heap.size + 1) ∧ gda ≠ (w.heap.size + 1) ∧ gcb ≠ (w.heap.size + 1) ∧ gaa ≠ (w.heap.size + 1) ∧ gbb ≠ (w.heap.size + 1) ∧ ge ≠ (w.heap.size + 1)) := DD_V6
            have V6 : Hid (Below w.heap.size w y6 ∧ Blk y6 w.heap.size 27 (u64s lu) ∧ Blk y6 (w.heap.size + 1) 103 (rt rx rz) ∧ Blk y6 (w.heap.size + 1 + 1) 103 (rt qx qz) ∧ Blk y6 (w.heap.size + 1 + 1 + 1) 103 (rt [0, 0, 0, 0, 0] [0, 0, 0, 0, 0]) ∧ Blk y6 (w.heap.size + 1 + 1 + 1 + 1) 103 (rt [0, 0, 0, 0, 0] [0, 0, 0, 0, 0]) ∧ Blk y6 ga 27 (u64s la) ∧ Blk y6 gb 27 (u64s lb) ∧ Blk y6 gc 27 (u64s lc) ∧ Blk y6 gd 27 (u64s ld) ∧ Blk y6 gda 27 (u64s lda) ∧ Blk y6 gcb 27 (u64s lcb) ∧ Blk y6 gaa 27 (u64s laa) ∧ Blk y6 gbb 27 (u64s lbb) ∧ Blk y6 ge 27 (u64s le)) := ⟨below_kept (below_chain V5.out.1 hb V5.out.1.size) k6 (by have := V5.out.1.size; have := hb.size; omega) (fun j hj => by omega), (Blk.later V5.out.2.1 hb (Blk.lt V5.out.2.1)).kept k6 D_.out.1, b6, (Blk.later V5.out.2.2.2.1 hb (Blk.lt V5.out.2.2.2.1)).kept k6 D_.out.2.1, (Blk.later V5.out.2.2.2.2.1 hb (Blk.lt V5.out.2.2.2.2.1)).kept k6 D_.out.2.2.1, (Blk.later V5.out.2.2.2.2.2.1 hb (Blk.lt V5.out.2.2.2.2.2.1)).kept k6 D_.out.2.2.2.1, (Blk.later V5.out.2.2.2.2.2.2.1 hb (Blk.lt V5.out.2.2.2.2.2.2.1)).kept k6 D_.out.2.2.2.2.1, (Blk.later V5.out.2.2.2.2.2.2.2.1 hb (Blk.lt V5.out.2.2.2.2.2.2.2.1)).kept k6 D_.out.2.2.2.2.2.1, (Blk.later V5.out.2.2.2.2.2.2.2.2.1 hb (Blk.lt V5.out.2.2.2.2.2.2.2.2.1)).kept k6 D_.out.2.2.2.2.2.2.1, (Blk.later V5.out.2.2.2.2.2.2.2.2.2.1 hb (Blk.lt V5.out.2.2.2.2.2.2.2.2.2.1)).kept k6 D_.out.2.2.2.2.2.2.2.1, (Blk.later V5.out.2.2.2.2.2.2.2.2.2.2.1 hb (Blk.lt V5.out.2.2.2.2.2.2.2.2.2.2.1)).kept k6 D_.out.2.2.2.2.2.2.2.2.1, (Blk.later V5.out.2.2.2.2.2.2.2.2.2.2.2.1 hb (Blk.lt V5.out.2.2.2.2.2.2.2.2.2.2.2.1)).kept k6 D_.out.2.2.2.2.2.2.2.2.2.1, (Blk.later V5.out.2.2.2.2.2.2.2.2.2.2.2.2.1 hb (Blk.lt V5.out.2.2.2.2.2.2.2.2.2.2.2.2.1)).kept k6 D_.out.2.2.2.2.2.2.2.2.2.2.1, (Blk.later V5.out.2.2.2.2.2.2.2.2.2.2.2.2.2.1 hb (Blk.lt V5.out.2.2.2.2.2.2.2.2.2.2.2.2.2.1)).kept k6 D_.out.2.2.2.2.2.2.2.2.2.2.2.1, (Blk.later V5.out.2.2.2.2.2.2.2.2.2.2.2.2.2.2 hb (Blk.lt V5.out.2.2.2.2.2.2.2.2.2.2.2.2.2.2)).kept k6 D_.out.2.2.2.2.2.2.2.2.2.2.2.2⟩
            obtain ⟨yV6, rfl⟩ : ∃ q, q = y6 := ⟨_, rfl⟩
            clear V5 hb b6 s6 k6 D_ p2 p6 p7 p8
            have H_rx : Hid (Fe rx (AA * BB % PR)) := F_rx
            have H_rz : Hid (Fe rz (E * ((AA + (E * 121665 % PR)) % PR) % PR)) := F_rz
            clear F_rx F_rz
            clear DD_V6
            try simp only [Act.put, List.setIfInBounds_toArray, List.set_cons_zero, List.set_cons_succ]
            go_wp2_with fail
            have DD_V7 : w.heap.size ≠ (w.heap.size + 1 + 1) ∧ (w.heap.size + 1) ≠ (w.heap.size + 1 + 1) ∧ (w.heap.size + 1 + 1 + 1) ≠ (w.heap.size + 1 + 1) ∧ (w.heap.size + 1 + 1 + 1 + 1) ≠ (w.heap.size + 1 + 1) ∧ ga ≠ (w.heap.size + 1 + 1) ∧ gb ≠ (w.heap.size + 1 + 1) ∧ gc ≠ (w.heap.size + 1 + 1) ∧ gd ≠ (w.heap.size + 1 + 1) ∧ gda ≠ (w.heap.size + 1 + 1) ∧ gcb ≠ (w.heap.size + 1 + 1) ∧ gaa ≠ (w.heap.size + 1 + 1) ∧ gbb ≠ (w.heap.size + 1 + 1) ∧ ge ≠ (w.heap.size + 1 + 1) := ⟨blk_ne V6.out.2.1 V6.out.2.2.2.1 (by decide), by omega, by omega, by omega, blk_ne V6.out.2.2.2.2.2.2.1 V6.out.2.2.2.1 (by decide), blk_ne V6.out.2.2.2.2.2.2.2.1 V6.out.2.2.2.1 (by decide), blk_ne V6.out.2.2.2.2.2.2.2.2.1 V6.out.2.2.2.1 (by decide), blk_ne V6.out.2.2.2.2.2.2.2.2.2.1 V6.out.2.2.2.1 (by decide), blk_ne V6.out.2.2.2.2.2.2.2.2.2.2.1 V6.out.2.2.2.1 (by decide), blk_ne V6.out.2.2.2.2.2.2.2.2.2.2.2.1 V6.out.2.2.2.1 (by decide), blk_ne V6.out.2.2.2.2.2.2.2.2.2.2.2.2.1 V6.out.2.2.2.1 (by decide), blk_ne V6.out.2.2.2.2.2.2.2.2.2.2.2.2.2.1 V6.out.2.2.2.1 (by decide), blk_ne V6.out.2.2.2.2.2.2.2.2.2.2.2.2.2.2 V6.out.2.2.2.1 (by decide)⟩
            refine region_invP 11 ((.val (.agg (u64s lda).toArray)) :: (.val (.agg (u64s lcb).toArray)) :: (.any (isF ((DA + CB) % PR)) (isF_later ((DA + CB) % PR))) :: (.any (isF (((DA + CB) % PR) * ((DA + CB) % PR) % PR)) (isF_later (((DA + CB) % PR) * ((DA + CB) % PR) % PR))) :: (.val (.agg (u64s lu).toArray)) :: (.val (.agg (u64s lda).toArray)) :: (.val (.agg (u64s lcb).toArray)) :: (.any (isF ((DA - CB) % PR)) (isF_later ((DA - CB) % PR))) :: (.any (isF (((DA - CB) % PR) * ((DA - CB) % PR) % PR)) (isF_later (((DA - CB) % PR) * ((DA - CB) % PR) % PR))) :: (.any (isF (u * (((DA - CB) % PR) * ((DA - CB) % PR) % PR) % PR)) (isF_later (u * (((DA - CB) % PR) * ((DA - CB) % PR) % PR) % PR))) :: (.any (isR (((DA + CB) % PR) * ((DA + CB) % PR) % PR) (u * (((DA - CB) % PR) * ((DA - CB) % PR) % PR) % PR)) (isR_later (((DA + CB) % PR) * ((DA + CB) % PR) % PR) (u * (((DA - CB) % PR) * ((DA - CB) % PR) % PR) % PR))) :: []) (by kernel_rfl) (by kernel_rfl) (by kernel_rfl) [] ⟨.inl rfl, .inl rfl, .inl rfl, .inl rfl, .inl rfl, .inl rfl, .inl rfl, .inl rfl, .inl rfl, .inl rfl, .inl rfl, trivial⟩ (by kernel_rfl) ?_ ?_
            · refine Steps'.cons ?_ (Steps'.cons ?_ (Steps'.cons ?_ (Steps'.cons ?_ (Steps'.cons ?_ (Steps'.cons ?_ (Steps'.cons ?_ (Steps'.cons ?_ (Steps'.cons ?_ (Steps'.cons ?_ (Steps'.cons ?_ (Steps'.one _ _ _ _ _ _ _)))))))))))
              · intro ax wx hb hs hd
                have h12 : ax.tmps.getD 12 undef = (.pointer (some ⟨gda, 0, none⟩)) := hs 12 (by kernel_rfl)
                exact Does.load 27 (.tmp 12) rfl gda 0 h12 (u64s lda) _ ((Blk.later V6.out.2.2.2.2.2.2.2.2.2.2.1 hb (Blk.lt V6.out.2.2.2.2.2.2.2.2.2.2.1)).whole) Try.underlying27 rfl (L5.out _ H_lda.out.len)
              · intro ax wx hb hs hd
                have h13 : ax.tmps.getD 13 undef = (.pointer (some ⟨gcb, 0, none⟩)) := hs 13 (by kernel_rfl)
                exact Does.load 27 (.tmp 13) rfl gcb 0 h13 (u64s lcb) _ ((Blk.later V6.out.2.2.2.2.2.2.2.2.2.2.2.1 hb (Blk.lt V6.out.2.2.2.2.2.2.2.2.2.2.2.1)).whole) Try.underlying27 rfl (L5.out _ H_lcb.out.len)
              · intro ax wx hb hs hd
                have h60 : ax.tmps.getD 60 undef = (.agg (u64s lda).toArray) := hd 0 60 rfl (by kernel_rfl) (by decide)
                have h61 : ax.tmps.getD 61 undef = (.agg (u64s lcb).toArray) := hd 1 61 rfl (by kernel_rfl) (by decide)
                refine Does.call 29 #[(.agg (u64s lda).toArray), (.agg (u64s lcb).toArray)] (by clear hs hd; go_simp) ?_
                refine (add_any _ _ _ _ H_lda.out H_lcb.out _).mono ?_
                rintro z w' ⟨r, rfl, fr, l⟩
                exact ⟨_, rfl, ⟨r, rfl, fr⟩, l⟩
              · intro ax wx hb hs hd
                obtain ⟨l62, h62, f62⟩ : isF ((DA + CB) % PR) (ax.tmps.getD 62 undef) wx := hd 2 62 rfl (by kernel_rfl) (by decide)
                refine Does.call 53 #[(.agg (u64s l62).toArray)] (by clear hs hd; go_simp) ?_
                refine (square_any _ _ f62 _).mono ?_
                rintro z w' ⟨r, rfl, fr, l⟩
                exact ⟨_, rfl, ⟨r, rfl, fr⟩, l⟩
              · intro ax wx hb hs hd
                have h3 : ax.tmps.getD 3 undef = (.pointer (some ⟨w.heap.size, 0, none⟩)) := hs 3 (by kernel_rfl)
                exact Does.load 27 (.tmp 3) rfl w.heap.size 0 h3 (u64s lu) _ ((Blk.later V6.out.2.1 hb (Blk.lt V6.out.2.1)).whole) Try.underlying27 rfl (L5.out _ HL.out.1)
              · intro ax wx hb hs hd
                have h12 : ax.tmps.getD 12 undef = (.pointer (some ⟨gda, 0, none⟩)) := hs 12 (by kernel_rfl)
                exact Does.load 27 (.tmp 12) rfl gda 0 h12 (u64s lda) _ ((Blk.later V6.out.2.2.2.2.2.2.2.2.2.2.1 hb (Blk.lt V6.out.2.2.2.2.2.2.2.2.2.2.1)).whole) Try.underlying27 rfl (L5.out _ H_lda.out.len)
              · intro ax wx hb hs hd
                have h13 : ax.tmps.getD 13 undef = (.pointer (some ⟨gcb, 0, none⟩)) := hs 13 (by kernel_rfl)
                exact Does.load 27 (.tmp 13) rfl gcb 0 h13 (u64s lcb) _ ((Blk.later V6.out.2.2.2.2.2.2.2.2.2.2.2.1 hb (Blk.lt V6.out.2.2.2.2.2.2.2.2.2.2.2.1)).whole) Try.underlying27 rfl (L5.out _ H_lcb.out.len)
              · intro ax wx hb hs hd
                have h65 : ax.tmps.getD 65 undef = (.agg (u64s lda).toArray) := hd 5 65 rfl (by kernel_rfl) (by decide)
                have h66 : ax.tmps.getD 66 undef = (.agg (u64s lcb).toArray) := hd 6 66 rfl (by kernel_rfl) (by decide)
                refine Does.call 52 #[(.agg (u64s lda).toArray), (.agg (u64s lcb).toArray)] (by clear hs hd; go_simp) ?_
                refine (sub_any _ _ _ _ H_lda.out H_lcb.out _).mono ?_
                rintro z w' ⟨r, rfl, fr, l⟩
                exact ⟨_, rfl, ⟨r, rfl, fr⟩, l⟩
              · intro ax wx hb hs hd
                obtain ⟨l67, h67, f67⟩ : isF ((DA - CB) % PR) (ax.tmps.getD 67 undef) wx := hd 7 67 rfl (by kernel_rfl) (by decide)
                refine Does.call 53 #[(.agg (u64s l67).toArray)] (by clear hs hd; go_simp) ?_
                refine (square_any _ _ f67 _).mono ?_
                rintro z w' ⟨r, rfl, fr, l⟩
                exact ⟨_, rfl, ⟨r, rfl, fr⟩, l⟩
              · intro ax wx hb hs hd
                have h64 : ax.tmps.getD 64 undef = (.agg (u64s lu).toArray) := hd 4 64 rfl (by kernel_rfl) (by decide)
                obtain ⟨l68, h68, f68⟩ : isF (((DA - CB) % PR) * ((DA - CB) % PR) % PR) (ax.tmps.getD 68 undef) wx := hd 8 68 rfl (by kernel_rfl) (by decide)
                refine Does.call 31 #[(.agg (u64s lu).toArray), (.agg (u64s l68).toArray)] (by clear hs hd; go_simp) ?_
                refine (mul_any _ _ _ _ HP.out.1 f68 _).mono ?_
                rintro z w' ⟨r, rfl, fr, l⟩
                exact ⟨_, rfl, ⟨r, rfl, fr⟩, l⟩
              · intro ax wx hb hs hd
                obtain ⟨l63, h63, f63⟩ : isF (((DA + CB) % PR) * ((DA + CB) % PR) % PR) (ax.tmps.getD 63 undef) wx := hd 3 63 rfl (by kernel_rfl) (by decide)
                obtain ⟨l69, h69, f69⟩ : isF (u * (((DA - CB) % PR) * ((DA - CB) % PR) % PR) % PR) (ax.tmps.getD 69 undef) wx := hd 9 69 rfl (by kernel_rfl) (by decide)
                exact does_rat (.tmp 63) (.tmp 69) rfl l63 l69 h63 h69 _ _ f63 f69
            · intro wx hb
              refine @EndsP.val _ _ _ _ _ _ _ _ (.agg (u64s lda).toArray) rfl ?_
              refine @EndsP.val _ _ _ _ _ _ _ _ (.agg (u64s lcb).toArray) rfl ?_
              refine @EndsP.any _ _ _ _ _ _ _ _ (isF ((DA + CB) % PR)) (isF_later ((DA + CB) % PR)) rfl ?_
              intro v2 p2
              refine @EndsP.any _ _ _ _ _ _ _ _ (isF (((DA + CB) % PR) * ((DA + CB) % PR) % PR)) (isF_later (((DA + CB) % PR) * ((DA + CB) % PR) % PR)) rfl ?_
              intro v3 p3
              refine @EndsP.val _ _ _ _ _ _ _ _ (.agg (u64s lu).toArray) rfl ?_
              refine @EndsP.val _ _ _ _ _ _ _ _ (.agg (u64s lda).toArray) rfl ?_
              refine @EndsP.val _ _ _ _ _ _ _ _ (.agg (u64s lcb).toArray) rfl ?_
              refine @EndsP.any _ _ _ _ _ _ _ _ (isF ((DA - CB) % PR)) (isF_later ((DA - CB) % PR)) rfl ?_
              intro v7 p7
              refine @EndsP.any _ _ _ _ _ _ _ _ (isF (((DA - CB) % PR) * ((DA - CB) % PR) % PR)) (isF_later (((DA - CB) % PR) * ((DA - CB) % PR) % PR)) rfl ?_
              intro v8 p8
              refine @EndsP.any _ _ _ _ _ _ _ _ (isF (u * (((DA - CB) % PR) * ((DA - CB) % PR) % PR) % PR)) (isF_later (u * (((DA - CB) % PR) * ((DA - CB) % PR) % PR) % PR)) rfl ?_
              intro v9 p9
              refine @EndsP.any _ _ _ _ _ _ _ _ (isR (((DA + CB) % PR) * ((DA + CB) % PR) % PR) (u * (((DA - CB) % PR) * ((DA - CB) % PR) % PR) % PR)) (isR_later (((DA + CB) % PR) * ((DA + CB) % PR) % PR) (u * (((DA - CB) % PR) * ((DA - CB) % PR) % PR) % PR)) rfl ?_
              intro v10 p10
              intro hD nf hn
              obtain ⟨mf, rfl⟩ : ∃ mf, nf = mf + 1 := ⟨nf - 1, by have h3 : 1 ≤ nf := hn; omega⟩
              clear hD hn
              obtain ⟨sx, sz, rfl, F_sx, F_sz⟩ := p10
              simp only [Act.put, List.setIfInBounds_toArray, List.set_cons_zero, List.set_cons_succ]
              refine wpAny_ready (rs := [11]) (by kernel_rfl) (by simp) (AllReady.cons rfl (fun K hK => ?_) AllReady.nil)
              rw [if_pos (by rfl)]
              refine last_store 103 (.tmp 5) (.tmp 70) rfl rfl (w.heap.size + 1 + 1) rfl 103 _ (rt sx sz) rfl (Blk.later V6.out.2.2.2.1 hb (Blk.lt V6.out.2.2.2.1)) (by rw [rt_length HL.out.2.2.2.1 HL.out.2.2.2.2, rt_length F_sx.len F_sz.len]) (L10.out _ _ F_sx.len F_sz.len) (rt_one _ _) ?_
              intro y6 b6 s6 k6
              refine hK _ _ ?_
              refine wpAny_done (by kernel_rfl) (NoPanic.normal ?_) _
              clear hK
              have D_ : Hid (w.heap.size ≠ (w.heap.size + 1 + 1) ∧ (w.heap.size + 1) ≠ (w.heap.size + 1 + 1) ∧ (w.heap.size + 1 + 1 + 1) ≠ (w.heap.size + 1 + 1) ∧ (w.heap.size + 1 + 1 + 1 + 1) ≠ (w.heap.size + 1 + 1) ∧ ga ≠ (w.heap.size + 1 + 1) ∧ gb ≠ (w.heap.size + 1 + 1) ∧ gc ≠ (w.heap.size + 1 + 1) ∧ gd ≠ (w.heap.size + 1 + 1) ∧ gda ≠ (w.heap.size + 1 + 1) ∧ gcb ≠ (w.heap.size + 1 + 1) ∧ gaa ≠ (w.heap.size + 1 + 1) ∧ gbb ≠ (w.heap.size + 1 + 1) ∧ ge ≠ (w.heap.size + 1 + 1)) := DD_V7
              have V7 : Hid (Below w.heap.size w y6 ∧ Blk y6 w.heap.size 27 (u64s lu) ∧ Blk y6 (w.heap.size + 1) 103 (rt rx rz) ∧ Blk y6 (w.heap.size + 1 + 1) 103 (rt sx sz) ∧ Blk y6 (w.heap.size + 1 + 1 + 1) 103 (rt [0, 0, 0, 0, 0] [0, 0, 0, 0, 0]) ∧ Blk y6 (w.heap.size + 1 + 1 + 1 + 1) 103 (rt [0, 0, 0, 0, 0] [0, 0, 0, 0, 0]) ∧ Blk y6 ga 27 (u64s la) ∧ Blk y6 gb 27 (u64s lb) ∧ Blk y6 gc 27 (u64s lc) ∧ Blk y6 gd 27 (u64s ld) ∧ Blk y6 gda 27 (u64s lda) ∧ Blk y6 gcb 27 (u64s lcb) ∧ Blk y6 gaa 27 (u64s laa) ∧ Blk y6 gbb 27 (u64s lbb) ∧ Blk y6 ge 27 (u64s le)) := ⟨below_kept (below_chain V6.out.1 hb V6.out.1.size) k6 (by have := V6.out.1.size; have := hb.size; omega) (fun j hj => by omega), (Blk.later V6.out.2.1 hb (Blk.lt V6.out.2.1)).kept k6 D_.out.1, (Blk.later V6.out.2.2.1 hb (Blk.lt V6.out.2.2.1)).kept k6 D_.out.2.1, b6, (Blk.later V6.out.2.2.2.2.1 hb (Blk.lt V6.out.2.2.2.2.1)).kept k6 D_.out.2.2.1, (Blk.later V6.out.2.2.2.2.2.1 hb (Blk.lt V6.out.2.2.2.2.2.1)).kept k6 D_.out.2.2.2.1, (Blk.later V6.out.2.2.2.2.2.2.1 hb (Blk.lt V6.out.2.2.2.2.2.2.1)).kept k6 D_.out.2.2.2.2.1, (Blk.later V6.out.2.2.2.2.2.2.2.1 hb (Blk.lt V6.out.2.2.2.2.2.2.2.1)).kept k6 D_.out.2.2.2.2.2.1, (Blk.later V6.out.2.2.2.2.2.2.2.2.1 hb (Blk.lt V6.out.2.2.2.2.2.2.2.2.1)).kept k6 D_.out.2.2.2.2.2.2.1, (Blk.later V6.out.2.2.2.2.2.2.2.2.2.1 hb (Blk.lt V6.out.2.2.2.2.2.2.2.2.2.1)).kept k6 D_.out.2.2.2.2.2.2.2.1, (Blk.later V6.out.2.2.2.2.2.2.2.2.2.2.1 hb (Blk.lt V6.out.2.2.2.2.2.2.2.2.2.2.1)).kept k6 D_.out.2.2.2.2.2.2.2.2.1, (Blk.later V6.out.2.2.2.2.2.2.2.2.2.2.2.1 hb (Blk.lt V6.out.2.2.2.2.2.2.2.2.2.2.2.1)).kept k6 D_.out.2.2.2.2.2.2.2.2.2.1, (Blk.later V6.out.2.2.2.2.2.2.2.2.2.2.2.2.1 hb (Blk.lt V6.out.2.2.2.2.2.2.2.2.2.2.2.2.1)).kept k6 D_.out.2.2.2.2.2.2.2.2.2.2.1, (Blk.later V6.out.2.2.2.2.2.2.2.2.2.2.2.2.2.1 hb (Blk.lt V6.out.2.2.2.2.2.2.2.2.2.2.2.2.2.1)).kept k6 D_.out.2.2.2.2.2.2.2.2.2.2.2.1, (Blk.later V6.out.2.2.2.2.2.2.2.2.2.2.2.2.2.2 hb (Blk.lt V6.out.2.2.2.2.2.2.2.2.2.2.2.2.2.2)).kept k6 D_.out.2.2.2.2.2.2.2.2.2.2.2.2⟩
              obtain ⟨yV7, rfl⟩ : ∃ q, q = y6 := ⟨_, rfl⟩
              clear V6 hb b6 s6 k6 D_ p2 p3 p7 p8 p9
              have H_sx : Hid (Fe sx (((DA + CB) % PR) * ((DA + CB) % PR) % PR)) := F_sx
              have H_sz : Hid (Fe sz (u * (((DA - CB) % PR) * ((DA - CB) % PR) % PR) % PR)) := F_sz
              clear F_sx F_sz
              clear DD_V7
              try simp only [Act.put, List.setIfInBounds_toArray, List.set_cons_zero, List.set_cons_succ]
              go_wp2_with fail
              refine wp_region_noPanic (wp_region_held_drew (S := fun W => Blk W (w.heap.size + 1) 103 (rt rx rz) ∧ Blk W (w.heap.size + 1 + 1) 103 (rt sx sz)) (by kernel_rfl) ⟨(V7.out.2.2.1).drew, (V7.out.2.2.2.1).drew⟩ (fun hH => ?_))
              refine hLoad 0 (some 71) (rt rx rz) rfl rfl (by kernel_rfl) (by kernel_rfl) (by kernel_rfl) (fun _ _ _ h => h) (by rfl) 103 (.tmp 4) rfl (w.heap.size + 1) 0 rfl _ (fun _ h => (h.1).whole) Try.underlying103 rfl (L10.out _ _ H_rx.out.len H_rz.out.len) hH ?_
              simp only [Act.put, List.setIfInBounds_toArray, List.set_cons_zero, List.set_cons_succ]
              refine hLoad 1 (some 72) (rt sx sz) rfl rfl (by kernel_rfl) (by kernel_rfl) (by kernel_rfl) (fun _ _ _ h => h) (by rfl) 103 (.tmp 5) rfl (w.heap.size + 1 + 1) 0 rfl _ (fun _ h => (h.2).whole) Try.underlying103 rfl (L10.out _ _ H_sx.out.len H_sz.out.len) hH ?_
              simp only [Act.put, List.setIfInBounds_toArray, List.set_cons_zero, List.set_cons_succ]
              refine wpAnyH_ready (rs := [2]) (by kernel_rfl) (by simp) (AllReadyH.cons rfl (fun K hK => ?_) AllReadyH.nil)
              rw [if_pos (by rfl)]
              refine last_store 103 (.tmp 6) (.tmp 71) rfl rfl (w.heap.size + 1 + 1 + 1) rfl 103 _ (rt rx rz) rfl (V7.out.2.2.2.2.1).drew (by rw [rt_length H_rx.out.len H_rz.out.len]; rfl) (L10.out _ _ H_rx.out.len H_rz.out.len) (rt_one _ _) ?_
              intro y0 b0 s0 k0
              refine hK.out _ _ ⟨(hH.1).kept k0 (by omega), (hH.2).kept k0 (by omega)⟩ (fun hH => ?_)
              clear hK K
              refine wpAnyH_ready (rs := [3]) (by kernel_rfl) (by simp) (AllReadyH.cons rfl (fun K hK => ?_) AllReadyH.nil)
              rw [if_pos (by rfl)]
              refine last_store 103 (.tmp 7) (.tmp 72) rfl rfl (w.heap.size + 1 + 1 + 1 + 1) rfl 103 _ (rt sx sz) rfl ((V7.out.2.2.2.2.2.1).drew.kept k0 (by omega)) (by rw [rt_length H_sx.out.len H_sz.out.len]; rfl) (L10.out _ _ H_sx.out.len H_sz.out.len) (rt_one _ _) ?_
              intro y1 b1 s1 k1
              refine hK.out _ _ ⟨(hH.1).kept k1 (by omega), (hH.2).kept k1 (by omega)⟩ (fun hH => ?_)
              clear hK K
              refine wpAnyH_done (by kernel_rfl) (NoPanic.normal ?_) _
              clear hH
              go_wp2_with fail
              have q2 := V7.out.1.size
              exact ret_blk2 rfl (w.heap.size + 1 + 1 + 1) (w.heap.size + 1 + 1 + 1 + 1) (rt rx rz) (rt sx sz) _ _ rfl rfl (b0.kept k1 (by omega)) b1 Try.underlying103 Try.underlying103 rfl rfl (L10.out _ _ H_rx.out.len H_rz.out.len) (L10.out _ _ H_sx.out.len H_sz.out.len) rfl ⟨rx, rz, sx, sz, rfl, by
                have t1 := H_rx.out
                have t2 := H_rz.out
                have t3 := H_sx.out
                have t4 := H_sz.out
                rw [← QE.out, ← QAA.out, ← QBB.out, ← QA.out, ← QB.out] at t2
                rw [← QAA.out, ← QBB.out, ← QA.out, ← QB.out] at t1
                rw [← QDA.out, ← QCB.out, ← QA.out, ← QB.out, ← QC.out, ← QD.out] at t3 t4
                exact ⟨t1, t2, t3, t4⟩, below_kept (below_kept (below_dn V7.out.1 1) k0 q2 (fun j hj => by omega)) k1 (by rw [s0]; exact q2) (fun j hj => by omega)⟩
end Go.Proofs.Ytnifolefhelmcaa
