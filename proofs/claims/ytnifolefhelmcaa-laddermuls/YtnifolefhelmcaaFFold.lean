/- Layer field: fold: five sums of products brought down to limbs. -/
import Derived.Test.YtnifolefhelmcaaFWide
import Derived.Test.YtnifolefhelmcaaFCarry
import Derived.Test.YtnifolefhelmcaaRInvT
namespace Go.Proofs.Ytnifolefhelmcaa
open Go.RowKit
set_option linter.unusedVariables false
set_option linter.unusedSimpArgs false

/-- The last operation of a region: one word of a block is written. -/
theorem last_cell {o : Oper} {a : Act} {w : World} {K : Act → World → Prop} {Q : Exit → Act → World → Prop} (x y : Operand) (ho : o.op = .store 24 x y) (hdst : o.dst = none) (b off : Nat) (hx : a.eval x = .pointer (some ⟨b, off, none⟩)) (t : TypeId) (l : List Int) (z : Int) (hy : a.eval y = .int .u64 z) (hb : Blk w b t (u64s l)) (hl : off < l.length)
    (h : ∀ w', Blk w' b t (u64s (l.set off z)) → w'.heap.size = w.heap.size → Kept (fun k => k = b) w w' → K a w') : o.wp Try.prog a w K Q := by
  have hc : w.cell? ⟨b, off, none⟩ = some (.int .u64 l[off]) := by rw [hb.cell, u64s_getD hl]
  have hf := hb.frozen off
  have R := hb.set off (.int .u64 z)
  rw [u64s_set] at R
  have S : (w.setCell ⟨b, off, none⟩ (.int .u64 z)).heap.size = w.heap.size := by simp [World.setCell]
  have h2 := h _ R S ((Kept.refl _ _).setCell (S := fun k => k = b) rfl _)
  unfold Oper.wp execOp
  simp only [ho, hx, hy]
  go_simp
  exact h2
theorem fold_num (r0 r1 r2 r3 r4 : Int) : v5 (r0 % 2251799813685248 + r4 / 2251799813685248 * 19) (r1 % 2251799813685248 + r0 / 2251799813685248) (r2 % 2251799813685248 + r1 / 2251799813685248) (r3 % 2251799813685248 + r2 / 2251799813685248) (r4 % 2251799813685248 + r3 / 2251799813685248) % PR = v5 r0 r1 r2 r3 r4 % PR := by
  unfold v5 PR
  omega
set_option maxRecDepth 20000 in
set_option maxHeartbeats 2000000 in
theorem fold_any (g : Nat) (a b c d e r0 r1 r2 r3 r4 : Int) (w : World) (hB : Blk w g 27 (u64s [a, b, c, d, e])) (h0 : 0 ≤ r0 ∧ r0 < 649037107316853453566312041152512) (h1 : 0 ≤ r1 ∧ r1 < 649037107316853453566312041152512) (h2 : 0 ≤ r2 ∧ r2 < 649037107316853453566312041152512) (h3 : 0 ≤ r3 ∧ r3 < 649037107316853453566312041152512) (h4 : 0 ≤ r4 ∧ r4 < 40564819207303340847894502572032) :
    Calls Try.prog 69 #[.pointer (some ⟨g, 0, none⟩), .agg (u64s (pr r0)).toArray, .agg (u64s (pr r1)).toArray, .agg (u64s (pr r2)).toArray, .agg (u64s (pr r3)).toArray, .agg (u64s (pr r4)).toArray] w fun x w' => x = .returned (.tuple #[]) ∧ (∃ l, Blk w' g 27 (u64s l) ∧ Fe l (v5 r0 r1 r2 r3 r4 % PR)) ∧ Kept (fun k => k = g) w w' := by
  have HC : Hid ((∀ w, Calls Try.prog 90 #[.agg (u64s (pr r0)).toArray] w fun e w' => e = .returned (.int .u64 (r0 % 2251799813685248)) ∧ Below w.heap.size w w') ∧ (∀ w, Calls Try.prog 90 #[.agg (u64s (pr r1)).toArray] w fun e w' => e = .returned (.int .u64 (r1 % 2251799813685248)) ∧ Below w.heap.size w w') ∧ (∀ w, Calls Try.prog 90 #[.agg (u64s (pr r2)).toArray] w fun e w' => e = .returned (.int .u64 (r2 % 2251799813685248)) ∧ Below w.heap.size w w') ∧ (∀ w, Calls Try.prog 90 #[.agg (u64s (pr r3)).toArray] w fun e w' => e = .returned (.int .u64 (r3 % 2251799813685248)) ∧ Below w.heap.size w w') ∧ (∀ w, Calls Try.prog 90 #[.agg (u64s (pr r4)).toArray] w fun e w' => e = .returned (.int .u64 (r4 % 2251799813685248)) ∧ Below w.heap.size w w')) := ⟨frest_any _ (by omega) (by omega), frest_any _ (by omega) (by omega), frest_any _ (by omega) (by omega), frest_any _ (by omega) (by omega), frest_any _ (by omega) (by omega)⟩
  have HO : Hid ((∀ w, Calls Try.prog 91 #[.agg (u64s (pr r0)).toArray] w fun e w' => e = .returned (.int .u64 (r0 / 2251799813685248)) ∧ Below w.heap.size w w') ∧ (∀ w, Calls Try.prog 91 #[.agg (u64s (pr r1)).toArray] w fun e w' => e = .returned (.int .u64 (r1 / 2251799813685248)) ∧ Below w.heap.size w w') ∧ (∀ w, Calls Try.prog 91 #[.agg (u64s (pr r2)).toArray] w fun e w' => e = .returned (.int .u64 (r2 / 2251799813685248)) ∧ Below w.heap.size w w') ∧ (∀ w, Calls Try.prog 91 #[.agg (u64s (pr r3)).toArray] w fun e w' => e = .returned (.int .u64 (r3 / 2251799813685248)) ∧ Below w.heap.size w w') ∧ (∀ w, Calls Try.prog 91 #[.agg (u64s (pr r4)).toArray] w fun e w' => e = .returned (.int .u64 (r4 / 2251799813685248)) ∧ Below w.heap.size w w')) := ⟨fover_any _ (by omega) (by omega), fover_any _ (by omega) (by omega), fover_any _ (by omega) (by omega), fover_any _ (by omega) (by omega), fover_any _ (by omega) (by omega)⟩
  have HR : Hid (Fe (cr (r0 % 2251799813685248 + r4 / 2251799813685248 * 19) (r1 % 2251799813685248 + r0 / 2251799813685248) (r2 % 2251799813685248 + r1 / 2251799813685248) (r3 % 2251799813685248 + r2 / 2251799813685248) (r4 % 2251799813685248 + r3 / 2251799813685248)) (v5 r0 r1 r2 r3 r4 % PR) ∧ (0 ≤ (r0 % 2251799813685248 + r4 / 2251799813685248 * 19) ∧ (r0 % 2251799813685248 + r4 / 2251799813685248 * 19) < 1152921504606846976) ∧ (0 ≤ (r1 % 2251799813685248 + r0 / 2251799813685248) ∧ (r1 % 2251799813685248 + r0 / 2251799813685248) < 1152921504606846976) ∧ (0 ≤ (r2 % 2251799813685248 + r1 / 2251799813685248) ∧ (r2 % 2251799813685248 + r1 / 2251799813685248) < 1152921504606846976) ∧ (0 ≤ (r3 % 2251799813685248 + r2 / 2251799813685248) ∧ (r3 % 2251799813685248 + r2 / 2251799813685248) < 1152921504606846976) ∧ (0 ≤ (r4 % 2251799813685248 + r3 / 2251799813685248) ∧ (r4 % 2251799813685248 + r3 / 2251799813685248) < 1152921504606846976)) := by
    have hh := cr_fe (r0 % 2251799813685248 + r4 / 2251799813685248 * 19) (r1 % 2251799813685248 + r0 / 2251799813685248) (r2 % 2251799813685248 + r1 / 2251799813685248) (r3 % 2251799813685248 + r2 / 2251799813685248) (r4 % 2251799813685248 + r3 / 2251799813685248) (by omega) (by omega) (by omega) (by omega) (by omega)
    rw [fold_num] at hh
    exact ⟨hh, by omega, by omega, by omega, by omega, by omega⟩
  have v0 : IntKind.u64.wrap (r4 / 2251799813685248 * 19) = r4 / 2251799813685248 * 19 := by rw [IntKind.wrap_u64]; omega
  have u0 : IntKind.u64.wrap (r0 % 2251799813685248 + r4 / 2251799813685248 * 19) = (r0 % 2251799813685248 + r4 / 2251799813685248 * 19) := by rw [IntKind.wrap_u64]; omega
  have u1 : IntKind.u64.wrap (r1 % 2251799813685248 + r0 / 2251799813685248) = (r1 % 2251799813685248 + r0 / 2251799813685248) := by rw [IntKind.wrap_u64]; omega
  have u2 : IntKind.u64.wrap (r2 % 2251799813685248 + r1 / 2251799813685248) = (r2 % 2251799813685248 + r1 / 2251799813685248) := by rw [IntKind.wrap_u64]; omega
  have u3 : IntKind.u64.wrap (r3 % 2251799813685248 + r2 / 2251799813685248) = (r3 % 2251799813685248 + r2 / 2251799813685248) := by rw [IntKind.wrap_u64]; omega
  have u4 : IntKind.u64.wrap (r4 % 2251799813685248 + r3 / 2251799813685248) = (r4 % 2251799813685248 + r3 / 2251799813685248) := by rw [IntKind.wrap_u64]; omega
  have HB : Hid (Blk w g 27 (u64s [a, b, c, d, e])) := hB
  have HL : Hid (g < w.heap.size) := hB.lt
  clear hB h0 h1 h2 h3 h4
  go_enter Try.func69, Try.ntmps69
  go_wp2_with (first | (refine wpList_box_new rfl 99 (.tmp 1) rfl (u64s (pr r0)) rfl ?_; intro x1 b1 s1 l1) | (refine wpList_box_new rfl 99 (.tmp 2) rfl (u64s (pr r1)) rfl ?_; intro x2 b2 s2 l2) | (refine wpList_box_new rfl 99 (.tmp 3) rfl (u64s (pr r2)) rfl ?_; intro x3 b3 s3 l3) | (refine wpList_box_new rfl 99 (.tmp 4) rfl (u64s (pr r3)) rfl ?_; intro x4 b4 s4 l4) | (refine wpList_box_new rfl 99 (.tmp 5) rfl (u64s (pr r4)) rfl ?_; intro x5 b5 s5 l5))
  try simp only [Act.put, List.setIfInBounds_toArray, List.set_cons_zero, List.set_cons_succ]
  have hl := HL.out
  have e2 : x1.heap.size = w.heap.size + 1 := s1
  have e3 : x2.heap.size = w.heap.size + 2 := by omega
  have e4 : x3.heap.size = w.heap.size + 3 := by omega
  have e5 : x4.heap.size = w.heap.size + 4 := by omega
  have W0 : Hid (Blk x5 g 27 (u64s [a, b, c, d, e]) ∧ Blk x5 w.heap.size 99 (u64s (pr r0)) ∧ Blk x5 (w.heap.size + 1) 99 (u64s (pr r1)) ∧ Blk x5 (w.heap.size + 2) 99 (u64s (pr r2)) ∧ Blk x5 (w.heap.size + 3) 99 (u64s (pr r3)) ∧ Blk x5 (w.heap.size + 4) 99 (u64s (pr r4)) ∧ Kept (fun k => k = g) w x5) := by
    rw [e2] at b2
    rw [e3] at b3
    rw [e4] at b4
    rw [e5] at b5
    exact ⟨((((HB.out.later l1 (by omega)).later l2 (by omega)).later l3 (by omega)).later l4 (by omega)).later l5 (by omega), (((b1.later l2 (by omega)).later l3 (by omega)).later l4 (by omega)).later l5 (by omega), ((b2.later l3 (by omega)).later l4 (by omega)).later l5 (by omega), (b3.later l4 (by omega)).later l5 (by omega), b4.later l5 (by omega), b5, Kept.new _ (below_chain (below_chain (below_chain (below_chain l1 l2 (by omega)) l3 (by omega)) l4 (by omega)) l5 (by omega))⟩
  rw [e2, e3, e4, e5]
  clear b1 s1 l1 b2 s2 l2 b3 s3 l3 b4 s4 l4 b5 s5 l5 e2 e3 e4 e5
  refine region_invT [.val (.pointer (some ⟨g, 0, none⟩)), .val (.agg (u64s (pr r0)).toArray), .val (.int .u64 (r0 % 2251799813685248)), .val (.agg (u64s (pr r4)).toArray), .val (.int .u64 (r4 / 2251799813685248)), .val (.int .u64 (r4 / 2251799813685248 * 19)), .val (.int .u64 (r0 % 2251799813685248 + r4 / 2251799813685248 * 19)), .val (.pointer (some ⟨g, 0, none⟩)), .val (.pointer (some ⟨g, 0, none⟩)), .val (.pointer (some ⟨g, 0, none⟩))] (by kernel_rfl) (by kernel_rfl) (by kernel_rfl) ?_ ?_
  · refine Steps'.cons ?_ (Steps'.cons ?_ (Steps'.cons ?_ (Steps'.cons ?_ (Steps'.cons ?_ (Steps'.cons ?_ (Steps'.cons ?_ (Steps'.cons ?_ (Steps'.cons ?_ (Steps'.cons ?_ (Steps'.one _ _ _ _ _ _ _))))))))))
    · intro ax wx hb hs hd
      have h0 : ax.tmps.getD 0 undef = (.pointer (some ⟨g, 0, none⟩)) := hs 0 (by kernel_rfl)
      refine Does.value (.pointer (some ⟨g, 0, none⟩)) ?_ rfl
      go_simp
    · intro ax wx hb hs hd
      have h7 : ax.tmps.getD 7 undef = (.pointer (some ⟨w.heap.size, 0, none⟩)) := hs 7 (by kernel_rfl)
      exact Does.load 99 (.tmp 7) rfl w.heap.size 0 h7 (u64s (pr r0)) _ (((Blk.later W0.out.2.1 hb (Blk.lt W0.out.2.1)).whole)) Try.underlying99 rfl sizeWide
    · intro ax wx hb hs hd
      have h13 : ax.tmps.getD 13 undef = (.agg (u64s (pr r0)).toArray) := hd 1 13 rfl (by kernel_rfl) (by decide)
      refine Does.call 90 #[(.agg (u64s (pr r0)).toArray)] (by go_simp) ?_
      refine (HC.out.1 _).mono ?_
      rintro z w' ⟨rfl, l⟩
      exact ⟨_, rfl, rfl, l⟩
    · intro ax wx hb hs hd
      have h11 : ax.tmps.getD 11 undef = (.pointer (some ⟨(w.heap.size + 4), 0, none⟩)) := hs 11 (by kernel_rfl)
      exact Does.load 99 (.tmp 11) rfl (w.heap.size + 4) 0 h11 (u64s (pr r4)) _ (((Blk.later W0.out.2.2.2.2.2.1 hb (Blk.lt W0.out.2.2.2.2.2.1)).whole)) Try.underlying99 rfl sizeWide
    · intro ax wx hb hs hd
      have h15 : ax.tmps.getD 15 undef = (.agg (u64s (pr r4)).toArray) := hd 3 15 rfl (by kernel_rfl) (by decide)
      refine Does.call 91 #[(.agg (u64s (pr r4)).toArray)] (by go_simp) ?_
      refine (HO.out.2.2.2.2 _).mono ?_
      rintro z w' ⟨rfl, l⟩
      exact ⟨_, rfl, rfl, l⟩
    · intro ax wx hb hs hd
      have h16 : ax.tmps.getD 16 undef = (.int .u64 (r4 / 2251799813685248)) := hd 4 16 rfl (by kernel_rfl) (by decide)
      refine Does.value (.int .u64 (r4 / 2251799813685248 * 19)) ?_ rfl
      go_simp
    · intro ax wx hb hs hd
      have h14 : ax.tmps.getD 14 undef = (.int .u64 (r0 % 2251799813685248)) := hd 2 14 rfl (by kernel_rfl) (by decide)
      have h17 : ax.tmps.getD 17 undef = (.int .u64 (r4 / 2251799813685248 * 19)) := hd 5 17 rfl (by kernel_rfl) (by decide)
      refine Does.value (.int .u64 (r0 % 2251799813685248 + r4 / 2251799813685248 * 19)) ?_ rfl
      go_simp
    · intro ax wx hb hs hd
      have h12 : ax.tmps.getD 12 undef = (.pointer (some ⟨g, 0, none⟩)) := hd 0 12 rfl (by kernel_rfl) (by decide)
      refine Does.value (.pointer (some ⟨g, 0, none⟩)) ?_ rfl
      go_simp
    · intro ax wx hb hs hd
      have h19 : ax.tmps.getD 19 undef = (.pointer (some ⟨g, 0, none⟩)) := hd 7 19 rfl (by kernel_rfl) (by decide)
      refine Does.value (.pointer (some ⟨g, 0, none⟩)) ?_ rfl
      go_simp
    · intro ax wx hb hs hd
      have h20 : ax.tmps.getD 20 undef = (.pointer (some ⟨g, 0, none⟩)) := hd 8 20 rfl (by kernel_rfl) (by decide)
      refine Does.value (.pointer (some ⟨g, 0, none⟩)) ?_ rfl
      go_simp
  · intro wx hb
    refine @Ends.val _ _ _ _ _ _ _ _ _ (.pointer (some ⟨g, 0, none⟩)) rfl ?_
    refine @Ends.val _ _ _ _ _ _ _ _ _ (.agg (u64s (pr r0)).toArray) rfl ?_
    refine @Ends.val _ _ _ _ _ _ _ _ _ (.int .u64 (r0 % 2251799813685248)) rfl ?_
    refine @Ends.val _ _ _ _ _ _ _ _ _ (.agg (u64s (pr r4)).toArray) rfl ?_
    refine @Ends.val _ _ _ _ _ _ _ _ _ (.int .u64 (r4 / 2251799813685248)) rfl ?_
    refine @Ends.val _ _ _ _ _ _ _ _ _ (.int .u64 (r4 / 2251799813685248 * 19)) rfl ?_
    refine @Ends.val _ _ _ _ _ _ _ _ _ (.int .u64 (r0 % 2251799813685248 + r4 / 2251799813685248 * 19)) rfl ?_
    refine @Ends.val _ _ _ _ _ _ _ _ _ (.pointer (some ⟨g, 0, none⟩)) rfl ?_
    refine @Ends.val _ _ _ _ _ _ _ _ _ (.pointer (some ⟨g, 0, none⟩)) rfl ?_
    refine @Ends.val _ _ _ _ _ _ _ _ _ (.pointer (some ⟨g, 0, none⟩)) rfl ?_
    refine @Ends.one _ _ _ _ _ _ _ ?_
    simp only [Act.put, List.setIfInBounds_toArray, List.set_cons_zero, List.set_cons_succ]
    refine last_cell (.tmp 21) (.tmp 18) rfl rfl g 0 rfl 27 [a, b, c, d, e] (r0 % 2251799813685248 + r4 / 2251799813685248 * 19) rfl (Blk.later W0.out.1 hb (Blk.lt W0.out.1)) (by simp) ?_
    intro y n1 n2 n3
    simp only [List.set_cons_zero, List.set_cons_succ] at n1
    have W1 : Hid (Blk y g 27 (u64s [(r0 % 2251799813685248 + r4 / 2251799813685248 * 19), b, c, d, e]) ∧ Blk y w.heap.size 99 (u64s (pr r0)) ∧ Blk y (w.heap.size + 1) 99 (u64s (pr r1)) ∧ Blk y (w.heap.size + 2) 99 (u64s (pr r2)) ∧ Blk y (w.heap.size + 3) 99 (u64s (pr r3)) ∧ Blk y (w.heap.size + 4) 99 (u64s (pr r4)) ∧ Kept (fun k => k = g) w y) := ⟨n1, (Blk.later W0.out.2.1 hb (Blk.lt W0.out.2.1)).kept n3 (by omega), (Blk.later W0.out.2.2.1 hb (Blk.lt W0.out.2.2.1)).kept n3 (by omega), (Blk.later W0.out.2.2.2.1 hb (Blk.lt W0.out.2.2.2.1)).kept n3 (by omega), (Blk.later W0.out.2.2.2.2.1 hb (Blk.lt W0.out.2.2.2.2.1)).kept n3 (by omega), (Blk.later W0.out.2.2.2.2.2.1 hb (Blk.lt W0.out.2.2.2.2.2.1)).kept n3 (by omega), W0.out.2.2.2.2.2.2.trans ((Kept.new _ hb).trans n3)⟩
    obtain ⟨y0, rfl⟩ : ∃ q, q = y := ⟨_, rfl⟩
    clear W0 n1 n2 n3 hb
    go_wp2_with fail
    refine region_invT [.val (.pointer (some ⟨g, 0, none⟩)), .val (.agg (u64s (pr r1)).toArray), .val (.int .u64 (r1 % 2251799813685248)), .val (.agg (u64s (pr r0)).toArray), .val (.int .u64 (r0 / 2251799813685248)), .val (.int .u64 (r1 % 2251799813685248 + r0 / 2251799813685248)), .val (.pointer (some ⟨g, 0, none⟩)), .val (.pointer (some ⟨g, 0, none⟩)), .val (.pointer (some ⟨g, 1, none⟩))] (by kernel_rfl) (by kernel_rfl) (by kernel_rfl) ?_ ?_
    · refine Steps'.cons ?_ (Steps'.cons ?_ (Steps'.cons ?_ (Steps'.cons ?_ (Steps'.cons ?_ (Steps'.cons ?_ (Steps'.cons ?_ (Steps'.cons ?_ (Steps'.cons ?_ (Steps'.one _ _ _ _ _ _ _)))))))))
      · intro ax wx hb hs hd
        have h0 : ax.tmps.getD 0 undef = (.pointer (some ⟨g, 0, none⟩)) := hs 0 (by kernel_rfl)
        refine Does.value (.pointer (some ⟨g, 0, none⟩)) ?_ rfl
        go_simp
      · intro ax wx hb hs hd
        have h8 : ax.tmps.getD 8 undef = (.pointer (some ⟨(w.heap.size + 1), 0, none⟩)) := hs 8 (by kernel_rfl)
        exact Does.load 99 (.tmp 8) rfl (w.heap.size + 1) 0 h8 (u64s (pr r1)) _ (((Blk.later W1.out.2.2.1 hb (Blk.lt W1.out.2.2.1)).whole)) Try.underlying99 rfl sizeWide
      · intro ax wx hb hs hd
        have h23 : ax.tmps.getD 23 undef = (.agg (u64s (pr r1)).toArray) := hd 1 23 rfl (by kernel_rfl) (by decide)
        refine Does.call 90 #[(.agg (u64s (pr r1)).toArray)] (by go_simp) ?_
        refine (HC.out.2.1 _).mono ?_
        rintro z w' ⟨rfl, l⟩
        exact ⟨_, rfl, rfl, l⟩
      · intro ax wx hb hs hd
        have h7 : ax.tmps.getD 7 undef = (.pointer (some ⟨w.heap.size, 0, none⟩)) := hs 7 (by kernel_rfl)
        exact Does.load 99 (.tmp 7) rfl w.heap.size 0 h7 (u64s (pr r0)) _ (((Blk.later W1.out.2.1 hb (Blk.lt W1.out.2.1)).whole)) Try.underlying99 rfl sizeWide
      · intro ax wx hb hs hd
        have h25 : ax.tmps.getD 25 undef = (.agg (u64s (pr r0)).toArray) := hd 3 25 rfl (by kernel_rfl) (by decide)
        refine Does.call 91 #[(.agg (u64s (pr r0)).toArray)] (by go_simp) ?_
        refine (HO.out.1 _).mono ?_
        rintro z w' ⟨rfl, l⟩
        exact ⟨_, rfl, rfl, l⟩
      · intro ax wx hb hs hd
        have h24 : ax.tmps.getD 24 undef = (.int .u64 (r1 % 2251799813685248)) := hd 2 24 rfl (by kernel_rfl) (by decide)
        have h26 : ax.tmps.getD 26 undef = (.int .u64 (r0 / 2251799813685248)) := hd 4 26 rfl (by kernel_rfl) (by decide)
        refine Does.value (.int .u64 (r1 % 2251799813685248 + r0 / 2251799813685248)) ?_ rfl
        go_simp
      · intro ax wx hb hs hd
        have h22 : ax.tmps.getD 22 undef = (.pointer (some ⟨g, 0, none⟩)) := hd 0 22 rfl (by kernel_rfl) (by decide)
        refine Does.value (.pointer (some ⟨g, 0, none⟩)) ?_ rfl
        go_simp
      · intro ax wx hb hs hd
        have h28 : ax.tmps.getD 28 undef = (.pointer (some ⟨g, 0, none⟩)) := hd 6 28 rfl (by kernel_rfl) (by decide)
        refine Does.value (.pointer (some ⟨g, 0, none⟩)) ?_ rfl
        go_simp
      · intro ax wx hb hs hd
        have h29 : ax.tmps.getD 29 undef = (.pointer (some ⟨g, 0, none⟩)) := hd 7 29 rfl (by kernel_rfl) (by decide)
        refine Does.value (.pointer (some ⟨g, 1, none⟩)) ?_ rfl
        go_simp
    · intro wx hb
      refine @Ends.val _ _ _ _ _ _ _ _ _ (.pointer (some ⟨g, 0, none⟩)) rfl ?_
      refine @Ends.val _ _ _ _ _ _ _ _ _ (.agg (u64s (pr r1)).toArray) rfl ?_
      refine @Ends.val _ _ _ _ _ _ _ _ _ (.int .u64 (r1 % 2251799813685248)) rfl ?_
      refine @Ends.val _ _ _ _ _ _ _ _ _ (.agg (u64s (pr r0)).toArray) rfl ?_
      refine @Ends.val _ _ _ _ _ _ _ _ _ (.int .u64 (r0 / 2251799813685248)) rfl ?_
      refine @Ends.val _ _ _ _ _ _ _ _ _ (.int .u64 (r1 % 2251799813685248 + r0 / 2251799813685248)) rfl ?_
      refine @Ends.val _ _ _ _ _ _ _ _ _ (.pointer (some ⟨g, 0, none⟩)) rfl ?_
      refine @Ends.val _ _ _ _ _ _ _ _ _ (.pointer (some ⟨g, 0, none⟩)) rfl ?_
      refine @Ends.val _ _ _ _ _ _ _ _ _ (.pointer (some ⟨g, 1, none⟩)) rfl ?_
      refine @Ends.one _ _ _ _ _ _ _ ?_
      simp only [Act.put, List.setIfInBounds_toArray, List.set_cons_zero, List.set_cons_succ]
      refine last_cell (.tmp 30) (.tmp 27) rfl rfl g 1 rfl 27 [(r0 % 2251799813685248 + r4 / 2251799813685248 * 19), b, c, d, e] (r1 % 2251799813685248 + r0 / 2251799813685248) rfl (Blk.later W1.out.1 hb (Blk.lt W1.out.1)) (by simp) ?_
      intro y n1 n2 n3
      simp only [List.set_cons_zero, List.set_cons_succ] at n1
      have W2 : Hid (Blk y g 27 (u64s [(r0 % 2251799813685248 + r4 / 2251799813685248 * 19), (r1 % 2251799813685248 + r0 / 2251799813685248), c, d, e]) ∧ Blk y w.heap.size 99 (u64s (pr r0)) ∧ Blk y (w.heap.size + 1) 99 (u64s (pr r1)) ∧ Blk y (w.heap.size + 2) 99 (u64s (pr r2)) ∧ Blk y (w.heap.size + 3) 99 (u64s (pr r3)) ∧ Blk y (w.heap.size + 4) 99 (u64s (pr r4)) ∧ Kept (fun k => k = g) w y) := ⟨n1, (Blk.later W1.out.2.1 hb (Blk.lt W1.out.2.1)).kept n3 (by omega), (Blk.later W1.out.2.2.1 hb (Blk.lt W1.out.2.2.1)).kept n3 (by omega), (Blk.later W1.out.2.2.2.1 hb (Blk.lt W1.out.2.2.2.1)).kept n3 (by omega), (Blk.later W1.out.2.2.2.2.1 hb (Blk.lt W1.out.2.2.2.2.1)).kept n3 (by omega), (Blk.later W1.out.2.2.2.2.2.1 hb (Blk.lt W1.out.2.2.2.2.2.1)).kept n3 (by omega), W1.out.2.2.2.2.2.2.trans ((Kept.new _ hb).trans n3)⟩
      obtain ⟨y1, rfl⟩ : ∃ q, q = y := ⟨_, rfl⟩
      clear W1 n1 n2 n3 hb
      go_wp2_with fail
      refine region_invT [.val (.pointer (some ⟨g, 0, none⟩)), .val (.agg (u64s (pr r2)).toArray), .val (.int .u64 (r2 % 2251799813685248)), .val (.agg (u64s (pr r1)).toArray), .val (.int .u64 (r1 / 2251799813685248)), .val (.int .u64 (r2 % 2251799813685248 + r1 / 2251799813685248)), .val (.pointer (some ⟨g, 0, none⟩)), .val (.pointer (some ⟨g, 0, none⟩)), .val (.pointer (some ⟨g, 2, none⟩))] (by kernel_rfl) (by kernel_rfl) (by kernel_rfl) ?_ ?_
      · refine Steps'.cons ?_ (Steps'.cons ?_ (Steps'.cons ?_ (Steps'.cons ?_ (Steps'.cons ?_ (Steps'.cons ?_ (Steps'.cons ?_ (Steps'.cons ?_ (Steps'.cons ?_ (Steps'.one _ _ _ _ _ _ _)))))))))
        · intro ax wx hb hs hd
          have h0 : ax.tmps.getD 0 undef = (.pointer (some ⟨g, 0, none⟩)) := hs 0 (by kernel_rfl)
          refine Does.value (.pointer (some ⟨g, 0, none⟩)) ?_ rfl
          go_simp
        · intro ax wx hb hs hd
          have h9 : ax.tmps.getD 9 undef = (.pointer (some ⟨(w.heap.size + 2), 0, none⟩)) := hs 9 (by kernel_rfl)
          exact Does.load 99 (.tmp 9) rfl (w.heap.size + 2) 0 h9 (u64s (pr r2)) _ (((Blk.later W2.out.2.2.2.1 hb (Blk.lt W2.out.2.2.2.1)).whole)) Try.underlying99 rfl sizeWide
        · intro ax wx hb hs hd
          have h32 : ax.tmps.getD 32 undef = (.agg (u64s (pr r2)).toArray) := hd 1 32 rfl (by kernel_rfl) (by decide)
          refine Does.call 90 #[(.agg (u64s (pr r2)).toArray)] (by go_simp) ?_
          refine (HC.out.2.2.1 _).mono ?_
          rintro z w' ⟨rfl, l⟩
          exact ⟨_, rfl, rfl, l⟩
        · intro ax wx hb hs hd
          have h8 : ax.tmps.getD 8 undef = (.pointer (some ⟨(w.heap.size + 1), 0, none⟩)) := hs 8 (by kernel_rfl)
          exact Does.load 99 (.tmp 8) rfl (w.heap.size + 1) 0 h8 (u64s (pr r1)) _ (((Blk.later W2.out.2.2.1 hb (Blk.lt W2.out.2.2.1)).whole)) Try.underlying99 rfl sizeWide
        · intro ax wx hb hs hd
          have h34 : ax.tmps.getD 34 undef = (.agg (u64s (pr r1)).toArray) := hd 3 34 rfl (by kernel_rfl) (by decide)
          refine Does.call 91 #[(.agg (u64s (pr r1)).toArray)] (by go_simp) ?_
          refine (HO.out.2.1 _).mono ?_
          rintro z w' ⟨rfl, l⟩
          exact ⟨_, rfl, rfl, l⟩
        · intro ax wx hb hs hd
          have h33 : ax.tmps.getD 33 undef = (.int .u64 (r2 % 2251799813685248)) := hd 2 33 rfl (by kernel_rfl) (by decide)
          have h35 : ax.tmps.getD 35 undef = (.int .u64 (r1 / 2251799813685248)) := hd 4 35 rfl (by kernel_rfl) (by decide)
          refine Does.value (.int .u64 (r2 % 2251799813685248 + r1 / 2251799813685248)) ?_ rfl
          go_simp
        · intro ax wx hb hs hd
          have h31 : ax.tmps.getD 31 undef = (.pointer (some ⟨g, 0, none⟩)) := hd 0 31 rfl (by kernel_rfl) (by decide)
          refine Does.value (.pointer (some ⟨g, 0, none⟩)) ?_ rfl
          go_simp
        · intro ax wx hb hs hd
          have h37 : ax.tmps.getD 37 undef = (.pointer (some ⟨g, 0, none⟩)) := hd 6 37 rfl (by kernel_rfl) (by decide)
          refine Does.value (.pointer (some ⟨g, 0, none⟩)) ?_ rfl
          go_simp
        · intro ax wx hb hs hd
          have h38 : ax.tmps.getD 38 undef = (.pointer (some ⟨g, 0, none⟩)) := hd 7 38 rfl (by kernel_rfl) (by decide)
          refine Does.value (.pointer (some ⟨g, 2, none⟩)) ?_ rfl
          go_simp
      · intro wx hb
        refine @Ends.val _ _ _ _ _ _ _ _ _ (.pointer (some ⟨g, 0, none⟩)) rfl ?_
        refine @Ends.val _ _ _ _ _ _ _ _ _ (.agg (u64s (pr r2)).toArray) rfl ?_
        refine @Ends.val _ _ _ _ _ _ _ _ _ (.int .u64 (r2 % 2251799813685248)) rfl ?_
        refine @Ends.val _ _ _ _ _ _ _ _ _ (.agg (u64s (pr r1)).toArray) rfl ?_
        refine @Ends.val _ _ _ _ _ _ _ _ _ (.int .u64 (r1 / 2251799813685248)) rfl ?_
        refine @Ends.val _ _ _ _ _ _ _ _ _ (.int .u64 (r2 % 2251799813685248 + r1 / 2251799813685248)) rfl ?_
        refine @Ends.val _ _ _ _ _ _ _ _ _ (.pointer (some ⟨g, 0, none⟩)) rfl ?_
        refine @Ends.val _ _ _ _ _ _ _ _ _ (.pointer (some ⟨g, 0, none⟩)) rfl ?_
        refine @Ends.val _ _ _ _ _ _ _ _ _ (.pointer (some ⟨g, 2, none⟩)) rfl ?_
        refine @Ends.one _ _ _ _ _ _ _ ?_
        simp only [Act.put, List.setIfInBounds_toArray, List.set_cons_zero, List.set_cons_succ]
        refine last_cell (.tmp 39) (.tmp 36) rfl rfl g 2 rfl 27 [(r0 % 2251799813685248 + r4 / 2251799813685248 * 19), (r1 % 2251799813685248 + r0 / 2251799813685248), c, d, e] (r2 % 2251799813685248 + r1 / 2251799813685248) rfl (Blk.later W2.out.1 hb (Blk.lt W2.out.1)) (by simp) ?_
        intro y n1 n2 n3
        simp only [List.set_cons_zero, List.set_cons_succ] at n1
        have W3 : Hid (Blk y g 27 (u64s [(r0 % 2251799813685248 + r4 / 2251799813685248 * 19), (r1 % 2251799813685248 + r0 / 2251799813685248), (r2 % 2251799813685248 + r1 / 2251799813685248), d, e]) ∧ Blk y w.heap.size 99 (u64s (pr r0)) ∧ Blk y (w.heap.size + 1) 99 (u64s (pr r1)) ∧ Blk y (w.heap.size + 2) 99 (u64s (pr r2)) ∧ Blk y (w.heap.size + 3) 99 (u64s (pr r3)) ∧ Blk y (w.heap.size + 4) 99 (u64s (pr r4)) ∧ Kept (fun k => k = g) w y) := ⟨n1, (Blk.later W2.out.2.1 hb (Blk.lt W2.out.2.1)).kept n3 (by omega), (Blk.later W2.out.2.2.1 hb (Blk.lt W2.out.2.2.1)).kept n3 (by omega), (Blk.later W2.out.2.2.2.1 hb (Blk.lt W2.out.2.2.2.1)).kept n3 (by omega), (Blk.later W2.out.2.2.2.2.1 hb (Blk.lt W2.out.2.2.2.2.1)).kept n3 (by omega), (Blk.later W2.out.2.2.2.2.2.1 hb (Blk.lt W2.out.2.2.2.2.2.1)).kept n3 (by omega), W2.out.2.2.2.2.2.2.trans ((Kept.new _ hb).trans n3)⟩
        obtain ⟨y2, rfl⟩ : ∃ q, q = y := ⟨_, rfl⟩
        clear W2 n1 n2 n3 hb
        go_wp2_with fail
        refine region_invT [.val (.pointer (some ⟨g, 0, none⟩)), .val (.agg (u64s (pr r3)).toArray), .val (.int .u64 (r3 % 2251799813685248)), .val (.agg (u64s (pr r2)).toArray), .val (.int .u64 (r2 / 2251799813685248)), .val (.int .u64 (r3 % 2251799813685248 + r2 / 2251799813685248)), .val (.pointer (some ⟨g, 0, none⟩)), .val (.pointer (some ⟨g, 0, none⟩)), .val (.pointer (some ⟨g, 3, none⟩))] (by kernel_rfl) (by kernel_rfl) (by kernel_rfl) ?_ ?_
        · refine Steps'.cons ?_ (Steps'.cons ?_ (Steps'.cons ?_ (Steps'.cons ?_ (Steps'.cons ?_ (Steps'.cons ?_ (Steps'.cons ?_ (Steps'.cons ?_ (Steps'.cons ?_ (Steps'.one _ _ _ _ _ _ _)))))))))
          · intro ax wx hb hs hd
            have h0 : ax.tmps.getD 0 undef = (.pointer (some ⟨g, 0, none⟩)) := hs 0 (by kernel_rfl)
            refine Does.value (.pointer (some ⟨g, 0, none⟩)) ?_ rfl
            go_simp
          · intro ax wx hb hs hd
            have h10 : ax.tmps.getD 10 undef = (.pointer (some ⟨(w.heap.size + 3), 0, none⟩)) := hs 10 (by kernel_rfl)
            exact Does.load 99 (.tmp 10) rfl (w.heap.size + 3) 0 h10 (u64s (pr r3)) _ (((Blk.later W3.out.2.2.2.2.1 hb (Blk.lt W3.out.2.2.2.2.1)).whole)) Try.underlying99 rfl sizeWide
          · intro ax wx hb hs hd
            have h41 : ax.tmps.getD 41 undef = (.agg (u64s (pr r3)).toArray) := hd 1 41 rfl (by kernel_rfl) (by decide)
            refine Does.call 90 #[(.agg (u64s (pr r3)).toArray)] (by go_simp) ?_
            refine (HC.out.2.2.2.1 _).mono ?_
            rintro z w' ⟨rfl, l⟩
            exact ⟨_, rfl, rfl, l⟩
          · intro ax wx hb hs hd
            have h9 : ax.tmps.getD 9 undef = (.pointer (some ⟨(w.heap.size + 2), 0, none⟩)) := hs 9 (by kernel_rfl)
            exact Does.load 99 (.tmp 9) rfl (w.heap.size + 2) 0 h9 (u64s (pr r2)) _ (((Blk.later W3.out.2.2.2.1 hb (Blk.lt W3.out.2.2.2.1)).whole)) Try.underlying99 rfl sizeWide
          · intro ax wx hb hs hd
            have h43 : ax.tmps.getD 43 undef = (.agg (u64s (pr r2)).toArray) := hd 3 43 rfl (by kernel_rfl) (by decide)
            refine Does.call 91 #[(.agg (u64s (pr r2)).toArray)] (by go_simp) ?_
            refine (HO.out.2.2.1 _).mono ?_
            rintro z w' ⟨rfl, l⟩
            exact ⟨_, rfl, rfl, l⟩
          · intro ax wx hb hs hd
            have h42 : ax.tmps.getD 42 undef = (.int .u64 (r3 % 2251799813685248)) := hd 2 42 rfl (by kernel_rfl) (by decide)
            have h44 : ax.tmps.getD 44 undef = (.int .u64 (r2 / 2251799813685248)) := hd 4 44 rfl (by kernel_rfl) (by decide)
            refine Does.value (.int .u64 (r3 % 2251799813685248 + r2 / 2251799813685248)) ?_ rfl
            go_simp
          · intro ax wx hb hs hd
            have h40 : ax.tmps.getD 40 undef = (.pointer (some ⟨g, 0, none⟩)) := hd 0 40 rfl (by kernel_rfl) (by decide)
            refine Does.value (.pointer (some ⟨g, 0, none⟩)) ?_ rfl
            go_simp
          · intro ax wx hb hs hd
            have h46 : ax.tmps.getD 46 undef = (.pointer (some ⟨g, 0, none⟩)) := hd 6 46 rfl (by kernel_rfl) (by decide)
            refine Does.value (.pointer (some ⟨g, 0, none⟩)) ?_ rfl
            go_simp
          · intro ax wx hb hs hd
            have h47 : ax.tmps.getD 47 undef = (.pointer (some ⟨g, 0, none⟩)) := hd 7 47 rfl (by kernel_rfl) (by decide)
            refine Does.value (.pointer (some ⟨g, 3, none⟩)) ?_ rfl
            go_simp
        · intro wx hb
          refine @Ends.val _ _ _ _ _ _ _ _ _ (.pointer (some ⟨g, 0, none⟩)) rfl ?_
          refine @Ends.val _ _ _ _ _ _ _ _ _ (.agg (u64s (pr r3)).toArray) rfl ?_
          refine @Ends.val _ _ _ _ _ _ _ _ _ (.int .u64 (r3 % 2251799813685248)) rfl ?_
          refine @Ends.val _ _ _ _ _ _ _ _ _ (.agg (u64s (pr r2)).toArray) rfl ?_
          refine @Ends.val _ _ _ _ _ _ _ _ _ (.int .u64 (r2 / 2251799813685248)) rfl ?_
          refine @Ends.val _ _ _ _ _ _ _ _ _ (.int .u64 (r3 % 2251799813685248 + r2 / 2251799813685248)) rfl ?_
          refine @Ends.val _ _ _ _ _ _ _ _ _ (.pointer (some ⟨g, 0, none⟩)) rfl ?_
          refine @Ends.val _ _ _ _ _ _ _ _ _ (.pointer (some ⟨g, 0, none⟩)) rfl ?_
          refine @Ends.val _ _ _ _ _ _ _ _ _ (.pointer (some ⟨g, 3, none⟩)) rfl ?_
          refine @Ends.one _ _ _ _ _ _ _ ?_
          simp only [Act.put, List.setIfInBounds_toArray, List.set_cons_zero, List.set_cons_succ]
          refine last_cell (.tmp 48) (.tmp 45) rfl rfl g 3 rfl 27 [(r0 % 2251799813685248 + r4 / 2251799813685248 * 19), (r1 % 2251799813685248 + r0 / 2251799813685248), (r2 % 2251799813685248 + r1 / 2251799813685248), d, e] (r3 % 2251799813685248 + r2 / 2251799813685248) rfl (Blk.later W3.out.1 hb (Blk.lt W3.out.1)) (by simp) ?_
          intro y n1 n2 n3
          simp only [List.set_cons_zero, List.set_cons_succ] at n1
          have W4 : Hid (Blk y g 27 (u64s [(r0 % 2251799813685248 + r4 / 2251799813685248 * 19), (r1 % 2251799813685248 + r0 / 2251799813685248), (r2 % 2251799813685248 + r1 / 2251799813685248), (r3 % 2251799813685248 + r2 / 2251799813685248), e]) ∧ Blk y w.heap.size 99 (u64s (pr r0)) ∧ Blk y (w.heap.size + 1) 99 (u64s (pr r1)) ∧ Blk y (w.heap.size + 2) 99 (u64s (pr r2)) ∧ Blk y (w.heap.size + 3) 99 (u64s (pr r3)) ∧ Blk y (w.heap.size + 4) 99 (u64s (pr r4)) ∧ Kept (fun k => k = g) w y) := ⟨n1, (Blk.later W3.out.2.1 hb (Blk.lt W3.out.2.1)).kept n3 (by omega), (Blk.later W3.out.2.2.1 hb (Blk.lt W3.out.2.2.1)).kept n3 (by omega), (Blk.later W3.out.2.2.2.1 hb (Blk.lt W3.out.2.2.2.1)).kept n3 (by omega), (Blk.later W3.out.2.2.2.2.1 hb (Blk.lt W3.out.2.2.2.2.1)).kept n3 (by omega), (Blk.later W3.out.2.2.2.2.2.1 hb (Blk.lt W3.out.2.2.2.2.2.1)).kept n3 (by omega), W3.out.2.2.2.2.2.2.trans ((Kept.new _ hb).trans n3)⟩
          obtain ⟨y3, rfl⟩ : ∃ q, q = y := ⟨_, rfl⟩
          clear W3 n1 n2 n3 hb
          go_wp2_with fail
          refine region_invT [.val (.pointer (some ⟨g, 0, none⟩)), .val (.agg (u64s (pr r4)).toArray), .val (.int .u64 (r4 % 2251799813685248)), .val (.agg (u64s (pr r3)).toArray), .val (.int .u64 (r3 / 2251799813685248)), .val (.int .u64 (r4 % 2251799813685248 + r3 / 2251799813685248)), .val (.pointer (some ⟨g, 0, none⟩)), .val (.pointer (some ⟨g, 0, none⟩)), .val (.pointer (some ⟨g, 4, none⟩))] (by kernel_rfl) (by kernel_rfl) (by kernel_rfl) ?_ ?_
          · refine Steps'.cons ?_ (Steps'.cons ?_ (Steps'.cons ?_ (Steps'.cons ?_ (Steps'.cons ?_ (Steps'.cons ?_ (Steps'.cons ?_ (Steps'.cons ?_ (Steps'.cons ?_ (Steps'.one _ _ _ _ _ _ _)))))))))
            · intro ax wx hb hs hd
              have h0 : ax.tmps.getD 0 undef = (.pointer (some ⟨g, 0, none⟩)) := hs 0 (by kernel_rfl)
              refine Does.value (.pointer (some ⟨g, 0, none⟩)) ?_ rfl
              go_simp
            · intro ax wx hb hs hd
              have h11 : ax.tmps.getD 11 undef = (.pointer (some ⟨(w.heap.size + 4), 0, none⟩)) := hs 11 (by kernel_rfl)
              exact Does.load 99 (.tmp 11) rfl (w.heap.size + 4) 0 h11 (u64s (pr r4)) _ (((Blk.later W4.out.2.2.2.2.2.1 hb (Blk.lt W4.out.2.2.2.2.2.1)).whole)) Try.underlying99 rfl sizeWide
            · intro ax wx hb hs hd
              have h50 : ax.tmps.getD 50 undef = (.agg (u64s (pr r4)).toArray) := hd 1 50 rfl (by kernel_rfl) (by decide)
              refine Does.call 90 #[(.agg (u64s (pr r4)).toArray)] (by go_simp) ?_
              refine (HC.out.2.2.2.2 _).mono ?_
              rintro z w' ⟨rfl, l⟩
              exact ⟨_, rfl, rfl, l⟩
            · intro ax wx hb hs hd
              have h10 : ax.tmps.getD 10 undef = (.pointer (some ⟨(w.heap.size + 3), 0, none⟩)) := hs 10 (by kernel_rfl)
              exact Does.load 99 (.tmp 10) rfl (w.heap.size + 3) 0 h10 (u64s (pr r3)) _ (((Blk.later W4.out.2.2.2.2.1 hb (Blk.lt W4.out.2.2.2.2.1)).whole)) Try.underlying99 rfl sizeWide
            · intro ax wx hb hs hd
              have h52 : ax.tmps.getD 52 undef = (.agg (u64s (pr r3)).toArray) := hd 3 52 rfl (by kernel_rfl) (by decide)
              refine Does.call 91 #[(.agg (u64s (pr r3)).toArray)] (by go_simp) ?_
              refine (HO.out.2.2.2.1 _).mono ?_
              rintro z w' ⟨rfl, l⟩
              exact ⟨_, rfl, rfl, l⟩
            · intro ax wx hb hs hd
              have h51 : ax.tmps.getD 51 undef = (.int .u64 (r4 % 2251799813685248)) := hd 2 51 rfl (by kernel_rfl) (by decide)
              have h53 : ax.tmps.getD 53 undef = (.int .u64 (r3 / 2251799813685248)) := hd 4 53 rfl (by kernel_rfl) (by decide)
              refine Does.value (.int .u64 (r4 % 2251799813685248 + r3 / 2251799813685248)) ?_ rfl
              go_simp
            · intro ax wx hb hs hd
              have h49 : ax.tmps.getD 49 undef = (.pointer (some ⟨g, 0, none⟩)) := hd 0 49 rfl (by kernel_rfl) (by decide)
              refine Does.value (.pointer (some ⟨g, 0, none⟩)) ?_ rfl
              go_simp
            · intro ax wx hb hs hd
              have h55 : ax.tmps.getD 55 undef = (.pointer (some ⟨g, 0, none⟩)) := hd 6 55 rfl (by kernel_rfl) (by decide)
              refine Does.value (.pointer (some ⟨g, 0, none⟩)) ?_ rfl
              go_simp
            · intro ax wx hb hs hd
              have h56 : ax.tmps.getD 56 undef = (.pointer (some ⟨g, 0, none⟩)) := hd 7 56 rfl (by kernel_rfl) (by decide)
              refine Does.value (.pointer (some ⟨g, 4, none⟩)) ?_ rfl
              go_simp
          · intro wx hb
            refine @Ends.val _ _ _ _ _ _ _ _ _ (.pointer (some ⟨g, 0, none⟩)) rfl ?_
            refine @Ends.val _ _ _ _ _ _ _ _ _ (.agg (u64s (pr r4)).toArray) rfl ?_
            refine @Ends.val _ _ _ _ _ _ _ _ _ (.int .u64 (r4 % 2251799813685248)) rfl ?_
            refine @Ends.val _ _ _ _ _ _ _ _ _ (.agg (u64s (pr r3)).toArray) rfl ?_
            refine @Ends.val _ _ _ _ _ _ _ _ _ (.int .u64 (r3 / 2251799813685248)) rfl ?_
            refine @Ends.val _ _ _ _ _ _ _ _ _ (.int .u64 (r4 % 2251799813685248 + r3 / 2251799813685248)) rfl ?_
            refine @Ends.val _ _ _ _ _ _ _ _ _ (.pointer (some ⟨g, 0, none⟩)) rfl ?_
            refine @Ends.val _ _ _ _ _ _ _ _ _ (.pointer (some ⟨g, 0, none⟩)) rfl ?_
            refine @Ends.val _ _ _ _ _ _ _ _ _ (.pointer (some ⟨g, 4, none⟩)) rfl ?_
            refine @Ends.one _ _ _ _ _ _ _ ?_
            simp only [Act.put, List.setIfInBounds_toArray, List.set_cons_zero, List.set_cons_succ]
            refine last_cell (.tmp 57) (.tmp 54) rfl rfl g 4 rfl 27 [(r0 % 2251799813685248 + r4 / 2251799813685248 * 19), (r1 % 2251799813685248 + r0 / 2251799813685248), (r2 % 2251799813685248 + r1 / 2251799813685248), (r3 % 2251799813685248 + r2 / 2251799813685248), e] (r4 % 2251799813685248 + r3 / 2251799813685248) rfl (Blk.later W4.out.1 hb (Blk.lt W4.out.1)) (by simp) ?_
            intro y n1 n2 n3
            simp only [List.set_cons_zero, List.set_cons_succ] at n1
            have W5 : Hid (Blk y g 27 (u64s [(r0 % 2251799813685248 + r4 / 2251799813685248 * 19), (r1 % 2251799813685248 + r0 / 2251799813685248), (r2 % 2251799813685248 + r1 / 2251799813685248), (r3 % 2251799813685248 + r2 / 2251799813685248), (r4 % 2251799813685248 + r3 / 2251799813685248)]) ∧ Blk y w.heap.size 99 (u64s (pr r0)) ∧ Blk y (w.heap.size + 1) 99 (u64s (pr r1)) ∧ Blk y (w.heap.size + 2) 99 (u64s (pr r2)) ∧ Blk y (w.heap.size + 3) 99 (u64s (pr r3)) ∧ Blk y (w.heap.size + 4) 99 (u64s (pr r4)) ∧ Kept (fun k => k = g) w y) := ⟨n1, (Blk.later W4.out.2.1 hb (Blk.lt W4.out.2.1)).kept n3 (by omega), (Blk.later W4.out.2.2.1 hb (Blk.lt W4.out.2.2.1)).kept n3 (by omega), (Blk.later W4.out.2.2.2.1 hb (Blk.lt W4.out.2.2.2.1)).kept n3 (by omega), (Blk.later W4.out.2.2.2.2.1 hb (Blk.lt W4.out.2.2.2.2.1)).kept n3 (by omega), (Blk.later W4.out.2.2.2.2.2.1 hb (Blk.lt W4.out.2.2.2.2.2.1)).kept n3 (by omega), W4.out.2.2.2.2.2.2.trans ((Kept.new _ hb).trans n3)⟩
            obtain ⟨y4, rfl⟩ : ∃ q, q = y := ⟨_, rfl⟩
            clear W4 n1 n2 n3 hb
            go_wp2_with (go_at_call 68; refine (carry_any g (r0 % 2251799813685248 + r4 / 2251799813685248 * 19) (r1 % 2251799813685248 + r0 / 2251799813685248) (r2 % 2251799813685248 + r1 / 2251799813685248) (r3 % 2251799813685248 + r2 / 2251799813685248) (r4 % 2251799813685248 + r3 / 2251799813685248) _ W5.out.1 HR.out.2.1 HR.out.2.2.1 HR.out.2.2.2.1 HR.out.2.2.2.2.1 HR.out.2.2.2.2.2).mono ?_; rintro z w' ⟨rfl, q1, q2⟩)
            go_end0
            exact ⟨rfl, ⟨_, q1, HR.out.1⟩, W5.out.2.2.2.2.2.2.trans q2⟩
end Go.Proofs.Ytnifolefhelmcaa
