/- Layer field: Times. -/
import Derived.Test.YtnifolefhelmcaaFMul
import Derived.Test.YtnifolefhelmcaaFRing
import Derived.Test.YtnifolefhelmcaaRInvP
namespace Go.Proofs.Ytnifolefhelmcaa
open Go.RowKit
set_option linter.unusedVariables false
set_option linter.unusedSimpArgs false

theorem v5_times (a b c d e n : Int) : v5 (a * n) (b * n) (c * n) (d * n) (e * n) = v5 a b c d e * n := by
  unfold v5
  simp only [Int.add_mul, Int.mul_assoc]
theorem times_bd {x n : Int} (hx : Lim x) (hn : 0 ≤ n ∧ n < 4294967296) : 0 ≤ x * n ∧ x * n < 19342813113834066795298816 := by
  have := mb2 hx hn
  refine ⟨this.1, ?_⟩
  have h := this.2
  rw [show (2251799813701632 : Int) * 4294967296 = 9671406556987402141827072 by decide] at h
  omega
set_option maxRecDepth 20000 in
set_option maxHeartbeats 4000000 in
theorem times_any (n : Int) (hn : 0 ≤ n ∧ n < 4294967296) (l : List Int) (x : Int) (hl : Fe l x) (w : World) :
    Calls Try.prog 30 #[.agg (u64s l).toArray, .int .u32 n] w fun e w' => ∃ r, e = .returned (.agg (u64s r).toArray) ∧ Fe r (x * n % PR) ∧ Below w.heap.size w w' := by
  obtain ⟨a0, a1, a2, a3, a4, rfl, ha0, ha1, ha2, ha3, ha4, hx⟩ := hl.parts
  have b0 := times_bd ha0 hn
  have b1 := times_bd ha1 hn
  have b2 := times_bd ha2 hn
  have b3 := times_bd ha3 hn
  have b4 := times_bd ha4 hn
  have hw : Word n := ⟨hn.1, by omega⟩
  have wd : ∀ {z : Int}, Lim z → Word z := fun h => ⟨h.1, by have := h.2; omega⟩
  have HC : Hid ((∀ w, Calls Try.prog 70 #[.int .u64 a0, .int .u64 n] w fun e w' => e = .returned (.agg (u64s (pr (a0 * n))).toArray) ∧ Below w.heap.size w w') ∧ (∀ w, Calls Try.prog 70 #[.int .u64 a1, .int .u64 n] w fun e w' => e = .returned (.agg (u64s (pr (a1 * n))).toArray) ∧ Below w.heap.size w w') ∧ (∀ w, Calls Try.prog 70 #[.int .u64 a2, .int .u64 n] w fun e w' => e = .returned (.agg (u64s (pr (a2 * n))).toArray) ∧ Below w.heap.size w w') ∧ (∀ w, Calls Try.prog 70 #[.int .u64 a3, .int .u64 n] w fun e w' => e = .returned (.agg (u64s (pr (a3 * n))).toArray) ∧ Below w.heap.size w w') ∧ (∀ w, Calls Try.prog 70 #[.int .u64 a4, .int .u64 n] w fun e w' => e = .returned (.agg (u64s (pr (a4 * n))).toArray) ∧ Below w.heap.size w w')) :=
    ⟨fproduct_any a0 n (wd ha0) hw, fproduct_any a1 n (wd ha1) hw, fproduct_any a2 n (wd ha2) hw, fproduct_any a3 n (wd ha3) hw, fproduct_any a4 n (wd ha4) hw⟩
  have HF : Hid (∀ w, Blk w w.heap.size 27 (u64s [a0, a1, a2, a3, a4]) → True) := fun _ _ => trivial
  have HG : Hid (∀ g w, Blk w g 27 (u64s [a0, a1, a2, a3, a4]) → Calls Try.prog 69 #[.pointer (some ⟨g, 0, none⟩), .agg (u64s (pr (a0 * n))).toArray, .agg (u64s (pr (a1 * n))).toArray, .agg (u64s (pr (a2 * n))).toArray, .agg (u64s (pr (a3 * n))).toArray, .agg (u64s (pr (a4 * n))).toArray] w fun e w' => e = .returned (.tuple #[]) ∧ (∃ l, Blk w' g 27 (u64s l) ∧ Fe l (x * n % PR)) ∧ Kept (fun k => k = g) w w') := by
    intro g w hB
    have h := fold_any g a0 a1 a2 a3 a4 (a0 * n) (a1 * n) (a2 * n) (a3 * n) (a4 * n) w hB ⟨b0.1, by omega⟩ ⟨b1.1, by omega⟩ ⟨b2.1, by omega⟩ ⟨b3.1, by omega⟩ ⟨b4.1, by omega⟩
    rw [v5_times, ← pm_l, hx] at h
    exact h
  have e1 : IntKind.u64.wrap n = n := by rw [IntKind.wrap_u64]; omega
  clear hl ha0 ha1 ha2 ha3 ha4 hx b0 b1 b2 b3 b4 hw wd HF hn
  go_enter Try.func30, Try.ntmps30
  go_wp2_with (first | (refine wpList_box_new rfl 27 (.tmp 0) rfl (u64s [a0, a1, a2, a3, a4]) rfl ?_; intro x1 z1 s1 l1) | (refine wpList_alloc_new rfl 27 rfl 5 _ zeroElem ?_; intro x2 z2 s2 l2))
  have e2 : x1.heap.size = w.heap.size + 1 := s1
  rw [e2] at z2
  have WW : Hid (Below w.heap.size w x2 ∧ Blk x2 w.heap.size 27 (u64s [a0, a1, a2, a3, a4]) ∧ Blk x2 (w.heap.size + 1) 27 (u64s [0, 0, 0, 0, 0])) := ⟨below_chain l1 l2 (by omega), z1.later l2 (by omega), z2⟩
  clear z1 s1 l1 z2 s2 l2 e2
  refine region_invP 25 ((.val (.pointer (some ⟨w.heap.size, 0, none⟩))) :: (.val (.pointer (some ⟨w.heap.size, 0, none⟩))) :: (.val (.int .u64 a0)) :: (.val (.int .u64 n)) :: (.val (.agg (u64s (pr (a0 * n))).toArray)) :: (.val (.pointer (some ⟨w.heap.size, 0, none⟩))) :: (.val (.pointer (some ⟨w.heap.size, 1, none⟩))) :: (.val (.int .u64 a1)) :: (.val (.int .u64 n)) :: (.val (.agg (u64s (pr (a1 * n))).toArray)) :: (.val (.pointer (some ⟨w.heap.size, 0, none⟩))) :: (.val (.pointer (some ⟨w.heap.size, 2, none⟩))) :: (.val (.int .u64 a2)) :: (.val (.int .u64 n)) :: (.val (.agg (u64s (pr (a2 * n))).toArray)) :: (.val (.pointer (some ⟨w.heap.size, 0, none⟩))) :: (.val (.pointer (some ⟨w.heap.size, 3, none⟩))) :: (.val (.int .u64 a3)) :: (.val (.int .u64 n)) :: (.val (.agg (u64s (pr (a3 * n))).toArray)) :: (.val (.pointer (some ⟨w.heap.size, 0, none⟩))) :: (.val (.pointer (some ⟨w.heap.size, 4, none⟩))) :: (.val (.int .u64 a4)) :: (.val (.int .u64 n)) :: (.val (.agg (u64s (pr (a4 * n))).toArray)) :: []) (by kernel_rfl) (by kernel_rfl) (by kernel_rfl) [] ⟨.inl rfl, .inl rfl, .inl rfl, .inl rfl, .inl rfl, .inl rfl, .inl rfl, .inl rfl, .inl rfl, .inl rfl, .inl rfl, .inl rfl, .inl rfl, .inl rfl, .inl rfl, .inl rfl, .inl rfl, .inl rfl, .inl rfl, .inl rfl, .inl rfl, .inl rfl, .inl rfl, .inl rfl, .inl rfl, trivial⟩ (by kernel_rfl) ?_ ?_
  · refine Steps'.cons ?_ (Steps'.cons ?_ (Steps'.cons ?_ (Steps'.cons ?_ (Steps'.cons ?_ (Steps'.cons ?_ (Steps'.cons ?_ (Steps'.cons ?_ (Steps'.cons ?_ (Steps'.cons ?_ (Steps'.cons ?_ (Steps'.cons ?_ (Steps'.cons ?_ (Steps'.cons ?_ (Steps'.cons ?_ (Steps'.cons ?_ (Steps'.cons ?_ (Steps'.cons ?_ (Steps'.cons ?_ (Steps'.cons ?_ (Steps'.cons ?_ (Steps'.cons ?_ (Steps'.cons ?_ (Steps'.cons ?_ (Steps'.cons ?_ (Steps'.one _ _ _ _ _ _ _)))))))))))))))))))))))))
    · intro ax wx hb hs hd
      have h2 : ax.tmps.getD 2 undef = (.pointer (some ⟨w.heap.size, 0, none⟩)) := hs 2 (by kernel_rfl)
      refine Does.value (.pointer (some ⟨w.heap.size, 0, none⟩)) ?_ rfl
      clear hs hd
      go_simp
    · intro ax wx hb hs hd
      have h8 : ax.tmps.getD 8 undef = (.pointer (some ⟨w.heap.size, 0, none⟩)) := hd 0 8 rfl (by kernel_rfl) (by decide)
      refine Does.value (.pointer (some ⟨w.heap.size, 0, none⟩)) ?_ rfl
      clear hs hd
      go_simp
    · intro ax wx hb hs hd
      have h9 : ax.tmps.getD 9 undef = (.pointer (some ⟨w.heap.size, 0, none⟩)) := hd 1 9 rfl (by kernel_rfl) (by decide)
      have cx : wx.cell? ⟨w.heap.size, 0, none⟩ = some (.int .u64 a0) := (Blk.later WW.out.2.1 hb (Blk.lt WW.out.2.1)).cell 0
      refine Does.value (.int .u64 a0) ?_ rfl
      clear hs hd
      go_simp
    · intro ax wx hb hs hd
      have h5 : ax.tmps.getD 5 undef = (.int .u64 n) := hs 5 (by kernel_rfl)
      refine Does.value (.int .u64 n) ?_ rfl
      clear hs hd
      go_simp
    · intro ax wx hb hs hd
      have h10 : ax.tmps.getD 10 undef = (.int .u64 a0) := hd 2 10 rfl (by kernel_rfl) (by decide)
      have h11 : ax.tmps.getD 11 undef = (.int .u64 n) := hd 3 11 rfl (by kernel_rfl) (by decide)
      refine Does.call 70 #[(.int .u64 a0), (.int .u64 n)] (by clear hs hd; go_simp) ?_
      refine (HC.out.1 _).mono ?_
      rintro z w' ⟨rfl, l⟩
      exact ⟨_, rfl, rfl, l⟩
    · intro ax wx hb hs hd
      have h2 : ax.tmps.getD 2 undef = (.pointer (some ⟨w.heap.size, 0, none⟩)) := hs 2 (by kernel_rfl)
      refine Does.value (.pointer (some ⟨w.heap.size, 0, none⟩)) ?_ rfl
      clear hs hd
      go_simp
    · intro ax wx hb hs hd
      have h13 : ax.tmps.getD 13 undef = (.pointer (some ⟨w.heap.size, 0, none⟩)) := hd 5 13 rfl (by kernel_rfl) (by decide)
      refine Does.value (.pointer (some ⟨w.heap.size, 1, none⟩)) ?_ rfl
      clear hs hd
      go_simp
    · intro ax wx hb hs hd
      have h14 : ax.tmps.getD 14 undef = (.pointer (some ⟨w.heap.size, 1, none⟩)) := hd 6 14 rfl (by kernel_rfl) (by decide)
      have cx : wx.cell? ⟨w.heap.size, 1, none⟩ = some (.int .u64 a1) := (Blk.later WW.out.2.1 hb (Blk.lt WW.out.2.1)).cell 1
      refine Does.value (.int .u64 a1) ?_ rfl
      clear hs hd
      go_simp
    · intro ax wx hb hs hd
      have h5 : ax.tmps.getD 5 undef = (.int .u64 n) := hs 5 (by kernel_rfl)
      refine Does.value (.int .u64 n) ?_ rfl
      clear hs hd
      go_simp
    · intro ax wx hb hs hd
      have h15 : ax.tmps.getD 15 undef = (.int .u64 a1) := hd 7 15 rfl (by kernel_rfl) (by decide)
      have h16 : ax.tmps.getD 16 undef = (.int .u64 n) := hd 8 16 rfl (by kernel_rfl) (by decide)
      refine Does.call 70 #[(.int .u64 a1), (.int .u64 n)] (by clear hs hd; go_simp) ?_
      refine (HC.out.2.1 _).mono ?_
      rintro z w' ⟨rfl, l⟩
      exact ⟨_, rfl, rfl, l⟩
    · intro ax wx hb hs hd
      have h2 : ax.tmps.getD 2 undef = (.pointer (some ⟨w.heap.size, 0, none⟩)) := hs 2 (by kernel_rfl)
      refine Does.value (.pointer (some ⟨w.heap.size, 0, none⟩)) ?_ rfl
      clear hs hd
      go_simp
    · intro ax wx hb hs hd
      have h18 : ax.tmps.getD 18 undef = (.pointer (some ⟨w.heap.size, 0, none⟩)) := hd 10 18 rfl (by kernel_rfl) (by decide)
      refine Does.value (.pointer (some ⟨w.heap.size, 2, none⟩)) ?_ rfl
      clear hs hd
      go_simp
    · intro ax wx hb hs hd
      have h19 : ax.tmps.getD 19 undef = (.pointer (some ⟨w.heap.size, 2, none⟩)) := hd 11 19 rfl (by kernel_rfl) (by decide)
      have cx : wx.cell? ⟨w.heap.size, 2, none⟩ = some (.int .u64 a2) := (Blk.later WW.out.2.1 hb (Blk.lt WW.out.2.1)).cell 2
      refine Does.value (.int .u64 a2) ?_ rfl
      clear hs hd
      go_simp
    · intro ax wx hb hs hd
      have h5 : ax.tmps.getD 5 undef = (.int .u64 n) := hs 5 (by kernel_rfl)
      refine Does.value (.int .u64 n) ?_ rfl
      clear hs hd
      go_simp
    · intro ax wx hb hs hd
      have h20 : ax.tmps.getD 20 undef = (.int .u64 a2) := hd 12 20 rfl (by kernel_rfl) (by decide)
      have h21 : ax.tmps.getD 21 undef = (.int .u64 n) := hd 13 21 rfl (by kernel_rfl) (by decide)
      refine Does.call 70 #[(.int .u64 a2), (.int .u64 n)] (by clear hs hd; go_simp) ?_
      refine (HC.out.2.2.1 _).mono ?_
      rintro z w' ⟨rfl, l⟩
      exact ⟨_, rfl, rfl, l⟩
    · intro ax wx hb hs hd
      have h2 : ax.tmps.getD 2 undef = (.pointer (some ⟨w.heap.size, 0, none⟩)) := hs 2 (by kernel_rfl)
      refine Does.value (.pointer (some ⟨w.heap.size, 0, none⟩)) ?_ rfl
      clear hs hd
      go_simp
    · intro ax wx hb hs hd
      have h23 : ax.tmps.getD 23 undef = (.pointer (some ⟨w.heap.size, 0, none⟩)) := hd 15 23 rfl (by kernel_rfl) (by decide)
      refine Does.value (.pointer (some ⟨w.heap.size, 3, none⟩)) ?_ rfl
      clear hs hd
      go_simp
    · intro ax wx hb hs hd
      have h24 : ax.tmps.getD 24 undef = (.pointer (some ⟨w.heap.size, 3, none⟩)) := hd 16 24 rfl (by kernel_rfl) (by decide)
      have cx : wx.cell? ⟨w.heap.size, 3, none⟩ = some (.int .u64 a3) := (Blk.later WW.out.2.1 hb (Blk.lt WW.out.2.1)).cell 3
      refine Does.value (.int .u64 a3) ?_ rfl
      clear hs hd
      go_simp
    · intro ax wx hb hs hd
      have h5 : ax.tmps.getD 5 undef = (.int .u64 n) := hs 5 (by kernel_rfl)
      refine Does.value (.int .u64 n) ?_ rfl
      clear hs hd
      go_simp
    · intro ax wx hb hs hd
      have h25 : ax.tmps.getD 25 undef = (.int .u64 a3) := hd 17 25 rfl (by kernel_rfl) (by decide)
      have h26 : ax.tmps.getD 26 undef = (.int .u64 n) := hd 18 26 rfl (by kernel_rfl) (by decide)
      refine Does.call 70 #[(.int .u64 a3), (.int .u64 n)] (by clear hs hd; go_simp) ?_
      refine (HC.out.2.2.2.1 _).mono ?_
      rintro z w' ⟨rfl, l⟩
      exact ⟨_, rfl, rfl, l⟩
    · intro ax wx hb hs hd
      have h2 : ax.tmps.getD 2 undef = (.pointer (some ⟨w.heap.size, 0, none⟩)) := hs 2 (by kernel_rfl)
      refine Does.value (.pointer (some ⟨w.heap.size, 0, none⟩)) ?_ rfl
      clear hs hd
      go_simp
    · intro ax wx hb hs hd
      have h28 : ax.tmps.getD 28 undef = (.pointer (some ⟨w.heap.size, 0, none⟩)) := hd 20 28 rfl (by kernel_rfl) (by decide)
      refine Does.value (.pointer (some ⟨w.heap.size, 4, none⟩)) ?_ rfl
      clear hs hd
      go_simp
    · intro ax wx hb hs hd
      have h29 : ax.tmps.getD 29 undef = (.pointer (some ⟨w.heap.size, 4, none⟩)) := hd 21 29 rfl (by kernel_rfl) (by decide)
      have cx : wx.cell? ⟨w.heap.size, 4, none⟩ = some (.int .u64 a4) := (Blk.later WW.out.2.1 hb (Blk.lt WW.out.2.1)).cell 4
      refine Does.value (.int .u64 a4) ?_ rfl
      clear hs hd
      go_simp
    · intro ax wx hb hs hd
      have h5 : ax.tmps.getD 5 undef = (.int .u64 n) := hs 5 (by kernel_rfl)
      refine Does.value (.int .u64 n) ?_ rfl
      clear hs hd
      go_simp
    · intro ax wx hb hs hd
      have h30 : ax.tmps.getD 30 undef = (.int .u64 a4) := hd 22 30 rfl (by kernel_rfl) (by decide)
      have h31 : ax.tmps.getD 31 undef = (.int .u64 n) := hd 23 31 rfl (by kernel_rfl) (by decide)
      refine Does.call 70 #[(.int .u64 a4), (.int .u64 n)] (by clear hs hd; go_simp) ?_
      refine (HC.out.2.2.2.2 _).mono ?_
      rintro z w' ⟨rfl, l⟩
      exact ⟨_, rfl, rfl, l⟩
  · intro wx hb
    refine @EndsP.val _ _ _ _ _ _ _ _ (.pointer (some ⟨w.heap.size, 0, none⟩)) rfl ?_
    refine @EndsP.val _ _ _ _ _ _ _ _ (.pointer (some ⟨w.heap.size, 0, none⟩)) rfl ?_
    refine @EndsP.val _ _ _ _ _ _ _ _ (.int .u64 a0) rfl ?_
    refine @EndsP.val _ _ _ _ _ _ _ _ (.int .u64 n) rfl ?_
    refine @EndsP.val _ _ _ _ _ _ _ _ (.agg (u64s (pr (a0 * n))).toArray) rfl ?_
    refine @EndsP.val _ _ _ _ _ _ _ _ (.pointer (some ⟨w.heap.size, 0, none⟩)) rfl ?_
    refine @EndsP.val _ _ _ _ _ _ _ _ (.pointer (some ⟨w.heap.size, 1, none⟩)) rfl ?_
    refine @EndsP.val _ _ _ _ _ _ _ _ (.int .u64 a1) rfl ?_
    refine @EndsP.val _ _ _ _ _ _ _ _ (.int .u64 n) rfl ?_
    refine @EndsP.val _ _ _ _ _ _ _ _ (.agg (u64s (pr (a1 * n))).toArray) rfl ?_
    refine @EndsP.val _ _ _ _ _ _ _ _ (.pointer (some ⟨w.heap.size, 0, none⟩)) rfl ?_
    refine @EndsP.val _ _ _ _ _ _ _ _ (.pointer (some ⟨w.heap.size, 2, none⟩)) rfl ?_
    refine @EndsP.val _ _ _ _ _ _ _ _ (.int .u64 a2) rfl ?_
    refine @EndsP.val _ _ _ _ _ _ _ _ (.int .u64 n) rfl ?_
    refine @EndsP.val _ _ _ _ _ _ _ _ (.agg (u64s (pr (a2 * n))).toArray) rfl ?_
    refine @EndsP.val _ _ _ _ _ _ _ _ (.pointer (some ⟨w.heap.size, 0, none⟩)) rfl ?_
    refine @EndsP.val _ _ _ _ _ _ _ _ (.pointer (some ⟨w.heap.size, 3, none⟩)) rfl ?_
    refine @EndsP.val _ _ _ _ _ _ _ _ (.int .u64 a3) rfl ?_
    refine @EndsP.val _ _ _ _ _ _ _ _ (.int .u64 n) rfl ?_
    refine @EndsP.val _ _ _ _ _ _ _ _ (.agg (u64s (pr (a3 * n))).toArray) rfl ?_
    refine @EndsP.val _ _ _ _ _ _ _ _ (.pointer (some ⟨w.heap.size, 0, none⟩)) rfl ?_
    refine @EndsP.val _ _ _ _ _ _ _ _ (.pointer (some ⟨w.heap.size, 4, none⟩)) rfl ?_
    refine @EndsP.val _ _ _ _ _ _ _ _ (.int .u64 a4) rfl ?_
    refine @EndsP.val _ _ _ _ _ _ _ _ (.int .u64 n) rfl ?_
    refine @EndsP.val _ _ _ _ _ _ _ _ (.agg (u64s (pr (a4 * n))).toArray) rfl ?_

    intro hD nf hn
    obtain ⟨mf, rfl⟩ : ∃ mf, nf = mf + 1 := ⟨nf - 1, by have h3 : 1 ≤ nf := hn; omega⟩
    clear hD hn
    simp only [Act.put, List.setIfInBounds_toArray, List.set_cons_zero, List.set_cons_succ]
    have W2 : Hid (Below w.heap.size w wx ∧ Blk wx w.heap.size 27 (u64s [a0, a1, a2, a3, a4]) ∧ Blk wx (w.heap.size + 1) 27 (u64s [0, 0, 0, 0, 0])) := ⟨below_chain WW.out.1 hb WW.out.1.size, WW.out.2.1.later hb WW.out.2.1.lt, WW.out.2.2.later hb WW.out.2.2.lt⟩
    clear WW hb
    refine wpAny_ready (rs := [25]) (by kernel_rfl) (by simp) (AllReady.cons rfl (fun K hK => ?_) AllReady.nil)
    rw [if_pos (by rfl)]
    go_simp
    go_wp2_with (go_at_call 69; refine (HG.out w.heap.size _ W2.out.2.1).mono ?_; rintro e x3 ⟨rfl, ⟨lr, B3, F3⟩, k3⟩; have HR : Hid (Blk x3 w.heap.size 27 (u64s lr) ∧ Fe lr (x * n % PR) ∧ Blk x3 (w.heap.size + 1) 27 (u64s [0, 0, 0, 0, 0]) ∧ Below w.heap.size w x3 ∧ lr.length = 5) := ⟨B3, F3, W2.out.2.2.kept k3 (by omega), below_kept W2.out.1 k3 W2.out.1.size (fun j hj => by omega), F3.len⟩; clear B3 F3 k3)
    refine wpAny_done (by kernel_rfl) (NoPanic.normal ?_) _
    go_wp2_with (first | (refine wpList_load_blk rfl 27 (.tmp 2) rfl w.heap.size rfl (u64s lr) _ HR.out.1 Try.underlying27 rfl (by rw [u64s_length, HR.out.2.2.2.2]; exact sizeElem) ?_) | (refine wpList_store_blk rfl 27 27 _ _ rfl _ rfl _ (u64s lr) rfl HR.out.2.2.1 (by rw [u64s_length, HR.out.2.2.2.2]; rfl) (by rw [u64s_length, HR.out.2.2.2.2]; exact sizeElem) (u64s_one _) ?_; intro y7 b7 s7 k7))
    exact ret_blk rfl (w.heap.size + 1) (u64s lr) _ rfl b7 Try.underlying27 rfl (by rw [u64s_length, HR.out.2.2.2.2]; exact sizeElem) rfl ⟨lr, rfl, HR.out.2.1, below_kept HR.out.2.2.2.1 k7 HR.out.2.2.2.1.size (fun j hj => by omega)⟩
end Go.Proofs.Ytnifolefhelmcaa
