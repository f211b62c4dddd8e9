/- Layer field: FieldChoice: masks, and words that are none; sums. -/
import Derived.Test.YtnifolefhelmcaaLdSwap
import Derived.Test.YtnifolefhelmcaaLdTimes
import Derived.Test.YtnifolefhelmcaaFAwake
import Derived.Test.YtnifolefhelmcaaRInvX
import Derived.Test.YtnifolefhelmcaaLdXor
namespace Go.Proofs.Ytnifolefhelmcaa
open Go.RowKit
set_option linter.unusedVariables false
set_option linter.unusedSimpArgs false

theorem wpList_buildU {ops : Array Oper} {rest : List Oper} {o : Oper} {a : Act} {Q : Exit → Act → World → Prop} {w : World} (hgd : o.guard = none) (t : TypeId) (m : Nat) (parts : Array (Nat × Operand)) (ho : o.op = .buildSlice t m parts) (ps : Array (Nat × Value))
    (hp : (parts.map fun (i, x) => (i, a.eval x)) = ps) (v : Value) (w' : World) (hrun : (Instr.buildSlice t m ps).run Try.prog w = .ok v w') (h : wpList Try.prog ops Q rest (a.put o.dst v) w') : wpList Try.prog ops Q (o :: rest) a w := by
  refine wpList_plain hgd fun K hK => ?_
  unfold Oper.wp execOp
  simp only [ho, hp, Sem.run_bind, hrun, Sem.run_pure, Result.andThen_ok]
  exact hK _ _ h
theorem bs_mask (a b c d : Int) (w : World) : (Instr.buildSlice 50 4 #[(0, .int .u64 a), (1, .int .u64 b), (2, .int .u64 c), (3, .int .u64 d)]).run Try.prog w = .ok (.slice (some ⟨w.heap.size, 0, none⟩) 4 4) (w.alloc (.cells (u64s [a, b, c, d]).toArray 24)) := by kernel_rfl
theorem sum_step (x k : Int) : ((k * x) % PR + x) % PR = ((k + 1) * x) % PR := by rw [pa_l, Int.add_mul, Int.one_mul]
set_option maxRecDepth 20000 in
set_option maxHeartbeats 8000000 in
theorem choice_any (aa bb : List Int) (m : Int) (la : aa.length = 32) (ba : Bytes aa) (lb : bb.length = 32) (bbb : Bytes bb) (hm : Word m) (w : World) :
    Calls Try.prog 5 #[.agg (u8s aa).toArray, .agg (u8s bb).toArray, .int .u64 m] w fun e w' => e = .returned (.bool true) ∧ Below w.heap.size w w' := by
  have hx := fof_any aa la ba
  have HA_aa : Hid (aa.length = 32) := la
  obtain ⟨x, ex⟩ : ∃ q, le aa % 57896044618658097711785492504343953926634992332820282019728792003956564819968 % PR = q := ⟨_, rfl⟩
  rw [ex] at hx
  have HCx : Hid (∀ w, Calls Try.prog 13 #[.agg (u8s aa).toArray] w fun e w' => ∃ r, e = .returned (.agg (u64s r).toArray) ∧ Fe r x ∧ Below w.heap.size w w') := hx
  clear hx ex la ba
  have hy := fof_any bb lb bbb
  have HA_bb : Hid (bb.length = 32) := lb
  obtain ⟨y, ey⟩ : ∃ q, le bb % 57896044618658097711785492504343953926634992332820282019728792003956564819968 % PR = q := ⟨_, rfl⟩
  rw [ey] at hy
  have HCy : Hid (∀ w, Calls Try.prog 13 #[.agg (u8s bb).toArray] w fun e w' => ∃ r, e = .returned (.agg (u64s r).toArray) ∧ Fe r y ∧ Below w.heap.size w w') := hy
  clear hy ey lb bbb
  obtain ⟨mx, hmx⟩ : ∃ z, bits .xor .u64 m 1 = z := ⟨_, rfl⟩
  have HX : Hid (Word mx) := by rw [← hmx]; exact (xorw_par m 1 hm ⟨by decide, by decide⟩).1
  have HW : Hid (Word m) := hm
  obtain ⟨N40, h40⟩ : ∃ N : Nat, Int.tmod m 40 = (N : Int) := ⟨(m % 40).toNat, by rw [Int.tmod_eq_emod_of_nonneg hm.1]; omega⟩
  have h40b : N40 < 40 := by rw [Int.tmod_eq_emod_of_nonneg hm.1] at h40; omega
  obtain ⟨M32, h32⟩ : ∃ N : Int, Int.tmod m 4294967296 = N := ⟨_, rfl⟩
  have h32b : 0 ≤ M32 ∧ M32 < 4294967296 := by rw [Int.tmod_eq_emod_of_nonneg hm.1] at h32; omega
  have v32 : IntKind.u32.wrap m = M32 := by rw [IntKind.wrap_u32, ← h32, Int.tmod_eq_emod_of_nonneg hm.1]
  have v40 : IntKind.u32.wrap (N40 : Int) = (N40 : Int) := by rw [IntKind.wrap_u32]; omega
  have L5 : Hid (∀ l : List Int, l.length = 5 → (Try.prog.info? 27).map (·.size) = some (u64s l).length) := fun l h => by rw [u64s_length, h]; exact sizeElem
  clear hm
  go_enter Try.func5, Try.ntmps5
  go_wp2_with (first | (refine wpList_box_new rfl 29 (.tmp 0) rfl (u8s aa) rfl ?_; intro x1 z1 s1 l1) | (refine wpList_box_new rfl 29 (.tmp 1) rfl (u8s bb) rfl ?_; intro x2 z2 s2 l2; rw [s1] at z2) | (go_at_call 22; refine (awake_any _).mono ?_; rintro e x4 ⟨rfl, l4⟩))
  have V0 : Hid (Below w.heap.size w x4 ∧ Blk x4 w.heap.size 29 (u8s aa) ∧ Blk x4 (w.heap.size + 1) 29 (u8s bb)) := ⟨below_chain (below_chain l1 l2 (by omega)) l4 (by omega), (z1.later l2 (by omega)).later l4 (by omega), z2.later l4 (by omega)⟩
  clear z1 s1 l1 z2 s2 l2 l4
  refine region_invP 6 ((.val (.agg (u8s aa).toArray)) :: (.any (isF x) (isF_later x)) :: (.val (.agg (u8s bb).toArray)) :: (.any (isF y) (isF_later y)) :: (.blk 27 (u64s [0, 0, 0, 0, 0])) :: (.blk 27 (u64s [0, 0, 0, 0, 0])) :: []) (by kernel_rfl) (by kernel_rfl) (by kernel_rfl) [7, 8] ⟨.inl rfl, .inl rfl, .inl rfl, .inl rfl, .inr ⟨27, _, 5, rfl, rfl, zeroElem⟩, .inr ⟨27, _, 5, rfl, rfl, zeroElem⟩, trivial⟩ (by kernel_rfl) ?_ ?_
  · refine Steps'.cons ?_ (Steps'.cons ?_ (Steps'.cons ?_ (Steps'.cons ?_ (Steps'.cons ?_ (Steps'.cons ?_ (Steps'.one _ _ _ _ _ _ _))))))
    · intro ax wx hb hs hd
      have h3 : ax.tmps.getD 3 undef = (.pointer (some ⟨w.heap.size, 0, none⟩)) := hs 3 (by kernel_rfl)
      exact Does.load 29 (.tmp 3) rfl w.heap.size 0 h3 (u8s aa) _ ((Blk.later V0.out.2.1 hb (Blk.lt V0.out.2.1)).whole) Try.underlying29 rfl (by rw [u8s_length, HA_aa.out]; exact size32)
    · intro ax wx hb hs hd
      have h18 : ax.tmps.getD 18 undef = (.agg (u8s aa).toArray) := hd 0 18 rfl (by kernel_rfl) (by decide)
      refine Does.call 13 #[(.agg (u8s aa).toArray)] (by clear hs hd; go_simp) ?_
      refine (HCx.out _).mono ?_
      rintro z w' ⟨r, rfl, fr, l⟩
      exact ⟨_, rfl, ⟨r, rfl, fr⟩, l⟩
    · intro ax wx hb hs hd
      have h4 : ax.tmps.getD 4 undef = (.pointer (some ⟨(w.heap.size + 1), 0, none⟩)) := hs 4 (by kernel_rfl)
      exact Does.load 29 (.tmp 4) rfl (w.heap.size + 1) 0 h4 (u8s bb) _ ((Blk.later V0.out.2.2 hb (Blk.lt V0.out.2.2)).whole) Try.underlying29 rfl (by rw [u8s_length, HA_bb.out]; exact size32)
    · intro ax wx hb hs hd
      have h20 : ax.tmps.getD 20 undef = (.agg (u8s bb).toArray) := hd 2 20 rfl (by kernel_rfl) (by decide)
      refine Does.call 13 #[(.agg (u8s bb).toArray)] (by clear hs hd; go_simp) ?_
      refine (HCy.out _).mono ?_
      rintro z w' ⟨r, rfl, fr, l⟩
      exact ⟨_, rfl, ⟨r, rfl, fr⟩, l⟩
    · intro ax wx hb hs hd
      exact Does.alloc 27 rfl 5 _ zeroElem hb.size
    · intro ax wx hb hs hd
      exact Does.alloc 27 rfl 5 _ zeroElem hb.size
  · intro wx hb
    refine @EndsP.val _ _ _ _ _ _ _ _ (.agg (u8s aa).toArray) rfl ?_
    refine @EndsP.any _ _ _ _ _ _ _ _ (isF x) (isF_later x) rfl ?_
    intro v1 p1
    refine @EndsP.val _ _ _ _ _ _ _ _ (.agg (u8s bb).toArray) rfl ?_
    refine @EndsP.any _ _ _ _ _ _ _ _ (isF y) (isF_later y) rfl ?_
    intro v3 p3
    refine @EndsP.blk _ _ _ _ _ _ _ _ 27 (u64s [0, 0, 0, 0, 0]) rfl ?_
    intro g4 hg4 bg4
    refine @EndsP.blk _ _ _ _ _ _ _ _ 27 (u64s [0, 0, 0, 0, 0]) rfl ?_
    intro g5 hg5 bg5
    intro hD nf hn
    obtain ⟨mf, rfl⟩ : ∃ mf, nf = mf + 2 := ⟨nf - 2, by have h3 : 2 ≤ nf := hn; omega⟩
    obtain ⟨lx, rfl, F_lx⟩ := p1
    obtain ⟨ly, rfl, F_ly⟩ := p3
    have d01 : g4 ≠ g5 := fun e => hD 7 (by simp) 8 (by simp) (by decide) (by subst e; kernel_rfl)
    have N_lx : Hid ((u64s lx).length = 5) := by rw [u64s_length, F_lx.len]; rfl
    have N_ly : Hid ((u64s ly).length = 5) := by rw [u64s_length, F_ly.len]; rfl
    clear hD hn
    simp only [Act.put, List.setIfInBounds_toArray, List.set_cons_zero, List.set_cons_succ]
    refine wpAny_ready (rs := [6]) (by kernel_rfl) (by simp) (AllReady.cons rfl (fun K hK => ?_) AllReady.nil)
    rw [if_pos (by rfl)]
    refine last_store 27 (.tmp 7) (.tmp 19) rfl rfl g4 rfl 27 _ (u64s lx) rfl bg4 (by rw [N_lx.out]; rfl) (by rw [N_lx.out]; exact sizeElem) (u64s_one _) ?_
    intro w0 b0 s0 k0
    refine hK _ _ ?_
    refine wpAny_ready (rs := [7]) (by kernel_rfl) (by simp) (AllReady.cons rfl (fun K hK => ?_) AllReady.nil)
    rw [if_pos (by rfl)]
    refine last_store 27 (.tmp 8) (.tmp 21) rfl rfl g5 rfl 27 _ (u64s ly) rfl (bg5.kept k0 (by omega)) (by rw [N_ly.out]; rfl) (by rw [N_ly.out]; exact sizeElem) (u64s_one _) ?_
    intro w1 b1 s1 k1
    refine hK _ _ ?_
    refine wpAny_done (by kernel_rfl) (NoPanic.normal ?_) _
    have V1 : Hid (Below w.heap.size w w1 ∧ Blk w1 w.heap.size 29 (u8s aa) ∧ Blk w1 (w.heap.size + 1) 29 (u8s bb) ∧ Blk w1 g4 27 (u64s lx) ∧ Blk w1 g5 27 (u64s ly)) := by
      have qb := hb.size
      have qw := V0.out.1.size
      have q0 := V0.out.2.1.lt
      have q1 := V0.out.2.2.lt
      exact ⟨below_kept (below_kept (below_chain V0.out.1 hb (by omega)) k0 (by omega) (fun j hj => by omega)) k1 (by omega) (fun j hj => by omega), (((V0.out.2.1.later hb V0.out.2.1.lt).kept k0 (by omega)).kept k1 (by omega)), (((V0.out.2.2.later hb V0.out.2.2.lt).kept k0 (by omega)).kept k1 (by omega)), (b0.kept k1 (by omega)), b1⟩
    obtain ⟨gx, rfl⟩ : ∃ q, q = g4 := ⟨_, rfl⟩
    obtain ⟨gy, rfl⟩ : ∃ q, q = g5 := ⟨_, rfl⟩
    obtain ⟨yV1, rfl⟩ : ∃ q, q = w1 := ⟨_, rfl⟩
    clear hb V0 hK b0 s0 k0 b1 s1 k1 bg4 hg4 bg5 hg5 d01
    have HF : Hid (Fe lx x ∧ Fe ly y) := ⟨F_lx, F_ly⟩
    clear F_lx F_ly
    try simp only [Act.put, List.setIfInBounds_toArray, List.set_cons_zero, List.set_cons_succ]
    go_wp2_with (first | (refine wpList_buildU rfl 50 4 _ rfl #[(0, .int .u64 0), (1, .int .u64 18446744073709551615), (2, .int .u64 m), (3, .int .u64 mx)] (by simp [Act.eval]) _ _ (bs_mask _ _ _ _ _) ?_))
    obtain ⟨gm, hgm⟩ : ∃ q, yV1.heap.size = q := ⟨_, rfl⟩
    obtain ⟨x5, hx5⟩ : ∃ q, q = yV1.alloc (.cells (u64s [0, 18446744073709551615, m, mx]).toArray 24) := ⟨_, rfl⟩
    have V2 : Hid (Below w.heap.size w x5 ∧ Blk x5 gx 27 (u64s lx) ∧ Blk x5 gy 27 (u64s ly) ∧ Blk x5 gm 24 (u64s [0, 18446744073709551615, m, mx])) := by
      rw [hx5, ← hgm]
      have hb := (Below.refl yV1.heap.size yV1).alloc (Nat.le_refl _) (.cells (u64s [0, 18446744073709551615, m, mx]).toArray 24)
      exact ⟨below_chain V1.out.1 hb V1.out.1.size, V1.out.2.2.2.1.later hb V1.out.2.2.2.1.lt, V1.out.2.2.2.2.later hb V1.out.2.2.2.2.lt, heap_alloc_new _ _⟩
    rw [← hx5, hgm]
    clear hx5 hgm V1
    go_loopw [10] (fun i wr => ∃ k : Nat, k ≤ 4 ∧ i = .int .i64 k ∧ Hid (Below w.heap.size w wr ∧ Blk wr gx 27 (u64s lx) ∧ Blk wr gy 27 (u64s ly) ∧ Blk wr gm 24 (u64s [0, 18446744073709551615, m, mx]))) (fun i _ => 4 - (intOf i).toNat)
    case atStart => exact ⟨0, by omega, rfl, V2⟩
    case round =>
      obtain ⟨k, hk, rfl, hbw⟩ := hrel
      by_cases hlt : k < 4
      · have i1 : (k : Int) < 4 := by omega
        have i3 : (0 : Int) ≤ (k : Int) := by omega
        have U0 : Hid (Below w.heap.size w wr ∧ Blk wr gx 27 (u64s lx) ∧ Blk wr gy 27 (u64s ly) ∧ Blk wr gm 24 (u64s [0, 18446744073709551615, m, mx])) := hbw
        obtain ⟨Mk, hMk⟩ : ∃ z, (u64s [0, 18446744073709551615, m, mx])[k]? = some (.int .u64 z) ∧ Word z := by
          have : k = 0 ∨ k = 1 ∨ k = 2 ∨ k = 3 := by omega
          rcases this with rfl | rfl | rfl | rfl
          · exact ⟨_, rfl, by decide, by decide⟩
          · exact ⟨_, rfl, by decide, by decide⟩
          · exact ⟨_, rfl, HW.out⟩
          · exact ⟨_, rfl, HX.out⟩
        have HK : Hid ((u64s [0, 18446744073709551615, m, mx])[k]? = some (.int .u64 Mk)) := hMk.1
        have HSW := fswap_any Mk hMk.2 lx ly x y HF.out.1 HF.out.2
        have HPK := fpick_any Mk hMk.2 lx ly x y HF.out.1 HF.out.2
        have hpar : Int.tmod Mk 2 = 1 ∨ Int.tmod Mk 2 = 0 := by rw [Int.tmod_eq_emod_of_nonneg hMk.2.1]; omega
        have hpe : Int.tmod Mk 2 = Mk % 2 := Int.tmod_eq_emod_of_nonneg hMk.2.1
        have HB : Hid (k < 4) := hlt
        have cK : wr.cell? ⟨gm, k, none⟩ = some (.int .u64 Mk) := (U0.out.2.2.2.cell k).trans HK.out
        clear hMk hbw hk
        rcases hpar with hp | hp
        · have hpb : (Mk % 2 == 1) = true := by rw [← hpe, hp]; rfl
          rw [hpb] at HSW HPK
          have HS : Hid (∀ w, Calls Try.prog 27 #[.int .u64 Mk, .agg (u64s lx).toArray, .agg (u64s ly).toArray] w fun e w' => e = .returned (.tuple #[.agg (u64s ly).toArray, .agg (u64s lx).toArray]) ∧ Below w.heap.size w w') := HSW
          have HP : Hid (∀ w, Calls Try.prog 28 #[.int .u64 Mk, .agg (u64s lx).toArray, .agg (u64s ly).toArray] w fun e w' => ∃ r, e = .returned (.agg (u64s r).toArray) ∧ Fe r x ∧ Below w.heap.size w w') := HPK
          clear HSW HPK hpe hpb
          go_wp2_with fail
          refine region_invX 12 9 rfl ((.val (.slice (some ⟨gm, 0, none⟩) 4 4)) :: (.val (.int .i64 (k : Int))) :: (.val (.pointer (some ⟨gm, k, none⟩))) :: (.val (.int .u64 Mk)) :: (.val (.agg (u64s lx).toArray)) :: (.val (.agg (u64s ly).toArray)) :: (.val (.tuple #[.agg (u64s ly).toArray, .agg (u64s lx).toArray])) :: (.val (.tuple #[.agg (u64s ly).toArray, .agg (u64s lx).toArray])) :: (.val (.agg (u64s ly).toArray)) :: (.val (.agg (u64s lx).toArray)) :: (.blk 27 (u64s [0, 0, 0, 0, 0])) :: (.blk 27 (u64s [0, 0, 0, 0, 0])) :: []) (by kernel_rfl) (by kernel_rfl) (by kernel_rfl) (by kernel_rfl) (by kernel_rfl) (fun ax wx hd => by have h32 : ax.tmps.getD 32 undef = (.tuple #[.agg (u64s ly).toArray, .agg (u64s lx).toArray]) := hd 7 32 rfl (by kernel_rfl) (by decide); exact ⟨_, rfl, .inl ⟨rfl, fun w => by clear hd; go_simp⟩⟩) (by kernel_rfl) [11, 12] ⟨.inl rfl, .inl rfl, .inl rfl, .inl rfl, .inl rfl, .inl rfl, .inl rfl, .inl rfl, .inl rfl, .inl rfl, .inr ⟨27, _, 5, rfl, rfl, zeroElem⟩, .inr ⟨27, _, 5, rfl, rfl, zeroElem⟩, trivial⟩ (by kernel_rfl) (by kernel_rfl) ?_ ?_
          · refine Steps'.cons ?_ (Steps'.cons ?_ (Steps'.cons ?_ (Steps'.cons ?_ (Steps'.cons ?_ (Steps'.cons ?_ (Steps'.cons ?_ (Steps'.cons ?_ (Steps'.cons ?_ (Steps'.cons ?_ (Steps'.cons ?_ (Steps'.cons ?_ (Steps'.one _ _ _ _ _ _ _))))))))))))
            · intro ax wx hb hs hd
              have h9 : ax.tmps.getD 9 undef = (.slice (some ⟨gm, 0, none⟩) 4 4) := hs 9 (by kernel_rfl)
              refine Does.value (.slice (some ⟨gm, 0, none⟩) 4 4) ?_ rfl
              clear hs hd
              go_simp
            · intro ax wx hb hs hd
              have h10 : ax.tmps.getD 10 undef = (.int .i64 (k : Int)) := hs 10 (by kernel_rfl)
              refine Does.value (.int .i64 (k : Int)) ?_ rfl
              clear hs hd
              go_simp
            · intro ax wx hb hs hd
              have h33 : ax.tmps.getD 33 undef = (.slice (some ⟨gm, 0, none⟩) 4 4) := hd 0 33 rfl (by kernel_rfl) (by decide)
              have h34 : ax.tmps.getD 34 undef = (.int .i64 (k : Int)) := hd 1 34 rfl (by kernel_rfl) (by decide)
              refine Does.value (.pointer (some ⟨gm, k, none⟩)) ?_ rfl
              clear hs hd
              go_simp
            · intro ax wx hb hs hd
              have h35 : ax.tmps.getD 35 undef = (.pointer (some ⟨gm, k, none⟩)) := hd 2 35 rfl (by kernel_rfl) (by decide)
              have cx : wx.cell? ⟨gm, k, none⟩ = some (.int .u64 Mk) := ((Blk.later U0.out.2.2.2 hb (Blk.lt U0.out.2.2.2)).cell k).trans HK.out
              refine Does.value (.int .u64 Mk) ?_ rfl
              clear hs hd
              go_simp
            · intro ax wx hb hs hd
              have h7 : ax.tmps.getD 7 undef = (.pointer (some ⟨gx, 0, none⟩)) := hs 7 (by kernel_rfl)
              exact Does.load 27 (.tmp 7) rfl gx 0 h7 (u64s lx) _ ((Blk.later U0.out.2.1 hb (Blk.lt U0.out.2.1)).whole) Try.underlying27 rfl (L5.out _ HF.out.1.len)
            · intro ax wx hb hs hd
              have h8 : ax.tmps.getD 8 undef = (.pointer (some ⟨gy, 0, none⟩)) := hs 8 (by kernel_rfl)
              exact Does.load 27 (.tmp 8) rfl gy 0 h8 (u64s ly) _ ((Blk.later U0.out.2.2.1 hb (Blk.lt U0.out.2.2.1)).whole) Try.underlying27 rfl (L5.out _ HF.out.2.len)
            · intro ax wx hb hs hd
              have h36 : ax.tmps.getD 36 undef = (.int .u64 Mk) := hd 3 36 rfl (by kernel_rfl) (by decide)
              have h37 : ax.tmps.getD 37 undef = (.agg (u64s lx).toArray) := hd 4 37 rfl (by kernel_rfl) (by decide)
              have h38 : ax.tmps.getD 38 undef = (.agg (u64s ly).toArray) := hd 5 38 rfl (by kernel_rfl) (by decide)
              refine Does.call 27 #[(.int .u64 Mk), (.agg (u64s lx).toArray), (.agg (u64s ly).toArray)] (by clear hs hd; go_simp) ?_
              refine (HS.out _).mono ?_
              rintro z w' ⟨rfl, l⟩
              exact ⟨_, rfl, rfl, l⟩
            · intro ax wx hb hs hd
              have h39 : ax.tmps.getD 39 undef = (.tuple #[.agg (u64s ly).toArray, .agg (u64s lx).toArray]) := hd 6 39 rfl (by kernel_rfl) (by decide)
              refine Does.value (.tuple #[.agg (u64s ly).toArray, .agg (u64s lx).toArray]) ?_ rfl
              clear hs hd
              go_simp
            · intro ax wx hb hs hd
              have h32 : ax.tmps.getD 32 undef = (.tuple #[.agg (u64s ly).toArray, .agg (u64s lx).toArray]) := hd 7 32 rfl (by kernel_rfl) (by decide)
              refine Does.value (.agg (u64s ly).toArray) ?_ rfl
              clear hs hd
              go_simp
            · intro ax wx hb hs hd
              have h32 : ax.tmps.getD 32 undef = (.tuple #[.agg (u64s ly).toArray, .agg (u64s lx).toArray]) := hd 7 32 rfl (by kernel_rfl) (by decide)
              refine Does.value (.agg (u64s lx).toArray) ?_ rfl
              clear hs hd
              go_simp
            · intro ax wx hb hs hd
              exact Does.alloc 27 rfl 5 _ zeroElem hb.size
            · intro ax wx hb hs hd
              exact Does.alloc 27 rfl 5 _ zeroElem hb.size
          · intro wx hb
            refine @EndsP.val _ _ _ _ _ _ _ _ (.slice (some ⟨gm, 0, none⟩) 4 4) rfl ?_
            refine @EndsP.val _ _ _ _ _ _ _ _ (.int .i64 (k : Int)) rfl ?_
            refine @EndsP.val _ _ _ _ _ _ _ _ (.pointer (some ⟨gm, k, none⟩)) rfl ?_
            refine @EndsP.val _ _ _ _ _ _ _ _ (.int .u64 Mk) rfl ?_
            refine @EndsP.val _ _ _ _ _ _ _ _ (.agg (u64s lx).toArray) rfl ?_
            refine @EndsP.val _ _ _ _ _ _ _ _ (.agg (u64s ly).toArray) rfl ?_
            refine @EndsP.val _ _ _ _ _ _ _ _ (.tuple #[.agg (u64s ly).toArray, .agg (u64s lx).toArray]) rfl ?_
            refine @EndsP.val _ _ _ _ _ _ _ _ (.tuple #[.agg (u64s ly).toArray, .agg (u64s lx).toArray]) rfl ?_
            refine @EndsP.val _ _ _ _ _ _ _ _ (.agg (u64s ly).toArray) rfl ?_
            refine @EndsP.val _ _ _ _ _ _ _ _ (.agg (u64s lx).toArray) rfl ?_
            refine @EndsP.blk _ _ _ _ _ _ _ _ 27 (u64s [0, 0, 0, 0, 0]) rfl ?_
            intro g10 hg10 bg10
            refine @EndsP.blk _ _ _ _ _ _ _ _ 27 (u64s [0, 0, 0, 0, 0]) rfl ?_
            intro g11 hg11 bg11
            intro hD nf hn
            obtain ⟨mf, rfl⟩ : ∃ mf, nf = mf + 2 := ⟨nf - 2, by have h3 : 2 ≤ nf := hn; omega⟩
            have d01 : g10 ≠ g11 := fun e => hD 11 (by simp) 12 (by simp) (by decide) (by subst e; kernel_rfl)
            have N_ly : Hid ((u64s ly).length = 5) := by show (u64s ly).length = 5; rw [u64s_length, HF.out.2.len]
            have N_lx : Hid ((u64s lx).length = 5) := by show (u64s lx).length = 5; rw [u64s_length, HF.out.1.len]
            clear hD hn
            simp only [Act.put, List.setIfInBounds_toArray, List.set_cons_zero, List.set_cons_succ]
            refine wpAny_ready (rs := [12]) (by kernel_rfl) (by simp) (AllReady.cons rfl (fun K hK => ?_) AllReady.nil)
            rw [if_pos (by rfl)]
            refine last_store 27 (.tmp 11) (.tmp 40) rfl rfl g10 rfl 27 _ (u64s ly) rfl bg10 (by rw [N_ly.out]; rfl) (by rw [N_ly.out]; exact sizeElem) (u64s_one _) ?_
            intro w0 b0 s0 k0
            refine hK _ _ ?_
            refine wpAny_ready (rs := [13]) (by kernel_rfl) (by simp) (AllReady.cons rfl (fun K hK => ?_) AllReady.nil)
            rw [if_pos (by rfl)]
            refine last_store 27 (.tmp 12) (.tmp 41) rfl rfl g11 rfl 27 _ (u64s lx) rfl (bg11.kept k0 (by omega)) (by rw [N_lx.out]; rfl) (by rw [N_lx.out]; exact sizeElem) (u64s_one _) ?_
            intro w1 b1 s1 k1
            refine hK _ _ ?_
            refine wpAny_done (by kernel_rfl) (NoPanic.normal ?_) _
            have U1 : Hid (Below w.heap.size w w1 ∧ Blk w1 gx 27 (u64s lx) ∧ Blk w1 gy 27 (u64s ly) ∧ Blk w1 gm 24 (u64s [0, 18446744073709551615, m, mx]) ∧ Blk w1 g10 27 (u64s ly) ∧ Blk w1 g11 27 (u64s lx)) := by
              have qb := hb.size
              have qw := U0.out.1.size
              have q0 := U0.out.2.1.lt
              have q1 := U0.out.2.2.1.lt
              have q2 := U0.out.2.2.2.lt
              exact ⟨below_kept (below_kept (below_chain U0.out.1 hb (by omega)) k0 (by omega) (fun j hj => by omega)) k1 (by omega) (fun j hj => by omega), (((U0.out.2.1.later hb U0.out.2.1.lt).kept k0 (by omega)).kept k1 (by omega)), (((U0.out.2.2.1.later hb U0.out.2.2.1.lt).kept k0 (by omega)).kept k1 (by omega)), (((U0.out.2.2.2.later hb U0.out.2.2.2.lt).kept k0 (by omega)).kept k1 (by omega)), (b0.kept k1 (by omega)), b1⟩
            obtain ⟨gp, rfl⟩ : ∃ q, q = g10 := ⟨_, rfl⟩
            obtain ⟨gq, rfl⟩ : ∃ q, q = g11 := ⟨_, rfl⟩
            obtain ⟨yU1, rfl⟩ : ∃ q, q = w1 := ⟨_, rfl⟩
            clear hb U0 hK b0 s0 k0 b1 s1 k1 bg10 hg10 bg11 hg11 d01
            clear N_lx N_ly
            try simp only [Act.put, List.setIfInBounds_toArray, List.set_cons_zero, List.set_cons_succ]
            go_wp2_with fail
            refine region_invP 8 ((.val (.slice (some ⟨gm, 0, none⟩) 4 4)) :: (.val (.int .i64 (k : Int))) :: (.val (.pointer (some ⟨gm, k, none⟩))) :: (.val (.int .u64 Mk)) :: (.val (.agg (u64s lx).toArray)) :: (.val (.agg (u64s ly).toArray)) :: (.any (isF x) (isF_later x)) :: (.blk 27 (u64s [0, 0, 0, 0, 0])) :: []) (by kernel_rfl) (by kernel_rfl) (by kernel_rfl) [13] ⟨.inl rfl, .inl rfl, .inl rfl, .inl rfl, .inl rfl, .inl rfl, .inl rfl, .inr ⟨27, _, 5, rfl, rfl, zeroElem⟩, trivial⟩ (by kernel_rfl) ?_ ?_
            · refine Steps'.cons ?_ (Steps'.cons ?_ (Steps'.cons ?_ (Steps'.cons ?_ (Steps'.cons ?_ (Steps'.cons ?_ (Steps'.cons ?_ (Steps'.cons ?_ (Steps'.one _ _ _ _ _ _ _))))))))
              · intro ax wx hb hs hd
                have h9 : ax.tmps.getD 9 undef = (.slice (some ⟨gm, 0, none⟩) 4 4) := hs 9 (by kernel_rfl)
                refine Does.value (.slice (some ⟨gm, 0, none⟩) 4 4) ?_ rfl
                clear hs hd
                go_simp
              · intro ax wx hb hs hd
                have h10 : ax.tmps.getD 10 undef = (.int .i64 (k : Int)) := hs 10 (by kernel_rfl)
                refine Does.value (.int .i64 (k : Int)) ?_ rfl
                clear hs hd
                go_simp
              · intro ax wx hb hs hd
                have h42 : ax.tmps.getD 42 undef = (.slice (some ⟨gm, 0, none⟩) 4 4) := hd 0 42 rfl (by kernel_rfl) (by decide)
                have h43 : ax.tmps.getD 43 undef = (.int .i64 (k : Int)) := hd 1 43 rfl (by kernel_rfl) (by decide)
                refine Does.value (.pointer (some ⟨gm, k, none⟩)) ?_ rfl
                clear hs hd
                go_simp
              · intro ax wx hb hs hd
                have h44 : ax.tmps.getD 44 undef = (.pointer (some ⟨gm, k, none⟩)) := hd 2 44 rfl (by kernel_rfl) (by decide)
                have cx : wx.cell? ⟨gm, k, none⟩ = some (.int .u64 Mk) := ((Blk.later U1.out.2.2.2.1 hb (Blk.lt U1.out.2.2.2.1)).cell k).trans HK.out
                refine Does.value (.int .u64 Mk) ?_ rfl
                clear hs hd
                go_simp
              · intro ax wx hb hs hd
                have h7 : ax.tmps.getD 7 undef = (.pointer (some ⟨gx, 0, none⟩)) := hs 7 (by kernel_rfl)
                exact Does.load 27 (.tmp 7) rfl gx 0 h7 (u64s lx) _ ((Blk.later U1.out.2.1 hb (Blk.lt U1.out.2.1)).whole) Try.underlying27 rfl (L5.out _ HF.out.1.len)
              · intro ax wx hb hs hd
                have h8 : ax.tmps.getD 8 undef = (.pointer (some ⟨gy, 0, none⟩)) := hs 8 (by kernel_rfl)
                exact Does.load 27 (.tmp 8) rfl gy 0 h8 (u64s ly) _ ((Blk.later U1.out.2.2.1 hb (Blk.lt U1.out.2.2.1)).whole) Try.underlying27 rfl (L5.out _ HF.out.2.len)
              · intro ax wx hb hs hd
                have h45 : ax.tmps.getD 45 undef = (.int .u64 Mk) := hd 3 45 rfl (by kernel_rfl) (by decide)
                have h46 : ax.tmps.getD 46 undef = (.agg (u64s lx).toArray) := hd 4 46 rfl (by kernel_rfl) (by decide)
                have h47 : ax.tmps.getD 47 undef = (.agg (u64s ly).toArray) := hd 5 47 rfl (by kernel_rfl) (by decide)
                refine Does.call 28 #[(.int .u64 Mk), (.agg (u64s lx).toArray), (.agg (u64s ly).toArray)] (by clear hs hd; go_simp) ?_
                refine (HP.out _).mono ?_
                rintro z w' ⟨r, rfl, fr, l⟩
                exact ⟨_, rfl, ⟨r, rfl, fr⟩, l⟩
              · intro ax wx hb hs hd
                exact Does.alloc 27 rfl 5 _ zeroElem hb.size
            · intro wx hb
              refine @EndsP.val _ _ _ _ _ _ _ _ (.slice (some ⟨gm, 0, none⟩) 4 4) rfl ?_
              refine @EndsP.val _ _ _ _ _ _ _ _ (.int .i64 (k : Int)) rfl ?_
              refine @EndsP.val _ _ _ _ _ _ _ _ (.pointer (some ⟨gm, k, none⟩)) rfl ?_
              refine @EndsP.val _ _ _ _ _ _ _ _ (.int .u64 Mk) rfl ?_
              refine @EndsP.val _ _ _ _ _ _ _ _ (.agg (u64s lx).toArray) rfl ?_
              refine @EndsP.val _ _ _ _ _ _ _ _ (.agg (u64s ly).toArray) rfl ?_
              refine @EndsP.any _ _ _ _ _ _ _ _ (isF x) (isF_later x) rfl ?_
              intro v6 p6
              refine @EndsP.blk _ _ _ _ _ _ _ _ 27 (u64s [0, 0, 0, 0, 0]) rfl ?_
              intro g7 hg7 bg7
              intro hD nf hn
              obtain ⟨mf, rfl⟩ : ∃ mf, nf = mf + 1 := ⟨nf - 1, by have h3 : 1 ≤ nf := hn; omega⟩
              obtain ⟨lr, rfl, F_lr⟩ := p6
              have N_lr : Hid ((u64s lr).length = 5) := by rw [u64s_length, F_lr.len]; rfl
              clear hD hn
              simp only [Act.put, List.setIfInBounds_toArray, List.set_cons_zero, List.set_cons_succ]
              refine wpAny_ready (rs := [8]) (by kernel_rfl) (by simp) (AllReady.cons rfl (fun K hK => ?_) AllReady.nil)
              rw [if_pos (by rfl)]
              refine last_store 27 (.tmp 13) (.tmp 48) rfl rfl g7 rfl 27 _ (u64s lr) rfl bg7 (by rw [N_lr.out]; rfl) (by rw [N_lr.out]; exact sizeElem) (u64s_one _) ?_
              intro w0 b0 s0 k0
              refine hK _ _ ?_
              refine wpAny_done (by kernel_rfl) (NoPanic.normal ?_) _
              have U2 : Hid (Below w.heap.size w w0 ∧ Blk w0 gx 27 (u64s lx) ∧ Blk w0 gy 27 (u64s ly) ∧ Blk w0 gm 24 (u64s [0, 18446744073709551615, m, mx]) ∧ Blk w0 gp 27 (u64s ly) ∧ Blk w0 gq 27 (u64s lx) ∧ Blk w0 g7 27 (u64s lr)) := by
                have qb := hb.size
                have qw := U1.out.1.size
                have q0 := U1.out.2.1.lt
                have q1 := U1.out.2.2.1.lt
                have q2 := U1.out.2.2.2.1.lt
                have q3 := U1.out.2.2.2.2.1.lt
                have q4 := U1.out.2.2.2.2.2.lt
                exact ⟨below_kept (below_chain U1.out.1 hb (by omega)) k0 (by omega) (fun j hj => by omega), ((U1.out.2.1.later hb U1.out.2.1.lt).kept k0 (by omega)), ((U1.out.2.2.1.later hb U1.out.2.2.1.lt).kept k0 (by omega)), ((U1.out.2.2.2.1.later hb U1.out.2.2.2.1.lt).kept k0 (by omega)), ((U1.out.2.2.2.2.1.later hb U1.out.2.2.2.2.1.lt).kept k0 (by omega)), ((U1.out.2.2.2.2.2.later hb U1.out.2.2.2.2.2.lt).kept k0 (by omega)), b0⟩
              obtain ⟨gr, rfl⟩ : ∃ q, q = g7 := ⟨_, rfl⟩
              obtain ⟨yU2, rfl⟩ : ∃ q, q = w0 := ⟨_, rfl⟩
              clear hb U1 hK b0 s0 k0 bg7 hg7 
              have HR : Hid (Fe lr x) := F_lr
              clear F_lr N_lr
              try simp only [Act.put, List.setIfInBounds_toArray, List.set_cons_zero, List.set_cons_succ]
              have cA : yU2.cell? ⟨gm, k, none⟩ = some (.int .u64 Mk) := (U2.out.2.2.2.1.cell k).trans HK.out
              go_wp2_with (first | ((with_reducible show wpList _ _ _ (({ dst := some 56, op := _, type := _, pos := _, after := _, guard := _ } : Oper) :: _) _ _); refine wpList_load_g (by rfl) 27 (.tmp 11) rfl gp rfl (u64s ly) _ U2.out.2.2.2.2.1 Try.underlying27 rfl (L5.out _ HF.out.2.len) ?_) | ((with_reducible show wpList _ _ _ (({ dst := some 57, op := _, type := _, pos := _, after := _, guard := _ } : Oper) :: _) _ _); refine wpList_load_g (by rfl) 27 (.tmp 8) rfl gy rfl (u64s ly) _ U2.out.2.2.1 Try.underlying27 rfl (L5.out _ HF.out.2.len) ?_) | ((with_reducible show Calls _ _ #[.agg (u64s ly).toArray, .agg (u64s ly).toArray] _ _); refine (one_yes _ _ _ HF.out.2 HF.out.2 _).mono ?_; rintro e t1 ⟨rfl, u1⟩; have T1 : Hid (Below w.heap.size w t1 ∧ Blk t1 gx 27 (u64s lx) ∧ Blk t1 gy 27 (u64s ly) ∧ Blk t1 gm 24 (u64s [0, 18446744073709551615, m, mx]) ∧ Blk t1 gp 27 (u64s ly) ∧ Blk t1 gq 27 (u64s lx) ∧ Blk t1 gr 27 (u64s lr)) := ⟨below_chain U2.out.1 u1 U2.out.1.size, U2.out.2.1.later u1 U2.out.2.1.lt, U2.out.2.2.1.later u1 U2.out.2.2.1.lt, U2.out.2.2.2.1.later u1 U2.out.2.2.2.1.lt, U2.out.2.2.2.2.1.later u1 U2.out.2.2.2.2.1.lt, U2.out.2.2.2.2.2.1.later u1 U2.out.2.2.2.2.2.1.lt, U2.out.2.2.2.2.2.2.later u1 U2.out.2.2.2.2.2.2.lt⟩; have cT1 : t1.cell? ⟨gm, k, none⟩ = some (.int .u64 Mk) := (T1.out.2.2.2.1.cell k).trans HK.out; clear u1) | ((with_reducible show wpList _ _ _ (({ dst := some 61, op := _, type := _, pos := _, after := _, guard := _ } : Oper) :: _) _ _); refine wpList_load_g (by rfl) 27 (.tmp 12) rfl gq rfl (u64s lx) _ T1.out.2.2.2.2.2.1 Try.underlying27 rfl (L5.out _ HF.out.1.len) ?_) | ((with_reducible show wpList _ _ _ (({ dst := some 62, op := _, type := _, pos := _, after := _, guard := _ } : Oper) :: _) _ _); refine wpList_load_g (by rfl) 27 (.tmp 7) rfl gx rfl (u64s lx) _ T1.out.2.1 Try.underlying27 rfl (L5.out _ HF.out.1.len) ?_) | ((with_reducible show Calls _ _ #[.agg (u64s lx).toArray, .agg (u64s lx).toArray] _ _); refine (one_yes _ _ _ HF.out.1 HF.out.1 _).mono ?_; rintro e t2 ⟨rfl, u2⟩; have T2 : Hid (Below w.heap.size w t2 ∧ Blk t2 gx 27 (u64s lx) ∧ Blk t2 gy 27 (u64s ly) ∧ Blk t2 gm 24 (u64s [0, 18446744073709551615, m, mx]) ∧ Blk t2 gp 27 (u64s ly) ∧ Blk t2 gq 27 (u64s lx) ∧ Blk t2 gr 27 (u64s lr)) := ⟨below_chain T1.out.1 u2 T1.out.1.size, T1.out.2.1.later u2 T1.out.2.1.lt, T1.out.2.2.1.later u2 T1.out.2.2.1.lt, T1.out.2.2.2.1.later u2 T1.out.2.2.2.1.lt, T1.out.2.2.2.2.1.later u2 T1.out.2.2.2.2.1.lt, T1.out.2.2.2.2.2.1.later u2 T1.out.2.2.2.2.2.1.lt, T1.out.2.2.2.2.2.2.later u2 T1.out.2.2.2.2.2.2.lt⟩; have cT2 : t2.cell? ⟨gm, k, none⟩ = some (.int .u64 Mk) := (T2.out.2.2.2.1.cell k).trans HK.out; clear u2) | ((with_reducible show wpList _ _ _ (({ dst := some 67, op := _, type := _, pos := _, after := _, guard := _ } : Oper) :: _) _ _); refine wpList_load_g (by rfl) 27 (.tmp 13) rfl gr rfl (u64s lr) _ T2.out.2.2.2.2.2.2 Try.underlying27 rfl (L5.out _ HR.out.len) ?_) | ((with_reducible show wpList _ _ _ (({ dst := some 68, op := _, type := _, pos := _, after := _, guard := _ } : Oper) :: _) _ _); refine wpList_load_g (by rfl) 27 (.tmp 7) rfl gx rfl (u64s lx) _ T2.out.2.1 Try.underlying27 rfl (L5.out _ HF.out.1.len) ?_) | ((with_reducible show Calls _ _ #[.agg (u64s lr).toArray, .agg (u64s lx).toArray] _ _); refine (one_yes _ _ _ HR.out HF.out.1 _).mono ?_; rintro e t3 ⟨rfl, u3⟩; have T3 : Hid (Below w.heap.size w t3 ∧ Blk t3 gx 27 (u64s lx) ∧ Blk t3 gy 27 (u64s ly) ∧ Blk t3 gm 24 (u64s [0, 18446744073709551615, m, mx]) ∧ Blk t3 gp 27 (u64s ly) ∧ Blk t3 gq 27 (u64s lx) ∧ Blk t3 gr 27 (u64s lr)) := ⟨below_chain T2.out.1 u3 T2.out.1.size, T2.out.2.1.later u3 T2.out.2.1.lt, T2.out.2.2.1.later u3 T2.out.2.2.1.lt, T2.out.2.2.2.1.later u3 T2.out.2.2.2.1.lt, T2.out.2.2.2.2.1.later u3 T2.out.2.2.2.2.1.lt, T2.out.2.2.2.2.2.1.later u3 T2.out.2.2.2.2.2.1.lt, T2.out.2.2.2.2.2.2.later u3 T2.out.2.2.2.2.2.2.lt⟩; have cT3 : t3.cell? ⟨gm, k, none⟩ = some (.int .u64 Mk) := (T3.out.2.2.2.1.cell k).trans HK.out; clear u3))
              go_roundw
              case rel => exact ⟨k + 1, by have := HB.out; omega, by go_num, ⟨T3.out.1, T3.out.2.1, T3.out.2.2.1, T3.out.2.2.2.1⟩⟩
              case measure => simp [intOf]; omega
        · have hpb : (Mk % 2 == 1) = false := by rw [← hpe, hp]; rfl
          rw [hpb] at HSW HPK
          have HS : Hid (∀ w, Calls Try.prog 27 #[.int .u64 Mk, .agg (u64s lx).toArray, .agg (u64s ly).toArray] w fun e w' => e = .returned (.tuple #[.agg (u64s lx).toArray, .agg (u64s ly).toArray]) ∧ Below w.heap.size w w') := HSW
          have HP : Hid (∀ w, Calls Try.prog 28 #[.int .u64 Mk, .agg (u64s lx).toArray, .agg (u64s ly).toArray] w fun e w' => ∃ r, e = .returned (.agg (u64s r).toArray) ∧ Fe r y ∧ Below w.heap.size w w') := HPK
          clear HSW HPK hpe hpb
          go_wp2_with fail
          refine region_invX 12 9 rfl ((.val (.slice (some ⟨gm, 0, none⟩) 4 4)) :: (.val (.int .i64 (k : Int))) :: (.val (.pointer (some ⟨gm, k, none⟩))) :: (.val (.int .u64 Mk)) :: (.val (.agg (u64s lx).toArray)) :: (.val (.agg (u64s ly).toArray)) :: (.val (.tuple #[.agg (u64s lx).toArray, .agg (u64s ly).toArray])) :: (.val (.tuple #[.agg (u64s lx).toArray, .agg (u64s ly).toArray])) :: (.val (.agg (u64s lx).toArray)) :: (.val (.agg (u64s ly).toArray)) :: (.blk 27 (u64s [0, 0, 0, 0, 0])) :: (.blk 27 (u64s [0, 0, 0, 0, 0])) :: []) (by kernel_rfl) (by kernel_rfl) (by kernel_rfl) (by kernel_rfl) (by kernel_rfl) (fun ax wx hd => by have h32 : ax.tmps.getD 32 undef = (.tuple #[.agg (u64s lx).toArray, .agg (u64s ly).toArray]) := hd 7 32 rfl (by kernel_rfl) (by decide); exact ⟨_, rfl, .inl ⟨rfl, fun w => by clear hd; go_simp⟩⟩) (by kernel_rfl) [11, 12] ⟨.inl rfl, .inl rfl, .inl rfl, .inl rfl, .inl rfl, .inl rfl, .inl rfl, .inl rfl, .inl rfl, .inl rfl, .inr ⟨27, _, 5, rfl, rfl, zeroElem⟩, .inr ⟨27, _, 5, rfl, rfl, zeroElem⟩, trivial⟩ (by kernel_rfl) (by kernel_rfl) ?_ ?_
          · refine Steps'.cons ?_ (Steps'.cons ?_ (Steps'.cons ?_ (Steps'.cons ?_ (Steps'.cons ?_ (Steps'.cons ?_ (Steps'.cons ?_ (Steps'.cons ?_ (Steps'.cons ?_ (Steps'.cons ?_ (Steps'.cons ?_ (Steps'.cons ?_ (Steps'.one _ _ _ _ _ _ _))))))))))))
            · intro ax wx hb hs hd
              have h9 : ax.tmps.getD 9 undef = (.slice (some ⟨gm, 0, none⟩) 4 4) := hs 9 (by kernel_rfl)
              refine Does.value (.slice (some ⟨gm, 0, none⟩) 4 4) ?_ rfl
              clear hs hd
              go_simp
            · intro ax wx hb hs hd
              have h10 : ax.tmps.getD 10 undef = (.int .i64 (k : Int)) := hs 10 (by kernel_rfl)
              refine Does.value (.int .i64 (k : Int)) ?_ rfl
              clear hs hd
              go_simp
            · intro ax wx hb hs hd
              have h33 : ax.tmps.getD 33 undef = (.slice (some ⟨gm, 0, none⟩) 4 4) := hd 0 33 rfl (by kernel_rfl) (by decide)
              have h34 : ax.tmps.getD 34 undef = (.int .i64 (k : Int)) := hd 1 34 rfl (by kernel_rfl) (by decide)
              refine Does.value (.pointer (some ⟨gm, k, none⟩)) ?_ rfl
              clear hs hd
              go_simp
            · intro ax wx hb hs hd
              have h35 : ax.tmps.getD 35 undef = (.pointer (some ⟨gm, k, none⟩)) := hd 2 35 rfl (by kernel_rfl) (by decide)
              have cx : wx.cell? ⟨gm, k, none⟩ = some (.int .u64 Mk) := ((Blk.later U0.out.2.2.2 hb (Blk.lt U0.out.2.2.2)).cell k).trans HK.out
              refine Does.value (.int .u64 Mk) ?_ rfl
              clear hs hd
              go_simp
            · intro ax wx hb hs hd
              have h7 : ax.tmps.getD 7 undef = (.pointer (some ⟨gx, 0, none⟩)) := hs 7 (by kernel_rfl)
              exact Does.load 27 (.tmp 7) rfl gx 0 h7 (u64s lx) _ ((Blk.later U0.out.2.1 hb (Blk.lt U0.out.2.1)).whole) Try.underlying27 rfl (L5.out _ HF.out.1.len)
            · intro ax wx hb hs hd
              have h8 : ax.tmps.getD 8 undef = (.pointer (some ⟨gy, 0, none⟩)) := hs 8 (by kernel_rfl)
              exact Does.load 27 (.tmp 8) rfl gy 0 h8 (u64s ly) _ ((Blk.later U0.out.2.2.1 hb (Blk.lt U0.out.2.2.1)).whole) Try.underlying27 rfl (L5.out _ HF.out.2.len)
            · intro ax wx hb hs hd
              have h36 : ax.tmps.getD 36 undef = (.int .u64 Mk) := hd 3 36 rfl (by kernel_rfl) (by decide)
              have h37 : ax.tmps.getD 37 undef = (.agg (u64s lx).toArray) := hd 4 37 rfl (by kernel_rfl) (by decide)
              have h38 : ax.tmps.getD 38 undef = (.agg (u64s ly).toArray) := hd 5 38 rfl (by kernel_rfl) (by decide)
              refine Does.call 27 #[(.int .u64 Mk), (.agg (u64s lx).toArray), (.agg (u64s ly).toArray)] (by clear hs hd; go_simp) ?_
              refine (HS.out _).mono ?_
              rintro z w' ⟨rfl, l⟩
              exact ⟨_, rfl, rfl, l⟩
            · intro ax wx hb hs hd
              have h39 : ax.tmps.getD 39 undef = (.tuple #[.agg (u64s lx).toArray, .agg (u64s ly).toArray]) := hd 6 39 rfl (by kernel_rfl) (by decide)
              refine Does.value (.tuple #[.agg (u64s lx).toArray, .agg (u64s ly).toArray]) ?_ rfl
              clear hs hd
              go_simp
            · intro ax wx hb hs hd
              have h32 : ax.tmps.getD 32 undef = (.tuple #[.agg (u64s lx).toArray, .agg (u64s ly).toArray]) := hd 7 32 rfl (by kernel_rfl) (by decide)
              refine Does.value (.agg (u64s lx).toArray) ?_ rfl
              clear hs hd
              go_simp
            · intro ax wx hb hs hd
              have h32 : ax.tmps.getD 32 undef = (.tuple #[.agg (u64s lx).toArray, .agg (u64s ly).toArray]) := hd 7 32 rfl (by kernel_rfl) (by decide)
              refine Does.value (.agg (u64s ly).toArray) ?_ rfl
              clear hs hd
              go_simp
            · intro ax wx hb hs hd
              exact Does.alloc 27 rfl 5 _ zeroElem hb.size
            · intro ax wx hb hs hd
              exact Does.alloc 27 rfl 5 _ zeroElem hb.size
          · intro wx hb
            refine @EndsP.val _ _ _ _ _ _ _ _ (.slice (some ⟨gm, 0, none⟩) 4 4) rfl ?_
            refine @EndsP.val _ _ _ _ _ _ _ _ (.int .i64 (k : Int)) rfl ?_
            refine @EndsP.val _ _ _ _ _ _ _ _ (.pointer (some ⟨gm, k, none⟩)) rfl ?_
            refine @EndsP.val _ _ _ _ _ _ _ _ (.int .u64 Mk) rfl ?_
            refine @EndsP.val _ _ _ _ _ _ _ _ (.agg (u64s lx).toArray) rfl ?_
            refine @EndsP.val _ _ _ _ _ _ _ _ (.agg (u64s ly).toArray) rfl ?_
            refine @EndsP.val _ _ _ _ _ _ _ _ (.tuple #[.agg (u64s lx).toArray, .agg (u64s ly).toArray]) rfl ?_
            refine @EndsP.val _ _ _ _ _ _ _ _ (.tuple #[.agg (u64s lx).toArray, .agg (u64s ly).toArray]) rfl ?_
            refine @EndsP.val _ _ _ _ _ _ _ _ (.agg (u64s lx).toArray) rfl ?_
            refine @EndsP.val _ _ _ _ _ _ _ _ (.agg (u64s ly).toArray) rfl ?_
            refine @EndsP.blk _ _ _ _ _ _ _ _ 27 (u64s [0, 0, 0, 0, 0]) rfl ?_
            intro g10 hg10 bg10
            refine @EndsP.blk _ _ _ _ _ _ _ _ 27 (u64s [0, 0, 0, 0, 0]) rfl ?_
            intro g11 hg11 bg11
            intro hD nf hn
            obtain ⟨mf, rfl⟩ : ∃ mf, nf = mf + 2 := ⟨nf - 2, by have h3 : 2 ≤ nf := hn; omega⟩
            have d01 : g10 ≠ g11 := fun e => hD 11 (by simp) 12 (by simp) (by decide) (by subst e; kernel_rfl)
            have N_lx : Hid ((u64s lx).length = 5) := by show (u64s lx).length = 5; rw [u64s_length, HF.out.1.len]
            have N_ly : Hid ((u64s ly).length = 5) := by show (u64s ly).length = 5; rw [u64s_length, HF.out.2.len]
            clear hD hn
            simp only [Act.put, List.setIfInBounds_toArray, List.set_cons_zero, List.set_cons_succ]
            refine wpAny_ready (rs := [12]) (by kernel_rfl) (by simp) (AllReady.cons rfl (fun K hK => ?_) AllReady.nil)
            rw [if_pos (by rfl)]
            refine last_store 27 (.tmp 11) (.tmp 40) rfl rfl g10 rfl 27 _ (u64s lx) rfl bg10 (by rw [N_lx.out]; rfl) (by rw [N_lx.out]; exact sizeElem) (u64s_one _) ?_
            intro w0 b0 s0 k0
            refine hK _ _ ?_
            refine wpAny_ready (rs := [13]) (by kernel_rfl) (by simp) (AllReady.cons rfl (fun K hK => ?_) AllReady.nil)
            rw [if_pos (by rfl)]
            refine last_store 27 (.tmp 12) (.tmp 41) rfl rfl g11 rfl 27 _ (u64s ly) rfl (bg11.kept k0 (by omega)) (by rw [N_ly.out]; rfl) (by rw [N_ly.out]; exact sizeElem) (u64s_one _) ?_
            intro w1 b1 s1 k1
            refine hK _ _ ?_
            refine wpAny_done (by kernel_rfl) (NoPanic.normal ?_) _
            have U1 : Hid (Below w.heap.size w w1 ∧ Blk w1 gx 27 (u64s lx) ∧ Blk w1 gy 27 (u64s ly) ∧ Blk w1 gm 24 (u64s [0, 18446744073709551615, m, mx]) ∧ Blk w1 g10 27 (u64s lx) ∧ Blk w1 g11 27 (u64s ly)) := by
              have qb := hb.size
              have qw := U0.out.1.size
              have q0 := U0.out.2.1.lt
              have q1 := U0.out.2.2.1.lt
              have q2 := U0.out.2.2.2.lt
              exact ⟨below_kept (below_kept (below_chain U0.out.1 hb (by omega)) k0 (by omega) (fun j hj => by omega)) k1 (by omega) (fun j hj => by omega), (((U0.out.2.1.later hb U0.out.2.1.lt).kept k0 (by omega)).kept k1 (by omega)), (((U0.out.2.2.1.later hb U0.out.2.2.1.lt).kept k0 (by omega)).kept k1 (by omega)), (((U0.out.2.2.2.later hb U0.out.2.2.2.lt).kept k0 (by omega)).kept k1 (by omega)), (b0.kept k1 (by omega)), b1⟩
            obtain ⟨gp, rfl⟩ : ∃ q, q = g10 := ⟨_, rfl⟩
            obtain ⟨gq, rfl⟩ : ∃ q, q = g11 := ⟨_, rfl⟩
            obtain ⟨yU1, rfl⟩ : ∃ q, q = w1 := ⟨_, rfl⟩
            clear hb U0 hK b0 s0 k0 b1 s1 k1 bg10 hg10 bg11 hg11 d01
            clear N_lx N_ly
            try simp only [Act.put, List.setIfInBounds_toArray, List.set_cons_zero, List.set_cons_succ]
            go_wp2_with fail
            refine region_invP 8 ((.val (.slice (some ⟨gm, 0, none⟩) 4 4)) :: (.val (.int .i64 (k : Int))) :: (.val (.pointer (some ⟨gm, k, none⟩))) :: (.val (.int .u64 Mk)) :: (.val (.agg (u64s lx).toArray)) :: (.val (.agg (u64s ly).toArray)) :: (.any (isF y) (isF_later y)) :: (.blk 27 (u64s [0, 0, 0, 0, 0])) :: []) (by kernel_rfl) (by kernel_rfl) (by kernel_rfl) [13] ⟨.inl rfl, .inl rfl, .inl rfl, .inl rfl, .inl rfl, .inl rfl, .inl rfl, .inr ⟨27, _, 5, rfl, rfl, zeroElem⟩, trivial⟩ (by kernel_rfl) ?_ ?_
            · refine Steps'.cons ?_ (Steps'.cons ?_ (Steps'.cons ?_ (Steps'.cons ?_ (Steps'.cons ?_ (Steps'.cons ?_ (Steps'.cons ?_ (Steps'.cons ?_ (Steps'.one _ _ _ _ _ _ _))))))))
              · intro ax wx hb hs hd
                have h9 : ax.tmps.getD 9 undef = (.slice (some ⟨gm, 0, none⟩) 4 4) := hs 9 (by kernel_rfl)
                refine Does.value (.slice (some ⟨gm, 0, none⟩) 4 4) ?_ rfl
                clear hs hd
                go_simp
              · intro ax wx hb hs hd
                have h10 : ax.tmps.getD 10 undef = (.int .i64 (k : Int)) := hs 10 (by kernel_rfl)
                refine Does.value (.int .i64 (k : Int)) ?_ rfl
                clear hs hd
                go_simp
              · intro ax wx hb hs hd
                have h42 : ax.tmps.getD 42 undef = (.slice (some ⟨gm, 0, none⟩) 4 4) := hd 0 42 rfl (by kernel_rfl) (by decide)
                have h43 : ax.tmps.getD 43 undef = (.int .i64 (k : Int)) := hd 1 43 rfl (by kernel_rfl) (by decide)
                refine Does.value (.pointer (some ⟨gm, k, none⟩)) ?_ rfl
                clear hs hd
                go_simp
              · intro ax wx hb hs hd
                have h44 : ax.tmps.getD 44 undef = (.pointer (some ⟨gm, k, none⟩)) := hd 2 44 rfl (by kernel_rfl) (by decide)
                have cx : wx.cell? ⟨gm, k, none⟩ = some (.int .u64 Mk) := ((Blk.later U1.out.2.2.2.1 hb (Blk.lt U1.out.2.2.2.1)).cell k).trans HK.out
                refine Does.value (.int .u64 Mk) ?_ rfl
                clear hs hd
                go_simp
              · intro ax wx hb hs hd
                have h7 : ax.tmps.getD 7 undef = (.pointer (some ⟨gx, 0, none⟩)) := hs 7 (by kernel_rfl)
                exact Does.load 27 (.tmp 7) rfl gx 0 h7 (u64s lx) _ ((Blk.later U1.out.2.1 hb (Blk.lt U1.out.2.1)).whole) Try.underlying27 rfl (L5.out _ HF.out.1.len)
              · intro ax wx hb hs hd
                have h8 : ax.tmps.getD 8 undef = (.pointer (some ⟨gy, 0, none⟩)) := hs 8 (by kernel_rfl)
                exact Does.load 27 (.tmp 8) rfl gy 0 h8 (u64s ly) _ ((Blk.later U1.out.2.2.1 hb (Blk.lt U1.out.2.2.1)).whole) Try.underlying27 rfl (L5.out _ HF.out.2.len)
              · intro ax wx hb hs hd
                have h45 : ax.tmps.getD 45 undef = (.int .u64 Mk) := hd 3 45 rfl (by kernel_rfl) (by decide)
                have h46 : ax.tmps.getD 46 undef = (.agg (u64s lx).toArray) := hd 4 46 rfl (by kernel_rfl) (by decide)
                have h47 : ax.tmps.getD 47 undef = (.agg (u64s ly).toArray) := hd 5 47 rfl (by kernel_rfl) (by decide)
                refine Does.call 28 #[(.int .u64 Mk), (.agg (u64s lx).toArray), (.agg (u64s ly).toArray)] (by clear hs hd; go_simp) ?_
                refine (HP.out _).mono ?_
                rintro z w' ⟨r, rfl, fr, l⟩
                exact ⟨_, rfl, ⟨r, rfl, fr⟩, l⟩
              · intro ax wx hb hs hd
                exact Does.alloc 27 rfl 5 _ zeroElem hb.size
            · intro wx hb
              refine @EndsP.val _ _ _ _ _ _ _ _ (.slice (some ⟨gm, 0, none⟩) 4 4) rfl ?_
              refine @EndsP.val _ _ _ _ _ _ _ _ (.int .i64 (k : Int)) rfl ?_
              refine @EndsP.val _ _ _ _ _ _ _ _ (.pointer (some ⟨gm, k, none⟩)) rfl ?_
              refine @EndsP.val _ _ _ _ _ _ _ _ (.int .u64 Mk) rfl ?_
              refine @EndsP.val _ _ _ _ _ _ _ _ (.agg (u64s lx).toArray) rfl ?_
              refine @EndsP.val _ _ _ _ _ _ _ _ (.agg (u64s ly).toArray) rfl ?_
              refine @EndsP.any _ _ _ _ _ _ _ _ (isF y) (isF_later y) rfl ?_
              intro v6 p6
              refine @EndsP.blk _ _ _ _ _ _ _ _ 27 (u64s [0, 0, 0, 0, 0]) rfl ?_
              intro g7 hg7 bg7
              intro hD nf hn
              obtain ⟨mf, rfl⟩ : ∃ mf, nf = mf + 1 := ⟨nf - 1, by have h3 : 1 ≤ nf := hn; omega⟩
              obtain ⟨lr, rfl, F_lr⟩ := p6
              have N_lr : Hid ((u64s lr).length = 5) := by rw [u64s_length, F_lr.len]; rfl
              clear hD hn
              simp only [Act.put, List.setIfInBounds_toArray, List.set_cons_zero, List.set_cons_succ]
              refine wpAny_ready (rs := [8]) (by kernel_rfl) (by simp) (AllReady.cons rfl (fun K hK => ?_) AllReady.nil)
              rw [if_pos (by rfl)]
              refine last_store 27 (.tmp 13) (.tmp 48) rfl rfl g7 rfl 27 _ (u64s lr) rfl bg7 (by rw [N_lr.out]; rfl) (by rw [N_lr.out]; exact sizeElem) (u64s_one _) ?_
              intro w0 b0 s0 k0
              refine hK _ _ ?_
              refine wpAny_done (by kernel_rfl) (NoPanic.normal ?_) _
              have U2 : Hid (Below w.heap.size w w0 ∧ Blk w0 gx 27 (u64s lx) ∧ Blk w0 gy 27 (u64s ly) ∧ Blk w0 gm 24 (u64s [0, 18446744073709551615, m, mx]) ∧ Blk w0 gp 27 (u64s lx) ∧ Blk w0 gq 27 (u64s ly) ∧ Blk w0 g7 27 (u64s lr)) := by
                have qb := hb.size
                have qw := U1.out.1.size
                have q0 := U1.out.2.1.lt
                have q1 := U1.out.2.2.1.lt
                have q2 := U1.out.2.2.2.1.lt
                have q3 := U1.out.2.2.2.2.1.lt
                have q4 := U1.out.2.2.2.2.2.lt
                exact ⟨below_kept (below_chain U1.out.1 hb (by omega)) k0 (by omega) (fun j hj => by omega), ((U1.out.2.1.later hb U1.out.2.1.lt).kept k0 (by omega)), ((U1.out.2.2.1.later hb U1.out.2.2.1.lt).kept k0 (by omega)), ((U1.out.2.2.2.1.later hb U1.out.2.2.2.1.lt).kept k0 (by omega)), ((U1.out.2.2.2.2.1.later hb U1.out.2.2.2.2.1.lt).kept k0 (by omega)), ((U1.out.2.2.2.2.2.later hb U1.out.2.2.2.2.2.lt).kept k0 (by omega)), b0⟩
              obtain ⟨gr, rfl⟩ : ∃ q, q = g7 := ⟨_, rfl⟩
              obtain ⟨yU2, rfl⟩ : ∃ q, q = w0 := ⟨_, rfl⟩
              clear hb U1 hK b0 s0 k0 bg7 hg7 
              have HR : Hid (Fe lr y) := F_lr
              clear F_lr N_lr
              try simp only [Act.put, List.setIfInBounds_toArray, List.set_cons_zero, List.set_cons_succ]
              have cA : yU2.cell? ⟨gm, k, none⟩ = some (.int .u64 Mk) := (U2.out.2.2.2.1.cell k).trans HK.out
              go_wp2_with (first | ((with_reducible show wpList _ _ _ (({ dst := some 81, op := _, type := _, pos := _, after := _, guard := _ } : Oper) :: _) _ _); refine wpList_load_g (by rfl) 27 (.tmp 11) rfl gp rfl (u64s lx) _ U2.out.2.2.2.2.1 Try.underlying27 rfl (L5.out _ HF.out.1.len) ?_) | ((with_reducible show wpList _ _ _ (({ dst := some 82, op := _, type := _, pos := _, after := _, guard := _ } : Oper) :: _) _ _); refine wpList_load_g (by rfl) 27 (.tmp 7) rfl gx rfl (u64s lx) _ U2.out.2.1 Try.underlying27 rfl (L5.out _ HF.out.1.len) ?_) | ((with_reducible show Calls _ _ #[.agg (u64s lx).toArray, .agg (u64s lx).toArray] _ _); refine (one_yes _ _ _ HF.out.1 HF.out.1 _).mono ?_; rintro e t1 ⟨rfl, u1⟩; have T1 : Hid (Below w.heap.size w t1 ∧ Blk t1 gx 27 (u64s lx) ∧ Blk t1 gy 27 (u64s ly) ∧ Blk t1 gm 24 (u64s [0, 18446744073709551615, m, mx]) ∧ Blk t1 gp 27 (u64s lx) ∧ Blk t1 gq 27 (u64s ly) ∧ Blk t1 gr 27 (u64s lr)) := ⟨below_chain U2.out.1 u1 U2.out.1.size, U2.out.2.1.later u1 U2.out.2.1.lt, U2.out.2.2.1.later u1 U2.out.2.2.1.lt, U2.out.2.2.2.1.later u1 U2.out.2.2.2.1.lt, U2.out.2.2.2.2.1.later u1 U2.out.2.2.2.2.1.lt, U2.out.2.2.2.2.2.1.later u1 U2.out.2.2.2.2.2.1.lt, U2.out.2.2.2.2.2.2.later u1 U2.out.2.2.2.2.2.2.lt⟩; have cT1 : t1.cell? ⟨gm, k, none⟩ = some (.int .u64 Mk) := (T1.out.2.2.2.1.cell k).trans HK.out; clear u1) | ((with_reducible show wpList _ _ _ (({ dst := some 86, op := _, type := _, pos := _, after := _, guard := _ } : Oper) :: _) _ _); refine wpList_load_g (by rfl) 27 (.tmp 12) rfl gq rfl (u64s ly) _ T1.out.2.2.2.2.2.1 Try.underlying27 rfl (L5.out _ HF.out.2.len) ?_) | ((with_reducible show wpList _ _ _ (({ dst := some 87, op := _, type := _, pos := _, after := _, guard := _ } : Oper) :: _) _ _); refine wpList_load_g (by rfl) 27 (.tmp 8) rfl gy rfl (u64s ly) _ T1.out.2.2.1 Try.underlying27 rfl (L5.out _ HF.out.2.len) ?_) | ((with_reducible show Calls _ _ #[.agg (u64s ly).toArray, .agg (u64s ly).toArray] _ _); refine (one_yes _ _ _ HF.out.2 HF.out.2 _).mono ?_; rintro e t2 ⟨rfl, u2⟩; have T2 : Hid (Below w.heap.size w t2 ∧ Blk t2 gx 27 (u64s lx) ∧ Blk t2 gy 27 (u64s ly) ∧ Blk t2 gm 24 (u64s [0, 18446744073709551615, m, mx]) ∧ Blk t2 gp 27 (u64s lx) ∧ Blk t2 gq 27 (u64s ly) ∧ Blk t2 gr 27 (u64s lr)) := ⟨below_chain T1.out.1 u2 T1.out.1.size, T1.out.2.1.later u2 T1.out.2.1.lt, T1.out.2.2.1.later u2 T1.out.2.2.1.lt, T1.out.2.2.2.1.later u2 T1.out.2.2.2.1.lt, T1.out.2.2.2.2.1.later u2 T1.out.2.2.2.2.1.lt, T1.out.2.2.2.2.2.1.later u2 T1.out.2.2.2.2.2.1.lt, T1.out.2.2.2.2.2.2.later u2 T1.out.2.2.2.2.2.2.lt⟩; have cT2 : t2.cell? ⟨gm, k, none⟩ = some (.int .u64 Mk) := (T2.out.2.2.2.1.cell k).trans HK.out; clear u2) | ((with_reducible show wpList _ _ _ (({ dst := some 92, op := _, type := _, pos := _, after := _, guard := _ } : Oper) :: _) _ _); refine wpList_load_g (by rfl) 27 (.tmp 13) rfl gr rfl (u64s lr) _ T2.out.2.2.2.2.2.2 Try.underlying27 rfl (L5.out _ HR.out.len) ?_) | ((with_reducible show wpList _ _ _ (({ dst := some 93, op := _, type := _, pos := _, after := _, guard := _ } : Oper) :: _) _ _); refine wpList_load_g (by rfl) 27 (.tmp 8) rfl gy rfl (u64s ly) _ T2.out.2.2.1 Try.underlying27 rfl (L5.out _ HF.out.2.len) ?_) | ((with_reducible show Calls _ _ #[.agg (u64s lr).toArray, .agg (u64s ly).toArray] _ _); refine (one_yes _ _ _ HR.out HF.out.2 _).mono ?_; rintro e t3 ⟨rfl, u3⟩; have T3 : Hid (Below w.heap.size w t3 ∧ Blk t3 gx 27 (u64s lx) ∧ Blk t3 gy 27 (u64s ly) ∧ Blk t3 gm 24 (u64s [0, 18446744073709551615, m, mx]) ∧ Blk t3 gp 27 (u64s lx) ∧ Blk t3 gq 27 (u64s ly) ∧ Blk t3 gr 27 (u64s lr)) := ⟨below_chain T2.out.1 u3 T2.out.1.size, T2.out.2.1.later u3 T2.out.2.1.lt, T2.out.2.2.1.later u3 T2.out.2.2.1.lt, T2.out.2.2.2.1.later u3 T2.out.2.2.2.1.lt, T2.out.2.2.2.2.1.later u3 T2.out.2.2.2.2.1.lt, T2.out.2.2.2.2.2.1.later u3 T2.out.2.2.2.2.2.1.lt, T2.out.2.2.2.2.2.2.later u3 T2.out.2.2.2.2.2.2.lt⟩; have cT3 : t3.cell? ⟨gm, k, none⟩ = some (.int .u64 Mk) := (T3.out.2.2.2.1.cell k).trans HK.out; clear u3))
              go_roundw
              case rel => exact ⟨k + 1, by have := HB.out; omega, by go_num, ⟨T3.out.1, T3.out.2.1, T3.out.2.2.1, T3.out.2.2.2.1⟩⟩
              case measure => simp [intOf]; omega
      · have i1 : ¬ ((k : Int) < 4) := by omega
        obtain ⟨y5, rfl⟩ : ∃ q, q = wr := ⟨_, rfl⟩
        have U9 : Hid (Below w.heap.size w y5 ∧ Blk y5 gx 27 (u64s lx) ∧ Blk y5 gy 27 (u64s ly) ∧ Blk y5 gm 24 (u64s [0, 18446744073709551615, m, mx])) := hbw
        clear hbw
        go_wp2_with (first | ((with_reducible show wpList _ _ _ (({ dst := some 14, op := _, type := _, pos := _, after := _, guard := _ } : Oper) :: _) _ _); refine wpList_alloc_new rfl 27 rfl 5 _ zeroElem ?_; intro y6 z6 s6 l6))
        obtain ⟨gs, hgs⟩ : ∃ q, y5.heap.size = q := ⟨_, rfl⟩
        rw [hgs] at z6 ⊢
        have W7 : Hid (Below w.heap.size w y6 ∧ Blk y6 gx 27 (u64s lx) ∧ Blk y6 gs 27 (u64s [0, 0, 0, 0, 0]) ∧ gx < gs) := ⟨below_chain U9.out.1 l6 U9.out.1.size, U9.out.2.1.later l6 U9.out.2.1.lt, z6, by rw [← hgs]; exact U9.out.2.1.lt⟩
        have HG : Hid (gx < gs) := W7.out.2.2.2
        have HGw : Hid (w.heap.size ≤ gs) := by show w.heap.size ≤ gs; rw [← hgs]; exact U9.out.1.size
        clear z6 s6 l6 hgs U9
        go_loopw [15] (fun i wr => ∃ (q : Nat) (l : List Int), q ≤ N40 ∧ i = .int .u64 q ∧ Fe l (((q : Int) * x) % PR) ∧ Hid (Below w.heap.size w wr ∧ Blk wr gx 27 (u64s lx) ∧ Blk wr gs 27 (u64s l))) (fun i _ => N40 - (intOf i).toNat)
        case atStart => exact ⟨0, [0, 0, 0, 0, 0], by omega, rfl, by rw [show (((0 : Nat) : Int) * x) % PR = 0 by rw [show ((0 : Nat) : Int) = 0 from rfl, Int.zero_mul]; rfl]; exact fe_zero, ⟨W7.out.1, W7.out.2.1, W7.out.2.2.1⟩⟩
        case round =>
          obtain ⟨q, ls, hq, rfl, F_ls, hbw⟩ := hrel
          have HB : Hid (Below w.heap.size w wr ∧ Blk wr gx 27 (u64s lx) ∧ Blk wr gs 27 (u64s ls)) := hbw
          clear hbw
          by_cases hlt : q < N40
          · have i1 : (q : Int) < (N40 : Int) := by omega
            have HA := add_any ls lx _ _ F_ls HF.out.1
            rw [sum_step] at HA
            have HLs : Hid (ls.length = 5) := F_ls.len
            have v1 : IntKind.u64.wrap ((q : Int) + 1) = (q : Int) + 1 := by rw [IntKind.wrap_u64]; omega
            clear F_ls
            go_wp2_with (first | ((with_reducible show wpList _ _ _ (({ dst := some 105, op := _, type := _, pos := _, after := _, guard := _ } : Oper) :: _) _ _); refine wpList_load_blk rfl 27 (.tmp 14) rfl gs rfl (u64s ls) _ HB.out.2.2 Try.underlying27 rfl (L5.out _ HLs.out) ?_) | ((with_reducible show wpList _ _ _ (({ dst := some 106, op := _, type := _, pos := _, after := _, guard := _ } : Oper) :: _) _ _); refine wpList_load_blk rfl 27 (.tmp 7) rfl gx rfl (u64s lx) _ HB.out.2.1 Try.underlying27 rfl (L5.out _ HF.out.1.len) ?_) | (go_at_call 29; refine (HA _).mono ?_; rintro e t1 ⟨r, rfl, F_r, u1⟩) | (refine wpList_store_blk rfl 27 27 (.tmp 14) _ rfl gs rfl _ (u64s r) rfl (HB.out.2.2.later u1 HB.out.2.2.lt) (by rw [u64s_length, u64s_length, F_r.len, HLs.out]) (L5.out _ F_r.len) (u64s_one _) ?_; intro t2 b2 s2 k2))
            go_roundw
            case rel => exact ⟨q + 1, r, by omega, by go_num, F_r, ⟨below_kept (below_chain HB.out.1 u1 HB.out.1.size) k2 (by have := HB.out.1.size; have := u1.size; omega) (fun j hj => by have := HG.out; have := HB.out.2.1.lt; have h9 : w.heap.size ≤ gs := HGw.out; omega), (HB.out.2.1.later u1 HB.out.2.1.lt).kept k2 (by have := HG.out; omega), b2⟩⟩
            case measure => simp [intOf]; omega
          · obtain rfl : q = N40 := by omega
            have i1 : ¬ ((q : Int) < (q : Int)) := by omega
            have H_ls : Hid (Fe ls (((q : Int) * x) % PR)) := F_ls
            clear F_ls hq hlt
            go_wp2_with fail
            refine region_invG ((.val (.agg (u64s ls).toArray)) :: (.val (.agg (u64s lx).toArray)) :: (.val (.int .u64 m)) :: (.val (.int .u64 (q : Int))) :: (.val (.int .u32 (q : Int))) :: (.any (isF (x * (q : Int) % PR)) (isF_later (x * (q : Int) % PR))) :: (.val (.bool true)) :: (.val (.bool true)) :: (.val (.agg (u64s lx).toArray)) :: (.val (.int .u64 m)) :: (.val (.int .u32 M32)) :: (.any (isF (x * M32 % PR)) (isF_later (x * M32 % PR))) :: (.val (.agg (u64s lx).toArray)) :: (.val (.int .u64 m)) :: (.val (.int .u64 M32)) :: (.any (isF M32) (isF_later M32)) :: (.any (isF (x * M32 % PR)) (isF_later (x * M32 % PR))) :: (.val (.bool true)) :: (.val (.bool true)) :: []) (by kernel_rfl) (by kernel_rfl) (by repeat (first | exact trivial | (refine ⟨by first | trivial | rfl, ?_⟩))) (by kernel_rfl) ?_ ?_
            · refine Steps'.cons ?_ (Steps'.cons ?_ (Steps'.cons ?_ (Steps'.cons ?_ (Steps'.cons ?_ (Steps'.cons ?_ (Steps'.cons ?_ (Steps'.cons ?_ (Steps'.cons ?_ (Steps'.cons ?_ (Steps'.cons ?_ (Steps'.cons ?_ (Steps'.cons ?_ (Steps'.cons ?_ (Steps'.cons ?_ (Steps'.cons ?_ (Steps'.cons ?_ (Steps'.cons ?_ (Steps'.cons ?_ (Steps'.one _ _ _ _ _ _ _)))))))))))))))))))
              · intro ax wx hb hs hd
                have h14 : ax.tmps.getD 14 undef = (.pointer (some ⟨gs, 0, none⟩)) := hs 14 (by kernel_rfl)
                exact Does.load 27 (.tmp 14) rfl gs 0 h14 (u64s ls) _ ((Blk.later HB.out.2.2 hb (Blk.lt HB.out.2.2)).whole) Try.underlying27 rfl (L5.out _ H_ls.out.len)
              · intro ax wx hb hs hd
                have h7 : ax.tmps.getD 7 undef = (.pointer (some ⟨gx, 0, none⟩)) := hs 7 (by kernel_rfl)
                exact Does.load 27 (.tmp 7) rfl gx 0 h7 (u64s lx) _ ((Blk.later HB.out.2.1 hb (Blk.lt HB.out.2.1)).whole) Try.underlying27 rfl (L5.out _ HF.out.1.len)
              · intro ax wx hb hs hd
                have h2 : ax.tmps.getD 2 undef = (.int .u64 m) := hs 2 (by kernel_rfl)
                refine Does.value (.int .u64 m) ?_ rfl
                clear hs hd
                go_simp
              · intro ax wx hb hs hd
                have h110 : ax.tmps.getD 110 undef = (.int .u64 m) := hd 2 110 rfl (by kernel_rfl) (by decide)
                refine Does.value (.int .u64 (q : Int)) ?_ rfl
                clear hs hd
                go_simp
              · intro ax wx hb hs hd
                have h111 : ax.tmps.getD 111 undef = (.int .u64 (q : Int)) := hd 3 111 rfl (by kernel_rfl) (by decide)
                refine Does.value (.int .u32 (q : Int)) ?_ rfl
                clear hs hd
                go_simp
              · intro ax wx hb hs hd
                have h109 : ax.tmps.getD 109 undef = (.agg (u64s lx).toArray) := hd 1 109 rfl (by kernel_rfl) (by decide)
                have h112 : ax.tmps.getD 112 undef = (.int .u32 (q : Int)) := hd 4 112 rfl (by kernel_rfl) (by decide)
                refine Does.call 30 #[(.agg (u64s lx).toArray), (.int .u32 (q : Int))] (by clear hs hd; go_simp) ?_
                refine (times_any (q : Int) ⟨by omega, by omega⟩ _ _ HF.out.1 _).mono ?_
                rintro z w' ⟨r, rfl, fr, l⟩
                exact ⟨_, rfl, ⟨r, rfl, fr⟩, l⟩
              · intro ax wx hb hs hd
                have h108 : ax.tmps.getD 108 undef = (.agg (u64s ls).toArray) := hd 0 108 rfl (by kernel_rfl) (by decide)
                obtain ⟨l113, h113, f113⟩ : isF (x * (q : Int) % PR) (ax.tmps.getD 113 undef) wx := hd 5 113 rfl (by kernel_rfl) (by decide)
                refine Does.call 24 #[(.agg (u64s ls).toArray), (.agg (u64s l113).toArray)] (by clear hs hd; go_simp) ?_
                refine (one_yes _ _ _ H_ls.out (Fe.eq f113 (by rw [Int.mul_comm])) _).mono ?_
                rintro z w' ⟨rfl, l⟩
                exact ⟨_, rfl, rfl, l⟩
              · intro ax wx hb hs hd
                have h114 : ax.tmps.getD 114 undef = (.bool true) := hd 6 114 rfl (by kernel_rfl) (by decide)
                refine Does.value (.bool true) ?_ rfl
                clear hs hd
                go_simp
              · intro ax wx hb hs hd
                have h7 : ax.tmps.getD 7 undef = (.pointer (some ⟨gx, 0, none⟩)) := hs 7 (by kernel_rfl)
                exact Does.load 27 (.tmp 7) rfl gx 0 h7 (u64s lx) _ ((Blk.later HB.out.2.1 hb (Blk.lt HB.out.2.1)).whole) Try.underlying27 rfl (L5.out _ HF.out.1.len)
              · intro ax wx hb hs hd
                have h2 : ax.tmps.getD 2 undef = (.int .u64 m) := hs 2 (by kernel_rfl)
                refine Does.value (.int .u64 m) ?_ rfl
                clear hs hd
                go_simp
              · intro ax wx hb hs hd
                have h117 : ax.tmps.getD 117 undef = (.int .u64 m) := hd 9 117 rfl (by kernel_rfl) (by decide)
                refine Does.value (.int .u32 M32) ?_ rfl
                clear hs hd
                go_simp
              · intro ax wx hb hs hd
                have h116 : ax.tmps.getD 116 undef = (.agg (u64s lx).toArray) := hd 8 116 rfl (by kernel_rfl) (by decide)
                have h118 : ax.tmps.getD 118 undef = (.int .u32 M32) := hd 10 118 rfl (by kernel_rfl) (by decide)
                refine Does.call 30 #[(.agg (u64s lx).toArray), (.int .u32 M32)] (by clear hs hd; go_simp) ?_
                refine (times_any M32 h32b _ _ HF.out.1 _).mono ?_
                rintro z w' ⟨r, rfl, fr, l⟩
                exact ⟨_, rfl, ⟨r, rfl, fr⟩, l⟩
              · intro ax wx hb hs hd
                have h7 : ax.tmps.getD 7 undef = (.pointer (some ⟨gx, 0, none⟩)) := hs 7 (by kernel_rfl)
                exact Does.load 27 (.tmp 7) rfl gx 0 h7 (u64s lx) _ ((Blk.later HB.out.2.1 hb (Blk.lt HB.out.2.1)).whole) Try.underlying27 rfl (L5.out _ HF.out.1.len)
              · intro ax wx hb hs hd
                have h2 : ax.tmps.getD 2 undef = (.int .u64 m) := hs 2 (by kernel_rfl)
                refine Does.value (.int .u64 m) ?_ rfl
                clear hs hd
                go_simp
              · intro ax wx hb hs hd
                have h121 : ax.tmps.getD 121 undef = (.int .u64 m) := hd 13 121 rfl (by kernel_rfl) (by decide)
                refine Does.value (.int .u64 M32) ?_ rfl
                clear hs hd
                go_simp
              · intro ax wx hb hs hd
                have h122 : ax.tmps.getD 122 undef = (.int .u64 M32) := hd 14 122 rfl (by kernel_rfl) (by decide)
                refine Does.call 25 #[(.int .u64 M32)] (by clear hs hd; go_simp) ?_
                refine (small_any M32 h32b.1 (by omega) _).mono ?_
                rintro z w' ⟨r, rfl, fr, l⟩
                exact ⟨_, rfl, ⟨r, rfl, fr⟩, l⟩
              · intro ax wx hb hs hd
                have h120 : ax.tmps.getD 120 undef = (.agg (u64s lx).toArray) := hd 12 120 rfl (by kernel_rfl) (by decide)
                obtain ⟨l123, h123, f123⟩ : isF M32 (ax.tmps.getD 123 undef) wx := hd 15 123 rfl (by kernel_rfl) (by decide)
                refine Does.call 31 #[(.agg (u64s lx).toArray), (.agg (u64s l123).toArray)] (by clear hs hd; go_simp) ?_
                refine (mul_any _ _ _ _ HF.out.1 f123 _).mono ?_
                rintro z w' ⟨r, rfl, fr, l⟩
                exact ⟨_, rfl, ⟨r, rfl, fr⟩, l⟩
              · intro ax wx hb hs hd
                obtain ⟨l119, h119, f119⟩ : isF (x * M32 % PR) (ax.tmps.getD 119 undef) wx := hd 11 119 rfl (by kernel_rfl) (by decide)
                obtain ⟨l124, h124, f124⟩ : isF (x * M32 % PR) (ax.tmps.getD 124 undef) wx := hd 16 124 rfl (by kernel_rfl) (by decide)
                refine Does.call 24 #[(.agg (u64s l119).toArray), (.agg (u64s l124).toArray)] (by clear hs hd; go_simp) ?_
                refine (one_yes _ _ _ f119 (Fe.eq f124 (rfl)) _).mono ?_
                rintro z w' ⟨rfl, l⟩
                exact ⟨_, rfl, rfl, l⟩
              · intro ax wx hb hs hd
                have h115 : ax.tmps.getD 115 undef = (.bool true) := hd 7 115 rfl (by kernel_rfl) (by decide)
                have h125 : ax.tmps.getD 125 undef = (.bool true) := hd 17 125 rfl (by kernel_rfl) (by decide)
                refine Does.value (.bool true) ?_ rfl
                clear hs hd
                go_simp
            · intro wx hb
              refine @Ends.val _ _ _ _ _ _ _ _ _ (.agg (u64s ls).toArray) rfl ?_
              refine @Ends.val _ _ _ _ _ _ _ _ _ (.agg (u64s lx).toArray) rfl ?_
              refine @Ends.val _ _ _ _ _ _ _ _ _ (.int .u64 m) rfl ?_
              refine @Ends.val _ _ _ _ _ _ _ _ _ (.int .u64 (q : Int)) rfl ?_
              refine @Ends.val _ _ _ _ _ _ _ _ _ (.int .u32 (q : Int)) rfl ?_
              refine @Ends.any _ _ _ _ _ _ _ _ _ (isF (x * (q : Int) % PR)) (isF_later (x * (q : Int) % PR)) rfl ?_
              intro v5 p5
              refine @Ends.val _ _ _ _ _ _ _ _ _ (.bool true) rfl ?_
              refine @Ends.val _ _ _ _ _ _ _ _ _ (.bool true) rfl ?_
              refine @Ends.val _ _ _ _ _ _ _ _ _ (.agg (u64s lx).toArray) rfl ?_
              refine @Ends.val _ _ _ _ _ _ _ _ _ (.int .u64 m) rfl ?_
              refine @Ends.val _ _ _ _ _ _ _ _ _ (.int .u32 M32) rfl ?_
              refine @Ends.any _ _ _ _ _ _ _ _ _ (isF (x * M32 % PR)) (isF_later (x * M32 % PR)) rfl ?_
              intro v11 p11
              refine @Ends.val _ _ _ _ _ _ _ _ _ (.agg (u64s lx).toArray) rfl ?_
              refine @Ends.val _ _ _ _ _ _ _ _ _ (.int .u64 m) rfl ?_
              refine @Ends.val _ _ _ _ _ _ _ _ _ (.int .u64 M32) rfl ?_
              refine @Ends.any _ _ _ _ _ _ _ _ _ (isF M32) (isF_later M32) rfl ?_
              intro v15 p15
              refine @Ends.any _ _ _ _ _ _ _ _ _ (isF (x * M32 % PR)) (isF_later (x * M32 % PR)) rfl ?_
              intro v16 p16
              refine @Ends.val _ _ _ _ _ _ _ _ _ (.bool true) rfl ?_
              refine @Ends.val _ _ _ _ _ _ _ _ _ (.bool true) rfl ?_
              refine @Ends.one _ _ _ _ _ _ _ ?_
              simp only [Act.put, List.setIfInBounds_toArray, List.set_cons_zero, List.set_cons_succ]
              refine last_assign (.tmp 126) rfl (some 6) rfl (.bool true) rfl ?_
              have VZ : Hid (Below w.heap.size w wx ∧ Blk wx gx 27 (u64s lx) ∧ Blk wx gs 27 (u64s ls)) := ⟨below_chain HB.out.1 hb HB.out.1.size, (HB.out.2.1.later hb HB.out.2.1.lt), (HB.out.2.2.later hb HB.out.2.2.lt)⟩
              obtain ⟨yVZ, rfl⟩ : ∃ q, q = wx := ⟨_, rfl⟩
              clear HB hb p5 p11 p15 p16
              simp only [Act.put, List.setIfInBounds_toArray, List.set_cons_zero, List.set_cons_succ]
              go_wp2_with fail
              go_ret
              exact ⟨rfl, VZ.out.1⟩
end Go.Proofs.Ytnifolefhelmcaa
