/- Layer record: headOf. -/
import Derived.Test.YtabdjoljdefjdaaRcHead
namespace Go.Proofs.Ytabdjoljdefjdaa
open Go.RowKit
set_option linter.unusedVariables false
set_option linter.unusedSimpArgs false

theorem Blk.allR {w : World} {g : Nat} {t : TypeId} {vs : List Value} (h : Blk w g t vs) : w.rangeAt g 0 vs := fun j v hv => by rw [Nat.zero_add, h.cell]; exact hv
theorem atDrop (b o cap : Nat) (w : World) : (Instr.arrayAt 24 (.slice (some ⟨b, o, none⟩) 16 cap)).run Try.prog w = .ok (.pointer (some ⟨b, o, none⟩)) w := by kernel_rfl
theorem Does.arrayAt {base : Nat} {E : Exp} {ρ : Operand → Value} {o : Oper} {w : World} (t : TypeId) (x : Operand) (ho : o.op = .sliceToArrayPointer t x) (v u : Value) (hx : ρ x = v) (hrun : (Instr.arrayAt t v).run Try.prog w = .ok u w) (hE : E.ok base u w) : Does base E ρ o w := by
  refine Does.value u ?_ hE
  unfold execOp
  simp only [ho, hx, Sem.run_bind, hrun, Sem.run_pure, Result.andThen_ok]
theorem hbuild16 (a b c d g0 g1 g2 g3 g4 g5 g6 g7 g8 g9 g10 g11 g12 g13 g14 g15 : Int) (w : World) : (Instr.build 26 #[(0, .int .u8 a), (1, .int .u8 b), (2, .int .u32 c), (3, .int .u32 d), (4, .agg (u8s [g0, g1, g2, g3, g4, g5, g6, g7, g8, g9, g10, g11, g12, g13, g14, g15]).toArray)]).run Try.prog w = .ok (.agg (hdC ⟨a, b, c, d, [g0, g1, g2, g3, g4, g5, g6, g7, g8, g9, g10, g11, g12, g13, g14, g15]⟩).toArray) w := by kernel_rfl
theorem hbuild {h : Hd} (w : World) (hl : h.group.length = 16) : (Instr.build 26 #[(0, .int .u8 h.live), (1, .int .u8 h.flag), (2, .int .u32 h.index), (3, .int .u32 h.rank), (4, .agg (u8s h.group).toArray)]).run Try.prog w = .ok (.agg (hdC h).toArray) w := by
  obtain ⟨a, b, c, d, g⟩ := h
  simp only at hl
  match g, hl with
  | [g0, g1, g2, g3, g4, g5, g6, g7, g8, g9, g10, g11, g12, g13, g14, g15], _ => exact hbuild16 a b c d g0 g1 g2 g3 g4 g5 g6 g7 g8 g9 g10 g11 g12 g13 g14 g15 w
set_option maxRecDepth 20000 in
set_option maxHeartbeats 1000000 in
theorem headOf_short (ao : Option Addr) (n c : Nat) (hn : n < 26) (w : World) :
    Calls Try.prog 40 #[.slice ao n c] w fun e w' => e = .returned (.tuple #[.agg (hdC hdZ).toArray, .int .u64 0]) ∧ Below w.heap.size w w' := by
  go_enter Try.func40, Try.ntmps40
  go_wp2_with (first | (refine wpList_alloc_new rfl 26 rfl 20 _ hzero ?_; intro w1 b1 s1 l1) | (refine wpList_build rfl 26 _ rfl #[] rfl _ (hbuild0 _) ?_) | (refine wpList_store_blk rfl 26 26 _ _ rfl _ rfl _ (hdC hdZ) rfl b1 rfl hsize (hdC_one _) ?_; intro w2 b2 s2 k2))
  refine ret_blkt rfl w.heap.size (hdC hdZ) _ _ rfl rfl b2 Try.underlying26 rfl hsize rfl ⟨rfl, below_kept l1 k2 (by omega) (fun j hj => by omega)⟩
set_option maxRecDepth 20000 in
set_option maxHeartbeats 4000000 in
theorem headOf_long (ao : Option Addr) (n c : Nat) (zs : List Int) (hn : 26 ≤ n) (hc : n ≤ c) (w : World) (hx : Seen w ao n zs) :
    Calls Try.prog 40 #[.slice ao n c] w fun e w' => e = .returned (.tuple #[.agg (hdC (hdOf zs)).toArray, .int .u64 (mk (isR zs))]) ∧ Below w.heap.size w w' := by
  have HN : Hid (26 ≤ n ∧ n ≤ c) := ⟨hn, hc⟩
  have t1 := hx.top
  have hl := hx.len
  obtain ⟨b, o, rfl, hb0, hcells⟩ := hx.cells (by omega)
  have kz : HdOk (hdOf zs) := hdOf_ok hx.bytes (by omega)
  have HSn : Hid (Seen w (some ⟨b, o, none⟩) n zs) := hx
  obtain ⟨h, hh⟩ : ∃ h, hdOf zs = h := ⟨_, rfl⟩
  rw [hh] at kz ⊢
  have h0 : zs.getD 0 0 = h.live := by rw [← hh]; rfl
  have h1 : zs.getD 1 0 = h.flag := by rw [← hh]; rfl
  have h2 : le ((zs.drop 2).take 4) = h.index := by rw [← hh]; rfl
  have h3 : le ((zs.drop 6).take 4) = h.rank := by rw [← hh]; rfl
  have h4 : (zs.drop 10).take 16 = h.group := by rw [← hh]; rfl
  have HI : Hid (le ((zs.drop 2).take 4) = h.index ∧ le ((zs.drop 6).take 4) = h.rank ∧ HdOk h) := ⟨h2, h3, kz⟩
  have OR := or_two h.live h.flag kz.live kz.flag
  have HR : Hid (mk (decide (bits .or .u8 h.live h.flag < 2)) = mk (isR zs)) := by
    show _ = _
    rw [OR.2, isR, decide_eq_true (by omega : 26 ≤ zs.length), Bool.true_and, h0, h1]
  have HC0 : Hid (∀ W, Below w.heap.size w W → W.cell? ⟨b, o, none⟩ = some (.int .u8 h.live) ∧ W.cell? ⟨b, o + 1, none⟩ = some (.int .u8 h.flag) ∧ Seen W (some ⟨b, o + 2, none⟩) 4 ((zs.drop 2).take 4) ∧ Seen W (some ⟨b, o + 6, none⟩) 4 ((zs.drop 6).take 4) ∧ W.rangeAt b (o + 10) (u8s h.group)) := by
    intro W hW
    have S := hx.later hW (Nat.le_refl _)
    have a : ∀ k, k ≤ 10 → subA (some ⟨b, o, none⟩) k c = some ⟨b, o + k, none⟩ := fun k hk => by rw [subA, if_neg (by omega), Option.map_some, add_mid]
    have S2 := S.sub 2 6 c (by omega) (by omega) hc
    have S6 := S.sub 6 10 c (by omega) (by omega) hc
    rw [a 2 (by omega)] at S2
    rw [a 6 (by omega)] at S6
    obtain ⟨b', o', e, _, C⟩ := S.cells (by omega)
    obtain ⟨rfl, rfl⟩ : b = b' ∧ o = o' := by simpa using e
    refine ⟨?_, ?_, S2, S6, ?_⟩
    · rw [← h0]; exact C 0 (by omega)
    · rw [← h1]; exact C 1 (by omega)
    · intro j v hv
      rw [← h4] at hv
      obtain ⟨hj, e⟩ := List.getElem?_eq_some_iff.1 hv
      have hj' : j < 16 := by rw [u8s_length, List.length_take] at hj; omega
      rw [Nat.add_assoc, C (10 + j) (by omega), ← e]
      simp [u8s, List.getD, show 10 + j < zs.length by omega]
  have HS : Hid ((∀ W, (Instr.sliceAt 27 (.slice (some ⟨b, o, none⟩) n c) (some (.int .i64 2)) (some (.int .i64 6)) none).run Try.prog W = .ok (.slice (some ⟨b, o + 2, none⟩) 4 (c - 2)) W) ∧ (∀ W, (Instr.sliceAt 27 (.slice (some ⟨b, o, none⟩) n c) (some (.int .i64 6)) (some (.int .i64 10)) none).run Try.prog W = .ok (.slice (some ⟨b, o + 6, none⟩) 4 (c - 6)) W) ∧ (∀ W, (Instr.sliceAt 27 (.slice (some ⟨b, o, none⟩) n c) (some (.int .i64 10)) (some (.int .i64 26)) none).run Try.prog W = .ok (.slice (some ⟨b, o + 10, none⟩) 16 (c - 10)) W)) := by
    have a : ∀ k, k ≤ 10 → subA (some ⟨b, o, none⟩) k c = some ⟨b, o + k, none⟩ := fun k hk => by rw [subA, if_neg (by omega), Option.map_some, add_mid]
    refine ⟨fun W => ?_, fun W => ?_, fun W => ?_⟩
    · have s := sl_lh (some ⟨b, o, none⟩) n c 2 6 (by omega) (by omega) W
      rw [a 2 (by omega)] at s
      exact s
    · have s := sl_lh (some ⟨b, o, none⟩) n c 6 10 (by omega) (by omega) W
      rw [a 6 (by omega)] at s
      exact s
    · have s := sl_lh (some ⟨b, o, none⟩) n c 10 26 (by omega) (by omega) W
      rw [a 10 (by omega)] at s
      exact s
  obtain ⟨OR1, OR2⟩ := OR
  obtain ⟨O1, O2⟩ := OR1
  have HO : Hid (0 ≤ bits .or .u8 h.live h.flag ∧ bits .or .u8 h.live h.flag < 256) := ⟨O1, O2⟩
  have i1 : ¬ ((n : Int) < 26) := by omega
  clear hx hcells hh h0 h1 h2 h3 h4 kz OR2 O1 O2 hb0 hl hn hc
  go_enter Try.func40, Try.ntmps40
  go_wp2_with (first | (refine wpList_alloc_new rfl 26 rfl 20 _ hzero ?_; intro w1 b1 s1 l1))
  have HC : Hid (∀ W, Below w1.heap.size w1 W → W.cell? ⟨b, o, none⟩ = some (.int .u8 h.live) ∧ W.cell? ⟨b, o + 1, none⟩ = some (.int .u8 h.flag) ∧ Seen W (some ⟨b, o + 2, none⟩) 4 ((zs.drop 2).take 4) ∧ Seen W (some ⟨b, o + 6, none⟩) 4 ((zs.drop 6).take 4) ∧ W.rangeAt b (o + 10) (u8s h.group)) := fun W hW => HC0.out W (below_chain l1 hW (by omega))
  refine region_inv [.val (.slice (some ⟨b, o, none⟩) n c), .val (.pointer (some ⟨b, o, none⟩)), .val (.int .u8 h.live), .val (.slice (some ⟨b, o, none⟩) n c), .val (.pointer (some ⟨b, o + 1, none⟩)), .val (.int .u8 h.flag), .val (.slice (some ⟨b, o, none⟩) n c), .val (.slice (some ⟨b, o + 2, none⟩) 4 (c - 2)), .val (.int .u32 h.index), .val (.slice (some ⟨b, o, none⟩) n c), .val (.slice (some ⟨b, o + 6, none⟩) 4 (c - 6)), .val (.int .u32 h.rank), .val (.slice (some ⟨b, o, none⟩) n c), .val (.slice (some ⟨b, o + 10, none⟩) 16 (c - 10)), .val (.pointer (some ⟨b, o + 10, none⟩)), .val (.agg (u8s h.group).toArray), .val (.agg (hdC h).toArray), .blk 26 (hdC hdZ)] (by kernel_rfl) (by kernel_rfl) (by kernel_rfl) ?_ ?_
  · refine Steps'.cons ?_ (Steps'.cons ?_ (Steps'.cons ?_ (Steps'.cons ?_ (Steps'.cons ?_ (Steps'.cons ?_ (Steps'.cons ?_ (Steps'.cons ?_ (Steps'.cons ?_ (Steps'.cons ?_ (Steps'.cons ?_ (Steps'.cons ?_ (Steps'.cons ?_ (Steps'.cons ?_ (Steps'.cons ?_ (Steps'.cons ?_ (Steps'.cons ?_ (Steps'.cons ?_ (Steps'.one _ _ _ _ _ _ _))))))))))))))))))
    · intro ax wx hb hs hd
      have h0 : ax.tmps.getD 0 undef = (.slice (some ⟨b, o, none⟩) n c) := hs 0 (by kernel_rfl)
      refine Does.value (.slice (some ⟨b, o, none⟩) n c) ?_ rfl
      clear hs hd
      go_simp
    · intro ax wx hb hs hd
      have h9 : ax.tmps.getD 9 undef = (.slice (some ⟨b, o, none⟩) n c) := hd 0 9 rfl (by kernel_rfl) (by decide)
      have hn : 26 ≤ n := HN.out.1
      refine Does.value (.pointer (some ⟨b, o, none⟩)) ?_ rfl
      clear hs hd
      go_simp
      intro hz
      omega
    · intro ax wx hb hs hd
      have h10 : ax.tmps.getD 10 undef = (.pointer (some ⟨b, o, none⟩)) := hd 1 10 rfl (by kernel_rfl) (by decide)
      have c0 := (HC.out wx hb).1
      refine Does.value (.int .u8 h.live) ?_ rfl
      clear hs hd
      go_simp
    · intro ax wx hb hs hd
      have h0 : ax.tmps.getD 0 undef = (.slice (some ⟨b, o, none⟩) n c) := hs 0 (by kernel_rfl)
      refine Does.value (.slice (some ⟨b, o, none⟩) n c) ?_ rfl
      clear hs hd
      go_simp
    · intro ax wx hb hs hd
      have h12 : ax.tmps.getD 12 undef = (.slice (some ⟨b, o, none⟩) n c) := hd 3 12 rfl (by kernel_rfl) (by decide)
      have hn : 26 ≤ n := HN.out.1
      refine Does.value (.pointer (some ⟨b, o + 1, none⟩)) ?_ rfl
      clear hs hd
      go_simp
      intro hz
      omega
    · intro ax wx hb hs hd
      have h13 : ax.tmps.getD 13 undef = (.pointer (some ⟨b, o + 1, none⟩)) := hd 4 13 rfl (by kernel_rfl) (by decide)
      have c0 := (HC.out wx hb).2.1
      refine Does.value (.int .u8 h.flag) ?_ rfl
      clear hs hd
      go_simp
    · intro ax wx hb hs hd
      have h0 : ax.tmps.getD 0 undef = (.slice (some ⟨b, o, none⟩) n c) := hs 0 (by kernel_rfl)
      refine Does.value (.slice (some ⟨b, o, none⟩) n c) ?_ rfl
      clear hs hd
      go_simp
    · intro ax wx hb hs hd
      have h15 : ax.tmps.getD 15 undef = (.slice (some ⟨b, o, none⟩) n c) := hd 6 15 rfl (by kernel_rfl) (by decide)
      have S := HS.out.1
      refine Does.value (.slice (some ⟨b, o + 2, none⟩) 4 (c - 2)) ?_ rfl
      clear hs hd
      go_simp
    · intro ax wx hb hs hd
      have h16 : ax.tmps.getD 16 undef = (.slice (some ⟨b, o + 2, none⟩) 4 (c - 2)) := hd 7 16 rfl (by kernel_rfl) (by decide)
      refine Does.call 51 #[.slice (some ⟨b, o + 2, none⟩) 4 (c - 2)] (by clear hs hd; go_simp) ?_
      refine (number_any _ _ _ wx (HC.out wx hb).2.2.1).mono ?_
      rintro e w' ⟨rfl, rfl⟩
      rw [HI.out.1]
      exact ⟨_, rfl, rfl, Below.refl _ _⟩
    · intro ax wx hb hs hd
      have h0 : ax.tmps.getD 0 undef = (.slice (some ⟨b, o, none⟩) n c) := hs 0 (by kernel_rfl)
      refine Does.value (.slice (some ⟨b, o, none⟩) n c) ?_ rfl
      clear hs hd
      go_simp
    · intro ax wx hb hs hd
      have h18 : ax.tmps.getD 18 undef = (.slice (some ⟨b, o, none⟩) n c) := hd 9 18 rfl (by kernel_rfl) (by decide)
      have S := HS.out.2.1
      refine Does.value (.slice (some ⟨b, o + 6, none⟩) 4 (c - 6)) ?_ rfl
      clear hs hd
      go_simp
    · intro ax wx hb hs hd
      have h19 : ax.tmps.getD 19 undef = (.slice (some ⟨b, o + 6, none⟩) 4 (c - 6)) := hd 10 19 rfl (by kernel_rfl) (by decide)
      refine Does.call 51 #[.slice (some ⟨b, o + 6, none⟩) 4 (c - 6)] (by clear hs hd; go_simp) ?_
      refine (number_any _ _ _ wx (HC.out wx hb).2.2.2.1).mono ?_
      rintro e w' ⟨rfl, rfl⟩
      rw [HI.out.2.1]
      exact ⟨_, rfl, rfl, Below.refl _ _⟩
    · intro ax wx hb hs hd
      have h0 : ax.tmps.getD 0 undef = (.slice (some ⟨b, o, none⟩) n c) := hs 0 (by kernel_rfl)
      refine Does.value (.slice (some ⟨b, o, none⟩) n c) ?_ rfl
      clear hs hd
      go_simp
    · intro ax wx hb hs hd
      have h21 : ax.tmps.getD 21 undef = (.slice (some ⟨b, o, none⟩) n c) := hd 12 21 rfl (by kernel_rfl) (by decide)
      have S := HS.out.2.2
      refine Does.value (.slice (some ⟨b, o + 10, none⟩) 16 (c - 10)) ?_ rfl
      clear hs hd
      go_simp
    · intro ax wx hb hs hd
      have h22 : ax.tmps.getD 22 undef = (.slice (some ⟨b, o + 10, none⟩) 16 (c - 10)) := hd 13 22 rfl (by kernel_rfl) (by decide)
      exact Does.arrayAt 24 (.tmp 22) rfl _ _ h22 (atDrop b (o + 10) (c - 10) wx) rfl
    · intro ax wx hb hs hd
      have h23 : ax.tmps.getD 23 undef = (.pointer (some ⟨b, o + 10, none⟩)) := hd 14 23 rfl (by kernel_rfl) (by decide)
      exact Does.load 24 (.tmp 23) rfl b (o + 10) h23 (u8s h.group) _ (HC.out wx hb).2.2.2.2 Try.underlying24 rfl (by rw [u8s_length, HI.out.2.2.len]; exact dsize)
    · intro ax wx hb hs hd
      have h11 : ax.tmps.getD 11 undef = (.int .u8 h.live) := hd 2 11 rfl (by kernel_rfl) (by decide)
      have h14 : ax.tmps.getD 14 undef = (.int .u8 h.flag) := hd 5 14 rfl (by kernel_rfl) (by decide)
      have h17 : ax.tmps.getD 17 undef = (.int .u32 h.index) := hd 8 17 rfl (by kernel_rfl) (by decide)
      have h20 : ax.tmps.getD 20 undef = (.int .u32 h.rank) := hd 11 20 rfl (by kernel_rfl) (by decide)
      have h24 : ax.tmps.getD 24 undef = (.agg (u8s h.group).toArray) := hd 15 24 rfl (by kernel_rfl) (by decide)
      refine Does.build 26 _ rfl #[(0, .int .u8 h.live), (1, .int .u8 h.flag), (2, .int .u32 h.index), (3, .int .u32 h.rank), (4, .agg (u8s h.group).toArray)] ?_ _ (hbuild wx HI.out.2.2.len)
      simp only [List.map_toArray, List.map_cons, List.map_nil]
      clear hs hd
      simp only [Act.eval, h11, h14, h17, h20, h24]
    · intro ax wx hb hs hd
      exact Does.alloc 26 rfl 20 _ hzero hb.size
  · intro wx hb
    refine @Ends.val _ _ _ _ _ _ _ _ _ (.slice (some ⟨b, o, none⟩) n c) rfl ?_
    refine @Ends.val _ _ _ _ _ _ _ _ _ (.pointer (some ⟨b, o, none⟩)) rfl ?_
    refine @Ends.val _ _ _ _ _ _ _ _ _ (.int .u8 h.live) rfl ?_
    refine @Ends.val _ _ _ _ _ _ _ _ _ (.slice (some ⟨b, o, none⟩) n c) rfl ?_
    refine @Ends.val _ _ _ _ _ _ _ _ _ (.pointer (some ⟨b, o + 1, none⟩)) rfl ?_
    refine @Ends.val _ _ _ _ _ _ _ _ _ (.int .u8 h.flag) rfl ?_
    refine @Ends.val _ _ _ _ _ _ _ _ _ (.slice (some ⟨b, o, none⟩) n c) rfl ?_
    refine @Ends.val _ _ _ _ _ _ _ _ _ (.slice (some ⟨b, o + 2, none⟩) 4 (c - 2)) rfl ?_
    refine @Ends.val _ _ _ _ _ _ _ _ _ (.int .u32 h.index) rfl ?_
    refine @Ends.val _ _ _ _ _ _ _ _ _ (.slice (some ⟨b, o, none⟩) n c) rfl ?_
    refine @Ends.val _ _ _ _ _ _ _ _ _ (.slice (some ⟨b, o + 6, none⟩) 4 (c - 6)) rfl ?_
    refine @Ends.val _ _ _ _ _ _ _ _ _ (.int .u32 h.rank) rfl ?_
    refine @Ends.val _ _ _ _ _ _ _ _ _ (.slice (some ⟨b, o, none⟩) n c) rfl ?_
    refine @Ends.val _ _ _ _ _ _ _ _ _ (.slice (some ⟨b, o + 10, none⟩) 16 (c - 10)) rfl ?_
    refine @Ends.val _ _ _ _ _ _ _ _ _ (.pointer (some ⟨b, o + 10, none⟩)) rfl ?_
    refine @Ends.val _ _ _ _ _ _ _ _ _ (.agg (u8s h.group).toArray) rfl ?_
    refine @Ends.val _ _ _ _ _ _ _ _ _ (.agg (hdC h).toArray) rfl ?_
    refine @Ends.blk _ _ _ _ _ _ _ _ _ 26 (hdC hdZ) rfl ?_
    intro g4 hg4 bg4
    refine @Ends.one _ _ _ _ _ _ _ ?_
    simp only [Act.put, List.setIfInBounds_toArray, List.set_cons_zero, List.set_cons_succ]
    refine last_store 26 (.tmp 4) (.tmp 25) rfl rfl g4 rfl 26 _ (hdC h) rfl bg4 (by rw [hdC_length HI.out.2.2.len]; rfl) (hsizeC HI.out.2.2.len) (hdC_one _) ?_
    intro w2 b2 s2 k2
    have q1 := hb.size
    have V : Hid (Blk w2 g4 26 (hdC h) ∧ Blk w2 w.heap.size 26 (hdC hdZ) ∧ Below w.heap.size w w2 ∧ w.heap.size < g4) := ⟨b2, (b1.later hb (by omega)).kept k2 (by omega), below_kept (below_chain l1 hb (by omega)) k2 (by omega) (fun j hj => by omega), by omega⟩
    clear b2 k2 bg4 b1 l1 hb q1 s2 s1 hg4
    go_wp2
    refine region_invP 8 ((.val (.agg (hdC h).toArray)) :: (.val (.pointer (some ⟨g4, 0, none⟩))) :: (.val (.int .u8 h.live)) :: (.val (.pointer (some ⟨g4, 1, none⟩))) :: (.val (.int .u8 h.flag)) :: (.val (.int .u8 (bits .or .u8 h.live h.flag))) :: (.val (.int .u64 (bits .or .u8 h.live h.flag))) :: (.val (.int .u64 (mk (isR zs)))) :: []) (by kernel_rfl) (by kernel_rfl) (by kernel_rfl) [] ⟨.inl rfl, .inl rfl, .inl rfl, .inl rfl, .inl rfl, .inl rfl, .inl rfl, .inl rfl, trivial⟩ (by kernel_rfl) ?_ ?_
    · refine Steps'.cons ?_ (Steps'.cons ?_ (Steps'.cons ?_ (Steps'.cons ?_ (Steps'.cons ?_ (Steps'.cons ?_ (Steps'.cons ?_ (Steps'.cons ?_ (Steps'.one _ _ _ _ _ _ _))))))))
      · intro ax wx hb hs hd
        have h4 : ax.tmps.getD 4 undef = (.pointer (some ⟨g4, 0, none⟩)) := hs 4 (by kernel_rfl)
        exact Does.load 26 (.tmp 4) rfl g4 0 h4 (hdC h) _ (V.out.1.later hb V.out.1.lt).allR Try.underlying26 rfl (hsizeC HI.out.2.2.len)
      · intro ax wx hb hs hd
        have h4 : ax.tmps.getD 4 undef = (.pointer (some ⟨g4, 0, none⟩)) := hs 4 (by kernel_rfl)
        refine Does.value (.pointer (some ⟨g4, 0, none⟩)) ?_ rfl
        clear hs hd
        go_simp
      · intro ax wx hb hs hd
        have h27 : ax.tmps.getD 27 undef = (.pointer (some ⟨g4, 0, none⟩)) := hd 1 27 rfl (by kernel_rfl) (by decide)
        have c0 : wx.cell? ⟨g4, 0, none⟩ = some (.int .u8 h.live) := (V.out.1.later hb V.out.1.lt).cell 0
        refine Does.value (.int .u8 h.live) ?_ rfl
        clear hs hd
        go_simp
      · intro ax wx hb hs hd
        have h4 : ax.tmps.getD 4 undef = (.pointer (some ⟨g4, 0, none⟩)) := hs 4 (by kernel_rfl)
        refine Does.value (.pointer (some ⟨g4, 1, none⟩)) ?_ rfl
        clear hs hd
        go_simp
      · intro ax wx hb hs hd
        have h29 : ax.tmps.getD 29 undef = (.pointer (some ⟨g4, 1, none⟩)) := hd 3 29 rfl (by kernel_rfl) (by decide)
        have c0 : wx.cell? ⟨g4, 1, none⟩ = some (.int .u8 h.flag) := (V.out.1.later hb V.out.1.lt).cell 1
        refine Does.value (.int .u8 h.flag) ?_ rfl
        clear hs hd
        go_simp
      · intro ax wx hb hs hd
        have h28 : ax.tmps.getD 28 undef = (.int .u8 h.live) := hd 2 28 rfl (by kernel_rfl) (by decide)
        have h30 : ax.tmps.getD 30 undef = (.int .u8 h.flag) := hd 4 30 rfl (by kernel_rfl) (by decide)
        refine Does.value (.int .u8 (bits .or .u8 h.live h.flag)) ?_ rfl
        clear hs hd
        go_simp
      · intro ax wx hb hs hd
        have h31 : ax.tmps.getD 31 undef = (.int .u8 (bits .or .u8 h.live h.flag)) := hd 5 31 rfl (by kernel_rfl) (by decide)
        obtain ⟨o1, o2⟩ := HO.out
        have o3 : IntKind.u64.wrap (bits .or .u8 h.live h.flag) = bits .or .u8 h.live h.flag := by rw [IntKind.wrap_u64]; omega
        refine Does.value (.int .u64 (bits .or .u8 h.live h.flag)) ?_ rfl
        clear hs hd
        go_simp
      · intro ax wx hb hs hd
        have h32 : ax.tmps.getD 32 undef = (.int .u64 (bits .or .u8 h.live h.flag)) := hd 6 32 rfl (by kernel_rfl) (by decide)
        refine Does.call 52 #[.int .u64 (bits .or .u8 h.live h.flag), .int .u64 2] (by clear hs hd; go_simp) ?_
        refine (less_any _ 2 ⟨HO.out.1, by have := HO.out.2; omega⟩ (by decide) wx).mono ?_
        rintro e w' ⟨rfl, rfl⟩
        rw [HR.out]
        exact ⟨_, rfl, rfl, Below.refl _ _⟩
    · intro wx hb
      refine @EndsP.val _ _ _ _ _ _ _ _ (.agg (hdC h).toArray) rfl ?_
      refine @EndsP.val _ _ _ _ _ _ _ _ (.pointer (some ⟨g4, 0, none⟩)) rfl ?_
      refine @EndsP.val _ _ _ _ _ _ _ _ (.int .u8 h.live) rfl ?_
      refine @EndsP.val _ _ _ _ _ _ _ _ (.pointer (some ⟨g4, 1, none⟩)) rfl ?_
      refine @EndsP.val _ _ _ _ _ _ _ _ (.int .u8 h.flag) rfl ?_
      refine @EndsP.val _ _ _ _ _ _ _ _ (.int .u8 (bits .or .u8 h.live h.flag)) rfl ?_
      refine @EndsP.val _ _ _ _ _ _ _ _ (.int .u64 (bits .or .u8 h.live h.flag)) rfl ?_
      refine @EndsP.val _ _ _ _ _ _ _ _ (.int .u64 (mk (isR zs))) rfl ?_
      intro hD nf hn
      obtain ⟨mf, rfl⟩ : ∃ mf, nf = mf + 2 := ⟨nf - 2, by have h3 : 2 ≤ nf := hn; omega⟩
      clear hD hn
      simp only [Act.put, List.setIfInBounds_toArray, List.set_cons_zero, List.set_cons_succ]
      refine wpAny_ready (rs := [8]) (by kernel_rfl) (by simp) (AllReady.cons rfl (fun K hK => ?_) AllReady.nil)
      rw [if_pos (by rfl)]
      refine last_store 26 (.tmp 2) (.tmp 26) rfl rfl w.heap.size rfl 26 _ (hdC h) rfl (V.out.2.1.later hb V.out.2.1.lt) (by rw [hdC_length HI.out.2.2.len]; rfl) (hsizeC HI.out.2.2.len) (hdC_one _) ?_
      intro wy bY sy ky
      refine hK _ _ ?_
      clear hK K
      refine wpAny_ready (rs := [9]) (by kernel_rfl) (by simp) (AllReady.cons rfl (fun K hK => ?_) AllReady.nil)
      rw [if_pos (by rfl)]
      refine last_assign (.tmp 33) rfl (some 3) rfl (.int .u64 (mk (isR zs))) rfl ?_
      refine hK _ _ ?_
      clear hK K
      simp only [Act.put, List.setIfInBounds_toArray, List.set_cons_zero, List.set_cons_succ]
      refine wpAny_done (by kernel_rfl) (NoPanic.normal ?_) _
      have q2 := V.out.2.2.1.size
      have q3 := hb.size
      go_wp2
      exact ret_blkt rfl w.heap.size (hdC h) _ _ rfl rfl bY Try.underlying26 rfl (hsizeC HI.out.2.2.len) rfl ⟨rfl, below_kept (below_chain V.out.2.2.1 hb (by omega)) ky (by omega) (fun j hj => by omega)⟩
theorem headOf_any (ao : Option Addr) (n c : Nat) (zs : List Int) (hc : n ≤ c) (w : World) (hx : Seen w ao n zs) :
    Calls Try.prog 40 #[.slice ao n c] w fun e w' => e = .returned (.tuple #[.agg (hdC (hdV zs)).toArray, .int .u64 (mk (isR zs))]) ∧ Below w.heap.size w w' := by
  have hl := hx.len
  by_cases hn : n < 26
  · rw [hdV, if_pos (by omega), isR, decide_eq_false (by omega : ¬ 26 ≤ zs.length), Bool.false_and]
    exact headOf_short ao n c hn w
  · rw [hdV, if_neg (by omega)]
    exact headOf_long ao n c zs (by omega) hc w hx
end Go.Proofs.Ytabdjoljdefjdaa
