/- Layer field: FieldRing: the laws of a field, but for Invert. -/
import Derived.Test.YtfeeikkfjbdkiaaFRing
import Derived.Test.YtfeeikkfjbdkiaaFAwake
import Derived.Test.YtfeeikkfjbdkiaaFSquare
import Derived.Test.YtfeeikkfjbdkiaaRInvP
namespace Go.Proofs.Ytfeeikkfjbdkiaa
open Go.RowKit
set_option linter.unusedVariables false
set_option linter.unusedSimpArgs false

set_option maxRecDepth 20000 in
set_option maxHeartbeats 8000000 in
theorem ring_any (aa bb cc : List Int) (la : aa.length = 32) (ba : Bytes aa) (lb : bb.length = 32) (bbb : Bytes bb) (lc : cc.length = 32) (bc : Bytes cc) (w : World) :
    Calls Try.prog 6 #[.agg (u8s aa).toArray, .agg (u8s bb).toArray, .agg (u8s cc).toArray] w fun e w' => e = .returned (.bool true) ∧ Below w.heap.size w w' := by
  have hx := fof_any aa la ba
  have HA_aa : Hid (aa.length = 32) := la
  obtain ⟨x, ex⟩ : ∃ q, le aa % 57896044618658097711785492504343953926634992332820282019728792003956564819968 % PR = q := ⟨_, rfl⟩
  have rx : 0 ≤ x ∧ x < PR := by rw [← ex]; exact ⟨Int.emod_nonneg _ (by decide), Int.emod_lt_of_pos _ (by decide)⟩
  rw [ex] at hx
  have HCx : Hid (∀ w, Calls Try.prog 12 #[.agg (u8s aa).toArray] w fun e w' => ∃ r, e = .returned (.agg (u64s r).toArray) ∧ Fe r x ∧ Below w.heap.size w w') := hx
  clear hx ex la ba
  have hy := fof_any bb lb bbb
  have HA_bb : Hid (bb.length = 32) := lb
  obtain ⟨y, ey⟩ : ∃ q, le bb % 57896044618658097711785492504343953926634992332820282019728792003956564819968 % PR = q := ⟨_, rfl⟩
  have ry : 0 ≤ y ∧ y < PR := by rw [← ey]; exact ⟨Int.emod_nonneg _ (by decide), Int.emod_lt_of_pos _ (by decide)⟩
  rw [ey] at hy
  have HCy : Hid (∀ w, Calls Try.prog 12 #[.agg (u8s bb).toArray] w fun e w' => ∃ r, e = .returned (.agg (u64s r).toArray) ∧ Fe r y ∧ Below w.heap.size w w') := hy
  clear hy ey lb bbb
  have hz := fof_any cc lc bc
  have HA_cc : Hid (cc.length = 32) := lc
  obtain ⟨z, ez⟩ : ∃ q, le cc % 57896044618658097711785492504343953926634992332820282019728792003956564819968 % PR = q := ⟨_, rfl⟩
  have rz : 0 ≤ z ∧ z < PR := by rw [← ez]; exact ⟨Int.emod_nonneg _ (by decide), Int.emod_lt_of_pos _ (by decide)⟩
  rw [ez] at hz
  have HCz : Hid (∀ w, Calls Try.prog 12 #[.agg (u8s cc).toArray] w fun e w' => ∃ r, e = .returned (.agg (u64s r).toArray) ∧ Fe r z ∧ Below w.heap.size w w') := hz
  clear hz ez lc bc
  have RR : Hid ((0 ≤ x ∧ x < PR) ∧ (0 ≤ y ∧ y < PR) ∧ (0 ≤ z ∧ z < PR)) := ⟨rx, ry, rz⟩
  clear rx ry rz
  go_enter Try.func6, Try.ntmps6
  go_wp2_with (first | (refine wpList_box_new rfl 22 (.tmp 0) rfl (u8s aa) rfl ?_; intro x1 z1 s1 l1) | (refine wpList_box_new rfl 22 (.tmp 1) rfl (u8s bb) rfl ?_; intro x2 z2 s2 l2) | (refine wpList_box_new rfl 22 (.tmp 2) rfl (u8s cc) rfl ?_; intro x3 z3 s3 l3) | (go_at_call 27; refine (awake_any _).mono ?_; rintro e x4 ⟨rfl, l4⟩))
  have W0 : Hid (Below w.heap.size w x4 ∧ Blk x4 w.heap.size 22 (u8s aa) ∧ Blk x4 (w.heap.size + 1) 22 (u8s bb) ∧ Blk x4 (w.heap.size + 1 + 1) 22 (u8s cc)) := by
    rw [s1] at z2
    rw [s2, s1] at z3
    exact ⟨below_chain (below_chain (below_chain l1 l2 (by omega)) l3 (by omega)) l4 (by omega), ((z1.later l2 (by omega)).later l3 (by omega)).later l4 (by omega), (z2.later l3 (by omega)).later l4 (by omega), z3.later l4 (by omega)⟩
  clear z1 s1 l1 z2 s2 l2 z3 s3 l3 l4
  refine region_invP 9 ((.val (.agg (u8s aa).toArray)) :: (.any (isF x) (isF_later x)) :: (.val (.agg (u8s bb).toArray)) :: (.any (isF y) (isF_later y)) :: (.val (.agg (u8s cc).toArray)) :: (.any (isF z) (isF_later z)) :: (.blk 26 (u64s [0, 0, 0, 0, 0])) :: (.blk 26 (u64s [0, 0, 0, 0, 0])) :: (.blk 26 (u64s [0, 0, 0, 0, 0])) :: []) (by kernel_rfl) (by kernel_rfl) (by kernel_rfl) [7, 8, 9] ⟨.inl rfl, .inl rfl, .inl rfl, .inl rfl, .inl rfl, .inl rfl, .inr ⟨26, _, 5, rfl, rfl, zeroElem⟩, .inr ⟨26, _, 5, rfl, rfl, zeroElem⟩, .inr ⟨26, _, 5, rfl, rfl, zeroElem⟩, trivial⟩ (by kernel_rfl) ?_ ?_
  · refine Steps'.cons ?_ (Steps'.cons ?_ (Steps'.cons ?_ (Steps'.cons ?_ (Steps'.cons ?_ (Steps'.cons ?_ (Steps'.cons ?_ (Steps'.cons ?_ (Steps'.cons ?_ (Steps'.one _ _ _ _ _ _ _)))))))))
    · intro ax wx hb hs hd
      have h3 : ax.tmps.getD 3 undef = (.pointer (some ⟨w.heap.size, 0, none⟩)) := hs 3 (by kernel_rfl)
      exact Does.load 22 (.tmp 3) rfl w.heap.size 0 h3 (u8s aa) _ ((Blk.later W0.out.2.1 hb (Blk.lt W0.out.2.1)).whole) Try.underlying22 rfl (by rw [u8s_length, HA_aa.out]; exact size32)
    · intro ax wx hb hs hd
      have h16 : ax.tmps.getD 16 undef = (.agg (u8s aa).toArray) := hd 0 16 rfl (by kernel_rfl) (by decide)
      refine Does.call 12 #[(.agg (u8s aa).toArray)] (by clear hs hd; go_simp) ?_
      refine (HCx.out _).mono ?_
      rintro z w' ⟨r, rfl, fr, l⟩
      exact ⟨_, rfl, ⟨r, rfl, fr⟩, l⟩
    · intro ax wx hb hs hd
      have h4 : ax.tmps.getD 4 undef = (.pointer (some ⟨(w.heap.size + 1), 0, none⟩)) := hs 4 (by kernel_rfl)
      exact Does.load 22 (.tmp 4) rfl (w.heap.size + 1) 0 h4 (u8s bb) _ ((Blk.later W0.out.2.2.1 hb (Blk.lt W0.out.2.2.1)).whole) Try.underlying22 rfl (by rw [u8s_length, HA_bb.out]; exact size32)
    · intro ax wx hb hs hd
      have h18 : ax.tmps.getD 18 undef = (.agg (u8s bb).toArray) := hd 2 18 rfl (by kernel_rfl) (by decide)
      refine Does.call 12 #[(.agg (u8s bb).toArray)] (by clear hs hd; go_simp) ?_
      refine (HCy.out _).mono ?_
      rintro z w' ⟨r, rfl, fr, l⟩
      exact ⟨_, rfl, ⟨r, rfl, fr⟩, l⟩
    · intro ax wx hb hs hd
      have h5 : ax.tmps.getD 5 undef = (.pointer (some ⟨(w.heap.size + 1 + 1), 0, none⟩)) := hs 5 (by kernel_rfl)
      exact Does.load 22 (.tmp 5) rfl (w.heap.size + 1 + 1) 0 h5 (u8s cc) _ ((Blk.later W0.out.2.2.2 hb (Blk.lt W0.out.2.2.2)).whole) Try.underlying22 rfl (by rw [u8s_length, HA_cc.out]; exact size32)
    · intro ax wx hb hs hd
      have h20 : ax.tmps.getD 20 undef = (.agg (u8s cc).toArray) := hd 4 20 rfl (by kernel_rfl) (by decide)
      refine Does.call 12 #[(.agg (u8s cc).toArray)] (by clear hs hd; go_simp) ?_
      refine (HCz.out _).mono ?_
      rintro z w' ⟨r, rfl, fr, l⟩
      exact ⟨_, rfl, ⟨r, rfl, fr⟩, l⟩
    · intro ax wx hb hs hd
      exact Does.alloc 26 rfl 5 _ zeroElem hb.size
    · intro ax wx hb hs hd
      exact Does.alloc 26 rfl 5 _ zeroElem hb.size
    · intro ax wx hb hs hd
      exact Does.alloc 26 rfl 5 _ zeroElem hb.size
  · intro wx hb
    refine @EndsP.val _ _ _ _ _ _ _ _ (.agg (u8s aa).toArray) rfl ?_
    refine @EndsP.any _ _ _ _ _ _ _ _ (isF x) (isF_later x) rfl ?_
    intro v1 p1
    refine @EndsP.val _ _ _ _ _ _ _ _ (.agg (u8s bb).toArray) rfl ?_
    refine @EndsP.any _ _ _ _ _ _ _ _ (isF y) (isF_later y) rfl ?_
    intro v3 p3
    refine @EndsP.val _ _ _ _ _ _ _ _ (.agg (u8s cc).toArray) rfl ?_
    refine @EndsP.any _ _ _ _ _ _ _ _ (isF z) (isF_later z) rfl ?_
    intro v5 p5
    refine @EndsP.blk _ _ _ _ _ _ _ _ 26 (u64s [0, 0, 0, 0, 0]) rfl ?_
    intro g6 hg6 bg6
    refine @EndsP.blk _ _ _ _ _ _ _ _ 26 (u64s [0, 0, 0, 0, 0]) rfl ?_
    intro g7 hg7 bg7
    refine @EndsP.blk _ _ _ _ _ _ _ _ 26 (u64s [0, 0, 0, 0, 0]) rfl ?_
    intro g8 hg8 bg8
    intro hD n hn
    obtain ⟨m, rfl⟩ : ∃ m, n = m + 3 := ⟨n - 3, by have h3 : 3 ≤ n := hn; omega⟩
    obtain ⟨lx, rfl, fx⟩ := p1
    obtain ⟨ly, rfl, fy⟩ := p3
    obtain ⟨lz, rfl, fz⟩ := p5
    have d1 : g6 ≠ g7 := fun e => hD 7 (by simp) 8 (by simp) (by decide) (by subst e; kernel_rfl)
    have d2 : g6 ≠ g8 := fun e => hD 7 (by simp) 9 (by simp) (by decide) (by subst e; kernel_rfl)
    have d3 : g7 ≠ g8 := fun e => hD 8 (by simp) 9 (by simp) (by decide) (by subst e; kernel_rfl)
    clear hD hn
    have HF : Hid (Fe lx x ∧ Fe ly y ∧ Fe lz z ∧ (u64s lx).length = 5 ∧ (u64s ly).length = 5 ∧ (u64s lz).length = 5) := ⟨fx, fy, fz, by rw [u64s_length, fx.len], by rw [u64s_length, fy.len], by rw [u64s_length, fz.len]⟩
    clear fx fy fz
    simp only [Act.put, List.setIfInBounds_toArray, List.set_cons_zero, List.set_cons_succ]
    refine wpAny_ready (rs := [9]) (by kernel_rfl) (by simp) (AllReady.cons rfl (fun K hK => ?_) AllReady.nil)
    rw [if_pos (by rfl)]
    refine last_store 26 (.tmp 7) (.tmp 17) rfl rfl g6 rfl 26 _ (u64s lx) rfl bg6 (by rw [HF.out.2.2.2.1]; rfl) (by rw [HF.out.2.2.2.1]; exact sizeElem) (u64s_one _) ?_
    intro w1 b1 s1 k1
    refine hK _ _ ?_
    refine wpAny_ready (rs := [10]) (by kernel_rfl) (by simp) (AllReady.cons rfl (fun K hK => ?_) AllReady.nil)
    rw [if_pos (by rfl)]
    refine last_store 26 (.tmp 8) (.tmp 19) rfl rfl g7 rfl 26 _ (u64s ly) rfl (bg7.kept k1 (by omega)) (by rw [HF.out.2.2.2.2.1]; rfl) (by rw [HF.out.2.2.2.2.1]; exact sizeElem) (u64s_one _) ?_
    intro w2 b2 s2 k2
    refine hK _ _ ?_
    refine wpAny_ready (rs := [11]) (by kernel_rfl) (by simp) (AllReady.cons rfl (fun K hK => ?_) AllReady.nil)
    rw [if_pos (by rfl)]
    refine last_store 26 (.tmp 9) (.tmp 21) rfl rfl g8 rfl 26 _ (u64s lz) rfl ((bg8.kept k1 (by omega)).kept k2 (by omega)) (by rw [HF.out.2.2.2.2.2]; rfl) (by rw [HF.out.2.2.2.2.2]; exact sizeElem) (u64s_one _) ?_
    intro w3 b3 s3 k3
    refine hK _ _ ?_
    refine wpAny_done (by kernel_rfl) (NoPanic.normal ?_) _
    have W1 : Hid (Below w.heap.size w w3 ∧ Blk w3 g6 26 (u64s lx) ∧ Blk w3 g7 26 (u64s ly) ∧ Blk w3 g8 26 (u64s lz)) := by
      have q := W0.out.1.size
      exact ⟨below_kept (below_kept (below_kept (below_chain W0.out.1 hb q) k1 (by have := hb.size; omega) (fun j hj => by omega)) k2 (by have := hb.size; omega) (fun j hj => by omega)) k3 (by have := hb.size; omega) (fun j hj => by omega), (b1.kept k2 (by omega)).kept k3 (by omega), b2.kept k3 (by omega), b3⟩
    clear b1 s1 k1 b2 s2 k2 b3 s3 k3 bg6 bg7 bg8 hg6 hg7 hg8 hb W0 hK
    go_wp2_with (refine wpList_alloc_new rfl 26 rfl 5 _ zeroElem ?_; intro y0 z0 s0 l0)
    obtain ⟨gn, hgn⟩ : ∃ q, w3.heap.size = q := ⟨_, rfl⟩
    rw [hgn] at z0 ⊢
    have V0 : Hid (Below w.heap.size w y0 ∧ Blk y0 g6 26 (u64s lx) ∧ Blk y0 g7 26 (u64s ly) ∧ Blk y0 g8 26 (u64s lz) ∧ Blk y0 gn 26 (u64s [0, 0, 0, 0, 0])) := ⟨below_chain W1.out.1 l0 W1.out.1.size, W1.out.2.1.later l0 W1.out.2.1.lt, W1.out.2.2.1.later l0 W1.out.2.2.1.lt, W1.out.2.2.2.later l0 W1.out.2.2.2.lt, z0⟩
    clear W1 z0 s0 l0 hgn
    refine region_invG ((.val (.agg (u64s lx).toArray)) :: (.val (.agg (u64s ly).toArray)) :: (.any (isF ((x + y) % PR)) (isF_later ((x + y) % PR))) :: (.val (.agg (u64s ly).toArray)) :: (.val (.agg (u64s lx).toArray)) :: (.any (isF ((y + x) % PR)) (isF_later ((y + x) % PR))) :: (.val (.bool true)) :: (.val (.bool true)) :: (.val (.agg (u64s lx).toArray)) :: (.val (.agg (u64s ly).toArray)) :: (.any (isF ((x + y) % PR)) (isF_later ((x + y) % PR))) :: (.val (.agg (u64s lz).toArray)) :: (.any (isF ((((x + y) % PR) + z) % PR)) (isF_later ((((x + y) % PR) + z) % PR))) :: (.val (.agg (u64s lx).toArray)) :: (.val (.agg (u64s ly).toArray)) :: (.val (.agg (u64s lz).toArray)) :: (.any (isF ((y + z) % PR)) (isF_later ((y + z) % PR))) :: (.any (isF ((x + ((y + z) % PR)) % PR)) (isF_later ((x + ((y + z) % PR)) % PR))) :: (.val (.bool true)) :: (.val (.bool true)) :: (.val (.bool true)) :: (.val (.agg (u64s lx).toArray)) :: (.val (.agg (u64s [0, 0, 0, 0, 0]).toArray)) :: (.any (isF ((x + 0) % PR)) (isF_later ((x + 0) % PR))) :: (.val (.agg (u64s lx).toArray)) :: (.val (.bool true)) :: (.val (.bool true)) :: (.val (.bool true)) :: (.val (.agg (u64s lx).toArray)) :: (.val (.agg (u64s ly).toArray)) :: (.any (isF ((x - y) % PR)) (isF_later ((x - y) % PR))) :: (.val (.agg (u64s ly).toArray)) :: (.any (isF ((((x - y) % PR) + y) % PR)) (isF_later ((((x - y) % PR) + y) % PR))) :: (.val (.agg (u64s lx).toArray)) :: (.val (.bool true)) :: (.val (.bool true)) :: (.val (.bool true)) :: (.val (.agg (u64s lx).toArray)) :: (.val (.agg (u64s ly).toArray)) :: (.any (isF ((x - y) % PR)) (isF_later ((x - y) % PR))) :: (.val (.agg (u64s lx).toArray)) :: (.val (.agg (u64s ly).toArray)) :: (.any (isF ((0 - y) % PR)) (isF_later ((0 - y) % PR))) :: (.any (isF ((x + ((0 - y) % PR)) % PR)) (isF_later ((x + ((0 - y) % PR)) % PR))) :: (.val (.bool true)) :: (.val (.bool true)) :: (.val (.bool true)) :: (.val (.agg (u64s lx).toArray)) :: (.val (.agg (u64s lx).toArray)) :: (.any (isF ((x - x) % PR)) (isF_later ((x - x) % PR))) :: (.val (.int .u64 18446744073709551615)) :: (.val (.bool true)) :: (.val (.bool true)) :: (.val (.bool true)) :: (.val (.agg (u64s lx).toArray)) :: (.any (isF ((0 - x) % PR)) (isF_later ((0 - x) % PR))) :: (.any (isF ((0 - ((0 - x) % PR)) % PR)) (isF_later ((0 - ((0 - x) % PR)) % PR))) :: (.val (.agg (u64s lx).toArray)) :: (.val (.bool true)) :: (.val (.bool true)) :: []) (by kernel_rfl) (by kernel_rfl) (by repeat (first | exact trivial | (refine ⟨by first | trivial | rfl, ?_⟩))) (by kernel_rfl) ?_ ?_
    · refine Steps'.cons ?_ (Steps'.cons ?_ (Steps'.cons ?_ (Steps'.cons ?_ (Steps'.cons ?_ (Steps'.cons ?_ (Steps'.cons ?_ (Steps'.cons ?_ (Steps'.cons ?_ (Steps'.cons ?_ (Steps'.cons ?_ (Steps'.cons ?_ (Steps'.cons ?_ (Steps'.cons ?_ (Steps'.cons ?_ (Steps'.cons ?_ (Steps'.cons ?_ (Steps'.cons ?_ (Steps'.cons ?_ (Steps'.cons ?_ (Steps'.cons ?_ (Steps'.cons ?_ (Steps'.cons ?_ (Steps'.cons ?_ (Steps'.cons ?_ (Steps'.cons ?_ (Steps'.cons ?_ (Steps'.cons ?_ (Steps'.cons ?_ (Steps'.cons ?_ (Steps'.cons ?_ (Steps'.cons ?_ (Steps'.cons ?_ (Steps'.cons ?_ (Steps'.cons ?_ (Steps'.cons ?_ (Steps'.cons ?_ (Steps'.cons ?_ (Steps'.cons ?_ (Steps'.cons ?_ (Steps'.cons ?_ (Steps'.cons ?_ (Steps'.cons ?_ (Steps'.cons ?_ (Steps'.cons ?_ (Steps'.cons ?_ (Steps'.cons ?_ (Steps'.cons ?_ (Steps'.cons ?_ (Steps'.cons ?_ (Steps'.cons ?_ (Steps'.cons ?_ (Steps'.cons ?_ (Steps'.cons ?_ (Steps'.cons ?_ (Steps'.cons ?_ (Steps'.cons ?_ (Steps'.cons ?_ (Steps'.cons ?_ (Steps'.cons ?_ (Steps'.one _ _ _ _ _ _ _))))))))))))))))))))))))))))))))))))))))))))))))))))))))))))
      · intro ax wx hb hs hd
        have h7 : ax.tmps.getD 7 undef = (.pointer (some ⟨g6, 0, none⟩)) := hs 7 (by kernel_rfl)
        exact Does.load 26 (.tmp 7) rfl g6 0 h7 (u64s lx) _ ((Blk.later V0.out.2.1 hb (Blk.lt V0.out.2.1)).whole) Try.underlying26 rfl (by rw [HF.out.2.2.2.1]; exact sizeElem)
      · intro ax wx hb hs hd
        have h8 : ax.tmps.getD 8 undef = (.pointer (some ⟨g7, 0, none⟩)) := hs 8 (by kernel_rfl)
        exact Does.load 26 (.tmp 8) rfl g7 0 h8 (u64s ly) _ ((Blk.later V0.out.2.2.1 hb (Blk.lt V0.out.2.2.1)).whole) Try.underlying26 rfl (by rw [HF.out.2.2.2.2.1]; exact sizeElem)
      · intro ax wx hb hs hd
        have h22 : ax.tmps.getD 22 undef = (.agg (u64s lx).toArray) := hd 0 22 rfl (by kernel_rfl) (by decide)
        have h23 : ax.tmps.getD 23 undef = (.agg (u64s ly).toArray) := hd 1 23 rfl (by kernel_rfl) (by decide)
        refine Does.call 29 #[(.agg (u64s lx).toArray), (.agg (u64s ly).toArray)] (by clear hs hd; go_simp) ?_
        refine (add_any _ _ _ _ HF.out.1 HF.out.2.1 _).mono ?_
        rintro z w' ⟨r, rfl, fr, l⟩
        exact ⟨_, rfl, ⟨r, rfl, fr⟩, l⟩
      · intro ax wx hb hs hd
        have h8 : ax.tmps.getD 8 undef = (.pointer (some ⟨g7, 0, none⟩)) := hs 8 (by kernel_rfl)
        exact Does.load 26 (.tmp 8) rfl g7 0 h8 (u64s ly) _ ((Blk.later V0.out.2.2.1 hb (Blk.lt V0.out.2.2.1)).whole) Try.underlying26 rfl (by rw [HF.out.2.2.2.2.1]; exact sizeElem)
      · intro ax wx hb hs hd
        have h7 : ax.tmps.getD 7 undef = (.pointer (some ⟨g6, 0, none⟩)) := hs 7 (by kernel_rfl)
        exact Does.load 26 (.tmp 7) rfl g6 0 h7 (u64s lx) _ ((Blk.later V0.out.2.1 hb (Blk.lt V0.out.2.1)).whole) Try.underlying26 rfl (by rw [HF.out.2.2.2.1]; exact sizeElem)
      · intro ax wx hb hs hd
        have h25 : ax.tmps.getD 25 undef = (.agg (u64s ly).toArray) := hd 3 25 rfl (by kernel_rfl) (by decide)
        have h26 : ax.tmps.getD 26 undef = (.agg (u64s lx).toArray) := hd 4 26 rfl (by kernel_rfl) (by decide)
        refine Does.call 29 #[(.agg (u64s ly).toArray), (.agg (u64s lx).toArray)] (by clear hs hd; go_simp) ?_
        refine (add_any _ _ _ _ HF.out.2.1 HF.out.1 _).mono ?_
        rintro z w' ⟨r, rfl, fr, l⟩
        exact ⟨_, rfl, ⟨r, rfl, fr⟩, l⟩
      · intro ax wx hb hs hd
        obtain ⟨l24, h24, f24⟩ : isF ((x + y) % PR) (ax.tmps.getD 24 undef) wx := hd 2 24 rfl (by kernel_rfl) (by decide)
        obtain ⟨l27, h27, f27⟩ : isF ((y + x) % PR) (ax.tmps.getD 27 undef) wx := hd 5 27 rfl (by kernel_rfl) (by decide)
        refine Does.call 28 #[(.agg (u64s l24).toArray), (.agg (u64s l27).toArray)] (by clear hs hd; go_simp) ?_
        refine (one_yes _ _ _ f24 (Fe.eq f27 (rg1 x y)) _).mono ?_
        rintro z w' ⟨rfl, l⟩
        exact ⟨_, rfl, rfl, l⟩
      · intro ax wx hb hs hd
        have h28 : ax.tmps.getD 28 undef = (.bool true) := hd 6 28 rfl (by kernel_rfl) (by decide)
        refine Does.value (.bool true) ?_ rfl
        clear hs hd
        go_simp
      · intro ax wx hb hs hd
        have h7 : ax.tmps.getD 7 undef = (.pointer (some ⟨g6, 0, none⟩)) := hs 7 (by kernel_rfl)
        exact Does.load 26 (.tmp 7) rfl g6 0 h7 (u64s lx) _ ((Blk.later V0.out.2.1 hb (Blk.lt V0.out.2.1)).whole) Try.underlying26 rfl (by rw [HF.out.2.2.2.1]; exact sizeElem)
      · intro ax wx hb hs hd
        have h8 : ax.tmps.getD 8 undef = (.pointer (some ⟨g7, 0, none⟩)) := hs 8 (by kernel_rfl)
        exact Does.load 26 (.tmp 8) rfl g7 0 h8 (u64s ly) _ ((Blk.later V0.out.2.2.1 hb (Blk.lt V0.out.2.2.1)).whole) Try.underlying26 rfl (by rw [HF.out.2.2.2.2.1]; exact sizeElem)
      · intro ax wx hb hs hd
        have h30 : ax.tmps.getD 30 undef = (.agg (u64s lx).toArray) := hd 8 30 rfl (by kernel_rfl) (by decide)
        have h31 : ax.tmps.getD 31 undef = (.agg (u64s ly).toArray) := hd 9 31 rfl (by kernel_rfl) (by decide)
        refine Does.call 29 #[(.agg (u64s lx).toArray), (.agg (u64s ly).toArray)] (by clear hs hd; go_simp) ?_
        refine (add_any _ _ _ _ HF.out.1 HF.out.2.1 _).mono ?_
        rintro z w' ⟨r, rfl, fr, l⟩
        exact ⟨_, rfl, ⟨r, rfl, fr⟩, l⟩
      · intro ax wx hb hs hd
        have h9 : ax.tmps.getD 9 undef = (.pointer (some ⟨g8, 0, none⟩)) := hs 9 (by kernel_rfl)
        exact Does.load 26 (.tmp 9) rfl g8 0 h9 (u64s lz) _ ((Blk.later V0.out.2.2.2.1 hb (Blk.lt V0.out.2.2.2.1)).whole) Try.underlying26 rfl (by rw [HF.out.2.2.2.2.2]; exact sizeElem)
      · intro ax wx hb hs hd
        obtain ⟨l32, h32, f32⟩ : isF ((x + y) % PR) (ax.tmps.getD 32 undef) wx := hd 10 32 rfl (by kernel_rfl) (by decide)
        have h33 : ax.tmps.getD 33 undef = (.agg (u64s lz).toArray) := hd 11 33 rfl (by kernel_rfl) (by decide)
        refine Does.call 29 #[(.agg (u64s l32).toArray), (.agg (u64s lz).toArray)] (by clear hs hd; go_simp) ?_
        refine (add_any _ _ _ _ f32 HF.out.2.2.1 _).mono ?_
        rintro z w' ⟨r, rfl, fr, l⟩
        exact ⟨_, rfl, ⟨r, rfl, fr⟩, l⟩
      · intro ax wx hb hs hd
        have h7 : ax.tmps.getD 7 undef = (.pointer (some ⟨g6, 0, none⟩)) := hs 7 (by kernel_rfl)
        exact Does.load 26 (.tmp 7) rfl g6 0 h7 (u64s lx) _ ((Blk.later V0.out.2.1 hb (Blk.lt V0.out.2.1)).whole) Try.underlying26 rfl (by rw [HF.out.2.2.2.1]; exact sizeElem)
      · intro ax wx hb hs hd
        have h8 : ax.tmps.getD 8 undef = (.pointer (some ⟨g7, 0, none⟩)) := hs 8 (by kernel_rfl)
        exact Does.load 26 (.tmp 8) rfl g7 0 h8 (u64s ly) _ ((Blk.later V0.out.2.2.1 hb (Blk.lt V0.out.2.2.1)).whole) Try.underlying26 rfl (by rw [HF.out.2.2.2.2.1]; exact sizeElem)
      · intro ax wx hb hs hd
        have h9 : ax.tmps.getD 9 undef = (.pointer (some ⟨g8, 0, none⟩)) := hs 9 (by kernel_rfl)
        exact Does.load 26 (.tmp 9) rfl g8 0 h9 (u64s lz) _ ((Blk.later V0.out.2.2.2.1 hb (Blk.lt V0.out.2.2.2.1)).whole) Try.underlying26 rfl (by rw [HF.out.2.2.2.2.2]; exact sizeElem)
      · intro ax wx hb hs hd
        have h36 : ax.tmps.getD 36 undef = (.agg (u64s ly).toArray) := hd 14 36 rfl (by kernel_rfl) (by decide)
        have h37 : ax.tmps.getD 37 undef = (.agg (u64s lz).toArray) := hd 15 37 rfl (by kernel_rfl) (by decide)
        refine Does.call 29 #[(.agg (u64s ly).toArray), (.agg (u64s lz).toArray)] (by clear hs hd; go_simp) ?_
        refine (add_any _ _ _ _ HF.out.2.1 HF.out.2.2.1 _).mono ?_
        rintro z w' ⟨r, rfl, fr, l⟩
        exact ⟨_, rfl, ⟨r, rfl, fr⟩, l⟩
      · intro ax wx hb hs hd
        have h35 : ax.tmps.getD 35 undef = (.agg (u64s lx).toArray) := hd 13 35 rfl (by kernel_rfl) (by decide)
        obtain ⟨l38, h38, f38⟩ : isF ((y + z) % PR) (ax.tmps.getD 38 undef) wx := hd 16 38 rfl (by kernel_rfl) (by decide)
        refine Does.call 29 #[(.agg (u64s lx).toArray), (.agg (u64s l38).toArray)] (by clear hs hd; go_simp) ?_
        refine (add_any _ _ _ _ HF.out.1 f38 _).mono ?_
        rintro z w' ⟨r, rfl, fr, l⟩
        exact ⟨_, rfl, ⟨r, rfl, fr⟩, l⟩
      · intro ax wx hb hs hd
        obtain ⟨l34, h34, f34⟩ : isF ((((x + y) % PR) + z) % PR) (ax.tmps.getD 34 undef) wx := hd 12 34 rfl (by kernel_rfl) (by decide)
        obtain ⟨l39, h39, f39⟩ : isF ((x + ((y + z) % PR)) % PR) (ax.tmps.getD 39 undef) wx := hd 17 39 rfl (by kernel_rfl) (by decide)
        refine Does.call 28 #[(.agg (u64s l34).toArray), (.agg (u64s l39).toArray)] (by clear hs hd; go_simp) ?_
        refine (one_yes _ _ _ f34 (Fe.eq f39 (rg2 x y z)) _).mono ?_
        rintro z w' ⟨rfl, l⟩
        exact ⟨_, rfl, rfl, l⟩
      · intro ax wx hb hs hd
        have h29 : ax.tmps.getD 29 undef = (.bool true) := hd 7 29 rfl (by kernel_rfl) (by decide)
        have h40 : ax.tmps.getD 40 undef = (.bool true) := hd 18 40 rfl (by kernel_rfl) (by decide)
        refine Does.value (.bool true) ?_ rfl
        clear hs hd
        go_simp
      · intro ax wx hb hs hd
        have h41 : ax.tmps.getD 41 undef = (.bool true) := hd 19 41 rfl (by kernel_rfl) (by decide)
        refine Does.value (.bool true) ?_ rfl
        clear hs hd
        go_simp
      · intro ax wx hb hs hd
        have h7 : ax.tmps.getD 7 undef = (.pointer (some ⟨g6, 0, none⟩)) := hs 7 (by kernel_rfl)
        exact Does.load 26 (.tmp 7) rfl g6 0 h7 (u64s lx) _ ((Blk.later V0.out.2.1 hb (Blk.lt V0.out.2.1)).whole) Try.underlying26 rfl (by rw [HF.out.2.2.2.1]; exact sizeElem)
      · intro ax wx hb hs hd
        have h10 : ax.tmps.getD 10 undef = (.pointer (some ⟨gn, 0, none⟩)) := hs 10 (by kernel_rfl)
        exact Does.load 26 (.tmp 10) rfl gn 0 h10 (u64s [0, 0, 0, 0, 0]) _ ((Blk.later V0.out.2.2.2.2 hb (Blk.lt V0.out.2.2.2.2)).whole) Try.underlying26 rfl sizeElem
      · intro ax wx hb hs hd
        have h43 : ax.tmps.getD 43 undef = (.agg (u64s lx).toArray) := hd 21 43 rfl (by kernel_rfl) (by decide)
        have h44 : ax.tmps.getD 44 undef = (.agg (u64s [0, 0, 0, 0, 0]).toArray) := hd 22 44 rfl (by kernel_rfl) (by decide)
        refine Does.call 29 #[(.agg (u64s lx).toArray), (.agg (u64s [0, 0, 0, 0, 0]).toArray)] (by clear hs hd; go_simp) ?_
        refine (add_any _ _ _ _ HF.out.1 fe_zero _).mono ?_
        rintro z w' ⟨r, rfl, fr, l⟩
        exact ⟨_, rfl, ⟨r, rfl, fr⟩, l⟩
      · intro ax wx hb hs hd
        have h7 : ax.tmps.getD 7 undef = (.pointer (some ⟨g6, 0, none⟩)) := hs 7 (by kernel_rfl)
        exact Does.load 26 (.tmp 7) rfl g6 0 h7 (u64s lx) _ ((Blk.later V0.out.2.1 hb (Blk.lt V0.out.2.1)).whole) Try.underlying26 rfl (by rw [HF.out.2.2.2.1]; exact sizeElem)
      · intro ax wx hb hs hd
        obtain ⟨l45, h45, f45⟩ : isF ((x + 0) % PR) (ax.tmps.getD 45 undef) wx := hd 23 45 rfl (by kernel_rfl) (by decide)
        have h46 : ax.tmps.getD 46 undef = (.agg (u64s lx).toArray) := hd 24 46 rfl (by kernel_rfl) (by decide)
        refine Does.call 28 #[(.agg (u64s l45).toArray), (.agg (u64s lx).toArray)] (by clear hs hd; go_simp) ?_
        refine (one_yes _ _ _ f45 (Fe.eq HF.out.1 (rg3 x RR.out.1)) _).mono ?_
        rintro z w' ⟨rfl, l⟩
        exact ⟨_, rfl, rfl, l⟩
      · intro ax wx hb hs hd
        have h42 : ax.tmps.getD 42 undef = (.bool true) := hd 20 42 rfl (by kernel_rfl) (by decide)
        have h47 : ax.tmps.getD 47 undef = (.bool true) := hd 25 47 rfl (by kernel_rfl) (by decide)
        refine Does.value (.bool true) ?_ rfl
        clear hs hd
        go_simp
      · intro ax wx hb hs hd
        have h48 : ax.tmps.getD 48 undef = (.bool true) := hd 26 48 rfl (by kernel_rfl) (by decide)
        refine Does.value (.bool true) ?_ rfl
        clear hs hd
        go_simp
      · intro ax wx hb hs hd
        have h7 : ax.tmps.getD 7 undef = (.pointer (some ⟨g6, 0, none⟩)) := hs 7 (by kernel_rfl)
        exact Does.load 26 (.tmp 7) rfl g6 0 h7 (u64s lx) _ ((Blk.later V0.out.2.1 hb (Blk.lt V0.out.2.1)).whole) Try.underlying26 rfl (by rw [HF.out.2.2.2.1]; exact sizeElem)
      · intro ax wx hb hs hd
        have h8 : ax.tmps.getD 8 undef = (.pointer (some ⟨g7, 0, none⟩)) := hs 8 (by kernel_rfl)
        exact Does.load 26 (.tmp 8) rfl g7 0 h8 (u64s ly) _ ((Blk.later V0.out.2.2.1 hb (Blk.lt V0.out.2.2.1)).whole) Try.underlying26 rfl (by rw [HF.out.2.2.2.2.1]; exact sizeElem)
      · intro ax wx hb hs hd
        have h50 : ax.tmps.getD 50 undef = (.agg (u64s lx).toArray) := hd 28 50 rfl (by kernel_rfl) (by decide)
        have h51 : ax.tmps.getD 51 undef = (.agg (u64s ly).toArray) := hd 29 51 rfl (by kernel_rfl) (by decide)
        refine Does.call 30 #[(.agg (u64s lx).toArray), (.agg (u64s ly).toArray)] (by clear hs hd; go_simp) ?_
        refine (sub_any _ _ _ _ HF.out.1 HF.out.2.1 _).mono ?_
        rintro z w' ⟨r, rfl, fr, l⟩
        exact ⟨_, rfl, ⟨r, rfl, fr⟩, l⟩
      · intro ax wx hb hs hd
        have h8 : ax.tmps.getD 8 undef = (.pointer (some ⟨g7, 0, none⟩)) := hs 8 (by kernel_rfl)
        exact Does.load 26 (.tmp 8) rfl g7 0 h8 (u64s ly) _ ((Blk.later V0.out.2.2.1 hb (Blk.lt V0.out.2.2.1)).whole) Try.underlying26 rfl (by rw [HF.out.2.2.2.2.1]; exact sizeElem)
      · intro ax wx hb hs hd
        obtain ⟨l52, h52, f52⟩ : isF ((x - y) % PR) (ax.tmps.getD 52 undef) wx := hd 30 52 rfl (by kernel_rfl) (by decide)
        have h53 : ax.tmps.getD 53 undef = (.agg (u64s ly).toArray) := hd 31 53 rfl (by kernel_rfl) (by decide)
        refine Does.call 29 #[(.agg (u64s l52).toArray), (.agg (u64s ly).toArray)] (by clear hs hd; go_simp) ?_
        refine (add_any _ _ _ _ f52 HF.out.2.1 _).mono ?_
        rintro z w' ⟨r, rfl, fr, l⟩
        exact ⟨_, rfl, ⟨r, rfl, fr⟩, l⟩
      · intro ax wx hb hs hd
        have h7 : ax.tmps.getD 7 undef = (.pointer (some ⟨g6, 0, none⟩)) := hs 7 (by kernel_rfl)
        exact Does.load 26 (.tmp 7) rfl g6 0 h7 (u64s lx) _ ((Blk.later V0.out.2.1 hb (Blk.lt V0.out.2.1)).whole) Try.underlying26 rfl (by rw [HF.out.2.2.2.1]; exact sizeElem)
      · intro ax wx hb hs hd
        obtain ⟨l54, h54, f54⟩ : isF ((((x - y) % PR) + y) % PR) (ax.tmps.getD 54 undef) wx := hd 32 54 rfl (by kernel_rfl) (by decide)
        have h55 : ax.tmps.getD 55 undef = (.agg (u64s lx).toArray) := hd 33 55 rfl (by kernel_rfl) (by decide)
        refine Does.call 28 #[(.agg (u64s l54).toArray), (.agg (u64s lx).toArray)] (by clear hs hd; go_simp) ?_
        refine (one_yes _ _ _ f54 (Fe.eq HF.out.1 (rg4 x y RR.out.1)) _).mono ?_
        rintro z w' ⟨rfl, l⟩
        exact ⟨_, rfl, rfl, l⟩
      · intro ax wx hb hs hd
        have h49 : ax.tmps.getD 49 undef = (.bool true) := hd 27 49 rfl (by kernel_rfl) (by decide)
        have h56 : ax.tmps.getD 56 undef = (.bool true) := hd 34 56 rfl (by kernel_rfl) (by decide)
        refine Does.value (.bool true) ?_ rfl
        clear hs hd
        go_simp
      · intro ax wx hb hs hd
        have h57 : ax.tmps.getD 57 undef = (.bool true) := hd 35 57 rfl (by kernel_rfl) (by decide)
        refine Does.value (.bool true) ?_ rfl
        clear hs hd
        go_simp
      · intro ax wx hb hs hd
        have h7 : ax.tmps.getD 7 undef = (.pointer (some ⟨g6, 0, none⟩)) := hs 7 (by kernel_rfl)
        exact Does.load 26 (.tmp 7) rfl g6 0 h7 (u64s lx) _ ((Blk.later V0.out.2.1 hb (Blk.lt V0.out.2.1)).whole) Try.underlying26 rfl (by rw [HF.out.2.2.2.1]; exact sizeElem)
      · intro ax wx hb hs hd
        have h8 : ax.tmps.getD 8 undef = (.pointer (some ⟨g7, 0, none⟩)) := hs 8 (by kernel_rfl)
        exact Does.load 26 (.tmp 8) rfl g7 0 h8 (u64s ly) _ ((Blk.later V0.out.2.2.1 hb (Blk.lt V0.out.2.2.1)).whole) Try.underlying26 rfl (by rw [HF.out.2.2.2.2.1]; exact sizeElem)
      · intro ax wx hb hs hd
        have h59 : ax.tmps.getD 59 undef = (.agg (u64s lx).toArray) := hd 37 59 rfl (by kernel_rfl) (by decide)
        have h60 : ax.tmps.getD 60 undef = (.agg (u64s ly).toArray) := hd 38 60 rfl (by kernel_rfl) (by decide)
        refine Does.call 30 #[(.agg (u64s lx).toArray), (.agg (u64s ly).toArray)] (by clear hs hd; go_simp) ?_
        refine (sub_any _ _ _ _ HF.out.1 HF.out.2.1 _).mono ?_
        rintro z w' ⟨r, rfl, fr, l⟩
        exact ⟨_, rfl, ⟨r, rfl, fr⟩, l⟩
      · intro ax wx hb hs hd
        have h7 : ax.tmps.getD 7 undef = (.pointer (some ⟨g6, 0, none⟩)) := hs 7 (by kernel_rfl)
        exact Does.load 26 (.tmp 7) rfl g6 0 h7 (u64s lx) _ ((Blk.later V0.out.2.1 hb (Blk.lt V0.out.2.1)).whole) Try.underlying26 rfl (by rw [HF.out.2.2.2.1]; exact sizeElem)
      · intro ax wx hb hs hd
        have h8 : ax.tmps.getD 8 undef = (.pointer (some ⟨g7, 0, none⟩)) := hs 8 (by kernel_rfl)
        exact Does.load 26 (.tmp 8) rfl g7 0 h8 (u64s ly) _ ((Blk.later V0.out.2.2.1 hb (Blk.lt V0.out.2.2.1)).whole) Try.underlying26 rfl (by rw [HF.out.2.2.2.2.1]; exact sizeElem)
      · intro ax wx hb hs hd
        have h63 : ax.tmps.getD 63 undef = (.agg (u64s ly).toArray) := hd 41 63 rfl (by kernel_rfl) (by decide)
        refine Does.call 31 #[(.agg (u64s ly).toArray)] (by clear hs hd; go_simp) ?_
        refine (neg_any _ _ HF.out.2.1 _).mono ?_
        rintro z w' ⟨r, rfl, fr, l⟩
        exact ⟨_, rfl, ⟨r, rfl, fr⟩, l⟩
      · intro ax wx hb hs hd
        have h62 : ax.tmps.getD 62 undef = (.agg (u64s lx).toArray) := hd 40 62 rfl (by kernel_rfl) (by decide)
        obtain ⟨l64, h64, f64⟩ : isF ((0 - y) % PR) (ax.tmps.getD 64 undef) wx := hd 42 64 rfl (by kernel_rfl) (by decide)
        refine Does.call 29 #[(.agg (u64s lx).toArray), (.agg (u64s l64).toArray)] (by clear hs hd; go_simp) ?_
        refine (add_any _ _ _ _ HF.out.1 f64 _).mono ?_
        rintro z w' ⟨r, rfl, fr, l⟩
        exact ⟨_, rfl, ⟨r, rfl, fr⟩, l⟩
      · intro ax wx hb hs hd
        obtain ⟨l61, h61, f61⟩ : isF ((x - y) % PR) (ax.tmps.getD 61 undef) wx := hd 39 61 rfl (by kernel_rfl) (by decide)
        obtain ⟨l65, h65, f65⟩ : isF ((x + ((0 - y) % PR)) % PR) (ax.tmps.getD 65 undef) wx := hd 43 65 rfl (by kernel_rfl) (by decide)
        refine Does.call 28 #[(.agg (u64s l61).toArray), (.agg (u64s l65).toArray)] (by clear hs hd; go_simp) ?_
        refine (one_yes _ _ _ f61 (Fe.eq f65 (rg5 x y)) _).mono ?_
        rintro z w' ⟨rfl, l⟩
        exact ⟨_, rfl, rfl, l⟩
      · intro ax wx hb hs hd
        have h58 : ax.tmps.getD 58 undef = (.bool true) := hd 36 58 rfl (by kernel_rfl) (by decide)
        have h66 : ax.tmps.getD 66 undef = (.bool true) := hd 44 66 rfl (by kernel_rfl) (by decide)
        refine Does.value (.bool true) ?_ rfl
        clear hs hd
        go_simp
      · intro ax wx hb hs hd
        have h67 : ax.tmps.getD 67 undef = (.bool true) := hd 45 67 rfl (by kernel_rfl) (by decide)
        refine Does.value (.bool true) ?_ rfl
        clear hs hd
        go_simp
      · intro ax wx hb hs hd
        have h7 : ax.tmps.getD 7 undef = (.pointer (some ⟨g6, 0, none⟩)) := hs 7 (by kernel_rfl)
        exact Does.load 26 (.tmp 7) rfl g6 0 h7 (u64s lx) _ ((Blk.later V0.out.2.1 hb (Blk.lt V0.out.2.1)).whole) Try.underlying26 rfl (by rw [HF.out.2.2.2.1]; exact sizeElem)
      · intro ax wx hb hs hd
        have h7 : ax.tmps.getD 7 undef = (.pointer (some ⟨g6, 0, none⟩)) := hs 7 (by kernel_rfl)
        exact Does.load 26 (.tmp 7) rfl g6 0 h7 (u64s lx) _ ((Blk.later V0.out.2.1 hb (Blk.lt V0.out.2.1)).whole) Try.underlying26 rfl (by rw [HF.out.2.2.2.1]; exact sizeElem)
      · intro ax wx hb hs hd
        have h69 : ax.tmps.getD 69 undef = (.agg (u64s lx).toArray) := hd 47 69 rfl (by kernel_rfl) (by decide)
        have h70 : ax.tmps.getD 70 undef = (.agg (u64s lx).toArray) := hd 48 70 rfl (by kernel_rfl) (by decide)
        refine Does.call 30 #[(.agg (u64s lx).toArray), (.agg (u64s lx).toArray)] (by clear hs hd; go_simp) ?_
        refine (sub_any _ _ _ _ HF.out.1 HF.out.1 _).mono ?_
        rintro z w' ⟨r, rfl, fr, l⟩
        exact ⟨_, rfl, ⟨r, rfl, fr⟩, l⟩
      · intro ax wx hb hs hd
        obtain ⟨l71, h71, f71⟩ : isF ((x - x) % PR) (ax.tmps.getD 71 undef) wx := hd 49 71 rfl (by kernel_rfl) (by decide)
        refine Does.call 20 #[(.agg (u64s l71).toArray)] (by clear hs hd; go_simp) ?_
        refine (fzero_yes _ _ f71 (rg6 x) _).mono ?_
        rintro z w' ⟨rfl, l⟩
        exact ⟨_, rfl, rfl, l⟩
      · intro ax wx hb hs hd
        have h72 : ax.tmps.getD 72 undef = (.int .u64 18446744073709551615) := hd 50 72 rfl (by kernel_rfl) (by decide)
        refine Does.value (.bool true) ?_ rfl
        clear hs hd
        go_simp
      · intro ax wx hb hs hd
        have h68 : ax.tmps.getD 68 undef = (.bool true) := hd 46 68 rfl (by kernel_rfl) (by decide)
        have h73 : ax.tmps.getD 73 undef = (.bool true) := hd 51 73 rfl (by kernel_rfl) (by decide)
        refine Does.value (.bool true) ?_ rfl
        clear hs hd
        go_simp
      · intro ax wx hb hs hd
        have h74 : ax.tmps.getD 74 undef = (.bool true) := hd 52 74 rfl (by kernel_rfl) (by decide)
        refine Does.value (.bool true) ?_ rfl
        clear hs hd
        go_simp
      · intro ax wx hb hs hd
        have h7 : ax.tmps.getD 7 undef = (.pointer (some ⟨g6, 0, none⟩)) := hs 7 (by kernel_rfl)
        exact Does.load 26 (.tmp 7) rfl g6 0 h7 (u64s lx) _ ((Blk.later V0.out.2.1 hb (Blk.lt V0.out.2.1)).whole) Try.underlying26 rfl (by rw [HF.out.2.2.2.1]; exact sizeElem)
      · intro ax wx hb hs hd
        have h76 : ax.tmps.getD 76 undef = (.agg (u64s lx).toArray) := hd 54 76 rfl (by kernel_rfl) (by decide)
        refine Does.call 31 #[(.agg (u64s lx).toArray)] (by clear hs hd; go_simp) ?_
        refine (neg_any _ _ HF.out.1 _).mono ?_
        rintro z w' ⟨r, rfl, fr, l⟩
        exact ⟨_, rfl, ⟨r, rfl, fr⟩, l⟩
      · intro ax wx hb hs hd
        obtain ⟨l77, h77, f77⟩ : isF ((0 - x) % PR) (ax.tmps.getD 77 undef) wx := hd 55 77 rfl (by kernel_rfl) (by decide)
        refine Does.call 31 #[(.agg (u64s l77).toArray)] (by clear hs hd; go_simp) ?_
        refine (neg_any _ _ f77 _).mono ?_
        rintro z w' ⟨r, rfl, fr, l⟩
        exact ⟨_, rfl, ⟨r, rfl, fr⟩, l⟩
      · intro ax wx hb hs hd
        have h7 : ax.tmps.getD 7 undef = (.pointer (some ⟨g6, 0, none⟩)) := hs 7 (by kernel_rfl)
        exact Does.load 26 (.tmp 7) rfl g6 0 h7 (u64s lx) _ ((Blk.later V0.out.2.1 hb (Blk.lt V0.out.2.1)).whole) Try.underlying26 rfl (by rw [HF.out.2.2.2.1]; exact sizeElem)
      · intro ax wx hb hs hd
        obtain ⟨l78, h78, f78⟩ : isF ((0 - ((0 - x) % PR)) % PR) (ax.tmps.getD 78 undef) wx := hd 56 78 rfl (by kernel_rfl) (by decide)
        have h79 : ax.tmps.getD 79 undef = (.agg (u64s lx).toArray) := hd 57 79 rfl (by kernel_rfl) (by decide)
        refine Does.call 28 #[(.agg (u64s l78).toArray), (.agg (u64s lx).toArray)] (by clear hs hd; go_simp) ?_
        refine (one_yes _ _ _ f78 (Fe.eq HF.out.1 (rg7 x RR.out.1)) _).mono ?_
        rintro z w' ⟨rfl, l⟩
        exact ⟨_, rfl, rfl, l⟩
      · intro ax wx hb hs hd
        have h75 : ax.tmps.getD 75 undef = (.bool true) := hd 53 75 rfl (by kernel_rfl) (by decide)
        have h80 : ax.tmps.getD 80 undef = (.bool true) := hd 58 80 rfl (by kernel_rfl) (by decide)
        refine Does.value (.bool true) ?_ rfl
        clear hs hd
        go_simp
    · intro wx hb
      refine @Ends.val _ _ _ _ _ _ _ _ _ (.agg (u64s lx).toArray) rfl ?_
      refine @Ends.val _ _ _ _ _ _ _ _ _ (.agg (u64s ly).toArray) rfl ?_
      refine @Ends.any _ _ _ _ _ _ _ _ _ (isF ((x + y) % PR)) (isF_later ((x + y) % PR)) rfl ?_
      intro v2 p2
      refine @Ends.val _ _ _ _ _ _ _ _ _ (.agg (u64s ly).toArray) rfl ?_
      refine @Ends.val _ _ _ _ _ _ _ _ _ (.agg (u64s lx).toArray) rfl ?_
      refine @Ends.any _ _ _ _ _ _ _ _ _ (isF ((y + x) % PR)) (isF_later ((y + x) % PR)) rfl ?_
      intro v5 p5
      refine @Ends.val _ _ _ _ _ _ _ _ _ (.bool true) rfl ?_
      refine @Ends.val _ _ _ _ _ _ _ _ _ (.bool true) rfl ?_
      refine @Ends.val _ _ _ _ _ _ _ _ _ (.agg (u64s lx).toArray) rfl ?_
      refine @Ends.val _ _ _ _ _ _ _ _ _ (.agg (u64s ly).toArray) rfl ?_
      refine @Ends.any _ _ _ _ _ _ _ _ _ (isF ((x + y) % PR)) (isF_later ((x + y) % PR)) rfl ?_
      intro v10 p10
      refine @Ends.val _ _ _ _ _ _ _ _ _ (.agg (u64s lz).toArray) rfl ?_
      refine @Ends.any _ _ _ _ _ _ _ _ _ (isF ((((x + y) % PR) + z) % PR)) (isF_later ((((x + y) % PR) + z) % PR)) rfl ?_
      intro v12 p12
      refine @Ends.val _ _ _ _ _ _ _ _ _ (.agg (u64s lx).toArray) rfl ?_
      refine @Ends.val _ _ _ _ _ _ _ _ _ (.agg (u64s ly).toArray) rfl ?_
      refine @Ends.val _ _ _ _ _ _ _ _ _ (.agg (u64s lz).toArray) rfl ?_
      refine @Ends.any _ _ _ _ _ _ _ _ _ (isF ((y + z) % PR)) (isF_later ((y + z) % PR)) rfl ?_
      intro v16 p16
      refine @Ends.any _ _ _ _ _ _ _ _ _ (isF ((x + ((y + z) % PR)) % PR)) (isF_later ((x + ((y + z) % PR)) % PR)) rfl ?_
      intro v17 p17
      refine @Ends.val _ _ _ _ _ _ _ _ _ (.bool true) rfl ?_
      refine @Ends.val _ _ _ _ _ _ _ _ _ (.bool true) rfl ?_
      refine @Ends.val _ _ _ _ _ _ _ _ _ (.bool true) rfl ?_
      refine @Ends.val _ _ _ _ _ _ _ _ _ (.agg (u64s lx).toArray) rfl ?_
      refine @Ends.val _ _ _ _ _ _ _ _ _ (.agg (u64s [0, 0, 0, 0, 0]).toArray) rfl ?_
      refine @Ends.any _ _ _ _ _ _ _ _ _ (isF ((x + 0) % PR)) (isF_later ((x + 0) % PR)) rfl ?_
      intro v23 p23
      refine @Ends.val _ _ _ _ _ _ _ _ _ (.agg (u64s lx).toArray) rfl ?_
      refine @Ends.val _ _ _ _ _ _ _ _ _ (.bool true) rfl ?_
      refine @Ends.val _ _ _ _ _ _ _ _ _ (.bool true) rfl ?_
      refine @Ends.val _ _ _ _ _ _ _ _ _ (.bool true) rfl ?_
      refine @Ends.val _ _ _ _ _ _ _ _ _ (.agg (u64s lx).toArray) rfl ?_
      refine @Ends.val _ _ _ _ _ _ _ _ _ (.agg (u64s ly).toArray) rfl ?_
      refine @Ends.any _ _ _ _ _ _ _ _ _ (isF ((x - y) % PR)) (isF_later ((x - y) % PR)) rfl ?_
      intro v30 p30
      refine @Ends.val _ _ _ _ _ _ _ _ _ (.agg (u64s ly).toArray) rfl ?_
      refine @Ends.any _ _ _ _ _ _ _ _ _ (isF ((((x - y) % PR) + y) % PR)) (isF_later ((((x - y) % PR) + y) % PR)) rfl ?_
      intro v32 p32
      refine @Ends.val _ _ _ _ _ _ _ _ _ (.agg (u64s lx).toArray) rfl ?_
      refine @Ends.val _ _ _ _ _ _ _ _ _ (.bool true) rfl ?_
      refine @Ends.val _ _ _ _ _ _ _ _ _ (.bool true) rfl ?_
      refine @Ends.val _ _ _ _ _ _ _ _ _ (.bool true) rfl ?_
      refine @Ends.val _ _ _ _ _ _ _ _ _ (.agg (u64s lx).toArray) rfl ?_
      refine @Ends.val _ _ _ _ _ _ _ _ _ (.agg (u64s ly).toArray) rfl ?_
      refine @Ends.any _ _ _ _ _ _ _ _ _ (isF ((x - y) % PR)) (isF_later ((x - y) % PR)) rfl ?_
      intro v39 p39
      refine @Ends.val _ _ _ _ _ _ _ _ _ (.agg (u64s lx).toArray) rfl ?_
      refine @Ends.val _ _ _ _ _ _ _ _ _ (.agg (u64s ly).toArray) rfl ?_
      refine @Ends.any _ _ _ _ _ _ _ _ _ (isF ((0 - y) % PR)) (isF_later ((0 - y) % PR)) rfl ?_
      intro v42 p42
      refine @Ends.any _ _ _ _ _ _ _ _ _ (isF ((x + ((0 - y) % PR)) % PR)) (isF_later ((x + ((0 - y) % PR)) % PR)) rfl ?_
      intro v43 p43
      refine @Ends.val _ _ _ _ _ _ _ _ _ (.bool true) rfl ?_
      refine @Ends.val _ _ _ _ _ _ _ _ _ (.bool true) rfl ?_
      refine @Ends.val _ _ _ _ _ _ _ _ _ (.bool true) rfl ?_
      refine @Ends.val _ _ _ _ _ _ _ _ _ (.agg (u64s lx).toArray) rfl ?_
      refine @Ends.val _ _ _ _ _ _ _ _ _ (.agg (u64s lx).toArray) rfl ?_
      refine @Ends.any _ _ _ _ _ _ _ _ _ (isF ((x - x) % PR)) (isF_later ((x - x) % PR)) rfl ?_
      intro v49 p49
      refine @Ends.val _ _ _ _ _ _ _ _ _ (.int .u64 18446744073709551615) rfl ?_
      refine @Ends.val _ _ _ _ _ _ _ _ _ (.bool true) rfl ?_
      refine @Ends.val _ _ _ _ _ _ _ _ _ (.bool true) rfl ?_
      refine @Ends.val _ _ _ _ _ _ _ _ _ (.bool true) rfl ?_
      refine @Ends.val _ _ _ _ _ _ _ _ _ (.agg (u64s lx).toArray) rfl ?_
      refine @Ends.any _ _ _ _ _ _ _ _ _ (isF ((0 - x) % PR)) (isF_later ((0 - x) % PR)) rfl ?_
      intro v55 p55
      refine @Ends.any _ _ _ _ _ _ _ _ _ (isF ((0 - ((0 - x) % PR)) % PR)) (isF_later ((0 - ((0 - x) % PR)) % PR)) rfl ?_
      intro v56 p56
      refine @Ends.val _ _ _ _ _ _ _ _ _ (.agg (u64s lx).toArray) rfl ?_
      refine @Ends.val _ _ _ _ _ _ _ _ _ (.bool true) rfl ?_
      refine @Ends.val _ _ _ _ _ _ _ _ _ (.bool true) rfl ?_
      refine @Ends.one _ _ _ _ _ _ _ ?_
      simp only [Act.put, List.setIfInBounds_toArray, List.set_cons_zero, List.set_cons_succ]
      refine last_assign (.tmp 81) rfl (some 11) rfl (.bool true) rfl ?_
      have V1 : Hid (Below w.heap.size w wx ∧ Blk wx g6 26 (u64s lx) ∧ Blk wx g7 26 (u64s ly) ∧ Blk wx g8 26 (u64s lz) ∧ Blk wx gn 26 (u64s [0, 0, 0, 0, 0])) := ⟨below_chain V0.out.1 hb V0.out.1.size, V0.out.2.1.later hb V0.out.2.1.lt, V0.out.2.2.1.later hb V0.out.2.2.1.lt, V0.out.2.2.2.1.later hb V0.out.2.2.2.1.lt, V0.out.2.2.2.2.later hb V0.out.2.2.2.2.lt⟩
      obtain ⟨y1, rfl⟩ : ∃ q, q = wx := ⟨_, rfl⟩
      clear V0 hb p2 p5 p10 p12 p16 p17 p23 p30 p32 p39 p42 p43 p49 p55 p56
      simp only [Act.put, List.setIfInBounds_toArray, List.set_cons_zero, List.set_cons_succ]
      go_wp2_with fail
      refine region_invG ((.val (.agg (u64s lx).toArray)) :: (.val (.agg (u64s ly).toArray)) :: (.any (isF ((x * y) % PR)) (isF_later ((x * y) % PR))) :: (.val (.agg (u64s ly).toArray)) :: (.val (.agg (u64s lx).toArray)) :: (.any (isF ((y * x) % PR)) (isF_later ((y * x) % PR))) :: (.val (.bool true)) :: (.val (.bool true)) :: (.val (.agg (u64s lx).toArray)) :: (.val (.agg (u64s ly).toArray)) :: (.any (isF ((x * y) % PR)) (isF_later ((x * y) % PR))) :: (.val (.agg (u64s lz).toArray)) :: (.any (isF ((((x * y) % PR) * z) % PR)) (isF_later ((((x * y) % PR) * z) % PR))) :: (.val (.agg (u64s lx).toArray)) :: (.val (.agg (u64s ly).toArray)) :: (.val (.agg (u64s lz).toArray)) :: (.any (isF ((y * z) % PR)) (isF_later ((y * z) % PR))) :: (.any (isF ((x * ((y * z) % PR)) % PR)) (isF_later ((x * ((y * z) % PR)) % PR))) :: (.val (.bool true)) :: (.val (.bool true)) :: (.val (.bool true)) :: (.val (.agg (u64s lx).toArray)) :: (.any (isF 1) (isF_later 1)) :: (.any (isF ((x * 1) % PR)) (isF_later ((x * 1) % PR))) :: (.val (.agg (u64s lx).toArray)) :: (.val (.bool true)) :: (.val (.bool true)) :: (.val (.bool true)) :: (.val (.agg (u64s lx).toArray)) :: (.val (.agg (u64s [0, 0, 0, 0, 0]).toArray)) :: (.any (isF ((x * 0) % PR)) (isF_later ((x * 0) % PR))) :: (.val (.int .u64 18446744073709551615)) :: (.val (.bool true)) :: (.val (.bool true)) :: (.val (.bool true)) :: (.val (.agg (u64s lx).toArray)) :: (.any (isF ((x * x) % PR)) (isF_later ((x * x) % PR))) :: (.val (.agg (u64s lx).toArray)) :: (.val (.agg (u64s lx).toArray)) :: (.any (isF ((x * x) % PR)) (isF_later ((x * x) % PR))) :: (.val (.bool true)) :: (.val (.bool true)) :: []) (by kernel_rfl) (by kernel_rfl) (by repeat (first | exact trivial | (refine ⟨by first | trivial | rfl, ?_⟩))) (by kernel_rfl) ?_ ?_
      · refine Steps'.cons ?_ (Steps'.cons ?_ (Steps'.cons ?_ (Steps'.cons ?_ (Steps'.cons ?_ (Steps'.cons ?_ (Steps'.cons ?_ (Steps'.cons ?_ (Steps'.cons ?_ (Steps'.cons ?_ (Steps'.cons ?_ (Steps'.cons ?_ (Steps'.cons ?_ (Steps'.cons ?_ (Steps'.cons ?_ (Steps'.cons ?_ (Steps'.cons ?_ (Steps'.cons ?_ (Steps'.cons ?_ (Steps'.cons ?_ (Steps'.cons ?_ (Steps'.cons ?_ (Steps'.cons ?_ (Steps'.cons ?_ (Steps'.cons ?_ (Steps'.cons ?_ (Steps'.cons ?_ (Steps'.cons ?_ (Steps'.cons ?_ (Steps'.cons ?_ (Steps'.cons ?_ (Steps'.cons ?_ (Steps'.cons ?_ (Steps'.cons ?_ (Steps'.cons ?_ (Steps'.cons ?_ (Steps'.cons ?_ (Steps'.cons ?_ (Steps'.cons ?_ (Steps'.cons ?_ (Steps'.cons ?_ (Steps'.cons ?_ (Steps'.one _ _ _ _ _ _ _))))))))))))))))))))))))))))))))))))))))))
        · intro ax wx hb hs hd
          have h7 : ax.tmps.getD 7 undef = (.pointer (some ⟨g6, 0, none⟩)) := hs 7 (by kernel_rfl)
          exact Does.load 26 (.tmp 7) rfl g6 0 h7 (u64s lx) _ ((Blk.later V1.out.2.1 hb (Blk.lt V1.out.2.1)).whole) Try.underlying26 rfl (by rw [HF.out.2.2.2.1]; exact sizeElem)
        · intro ax wx hb hs hd
          have h8 : ax.tmps.getD 8 undef = (.pointer (some ⟨g7, 0, none⟩)) := hs 8 (by kernel_rfl)
          exact Does.load 26 (.tmp 8) rfl g7 0 h8 (u64s ly) _ ((Blk.later V1.out.2.2.1 hb (Blk.lt V1.out.2.2.1)).whole) Try.underlying26 rfl (by rw [HF.out.2.2.2.2.1]; exact sizeElem)
        · intro ax wx hb hs hd
          have h82 : ax.tmps.getD 82 undef = (.agg (u64s lx).toArray) := hd 0 82 rfl (by kernel_rfl) (by decide)
          have h83 : ax.tmps.getD 83 undef = (.agg (u64s ly).toArray) := hd 1 83 rfl (by kernel_rfl) (by decide)
          refine Does.call 32 #[(.agg (u64s lx).toArray), (.agg (u64s ly).toArray)] (by clear hs hd; go_simp) ?_
          refine (mul_any _ _ _ _ HF.out.1 HF.out.2.1 _).mono ?_
          rintro z w' ⟨r, rfl, fr, l⟩
          exact ⟨_, rfl, ⟨r, rfl, fr⟩, l⟩
        · intro ax wx hb hs hd
          have h8 : ax.tmps.getD 8 undef = (.pointer (some ⟨g7, 0, none⟩)) := hs 8 (by kernel_rfl)
          exact Does.load 26 (.tmp 8) rfl g7 0 h8 (u64s ly) _ ((Blk.later V1.out.2.2.1 hb (Blk.lt V1.out.2.2.1)).whole) Try.underlying26 rfl (by rw [HF.out.2.2.2.2.1]; exact sizeElem)
        · intro ax wx hb hs hd
          have h7 : ax.tmps.getD 7 undef = (.pointer (some ⟨g6, 0, none⟩)) := hs 7 (by kernel_rfl)
          exact Does.load 26 (.tmp 7) rfl g6 0 h7 (u64s lx) _ ((Blk.later V1.out.2.1 hb (Blk.lt V1.out.2.1)).whole) Try.underlying26 rfl (by rw [HF.out.2.2.2.1]; exact sizeElem)
        · intro ax wx hb hs hd
          have h85 : ax.tmps.getD 85 undef = (.agg (u64s ly).toArray) := hd 3 85 rfl (by kernel_rfl) (by decide)
          have h86 : ax.tmps.getD 86 undef = (.agg (u64s lx).toArray) := hd 4 86 rfl (by kernel_rfl) (by decide)
          refine Does.call 32 #[(.agg (u64s ly).toArray), (.agg (u64s lx).toArray)] (by clear hs hd; go_simp) ?_
          refine (mul_any _ _ _ _ HF.out.2.1 HF.out.1 _).mono ?_
          rintro z w' ⟨r, rfl, fr, l⟩
          exact ⟨_, rfl, ⟨r, rfl, fr⟩, l⟩
        · intro ax wx hb hs hd
          obtain ⟨l84, h84, f84⟩ : isF ((x * y) % PR) (ax.tmps.getD 84 undef) wx := hd 2 84 rfl (by kernel_rfl) (by decide)
          obtain ⟨l87, h87, f87⟩ : isF ((y * x) % PR) (ax.tmps.getD 87 undef) wx := hd 5 87 rfl (by kernel_rfl) (by decide)
          refine Does.call 28 #[(.agg (u64s l84).toArray), (.agg (u64s l87).toArray)] (by clear hs hd; go_simp) ?_
          refine (one_yes _ _ _ f84 (Fe.eq f87 (rg8 x y)) _).mono ?_
          rintro z w' ⟨rfl, l⟩
          exact ⟨_, rfl, rfl, l⟩
        · intro ax wx hb hs hd
          have h88 : ax.tmps.getD 88 undef = (.bool true) := hd 6 88 rfl (by kernel_rfl) (by decide)
          refine Does.value (.bool true) ?_ rfl
          clear hs hd
          go_simp
        · intro ax wx hb hs hd
          have h7 : ax.tmps.getD 7 undef = (.pointer (some ⟨g6, 0, none⟩)) := hs 7 (by kernel_rfl)
          exact Does.load 26 (.tmp 7) rfl g6 0 h7 (u64s lx) _ ((Blk.later V1.out.2.1 hb (Blk.lt V1.out.2.1)).whole) Try.underlying26 rfl (by rw [HF.out.2.2.2.1]; exact sizeElem)
        · intro ax wx hb hs hd
          have h8 : ax.tmps.getD 8 undef = (.pointer (some ⟨g7, 0, none⟩)) := hs 8 (by kernel_rfl)
          exact Does.load 26 (.tmp 8) rfl g7 0 h8 (u64s ly) _ ((Blk.later V1.out.2.2.1 hb (Blk.lt V1.out.2.2.1)).whole) Try.underlying26 rfl (by rw [HF.out.2.2.2.2.1]; exact sizeElem)
        · intro ax wx hb hs hd
          have h90 : ax.tmps.getD 90 undef = (.agg (u64s lx).toArray) := hd 8 90 rfl (by kernel_rfl) (by decide)
          have h91 : ax.tmps.getD 91 undef = (.agg (u64s ly).toArray) := hd 9 91 rfl (by kernel_rfl) (by decide)
          refine Does.call 32 #[(.agg (u64s lx).toArray), (.agg (u64s ly).toArray)] (by clear hs hd; go_simp) ?_
          refine (mul_any _ _ _ _ HF.out.1 HF.out.2.1 _).mono ?_
          rintro z w' ⟨r, rfl, fr, l⟩
          exact ⟨_, rfl, ⟨r, rfl, fr⟩, l⟩
        · intro ax wx hb hs hd
          have h9 : ax.tmps.getD 9 undef = (.pointer (some ⟨g8, 0, none⟩)) := hs 9 (by kernel_rfl)
          exact Does.load 26 (.tmp 9) rfl g8 0 h9 (u64s lz) _ ((Blk.later V1.out.2.2.2.1 hb (Blk.lt V1.out.2.2.2.1)).whole) Try.underlying26 rfl (by rw [HF.out.2.2.2.2.2]; exact sizeElem)
        · intro ax wx hb hs hd
          obtain ⟨l92, h92, f92⟩ : isF ((x * y) % PR) (ax.tmps.getD 92 undef) wx := hd 10 92 rfl (by kernel_rfl) (by decide)
          have h93 : ax.tmps.getD 93 undef = (.agg (u64s lz).toArray) := hd 11 93 rfl (by kernel_rfl) (by decide)
          refine Does.call 32 #[(.agg (u64s l92).toArray), (.agg (u64s lz).toArray)] (by clear hs hd; go_simp) ?_
          refine (mul_any _ _ _ _ f92 HF.out.2.2.1 _).mono ?_
          rintro z w' ⟨r, rfl, fr, l⟩
          exact ⟨_, rfl, ⟨r, rfl, fr⟩, l⟩
        · intro ax wx hb hs hd
          have h7 : ax.tmps.getD 7 undef = (.pointer (some ⟨g6, 0, none⟩)) := hs 7 (by kernel_rfl)
          exact Does.load 26 (.tmp 7) rfl g6 0 h7 (u64s lx) _ ((Blk.later V1.out.2.1 hb (Blk.lt V1.out.2.1)).whole) Try.underlying26 rfl (by rw [HF.out.2.2.2.1]; exact sizeElem)
        · intro ax wx hb hs hd
          have h8 : ax.tmps.getD 8 undef = (.pointer (some ⟨g7, 0, none⟩)) := hs 8 (by kernel_rfl)
          exact Does.load 26 (.tmp 8) rfl g7 0 h8 (u64s ly) _ ((Blk.later V1.out.2.2.1 hb (Blk.lt V1.out.2.2.1)).whole) Try.underlying26 rfl (by rw [HF.out.2.2.2.2.1]; exact sizeElem)
        · intro ax wx hb hs hd
          have h9 : ax.tmps.getD 9 undef = (.pointer (some ⟨g8, 0, none⟩)) := hs 9 (by kernel_rfl)
          exact Does.load 26 (.tmp 9) rfl g8 0 h9 (u64s lz) _ ((Blk.later V1.out.2.2.2.1 hb (Blk.lt V1.out.2.2.2.1)).whole) Try.underlying26 rfl (by rw [HF.out.2.2.2.2.2]; exact sizeElem)
        · intro ax wx hb hs hd
          have h96 : ax.tmps.getD 96 undef = (.agg (u64s ly).toArray) := hd 14 96 rfl (by kernel_rfl) (by decide)
          have h97 : ax.tmps.getD 97 undef = (.agg (u64s lz).toArray) := hd 15 97 rfl (by kernel_rfl) (by decide)
          refine Does.call 32 #[(.agg (u64s ly).toArray), (.agg (u64s lz).toArray)] (by clear hs hd; go_simp) ?_
          refine (mul_any _ _ _ _ HF.out.2.1 HF.out.2.2.1 _).mono ?_
          rintro z w' ⟨r, rfl, fr, l⟩
          exact ⟨_, rfl, ⟨r, rfl, fr⟩, l⟩
        · intro ax wx hb hs hd
          have h95 : ax.tmps.getD 95 undef = (.agg (u64s lx).toArray) := hd 13 95 rfl (by kernel_rfl) (by decide)
          obtain ⟨l98, h98, f98⟩ : isF ((y * z) % PR) (ax.tmps.getD 98 undef) wx := hd 16 98 rfl (by kernel_rfl) (by decide)
          refine Does.call 32 #[(.agg (u64s lx).toArray), (.agg (u64s l98).toArray)] (by clear hs hd; go_simp) ?_
          refine (mul_any _ _ _ _ HF.out.1 f98 _).mono ?_
          rintro z w' ⟨r, rfl, fr, l⟩
          exact ⟨_, rfl, ⟨r, rfl, fr⟩, l⟩
        · intro ax wx hb hs hd
          obtain ⟨l94, h94, f94⟩ : isF ((((x * y) % PR) * z) % PR) (ax.tmps.getD 94 undef) wx := hd 12 94 rfl (by kernel_rfl) (by decide)
          obtain ⟨l99, h99, f99⟩ : isF ((x * ((y * z) % PR)) % PR) (ax.tmps.getD 99 undef) wx := hd 17 99 rfl (by kernel_rfl) (by decide)
          refine Does.call 28 #[(.agg (u64s l94).toArray), (.agg (u64s l99).toArray)] (by clear hs hd; go_simp) ?_
          refine (one_yes _ _ _ f94 (Fe.eq f99 (rg9 x y z)) _).mono ?_
          rintro z w' ⟨rfl, l⟩
          exact ⟨_, rfl, rfl, l⟩
        · intro ax wx hb hs hd
          have h89 : ax.tmps.getD 89 undef = (.bool true) := hd 7 89 rfl (by kernel_rfl) (by decide)
          have h100 : ax.tmps.getD 100 undef = (.bool true) := hd 18 100 rfl (by kernel_rfl) (by decide)
          refine Does.value (.bool true) ?_ rfl
          clear hs hd
          go_simp
        · intro ax wx hb hs hd
          have h101 : ax.tmps.getD 101 undef = (.bool true) := hd 19 101 rfl (by kernel_rfl) (by decide)
          refine Does.value (.bool true) ?_ rfl
          clear hs hd
          go_simp
        · intro ax wx hb hs hd
          have h7 : ax.tmps.getD 7 undef = (.pointer (some ⟨g6, 0, none⟩)) := hs 7 (by kernel_rfl)
          exact Does.load 26 (.tmp 7) rfl g6 0 h7 (u64s lx) _ ((Blk.later V1.out.2.1 hb (Blk.lt V1.out.2.1)).whole) Try.underlying26 rfl (by rw [HF.out.2.2.2.1]; exact sizeElem)
        · intro ax wx hb hs hd
          refine Does.call 15 #[(.int .u64 1)] (by clear hs hd; go_simp) ?_
          refine (small_any 1 (by decide) (by decide) _).mono ?_
          rintro z w' ⟨r, rfl, fr, l⟩
          exact ⟨_, rfl, ⟨r, rfl, fr⟩, l⟩
        · intro ax wx hb hs hd
          have h103 : ax.tmps.getD 103 undef = (.agg (u64s lx).toArray) := hd 21 103 rfl (by kernel_rfl) (by decide)
          obtain ⟨l104, h104, f104⟩ : isF 1 (ax.tmps.getD 104 undef) wx := hd 22 104 rfl (by kernel_rfl) (by decide)
          refine Does.call 32 #[(.agg (u64s lx).toArray), (.agg (u64s l104).toArray)] (by clear hs hd; go_simp) ?_
          refine (mul_any _ _ _ _ HF.out.1 f104 _).mono ?_
          rintro z w' ⟨r, rfl, fr, l⟩
          exact ⟨_, rfl, ⟨r, rfl, fr⟩, l⟩
        · intro ax wx hb hs hd
          have h7 : ax.tmps.getD 7 undef = (.pointer (some ⟨g6, 0, none⟩)) := hs 7 (by kernel_rfl)
          exact Does.load 26 (.tmp 7) rfl g6 0 h7 (u64s lx) _ ((Blk.later V1.out.2.1 hb (Blk.lt V1.out.2.1)).whole) Try.underlying26 rfl (by rw [HF.out.2.2.2.1]; exact sizeElem)
        · intro ax wx hb hs hd
          obtain ⟨l105, h105, f105⟩ : isF ((x * 1) % PR) (ax.tmps.getD 105 undef) wx := hd 23 105 rfl (by kernel_rfl) (by decide)
          have h106 : ax.tmps.getD 106 undef = (.agg (u64s lx).toArray) := hd 24 106 rfl (by kernel_rfl) (by decide)
          refine Does.call 28 #[(.agg (u64s l105).toArray), (.agg (u64s lx).toArray)] (by clear hs hd; go_simp) ?_
          refine (one_yes _ _ _ f105 (Fe.eq HF.out.1 (rg10 x RR.out.1)) _).mono ?_
          rintro z w' ⟨rfl, l⟩
          exact ⟨_, rfl, rfl, l⟩
        · intro ax wx hb hs hd
          have h102 : ax.tmps.getD 102 undef = (.bool true) := hd 20 102 rfl (by kernel_rfl) (by decide)
          have h107 : ax.tmps.getD 107 undef = (.bool true) := hd 25 107 rfl (by kernel_rfl) (by decide)
          refine Does.value (.bool true) ?_ rfl
          clear hs hd
          go_simp
        · intro ax wx hb hs hd
          have h108 : ax.tmps.getD 108 undef = (.bool true) := hd 26 108 rfl (by kernel_rfl) (by decide)
          refine Does.value (.bool true) ?_ rfl
          clear hs hd
          go_simp
        · intro ax wx hb hs hd
          have h7 : ax.tmps.getD 7 undef = (.pointer (some ⟨g6, 0, none⟩)) := hs 7 (by kernel_rfl)
          exact Does.load 26 (.tmp 7) rfl g6 0 h7 (u64s lx) _ ((Blk.later V1.out.2.1 hb (Blk.lt V1.out.2.1)).whole) Try.underlying26 rfl (by rw [HF.out.2.2.2.1]; exact sizeElem)
        · intro ax wx hb hs hd
          have h10 : ax.tmps.getD 10 undef = (.pointer (some ⟨gn, 0, none⟩)) := hs 10 (by kernel_rfl)
          exact Does.load 26 (.tmp 10) rfl gn 0 h10 (u64s [0, 0, 0, 0, 0]) _ ((Blk.later V1.out.2.2.2.2 hb (Blk.lt V1.out.2.2.2.2)).whole) Try.underlying26 rfl sizeElem
        · intro ax wx hb hs hd
          have h110 : ax.tmps.getD 110 undef = (.agg (u64s lx).toArray) := hd 28 110 rfl (by kernel_rfl) (by decide)
          have h111 : ax.tmps.getD 111 undef = (.agg (u64s [0, 0, 0, 0, 0]).toArray) := hd 29 111 rfl (by kernel_rfl) (by decide)
          refine Does.call 32 #[(.agg (u64s lx).toArray), (.agg (u64s [0, 0, 0, 0, 0]).toArray)] (by clear hs hd; go_simp) ?_
          refine (mul_any _ _ _ _ HF.out.1 fe_zero _).mono ?_
          rintro z w' ⟨r, rfl, fr, l⟩
          exact ⟨_, rfl, ⟨r, rfl, fr⟩, l⟩
        · intro ax wx hb hs hd
          obtain ⟨l112, h112, f112⟩ : isF ((x * 0) % PR) (ax.tmps.getD 112 undef) wx := hd 30 112 rfl (by kernel_rfl) (by decide)
          refine Does.call 20 #[(.agg (u64s l112).toArray)] (by clear hs hd; go_simp) ?_
          refine (fzero_yes _ _ f112 (rg11 x) _).mono ?_
          rintro z w' ⟨rfl, l⟩
          exact ⟨_, rfl, rfl, l⟩
        · intro ax wx hb hs hd
          have h113 : ax.tmps.getD 113 undef = (.int .u64 18446744073709551615) := hd 31 113 rfl (by kernel_rfl) (by decide)
          refine Does.value (.bool true) ?_ rfl
          clear hs hd
          go_simp
        · intro ax wx hb hs hd
          have h109 : ax.tmps.getD 109 undef = (.bool true) := hd 27 109 rfl (by kernel_rfl) (by decide)
          have h114 : ax.tmps.getD 114 undef = (.bool true) := hd 32 114 rfl (by kernel_rfl) (by decide)
          refine Does.value (.bool true) ?_ rfl
          clear hs hd
          go_simp
        · intro ax wx hb hs hd
          have h115 : ax.tmps.getD 115 undef = (.bool true) := hd 33 115 rfl (by kernel_rfl) (by decide)
          refine Does.value (.bool true) ?_ rfl
          clear hs hd
          go_simp
        · intro ax wx hb hs hd
          have h7 : ax.tmps.getD 7 undef = (.pointer (some ⟨g6, 0, none⟩)) := hs 7 (by kernel_rfl)
          exact Does.load 26 (.tmp 7) rfl g6 0 h7 (u64s lx) _ ((Blk.later V1.out.2.1 hb (Blk.lt V1.out.2.1)).whole) Try.underlying26 rfl (by rw [HF.out.2.2.2.1]; exact sizeElem)
        · intro ax wx hb hs hd
          have h117 : ax.tmps.getD 117 undef = (.agg (u64s lx).toArray) := hd 35 117 rfl (by kernel_rfl) (by decide)
          refine Does.call 33 #[(.agg (u64s lx).toArray)] (by clear hs hd; go_simp) ?_
          refine (square_any _ _ HF.out.1 _).mono ?_
          rintro z w' ⟨r, rfl, fr, l⟩
          exact ⟨_, rfl, ⟨r, rfl, fr⟩, l⟩
        · intro ax wx hb hs hd
          have h7 : ax.tmps.getD 7 undef = (.pointer (some ⟨g6, 0, none⟩)) := hs 7 (by kernel_rfl)
          exact Does.load 26 (.tmp 7) rfl g6 0 h7 (u64s lx) _ ((Blk.later V1.out.2.1 hb (Blk.lt V1.out.2.1)).whole) Try.underlying26 rfl (by rw [HF.out.2.2.2.1]; exact sizeElem)
        · intro ax wx hb hs hd
          have h7 : ax.tmps.getD 7 undef = (.pointer (some ⟨g6, 0, none⟩)) := hs 7 (by kernel_rfl)
          exact Does.load 26 (.tmp 7) rfl g6 0 h7 (u64s lx) _ ((Blk.later V1.out.2.1 hb (Blk.lt V1.out.2.1)).whole) Try.underlying26 rfl (by rw [HF.out.2.2.2.1]; exact sizeElem)
        · intro ax wx hb hs hd
          have h119 : ax.tmps.getD 119 undef = (.agg (u64s lx).toArray) := hd 37 119 rfl (by kernel_rfl) (by decide)
          have h120 : ax.tmps.getD 120 undef = (.agg (u64s lx).toArray) := hd 38 120 rfl (by kernel_rfl) (by decide)
          refine Does.call 32 #[(.agg (u64s lx).toArray), (.agg (u64s lx).toArray)] (by clear hs hd; go_simp) ?_
          refine (mul_any _ _ _ _ HF.out.1 HF.out.1 _).mono ?_
          rintro z w' ⟨r, rfl, fr, l⟩
          exact ⟨_, rfl, ⟨r, rfl, fr⟩, l⟩
        · intro ax wx hb hs hd
          obtain ⟨l118, h118, f118⟩ : isF ((x * x) % PR) (ax.tmps.getD 118 undef) wx := hd 36 118 rfl (by kernel_rfl) (by decide)
          obtain ⟨l121, h121, f121⟩ : isF ((x * x) % PR) (ax.tmps.getD 121 undef) wx := hd 39 121 rfl (by kernel_rfl) (by decide)
          refine Does.call 28 #[(.agg (u64s l118).toArray), (.agg (u64s l121).toArray)] (by clear hs hd; go_simp) ?_
          refine (one_yes _ _ _ f118 (Fe.eq f121 (rfl)) _).mono ?_
          rintro z w' ⟨rfl, l⟩
          exact ⟨_, rfl, rfl, l⟩
        · intro ax wx hb hs hd
          have h116 : ax.tmps.getD 116 undef = (.bool true) := hd 34 116 rfl (by kernel_rfl) (by decide)
          have h122 : ax.tmps.getD 122 undef = (.bool true) := hd 40 122 rfl (by kernel_rfl) (by decide)
          refine Does.value (.bool true) ?_ rfl
          clear hs hd
          go_simp
      · intro wx hb
        refine @Ends.val _ _ _ _ _ _ _ _ _ (.agg (u64s lx).toArray) rfl ?_
        refine @Ends.val _ _ _ _ _ _ _ _ _ (.agg (u64s ly).toArray) rfl ?_
        refine @Ends.any _ _ _ _ _ _ _ _ _ (isF ((x * y) % PR)) (isF_later ((x * y) % PR)) rfl ?_
        intro v2 p2
        refine @Ends.val _ _ _ _ _ _ _ _ _ (.agg (u64s ly).toArray) rfl ?_
        refine @Ends.val _ _ _ _ _ _ _ _ _ (.agg (u64s lx).toArray) rfl ?_
        refine @Ends.any _ _ _ _ _ _ _ _ _ (isF ((y * x) % PR)) (isF_later ((y * x) % PR)) rfl ?_
        intro v5 p5
        refine @Ends.val _ _ _ _ _ _ _ _ _ (.bool true) rfl ?_
        refine @Ends.val _ _ _ _ _ _ _ _ _ (.bool true) rfl ?_
        refine @Ends.val _ _ _ _ _ _ _ _ _ (.agg (u64s lx).toArray) rfl ?_
        refine @Ends.val _ _ _ _ _ _ _ _ _ (.agg (u64s ly).toArray) rfl ?_
        refine @Ends.any _ _ _ _ _ _ _ _ _ (isF ((x * y) % PR)) (isF_later ((x * y) % PR)) rfl ?_
        intro v10 p10
        refine @Ends.val _ _ _ _ _ _ _ _ _ (.agg (u64s lz).toArray) rfl ?_
        refine @Ends.any _ _ _ _ _ _ _ _ _ (isF ((((x * y) % PR) * z) % PR)) (isF_later ((((x * y) % PR) * z) % PR)) rfl ?_
        intro v12 p12
        refine @Ends.val _ _ _ _ _ _ _ _ _ (.agg (u64s lx).toArray) rfl ?_
        refine @Ends.val _ _ _ _ _ _ _ _ _ (.agg (u64s ly).toArray) rfl ?_
        refine @Ends.val _ _ _ _ _ _ _ _ _ (.agg (u64s lz).toArray) rfl ?_
        refine @Ends.any _ _ _ _ _ _ _ _ _ (isF ((y * z) % PR)) (isF_later ((y * z) % PR)) rfl ?_
        intro v16 p16
        refine @Ends.any _ _ _ _ _ _ _ _ _ (isF ((x * ((y * z) % PR)) % PR)) (isF_later ((x * ((y * z) % PR)) % PR)) rfl ?_
        intro v17 p17
        refine @Ends.val _ _ _ _ _ _ _ _ _ (.bool true) rfl ?_
        refine @Ends.val _ _ _ _ _ _ _ _ _ (.bool true) rfl ?_
        refine @Ends.val _ _ _ _ _ _ _ _ _ (.bool true) rfl ?_
        refine @Ends.val _ _ _ _ _ _ _ _ _ (.agg (u64s lx).toArray) rfl ?_
        refine @Ends.any _ _ _ _ _ _ _ _ _ (isF 1) (isF_later 1) rfl ?_
        intro v22 p22
        refine @Ends.any _ _ _ _ _ _ _ _ _ (isF ((x * 1) % PR)) (isF_later ((x * 1) % PR)) rfl ?_
        intro v23 p23
        refine @Ends.val _ _ _ _ _ _ _ _ _ (.agg (u64s lx).toArray) rfl ?_
        refine @Ends.val _ _ _ _ _ _ _ _ _ (.bool true) rfl ?_
        refine @Ends.val _ _ _ _ _ _ _ _ _ (.bool true) rfl ?_
        refine @Ends.val _ _ _ _ _ _ _ _ _ (.bool true) rfl ?_
        refine @Ends.val _ _ _ _ _ _ _ _ _ (.agg (u64s lx).toArray) rfl ?_
        refine @Ends.val _ _ _ _ _ _ _ _ _ (.agg (u64s [0, 0, 0, 0, 0]).toArray) rfl ?_
        refine @Ends.any _ _ _ _ _ _ _ _ _ (isF ((x * 0) % PR)) (isF_later ((x * 0) % PR)) rfl ?_
        intro v30 p30
        refine @Ends.val _ _ _ _ _ _ _ _ _ (.int .u64 18446744073709551615) rfl ?_
        refine @Ends.val _ _ _ _ _ _ _ _ _ (.bool true) rfl ?_
        refine @Ends.val _ _ _ _ _ _ _ _ _ (.bool true) rfl ?_
        refine @Ends.val _ _ _ _ _ _ _ _ _ (.bool true) rfl ?_
        refine @Ends.val _ _ _ _ _ _ _ _ _ (.agg (u64s lx).toArray) rfl ?_
        refine @Ends.any _ _ _ _ _ _ _ _ _ (isF ((x * x) % PR)) (isF_later ((x * x) % PR)) rfl ?_
        intro v36 p36
        refine @Ends.val _ _ _ _ _ _ _ _ _ (.agg (u64s lx).toArray) rfl ?_
        refine @Ends.val _ _ _ _ _ _ _ _ _ (.agg (u64s lx).toArray) rfl ?_
        refine @Ends.any _ _ _ _ _ _ _ _ _ (isF ((x * x) % PR)) (isF_later ((x * x) % PR)) rfl ?_
        intro v39 p39
        refine @Ends.val _ _ _ _ _ _ _ _ _ (.bool true) rfl ?_
        refine @Ends.val _ _ _ _ _ _ _ _ _ (.bool true) rfl ?_
        refine @Ends.one _ _ _ _ _ _ _ ?_
        simp only [Act.put, List.setIfInBounds_toArray, List.set_cons_zero, List.set_cons_succ]
        refine last_assign (.tmp 123) rfl (some 12) rfl (.bool true) rfl ?_
        have V2 : Hid (Below w.heap.size w wx ∧ Blk wx g6 26 (u64s lx) ∧ Blk wx g7 26 (u64s ly) ∧ Blk wx g8 26 (u64s lz) ∧ Blk wx gn 26 (u64s [0, 0, 0, 0, 0])) := ⟨below_chain V1.out.1 hb V1.out.1.size, V1.out.2.1.later hb V1.out.2.1.lt, V1.out.2.2.1.later hb V1.out.2.2.1.lt, V1.out.2.2.2.1.later hb V1.out.2.2.2.1.lt, V1.out.2.2.2.2.later hb V1.out.2.2.2.2.lt⟩
        obtain ⟨y2, rfl⟩ : ∃ q, q = wx := ⟨_, rfl⟩
        clear V1 hb p2 p5 p10 p12 p16 p17 p22 p23 p30 p36 p39
        simp only [Act.put, List.setIfInBounds_toArray, List.set_cons_zero, List.set_cons_succ]
        go_wp2_with fail
        refine region_invG ((.val (.agg (u64s lx).toArray)) :: (.val (.agg (u64s ly).toArray)) :: (.val (.agg (u64s lz).toArray)) :: (.any (isF ((y + z) % PR)) (isF_later ((y + z) % PR))) :: (.any (isF ((x * ((y + z) % PR)) % PR)) (isF_later ((x * ((y + z) % PR)) % PR))) :: (.val (.agg (u64s lx).toArray)) :: (.val (.agg (u64s ly).toArray)) :: (.any (isF ((x * y) % PR)) (isF_later ((x * y) % PR))) :: (.val (.agg (u64s lx).toArray)) :: (.val (.agg (u64s lz).toArray)) :: (.any (isF ((x * z) % PR)) (isF_later ((x * z) % PR))) :: (.any (isF ((((x * y) % PR) + ((x * z) % PR)) % PR)) (isF_later ((((x * y) % PR) + ((x * z) % PR)) % PR))) :: (.val (.bool true)) :: (.val (.bool true)) :: (.val (.agg (u64s lx).toArray)) :: (.val (.agg (u64s ly).toArray)) :: (.any (isF ((x + y) % PR)) (isF_later ((x + y) % PR))) :: (.val (.agg (u64s lx).toArray)) :: (.val (.agg (u64s ly).toArray)) :: (.any (isF ((x - y) % PR)) (isF_later ((x - y) % PR))) :: (.any (isF ((((x + y) % PR) * ((x - y) % PR)) % PR)) (isF_later ((((x + y) % PR) * ((x - y) % PR)) % PR))) :: (.val (.agg (u64s lx).toArray)) :: (.any (isF ((x * x) % PR)) (isF_later ((x * x) % PR))) :: (.val (.agg (u64s ly).toArray)) :: (.any (isF ((y * y) % PR)) (isF_later ((y * y) % PR))) :: (.any (isF ((((x * x) % PR) - ((y * y) % PR)) % PR)) (isF_later ((((x * x) % PR) - ((y * y) % PR)) % PR))) :: (.val (.bool true)) :: (.val (.bool true)) :: []) (by kernel_rfl) (by kernel_rfl) (by repeat (first | exact trivial | (refine ⟨by first | trivial | rfl, ?_⟩))) (by kernel_rfl) ?_ ?_
        · refine Steps'.cons ?_ (Steps'.cons ?_ (Steps'.cons ?_ (Steps'.cons ?_ (Steps'.cons ?_ (Steps'.cons ?_ (Steps'.cons ?_ (Steps'.cons ?_ (Steps'.cons ?_ (Steps'.cons ?_ (Steps'.cons ?_ (Steps'.cons ?_ (Steps'.cons ?_ (Steps'.cons ?_ (Steps'.cons ?_ (Steps'.cons ?_ (Steps'.cons ?_ (Steps'.cons ?_ (Steps'.cons ?_ (Steps'.cons ?_ (Steps'.cons ?_ (Steps'.cons ?_ (Steps'.cons ?_ (Steps'.cons ?_ (Steps'.cons ?_ (Steps'.cons ?_ (Steps'.cons ?_ (Steps'.cons ?_ (Steps'.one _ _ _ _ _ _ _))))))))))))))))))))))))))))
          · intro ax wx hb hs hd
            have h7 : ax.tmps.getD 7 undef = (.pointer (some ⟨g6, 0, none⟩)) := hs 7 (by kernel_rfl)
            exact Does.load 26 (.tmp 7) rfl g6 0 h7 (u64s lx) _ ((Blk.later V2.out.2.1 hb (Blk.lt V2.out.2.1)).whole) Try.underlying26 rfl (by rw [HF.out.2.2.2.1]; exact sizeElem)
          · intro ax wx hb hs hd
            have h8 : ax.tmps.getD 8 undef = (.pointer (some ⟨g7, 0, none⟩)) := hs 8 (by kernel_rfl)
            exact Does.load 26 (.tmp 8) rfl g7 0 h8 (u64s ly) _ ((Blk.later V2.out.2.2.1 hb (Blk.lt V2.out.2.2.1)).whole) Try.underlying26 rfl (by rw [HF.out.2.2.2.2.1]; exact sizeElem)
          · intro ax wx hb hs hd
            have h9 : ax.tmps.getD 9 undef = (.pointer (some ⟨g8, 0, none⟩)) := hs 9 (by kernel_rfl)
            exact Does.load 26 (.tmp 9) rfl g8 0 h9 (u64s lz) _ ((Blk.later V2.out.2.2.2.1 hb (Blk.lt V2.out.2.2.2.1)).whole) Try.underlying26 rfl (by rw [HF.out.2.2.2.2.2]; exact sizeElem)
          · intro ax wx hb hs hd
            have h125 : ax.tmps.getD 125 undef = (.agg (u64s ly).toArray) := hd 1 125 rfl (by kernel_rfl) (by decide)
            have h126 : ax.tmps.getD 126 undef = (.agg (u64s lz).toArray) := hd 2 126 rfl (by kernel_rfl) (by decide)
            refine Does.call 29 #[(.agg (u64s ly).toArray), (.agg (u64s lz).toArray)] (by clear hs hd; go_simp) ?_
            refine (add_any _ _ _ _ HF.out.2.1 HF.out.2.2.1 _).mono ?_
            rintro z w' ⟨r, rfl, fr, l⟩
            exact ⟨_, rfl, ⟨r, rfl, fr⟩, l⟩
          · intro ax wx hb hs hd
            have h124 : ax.tmps.getD 124 undef = (.agg (u64s lx).toArray) := hd 0 124 rfl (by kernel_rfl) (by decide)
            obtain ⟨l127, h127, f127⟩ : isF ((y + z) % PR) (ax.tmps.getD 127 undef) wx := hd 3 127 rfl (by kernel_rfl) (by decide)
            refine Does.call 32 #[(.agg (u64s lx).toArray), (.agg (u64s l127).toArray)] (by clear hs hd; go_simp) ?_
            refine (mul_any _ _ _ _ HF.out.1 f127 _).mono ?_
            rintro z w' ⟨r, rfl, fr, l⟩
            exact ⟨_, rfl, ⟨r, rfl, fr⟩, l⟩
          · intro ax wx hb hs hd
            have h7 : ax.tmps.getD 7 undef = (.pointer (some ⟨g6, 0, none⟩)) := hs 7 (by kernel_rfl)
            exact Does.load 26 (.tmp 7) rfl g6 0 h7 (u64s lx) _ ((Blk.later V2.out.2.1 hb (Blk.lt V2.out.2.1)).whole) Try.underlying26 rfl (by rw [HF.out.2.2.2.1]; exact sizeElem)
          · intro ax wx hb hs hd
            have h8 : ax.tmps.getD 8 undef = (.pointer (some ⟨g7, 0, none⟩)) := hs 8 (by kernel_rfl)
            exact Does.load 26 (.tmp 8) rfl g7 0 h8 (u64s ly) _ ((Blk.later V2.out.2.2.1 hb (Blk.lt V2.out.2.2.1)).whole) Try.underlying26 rfl (by rw [HF.out.2.2.2.2.1]; exact sizeElem)
          · intro ax wx hb hs hd
            have h129 : ax.tmps.getD 129 undef = (.agg (u64s lx).toArray) := hd 5 129 rfl (by kernel_rfl) (by decide)
            have h130 : ax.tmps.getD 130 undef = (.agg (u64s ly).toArray) := hd 6 130 rfl (by kernel_rfl) (by decide)
            refine Does.call 32 #[(.agg (u64s lx).toArray), (.agg (u64s ly).toArray)] (by clear hs hd; go_simp) ?_
            refine (mul_any _ _ _ _ HF.out.1 HF.out.2.1 _).mono ?_
            rintro z w' ⟨r, rfl, fr, l⟩
            exact ⟨_, rfl, ⟨r, rfl, fr⟩, l⟩
          · intro ax wx hb hs hd
            have h7 : ax.tmps.getD 7 undef = (.pointer (some ⟨g6, 0, none⟩)) := hs 7 (by kernel_rfl)
            exact Does.load 26 (.tmp 7) rfl g6 0 h7 (u64s lx) _ ((Blk.later V2.out.2.1 hb (Blk.lt V2.out.2.1)).whole) Try.underlying26 rfl (by rw [HF.out.2.2.2.1]; exact sizeElem)
          · intro ax wx hb hs hd
            have h9 : ax.tmps.getD 9 undef = (.pointer (some ⟨g8, 0, none⟩)) := hs 9 (by kernel_rfl)
            exact Does.load 26 (.tmp 9) rfl g8 0 h9 (u64s lz) _ ((Blk.later V2.out.2.2.2.1 hb (Blk.lt V2.out.2.2.2.1)).whole) Try.underlying26 rfl (by rw [HF.out.2.2.2.2.2]; exact sizeElem)
          · intro ax wx hb hs hd
            have h132 : ax.tmps.getD 132 undef = (.agg (u64s lx).toArray) := hd 8 132 rfl (by kernel_rfl) (by decide)
            have h133 : ax.tmps.getD 133 undef = (.agg (u64s lz).toArray) := hd 9 133 rfl (by kernel_rfl) (by decide)
            refine Does.call 32 #[(.agg (u64s lx).toArray), (.agg (u64s lz).toArray)] (by clear hs hd; go_simp) ?_
            refine (mul_any _ _ _ _ HF.out.1 HF.out.2.2.1 _).mono ?_
            rintro z w' ⟨r, rfl, fr, l⟩
            exact ⟨_, rfl, ⟨r, rfl, fr⟩, l⟩
          · intro ax wx hb hs hd
            obtain ⟨l131, h131, f131⟩ : isF ((x * y) % PR) (ax.tmps.getD 131 undef) wx := hd 7 131 rfl (by kernel_rfl) (by decide)
            obtain ⟨l134, h134, f134⟩ : isF ((x * z) % PR) (ax.tmps.getD 134 undef) wx := hd 10 134 rfl (by kernel_rfl) (by decide)
            refine Does.call 29 #[(.agg (u64s l131).toArray), (.agg (u64s l134).toArray)] (by clear hs hd; go_simp) ?_
            refine (add_any _ _ _ _ f131 f134 _).mono ?_
            rintro z w' ⟨r, rfl, fr, l⟩
            exact ⟨_, rfl, ⟨r, rfl, fr⟩, l⟩
          · intro ax wx hb hs hd
            obtain ⟨l128, h128, f128⟩ : isF ((x * ((y + z) % PR)) % PR) (ax.tmps.getD 128 undef) wx := hd 4 128 rfl (by kernel_rfl) (by decide)
            obtain ⟨l135, h135, f135⟩ : isF ((((x * y) % PR) + ((x * z) % PR)) % PR) (ax.tmps.getD 135 undef) wx := hd 11 135 rfl (by kernel_rfl) (by decide)
            refine Does.call 28 #[(.agg (u64s l128).toArray), (.agg (u64s l135).toArray)] (by clear hs hd; go_simp) ?_
            refine (one_yes _ _ _ f128 (Fe.eq f135 (rg13 x y z)) _).mono ?_
            rintro z w' ⟨rfl, l⟩
            exact ⟨_, rfl, rfl, l⟩
          · intro ax wx hb hs hd
            have h136 : ax.tmps.getD 136 undef = (.bool true) := hd 12 136 rfl (by kernel_rfl) (by decide)
            refine Does.value (.bool true) ?_ rfl
            clear hs hd
            go_simp
          · intro ax wx hb hs hd
            have h7 : ax.tmps.getD 7 undef = (.pointer (some ⟨g6, 0, none⟩)) := hs 7 (by kernel_rfl)
            exact Does.load 26 (.tmp 7) rfl g6 0 h7 (u64s lx) _ ((Blk.later V2.out.2.1 hb (Blk.lt V2.out.2.1)).whole) Try.underlying26 rfl (by rw [HF.out.2.2.2.1]; exact sizeElem)
          · intro ax wx hb hs hd
            have h8 : ax.tmps.getD 8 undef = (.pointer (some ⟨g7, 0, none⟩)) := hs 8 (by kernel_rfl)
            exact Does.load 26 (.tmp 8) rfl g7 0 h8 (u64s ly) _ ((Blk.later V2.out.2.2.1 hb (Blk.lt V2.out.2.2.1)).whole) Try.underlying26 rfl (by rw [HF.out.2.2.2.2.1]; exact sizeElem)
          · intro ax wx hb hs hd
            have h138 : ax.tmps.getD 138 undef = (.agg (u64s lx).toArray) := hd 14 138 rfl (by kernel_rfl) (by decide)
            have h139 : ax.tmps.getD 139 undef = (.agg (u64s ly).toArray) := hd 15 139 rfl (by kernel_rfl) (by decide)
            refine Does.call 29 #[(.agg (u64s lx).toArray), (.agg (u64s ly).toArray)] (by clear hs hd; go_simp) ?_
            refine (add_any _ _ _ _ HF.out.1 HF.out.2.1 _).mono ?_
            rintro z w' ⟨r, rfl, fr, l⟩
            exact ⟨_, rfl, ⟨r, rfl, fr⟩, l⟩
          · intro ax wx hb hs hd
            have h7 : ax.tmps.getD 7 undef = (.pointer (some ⟨g6, 0, none⟩)) := hs 7 (by kernel_rfl)
            exact Does.load 26 (.tmp 7) rfl g6 0 h7 (u64s lx) _ ((Blk.later V2.out.2.1 hb (Blk.lt V2.out.2.1)).whole) Try.underlying26 rfl (by rw [HF.out.2.2.2.1]; exact sizeElem)
          · intro ax wx hb hs hd
            have h8 : ax.tmps.getD 8 undef = (.pointer (some ⟨g7, 0, none⟩)) := hs 8 (by kernel_rfl)
            exact Does.load 26 (.tmp 8) rfl g7 0 h8 (u64s ly) _ ((Blk.later V2.out.2.2.1 hb (Blk.lt V2.out.2.2.1)).whole) Try.underlying26 rfl (by rw [HF.out.2.2.2.2.1]; exact sizeElem)
          · intro ax wx hb hs hd
            have h141 : ax.tmps.getD 141 undef = (.agg (u64s lx).toArray) := hd 17 141 rfl (by kernel_rfl) (by decide)
            have h142 : ax.tmps.getD 142 undef = (.agg (u64s ly).toArray) := hd 18 142 rfl (by kernel_rfl) (by decide)
            refine Does.call 30 #[(.agg (u64s lx).toArray), (.agg (u64s ly).toArray)] (by clear hs hd; go_simp) ?_
            refine (sub_any _ _ _ _ HF.out.1 HF.out.2.1 _).mono ?_
            rintro z w' ⟨r, rfl, fr, l⟩
            exact ⟨_, rfl, ⟨r, rfl, fr⟩, l⟩
          · intro ax wx hb hs hd
            obtain ⟨l140, h140, f140⟩ : isF ((x + y) % PR) (ax.tmps.getD 140 undef) wx := hd 16 140 rfl (by kernel_rfl) (by decide)
            obtain ⟨l143, h143, f143⟩ : isF ((x - y) % PR) (ax.tmps.getD 143 undef) wx := hd 19 143 rfl (by kernel_rfl) (by decide)
            refine Does.call 32 #[(.agg (u64s l140).toArray), (.agg (u64s l143).toArray)] (by clear hs hd; go_simp) ?_
            refine (mul_any _ _ _ _ f140 f143 _).mono ?_
            rintro z w' ⟨r, rfl, fr, l⟩
            exact ⟨_, rfl, ⟨r, rfl, fr⟩, l⟩
          · intro ax wx hb hs hd
            have h7 : ax.tmps.getD 7 undef = (.pointer (some ⟨g6, 0, none⟩)) := hs 7 (by kernel_rfl)
            exact Does.load 26 (.tmp 7) rfl g6 0 h7 (u64s lx) _ ((Blk.later V2.out.2.1 hb (Blk.lt V2.out.2.1)).whole) Try.underlying26 rfl (by rw [HF.out.2.2.2.1]; exact sizeElem)
          · intro ax wx hb hs hd
            have h145 : ax.tmps.getD 145 undef = (.agg (u64s lx).toArray) := hd 21 145 rfl (by kernel_rfl) (by decide)
            refine Does.call 33 #[(.agg (u64s lx).toArray)] (by clear hs hd; go_simp) ?_
            refine (square_any _ _ HF.out.1 _).mono ?_
            rintro z w' ⟨r, rfl, fr, l⟩
            exact ⟨_, rfl, ⟨r, rfl, fr⟩, l⟩
          · intro ax wx hb hs hd
            have h8 : ax.tmps.getD 8 undef = (.pointer (some ⟨g7, 0, none⟩)) := hs 8 (by kernel_rfl)
            exact Does.load 26 (.tmp 8) rfl g7 0 h8 (u64s ly) _ ((Blk.later V2.out.2.2.1 hb (Blk.lt V2.out.2.2.1)).whole) Try.underlying26 rfl (by rw [HF.out.2.2.2.2.1]; exact sizeElem)
          · intro ax wx hb hs hd
            have h147 : ax.tmps.getD 147 undef = (.agg (u64s ly).toArray) := hd 23 147 rfl (by kernel_rfl) (by decide)
            refine Does.call 33 #[(.agg (u64s ly).toArray)] (by clear hs hd; go_simp) ?_
            refine (square_any _ _ HF.out.2.1 _).mono ?_
            rintro z w' ⟨r, rfl, fr, l⟩
            exact ⟨_, rfl, ⟨r, rfl, fr⟩, l⟩
          · intro ax wx hb hs hd
            obtain ⟨l146, h146, f146⟩ : isF ((x * x) % PR) (ax.tmps.getD 146 undef) wx := hd 22 146 rfl (by kernel_rfl) (by decide)
            obtain ⟨l148, h148, f148⟩ : isF ((y * y) % PR) (ax.tmps.getD 148 undef) wx := hd 24 148 rfl (by kernel_rfl) (by decide)
            refine Does.call 30 #[(.agg (u64s l146).toArray), (.agg (u64s l148).toArray)] (by clear hs hd; go_simp) ?_
            refine (sub_any _ _ _ _ f146 f148 _).mono ?_
            rintro z w' ⟨r, rfl, fr, l⟩
            exact ⟨_, rfl, ⟨r, rfl, fr⟩, l⟩
          · intro ax wx hb hs hd
            obtain ⟨l144, h144, f144⟩ : isF ((((x + y) % PR) * ((x - y) % PR)) % PR) (ax.tmps.getD 144 undef) wx := hd 20 144 rfl (by kernel_rfl) (by decide)
            obtain ⟨l149, h149, f149⟩ : isF ((((x * x) % PR) - ((y * y) % PR)) % PR) (ax.tmps.getD 149 undef) wx := hd 25 149 rfl (by kernel_rfl) (by decide)
            refine Does.call 28 #[(.agg (u64s l144).toArray), (.agg (u64s l149).toArray)] (by clear hs hd; go_simp) ?_
            refine (one_yes _ _ _ f144 (Fe.eq f149 (rg14 x y)) _).mono ?_
            rintro z w' ⟨rfl, l⟩
            exact ⟨_, rfl, rfl, l⟩
          · intro ax wx hb hs hd
            have h137 : ax.tmps.getD 137 undef = (.bool true) := hd 13 137 rfl (by kernel_rfl) (by decide)
            have h150 : ax.tmps.getD 150 undef = (.bool true) := hd 26 150 rfl (by kernel_rfl) (by decide)
            refine Does.value (.bool true) ?_ rfl
            clear hs hd
            go_simp
        · intro wx hb
          refine @Ends.val _ _ _ _ _ _ _ _ _ (.agg (u64s lx).toArray) rfl ?_
          refine @Ends.val _ _ _ _ _ _ _ _ _ (.agg (u64s ly).toArray) rfl ?_
          refine @Ends.val _ _ _ _ _ _ _ _ _ (.agg (u64s lz).toArray) rfl ?_
          refine @Ends.any _ _ _ _ _ _ _ _ _ (isF ((y + z) % PR)) (isF_later ((y + z) % PR)) rfl ?_
          intro v3 p3
          refine @Ends.any _ _ _ _ _ _ _ _ _ (isF ((x * ((y + z) % PR)) % PR)) (isF_later ((x * ((y + z) % PR)) % PR)) rfl ?_
          intro v4 p4
          refine @Ends.val _ _ _ _ _ _ _ _ _ (.agg (u64s lx).toArray) rfl ?_
          refine @Ends.val _ _ _ _ _ _ _ _ _ (.agg (u64s ly).toArray) rfl ?_
          refine @Ends.any _ _ _ _ _ _ _ _ _ (isF ((x * y) % PR)) (isF_later ((x * y) % PR)) rfl ?_
          intro v7 p7
          refine @Ends.val _ _ _ _ _ _ _ _ _ (.agg (u64s lx).toArray) rfl ?_
          refine @Ends.val _ _ _ _ _ _ _ _ _ (.agg (u64s lz).toArray) rfl ?_
          refine @Ends.any _ _ _ _ _ _ _ _ _ (isF ((x * z) % PR)) (isF_later ((x * z) % PR)) rfl ?_
          intro v10 p10
          refine @Ends.any _ _ _ _ _ _ _ _ _ (isF ((((x * y) % PR) + ((x * z) % PR)) % PR)) (isF_later ((((x * y) % PR) + ((x * z) % PR)) % PR)) rfl ?_
          intro v11 p11
          refine @Ends.val _ _ _ _ _ _ _ _ _ (.bool true) rfl ?_
          refine @Ends.val _ _ _ _ _ _ _ _ _ (.bool true) rfl ?_
          refine @Ends.val _ _ _ _ _ _ _ _ _ (.agg (u64s lx).toArray) rfl ?_
          refine @Ends.val _ _ _ _ _ _ _ _ _ (.agg (u64s ly).toArray) rfl ?_
          refine @Ends.any _ _ _ _ _ _ _ _ _ (isF ((x + y) % PR)) (isF_later ((x + y) % PR)) rfl ?_
          intro v16 p16
          refine @Ends.val _ _ _ _ _ _ _ _ _ (.agg (u64s lx).toArray) rfl ?_
          refine @Ends.val _ _ _ _ _ _ _ _ _ (.agg (u64s ly).toArray) rfl ?_
          refine @Ends.any _ _ _ _ _ _ _ _ _ (isF ((x - y) % PR)) (isF_later ((x - y) % PR)) rfl ?_
          intro v19 p19
          refine @Ends.any _ _ _ _ _ _ _ _ _ (isF ((((x + y) % PR) * ((x - y) % PR)) % PR)) (isF_later ((((x + y) % PR) * ((x - y) % PR)) % PR)) rfl ?_
          intro v20 p20
          refine @Ends.val _ _ _ _ _ _ _ _ _ (.agg (u64s lx).toArray) rfl ?_
          refine @Ends.any _ _ _ _ _ _ _ _ _ (isF ((x * x) % PR)) (isF_later ((x * x) % PR)) rfl ?_
          intro v22 p22
          refine @Ends.val _ _ _ _ _ _ _ _ _ (.agg (u64s ly).toArray) rfl ?_
          refine @Ends.any _ _ _ _ _ _ _ _ _ (isF ((y * y) % PR)) (isF_later ((y * y) % PR)) rfl ?_
          intro v24 p24
          refine @Ends.any _ _ _ _ _ _ _ _ _ (isF ((((x * x) % PR) - ((y * y) % PR)) % PR)) (isF_later ((((x * x) % PR) - ((y * y) % PR)) % PR)) rfl ?_
          intro v25 p25
          refine @Ends.val _ _ _ _ _ _ _ _ _ (.bool true) rfl ?_
          refine @Ends.val _ _ _ _ _ _ _ _ _ (.bool true) rfl ?_
          refine @Ends.one _ _ _ _ _ _ _ ?_
          simp only [Act.put, List.setIfInBounds_toArray, List.set_cons_zero, List.set_cons_succ]
          refine last_assign (.tmp 151) rfl (some 13) rfl (.bool true) rfl ?_
          have V3 : Hid (Below w.heap.size w wx ∧ Blk wx g6 26 (u64s lx) ∧ Blk wx g7 26 (u64s ly) ∧ Blk wx g8 26 (u64s lz) ∧ Blk wx gn 26 (u64s [0, 0, 0, 0, 0])) := ⟨below_chain V2.out.1 hb V2.out.1.size, V2.out.2.1.later hb V2.out.2.1.lt, V2.out.2.2.1.later hb V2.out.2.2.1.lt, V2.out.2.2.2.1.later hb V2.out.2.2.2.1.lt, V2.out.2.2.2.2.later hb V2.out.2.2.2.2.lt⟩
          obtain ⟨y3, rfl⟩ : ∃ q, q = wx := ⟨_, rfl⟩
          clear V2 hb p3 p4 p7 p10 p11 p16 p19 p20 p22 p24 p25
          simp only [Act.put, List.setIfInBounds_toArray, List.set_cons_zero, List.set_cons_succ]
          go_wp2_with fail
          go_ret
          exact ⟨rfl, V3.out.1⟩
end Go.Proofs.Ytfeeikkfjbdkiaa
