/- Layer tag: works. -/
import Derived.Test.YtlaegbabpiepeaaTCheck
import Derived.Test.YtlaegbabpiepeaaTRows
namespace Go.Proofs.Ytlaegbabpiepeaa
open Go.RowKit Go.Joins
set_option linter.unusedVariables false
set_option linter.unusedSimpArgs false

def kKey : List Int := 2 :: List.replicate 31 0
def kM : List Int := List.replicate 16 255
def kT (z : Int) : List Int := z :: List.replicate 15 0
theorem kKey_bytes : Bytes kKey := fun z hz => by
  rcases List.mem_cons.1 hz with rfl | h
  · decide
  · obtain ⟨_, rfl⟩ := List.mem_replicate.1 h; decide
theorem kM_bytes : Bytes kM := fun z hz => by obtain ⟨_, rfl⟩ := List.mem_replicate.1 hz; decide
theorem kT_bytes (z : Int) (h : 0 ≤ z ∧ z < 256) : Bytes (kT z) := fun y hy => by
  rcases List.mem_cons.1 hy with rfl | h'
  · exact h
  · obtain ⟨_, rfl⟩ := List.mem_replicate.1 h'; decide
theorem kTag : tagB kKey kM = kT 3 := by decide +kernel
theorem kTag0 : tagB kKey [] = zs0 16 := by decide +kernel
theorem buildKey2 (w : World) : (Instr.build 27 #[(0, .int .u8 2)]).run Try.prog w = .ok (.agg (u8s kKey).toArray) w := by kernel_rfl
theorem zeroKey : (Try.prog.info? 27).map (fun i => (i.zero, i.size)) = some (some (.agg (u8s (zs0 32)).toArray), 32) := by kernel_rfl
theorem buildT (z : Int) (w : World) : (Instr.build 46 #[(0, .int .u8 z)]).run Try.prog w = .ok (.agg (u8s (kT z)).toArray) w := by kernel_rfl
theorem bsM (w : World) : (Instr.buildSlice 28 16 #[(0, .int .u8 255), (1, .int .u8 255), (2, .int .u8 255), (3, .int .u8 255), (4, .int .u8 255), (5, .int .u8 255), (6, .int .u8 255), (7, .int .u8 255), (8, .int .u8 255), (9, .int .u8 255), (10, .int .u8 255), (11, .int .u8 255), (12, .int .u8 255), (13, .int .u8 255), (14, .int .u8 255), (15, .int .u8 255)]).run Try.prog w = .ok (.slice (some ⟨w.heap.size, 0, none⟩) 16 16) (w.alloc (.cells (u8s kM).toArray 5)) := by kernel_rfl
set_option maxRecDepth 20000 in
set_option maxHeartbeats 4000000 in
theorem works_any (w : World) : Calls Try.prog 6 #[] w fun e w' => e = .returned (.bool true) ∧ Below w.heap.size w w' := by
  have hq3 : ∀ W, (Op.equalIn 10000 46 (.agg (u8s (kT 3)).toArray) (.agg (u8s (kT 3)).toArray)).run Try.prog W = .ok true W := equal_self 9998 (kT 3) rfl
  have hq0 : ∀ W, (Op.equalIn 10000 46 (.agg (u8s (zs0 16)).toArray) (.agg (u8s (zs0 16)).toArray)).run Try.prog W = .ok true W := equal_self 9998 (zs0 16) rfl
  go_enter Try.func6, Try.ntmps6
  go_wp2_with (first | (refine wpList_build rfl 27 _ rfl #[(0, .int .u8 2)] rfl _ (buildKey2 _) ?_) | (refine wpList_alloc_new rfl 27 rfl 32 _ zeroKey ?_; intro w1 b1 s1 l1) | (refine wpList_store_blk rfl 27 27 _ _ rfl _ rfl _ (u8s kKey) rfl b1 rfl sizeKey (u8s_one _) ?_; intro w2 b2 s2 k2) | (refine wpList_buildSlice rfl 28 16 _ rfl _ rfl _ _ (bsM _) ?_) | (refine wpList_load_blk rfl 27 _ rfl w.heap.size rfl (u8s kKey) _ (b2.later ((Below.refl w2.heap.size w2).alloc (Nat.le_refl _) _) b2.lt) Try.underlying27 rfl sizeKey ?_) | (go_at_call 13; refine (new_any kKey rfl kKey_bytes _).mono ?_; rintro e w4 ⟨g, rfl, hg, h4, l4⟩))
  have HB : Hid (Blk w4 w.heap.size 27 (u8s kKey) ∧ Seen w4 (some ⟨w.heap.size + 1, 0, none⟩) 16 kM ∧ KHolds w4 g kKey [] ∧ Below w.heap.size w w4) := by
    have e1 : w2.heap.size = w.heap.size + 1 := by omega
    have bm : Blk (w2.alloc (.cells (u8s kM).toArray 5)) w2.heap.size 5 (u8s kM) := heap_alloc_new w2 _
    have lm : Below w2.heap.size w2 (w2.alloc (.cells (u8s kM).toArray 5)) := (Below.refl _ _).alloc (Nat.le_refl _) _
    have sm := seen_blk (bm.later l4 bm.lt) kM_bytes (by decide)
    rw [e1] at sm
    exact ⟨(b2.later lm b2.lt).later l4 (by simp; omega), sm, h4, below_chain (below_chain (below_kept l1 k2 (by omega) (fun j hj => by omega)) lm (by omega)) l4 (by simp; omega)⟩
  clear b1 s1 l1 b2 s2 k2 hg h4 l4
  try simp only [Act.put, List.setIfInBounds_toArray, List.set_cons_zero, List.set_cons_succ]
  refine region_invG ((.val (.agg (u8s kKey).toArray)) :: (.val (.slice (some ⟨w.heap.size + 1, 0, none⟩) 16 16)) :: (.any (isP 1 [kM]) (isP_later _ _)) :: (.val (.agg (u8s (kT 3)).toArray)) :: (.val (.agg (u8s (kT 3)).toArray)) :: (.val (.bool true)) :: (.val (.bool true)) :: (.val (.agg (u8s kKey).toArray)) :: (.val (.agg (u8s (kT 3)).toArray)) :: (.val (.slice (some ⟨w.heap.size + 1, 0, none⟩) 16 16)) :: (.val (.slice (some ⟨w.heap.size + 1, 0, none⟩) 9 16)) :: (.val (.slice (some ⟨w.heap.size + 1, 0, none⟩) 16 16)) :: (.val (.slice (some ⟨w.heap.size + 1, 9, none⟩) 7 7)) :: (.any (isP 2 [kM.take 9, (kM.drop 9).take 7]) (isP_later _ _)) :: (.val (.bool true)) :: (.val (.bool true)) :: (.val (.bool true)) :: (.val (.agg (u8s kKey).toArray)) :: (.val (.agg (u8s (kT 2)).toArray)) :: (.val (.slice (some ⟨w.heap.size + 1, 0, none⟩) 16 16)) :: (.any (isP 1 [kM]) (isP_later _ _)) :: (.val (.bool false)) :: (.val (.bool true)) :: (.val (.bool true)) :: (.val (.bool true)) :: (.val (.pointer (some ⟨g, 0, none⟩))) :: (.val (.bool true)) :: (.val (.bool true)) :: (.val (.bool true)) :: (.val (.pointer (some ⟨g, 0, none⟩))) :: (.val (.agg (u8s (zs0 16)).toArray)) :: (.val (.agg (u8s (zs0 16)).toArray)) :: (.val (.bool true)) :: (.val (.bool true)) :: []) (by kernel_rfl) (by kernel_rfl) (by repeat (first | exact trivial | (refine ⟨by first | trivial | rfl, ?_⟩))) (by kernel_rfl) ?_ ?_
  · refine Steps'.cons ?_ (Steps'.cons ?_ (Steps'.cons ?_ (Steps'.cons ?_ (Steps'.cons ?_ (Steps'.cons ?_ (Steps'.cons ?_ (Steps'.cons ?_ (Steps'.cons ?_ (Steps'.cons ?_ (Steps'.cons ?_ (Steps'.cons ?_ (Steps'.cons ?_ (Steps'.cons ?_ (Steps'.cons ?_ (Steps'.cons ?_ (Steps'.cons ?_ (Steps'.cons ?_ (Steps'.cons ?_ (Steps'.cons ?_ (Steps'.cons ?_ (Steps'.cons ?_ (Steps'.cons ?_ (Steps'.cons ?_ (Steps'.cons ?_ (Steps'.cons ?_ (Steps'.cons ?_ (Steps'.cons ?_ (Steps'.cons ?_ (Steps'.cons ?_ (Steps'.cons ?_ (Steps'.cons ?_ (Steps'.cons ?_ (Steps'.cons ?_ (Steps'.one _ _ _ _ _ _ _))))))))))))))))))))))))))))))))))
    · intro ax wx hb hs hd
      have h1 : ax.tmps.getD 1 undef = (.pointer (some ⟨w.heap.size, 0, none⟩)) := hs 1 (by kernel_rfl)
      exact Does.load 27 (.tmp 1) rfl w.heap.size 0 h1 (u8s kKey) _ ((Blk.later HB.out.1 hb (Blk.lt HB.out.1)).whole) Try.underlying27 rfl sizeKey
    · intro ax wx hb hs hd
      have h2 : ax.tmps.getD 2 undef = (.slice (some ⟨w.heap.size + 1, 0, none⟩) 16 16) := hs 2 (by kernel_rfl)
      refine Does.value (.slice (some ⟨w.heap.size + 1, 0, none⟩) 16 16) ?_ rfl
      go_simp
    · intro ax wx hb hs hd
      have h9 : ax.tmps.getD 9 undef = (.slice (some ⟨w.heap.size + 1, 0, none⟩) 16 16) := hd 1 9 rfl (by kernel_rfl) (by decide)
      exact Does.rows1 _ rfl _ 16 16 kM (by simp only [List.map_toArray, List.map_cons, List.map_nil, Act.eval, h9]) (HB.out.2.1.later hb (Nat.le_refl _)) (Nat.le_refl _)
    · intro ax wx hb hs hd
      have h8 : ax.tmps.getD 8 undef = (.agg (u8s kKey).toArray) := hd 0 8 rfl (by kernel_rfl) (by decide)
      obtain ⟨b, c, h10, s10⟩ : isP 1 [kM] (ax.tmps.getD 10 undef) wx := hd 2 10 rfl (by kernel_rfl) (by decide)
      refine Does.call 14 #[(.agg (u8s kKey).toArray), .slice (some ⟨b, 0, none⟩) 1 c] (by go_simp) ?_
      have q := tsum_any kKey rfl kKey_bytes _ 1 c _ wx s10 (by decide)
      rw [show ([kM] : List (List Int)).flatten = kM from rfl, kTag] at q
      refine q.mono ?_
      rintro e w' ⟨rfl, l⟩
      exact ⟨_, rfl, rfl, l⟩
    · intro ax wx hb hs hd
      exact Does.build 46 _ rfl #[(0, .int .u8 3)] (by simp only [List.map_toArray, List.map_cons, List.map_nil, Act.eval]) _ (buildT _ _)
    · intro ax wx hb hs hd
      have h11 : ax.tmps.getD 11 undef = (.agg (u8s (kT 3)).toArray) := hd 3 11 rfl (by kernel_rfl) (by decide)
      have h12 : ax.tmps.getD 12 undef = (.agg (u8s (kT 3)).toArray) := hd 4 12 rfl (by kernel_rfl) (by decide)
      refine Does.value _ ?_ rfl
      go_simp
    · intro ax wx hb hs hd
      have h13 : ax.tmps.getD 13 undef = (.bool true) := hd 5 13 rfl (by kernel_rfl) (by decide)
      refine Does.value (.bool true) ?_ rfl
      go_simp
    · intro ax wx hb hs hd
      have h1 : ax.tmps.getD 1 undef = (.pointer (some ⟨w.heap.size, 0, none⟩)) := hs 1 (by kernel_rfl)
      exact Does.load 27 (.tmp 1) rfl w.heap.size 0 h1 (u8s kKey) _ ((Blk.later HB.out.1 hb (Blk.lt HB.out.1)).whole) Try.underlying27 rfl sizeKey
    · intro ax wx hb hs hd
      exact Does.build 46 _ rfl #[(0, .int .u8 3)] (by simp only [List.map_toArray, List.map_cons, List.map_nil, Act.eval]) _ (buildT _ _)
    · intro ax wx hb hs hd
      have h2 : ax.tmps.getD 2 undef = (.slice (some ⟨w.heap.size + 1, 0, none⟩) 16 16) := hs 2 (by kernel_rfl)
      refine Does.value (.slice (some ⟨w.heap.size + 1, 0, none⟩) 16 16) ?_ rfl
      go_simp
    · intro ax wx hb hs hd
      have h17 : ax.tmps.getD 17 undef = (.slice (some ⟨w.heap.size + 1, 0, none⟩) 16 16) := hd 9 17 rfl (by kernel_rfl) (by decide)
      refine Does.value _ ?_ rfl
      go_simp
    · intro ax wx hb hs hd
      have h2 : ax.tmps.getD 2 undef = (.slice (some ⟨w.heap.size + 1, 0, none⟩) 16 16) := hs 2 (by kernel_rfl)
      refine Does.value (.slice (some ⟨w.heap.size + 1, 0, none⟩) 16 16) ?_ rfl
      go_simp
    · intro ax wx hb hs hd
      have h19 : ax.tmps.getD 19 undef = (.slice (some ⟨w.heap.size + 1, 0, none⟩) 16 16) := hd 11 19 rfl (by kernel_rfl) (by decide)
      refine Does.value _ ?_ rfl
      go_simp
    · intro ax wx hb hs hd
      have h18 : ax.tmps.getD 18 undef = (.slice (some ⟨w.heap.size + 1, 0, none⟩) 9 16) := hd 10 18 rfl (by kernel_rfl) (by decide)
      have h20 : ax.tmps.getD 20 undef = (.slice (some ⟨w.heap.size + 1, 9, none⟩) 7 7) := hd 12 20 rfl (by kernel_rfl) (by decide)
      have q1 := (HB.out.2.1.later hb (Nat.le_refl _)).sub 0 9 16 (by decide) (by decide) (by decide)
      have q2 := (HB.out.2.1.later hb (Nat.le_refl _)).sub 9 16 16 (by decide) (by decide) (by decide)
      rw [sub_some _ _ _ _ (.inr rfl)] at q1
      rw [sub_some _ _ _ _ (.inl (by decide))] at q2
      exact Does.rows2 _ rfl _ _ 9 7 16 7 (kM.take 9) ((kM.drop 9).take 7) (by simp only [List.map_toArray, List.map_cons, List.map_nil, Act.eval, h18, h20]) q1 q2 (by decide) (by decide)
    · intro ax wx hb hs hd
      have h15 : ax.tmps.getD 15 undef = (.agg (u8s kKey).toArray) := hd 7 15 rfl (by kernel_rfl) (by decide)
      have h16 : ax.tmps.getD 16 undef = (.agg (u8s (kT 3)).toArray) := hd 8 16 rfl (by kernel_rfl) (by decide)
      obtain ⟨b, c, h21, s21⟩ : isP 2 [kM.take 9, (kM.drop 9).take 7] (ax.tmps.getD 21 undef) wx := hd 13 21 rfl (by kernel_rfl) (by decide)
      refine Does.call 15 #[(.agg (u8s kKey).toArray), (.agg (u8s (kT 3)).toArray), .slice (some ⟨b, 0, none⟩) 2 c] (by go_simp) ?_
      have q := check_any kKey (kT 3) rfl kKey_bytes rfl (kT_bytes 3 (by decide)) _ 2 c _ wx s21 (by decide)
      rw [show ([kM.take 9, (kM.drop 9).take 7] : List (List Int)).flatten = kM from rfl, kTag] at q
      refine q.mono ?_
      rintro e w' ⟨rfl, l⟩
      exact ⟨_, rfl, rfl, l⟩
    · intro ax wx hb hs hd
      have h14 : ax.tmps.getD 14 undef = (.bool true) := hd 6 14 rfl (by kernel_rfl) (by decide)
      have h22 : ax.tmps.getD 22 undef = (.bool true) := hd 14 22 rfl (by kernel_rfl) (by decide)
      refine Does.value _ ?_ rfl
      go_simp
    · intro ax wx hb hs hd
      have h23 : ax.tmps.getD 23 undef = (.bool true) := hd 15 23 rfl (by kernel_rfl) (by decide)
      refine Does.value (.bool true) ?_ rfl
      go_simp
    · intro ax wx hb hs hd
      have h1 : ax.tmps.getD 1 undef = (.pointer (some ⟨w.heap.size, 0, none⟩)) := hs 1 (by kernel_rfl)
      exact Does.load 27 (.tmp 1) rfl w.heap.size 0 h1 (u8s kKey) _ ((Blk.later HB.out.1 hb (Blk.lt HB.out.1)).whole) Try.underlying27 rfl sizeKey
    · intro ax wx hb hs hd
      exact Does.build 46 _ rfl #[(0, .int .u8 2)] (by simp only [List.map_toArray, List.map_cons, List.map_nil, Act.eval]) _ (buildT _ _)
    · intro ax wx hb hs hd
      have h2 : ax.tmps.getD 2 undef = (.slice (some ⟨w.heap.size + 1, 0, none⟩) 16 16) := hs 2 (by kernel_rfl)
      refine Does.value (.slice (some ⟨w.heap.size + 1, 0, none⟩) 16 16) ?_ rfl
      go_simp
    · intro ax wx hb hs hd
      have h27 : ax.tmps.getD 27 undef = (.slice (some ⟨w.heap.size + 1, 0, none⟩) 16 16) := hd 19 27 rfl (by kernel_rfl) (by decide)
      exact Does.rows1 _ rfl _ 16 16 kM (by simp only [List.map_toArray, List.map_cons, List.map_nil, Act.eval, h27]) (HB.out.2.1.later hb (Nat.le_refl _)) (Nat.le_refl _)
    · intro ax wx hb hs hd
      have h25 : ax.tmps.getD 25 undef = (.agg (u8s kKey).toArray) := hd 17 25 rfl (by kernel_rfl) (by decide)
      have h26 : ax.tmps.getD 26 undef = (.agg (u8s (kT 2)).toArray) := hd 18 26 rfl (by kernel_rfl) (by decide)
      obtain ⟨b, c, h28, s28⟩ : isP 1 [kM] (ax.tmps.getD 28 undef) wx := hd 20 28 rfl (by kernel_rfl) (by decide)
      refine Does.call 15 #[(.agg (u8s kKey).toArray), (.agg (u8s (kT 2)).toArray), .slice (some ⟨b, 0, none⟩) 1 c] (by go_simp) ?_
      have q := check_any kKey (kT 2) rfl kKey_bytes rfl (kT_bytes 2 (by decide)) _ 1 c _ wx s28 (by decide)
      rw [show ([kM] : List (List Int)).flatten = kM from rfl, kTag] at q
      refine q.mono ?_
      rintro e w' ⟨rfl, l⟩
      exact ⟨_, rfl, rfl, l⟩
    · intro ax wx hb hs hd
      have h29 : ax.tmps.getD 29 undef = (.bool false) := hd 21 29 rfl (by kernel_rfl) (by decide)
      refine Does.value _ ?_ rfl
      go_simp
    · intro ax wx hb hs hd
      have h24 : ax.tmps.getD 24 undef = (.bool true) := hd 16 24 rfl (by kernel_rfl) (by decide)
      have h30 : ax.tmps.getD 30 undef = (.bool true) := hd 22 30 rfl (by kernel_rfl) (by decide)
      refine Does.value _ ?_ rfl
      go_simp
    · intro ax wx hb hs hd
      have h31 : ax.tmps.getD 31 undef = (.bool true) := hd 23 31 rfl (by kernel_rfl) (by decide)
      refine Does.value (.bool true) ?_ rfl
      go_simp
    · intro ax wx hb hs hd
      have h3 : ax.tmps.getD 3 undef = (.pointer (some ⟨g, 0, none⟩)) := hs 3 (by kernel_rfl)
      refine Does.value (.pointer (some ⟨g, 0, none⟩)) ?_ rfl
      go_simp
    · intro ax wx hb hs hd
      have h33 : ax.tmps.getD 33 undef = (.pointer (some ⟨g, 0, none⟩)) := hd 25 33 rfl (by kernel_rfl) (by decide)
      refine Does.value _ ?_ rfl
      go_simp
    · intro ax wx hb hs hd
      have h32 : ax.tmps.getD 32 undef = (.bool true) := hd 24 32 rfl (by kernel_rfl) (by decide)
      have h34 : ax.tmps.getD 34 undef = (.bool true) := hd 26 34 rfl (by kernel_rfl) (by decide)
      refine Does.value _ ?_ rfl
      go_simp
    · intro ax wx hb hs hd
      have h35 : ax.tmps.getD 35 undef = (.bool true) := hd 27 35 rfl (by kernel_rfl) (by decide)
      refine Does.value (.bool true) ?_ rfl
      go_simp
    · intro ax wx hb hs hd
      have h3 : ax.tmps.getD 3 undef = (.pointer (some ⟨g, 0, none⟩)) := hs 3 (by kernel_rfl)
      refine Does.value (.pointer (some ⟨g, 0, none⟩)) ?_ rfl
      go_simp
    · intro ax wx hb hs hd
      have h37 : ax.tmps.getD 37 undef = (.pointer (some ⟨g, 0, none⟩)) := hd 29 37 rfl (by kernel_rfl) (by decide)
      refine Does.call 11 #[(.pointer (some ⟨g, 0, none⟩))] (by go_simp) ?_
      have q := psum_key g kKey [] wx (PHolds.later HB.out.2.2.1 hb (PHolds.lt HB.out.2.2.1))
      rw [kTag0] at q
      refine q.mono ?_
      rintro e w' ⟨rfl, l⟩
      exact ⟨_, rfl, rfl, l⟩
    · intro ax wx hb hs hd
      exact Does.build 46 _ rfl #[] (by simp only [List.map_toArray, List.map_nil]) _ (buildTag _)
    · intro ax wx hb hs hd
      have h38 : ax.tmps.getD 38 undef = (.agg (u8s (zs0 16)).toArray) := hd 30 38 rfl (by kernel_rfl) (by decide)
      have h39 : ax.tmps.getD 39 undef = (.agg (u8s (zs0 16)).toArray) := hd 31 39 rfl (by kernel_rfl) (by decide)
      refine Does.value _ ?_ rfl
      go_simp
    · intro ax wx hb hs hd
      have h36 : ax.tmps.getD 36 undef = (.bool true) := hd 28 36 rfl (by kernel_rfl) (by decide)
      have h40 : ax.tmps.getD 40 undef = (.bool true) := hd 32 40 rfl (by kernel_rfl) (by decide)
      refine Does.value _ ?_ rfl
      go_simp
  · intro wx hb
    refine @Ends.val _ _ _ _ _ _ _ _ _ (.agg (u8s kKey).toArray) rfl ?_
    refine @Ends.val _ _ _ _ _ _ _ _ _ (.slice (some ⟨w.heap.size + 1, 0, none⟩) 16 16) rfl ?_
    refine @Ends.any _ _ _ _ _ _ _ _ _ (isP 1 [kM]) (isP_later _ _) rfl ?_
    intro v2 p2
    refine @Ends.val _ _ _ _ _ _ _ _ _ (.agg (u8s (kT 3)).toArray) rfl ?_
    refine @Ends.val _ _ _ _ _ _ _ _ _ (.agg (u8s (kT 3)).toArray) rfl ?_
    refine @Ends.val _ _ _ _ _ _ _ _ _ (.bool true) rfl ?_
    refine @Ends.val _ _ _ _ _ _ _ _ _ (.bool true) rfl ?_
    refine @Ends.val _ _ _ _ _ _ _ _ _ (.agg (u8s kKey).toArray) rfl ?_
    refine @Ends.val _ _ _ _ _ _ _ _ _ (.agg (u8s (kT 3)).toArray) rfl ?_
    refine @Ends.val _ _ _ _ _ _ _ _ _ (.slice (some ⟨w.heap.size + 1, 0, none⟩) 16 16) rfl ?_
    refine @Ends.val _ _ _ _ _ _ _ _ _ (.slice (some ⟨w.heap.size + 1, 0, none⟩) 9 16) rfl ?_
    refine @Ends.val _ _ _ _ _ _ _ _ _ (.slice (some ⟨w.heap.size + 1, 0, none⟩) 16 16) rfl ?_
    refine @Ends.val _ _ _ _ _ _ _ _ _ (.slice (some ⟨w.heap.size + 1, 9, none⟩) 7 7) rfl ?_
    refine @Ends.any _ _ _ _ _ _ _ _ _ (isP 2 [kM.take 9, (kM.drop 9).take 7]) (isP_later _ _) rfl ?_
    intro v13 p13
    refine @Ends.val _ _ _ _ _ _ _ _ _ (.bool true) rfl ?_
    refine @Ends.val _ _ _ _ _ _ _ _ _ (.bool true) rfl ?_
    refine @Ends.val _ _ _ _ _ _ _ _ _ (.bool true) rfl ?_
    refine @Ends.val _ _ _ _ _ _ _ _ _ (.agg (u8s kKey).toArray) rfl ?_
    refine @Ends.val _ _ _ _ _ _ _ _ _ (.agg (u8s (kT 2)).toArray) rfl ?_
    refine @Ends.val _ _ _ _ _ _ _ _ _ (.slice (some ⟨w.heap.size + 1, 0, none⟩) 16 16) rfl ?_
    refine @Ends.any _ _ _ _ _ _ _ _ _ (isP 1 [kM]) (isP_later _ _) rfl ?_
    intro v20 p20
    refine @Ends.val _ _ _ _ _ _ _ _ _ (.bool false) rfl ?_
    refine @Ends.val _ _ _ _ _ _ _ _ _ (.bool true) rfl ?_
    refine @Ends.val _ _ _ _ _ _ _ _ _ (.bool true) rfl ?_
    refine @Ends.val _ _ _ _ _ _ _ _ _ (.bool true) rfl ?_
    refine @Ends.val _ _ _ _ _ _ _ _ _ (.pointer (some ⟨g, 0, none⟩)) rfl ?_
    refine @Ends.val _ _ _ _ _ _ _ _ _ (.bool true) rfl ?_
    refine @Ends.val _ _ _ _ _ _ _ _ _ (.bool true) rfl ?_
    refine @Ends.val _ _ _ _ _ _ _ _ _ (.bool true) rfl ?_
    refine @Ends.val _ _ _ _ _ _ _ _ _ (.pointer (some ⟨g, 0, none⟩)) rfl ?_
    refine @Ends.val _ _ _ _ _ _ _ _ _ (.agg (u8s (zs0 16)).toArray) rfl ?_
    refine @Ends.val _ _ _ _ _ _ _ _ _ (.agg (u8s (zs0 16)).toArray) rfl ?_
    refine @Ends.val _ _ _ _ _ _ _ _ _ (.bool true) rfl ?_
    refine @Ends.val _ _ _ _ _ _ _ _ _ (.bool true) rfl ?_
    refine @Ends.one _ _ _ _ _ _ _ ?_
    simp only [Act.put, List.setIfInBounds_toArray, List.set_cons_zero, List.set_cons_succ]
    refine last_assign (.tmp 41) rfl (some 0) rfl _ rfl ?_
    simp only [Act.put, List.setIfInBounds_toArray, List.set_cons_zero, List.set_cons_succ]
    have XB : Hid (Below w.heap.size w wx) := below_chain HB.out.2.2.2 hb HB.out.2.2.2.size
    clear hb
    go_wp2_with fail
    go_ret
    exact ⟨rfl, XB.out⟩
end Go.Proofs.Ytlaegbabpiepeaa
