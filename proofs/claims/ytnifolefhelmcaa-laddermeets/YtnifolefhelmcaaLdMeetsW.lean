/- Layer ladder: LadderMeets: they meet. -/
import Derived.Test.YtnifolefhelmcaaLdLaws
import Derived.Test.YtnifolefhelmcaaRInvGT
import Derived.Test.YtnifolefhelmcaaFLast
import Derived.Test.YtnifolefhelmcaaRInvX
namespace Go.Proofs.Ytnifolefhelmcaa
open Go.RowKit
set_option linter.unusedVariables false
set_option linter.unusedSimpArgs false

set_option maxRecDepth 20000 in
set_option maxHeartbeats 8000000 in
theorem meets_any (aa bb uu : List Int) (la : aa.length = 32) (ba : Bytes aa) (lb : bb.length = 32) (bbb : Bytes bb) (lu : uu.length = 32) (bu : Bytes uu) (w : World) :
    Calls Try.prog 9 #[.agg (u8s aa).toArray, .agg (u8s bb).toArray, .agg (u8s uu).toArray] w fun e w' => e = .returned (.bool true) ∧ Below w.heap.size w w' := by
  have M1 := lmul_any bb uu lb bbb lu bu
  have M2 := lmul_any aa (prodL bb uu) la ba (prodL_length _ _) (prodL_bytes _ _)
  have M3 := lmul_any aa uu la ba lu bu
  have M4 := lmul_any bb (prodL aa uu) lb bbb (prodL_length _ _) (prodL_bytes _ _)
  have B1 := base_any aa la ba
  have B2 := base_any bb lb bbb
  have A1 := agree_any aa (prodL bb nineL) la ba (prodL_length _ _) (prodL_bytes _ _)
  have A2 := agree_any bb (prodL aa nineL) lb bbb (prodL_length _ _) (prodL_bytes _ _)
  rw [valid_yes (prod_strong aa bb la ba lb bbb)] at A1
  rw [valid_yes (prod_strong bb aa lb bbb la ba), prod_meet bb aa nineL lb bbb la ba] at A2
  rw [prod_meet bb aa uu lb bbb la ba] at M4
  have hz : prodL aa (prodL bb nineL) ≠ zK32 := prod_ne (prod_strong aa bb la ba lb bbb)
  have HL : Hid ((u8s aa).length = 32 ∧ (u8s bb).length = 32 ∧ (u8s uu).length = 32) := ⟨by rw [u8s_length, la], by rw [u8s_length, lb], by rw [u8s_length, lu]⟩
  obtain ⟨P1, h1⟩ : ∃ z, prodL bb uu = z := ⟨_, rfl⟩
  rw [h1] at M1 M2 M4
  obtain ⟨P3, h3⟩ : ∃ z, prodL aa uu = z := ⟨_, rfl⟩
  rw [h3] at M3 M4
  obtain ⟨P2, h2⟩ : ∃ z, prodL aa P1 = z := ⟨_, rfl⟩
  rw [h2] at M2 M4
  obtain ⟨Z, hZ⟩ : ∃ z, prodL aa (prodL bb nineL) = z := ⟨_, rfl⟩
  rw [hZ] at A1 A2 hz
  have N2 : P2.length = 32 := by rw [← h2]; exact prodL_length _ _
  have NZ : Z.length = 32 := by rw [← hZ]; exact prodL_length _ _
  obtain ⟨Q1, k1⟩ : ∃ z, prodL aa nineL = z := ⟨_, rfl⟩
  obtain ⟨Q2, k2⟩ : ∃ z, prodL bb nineL = z := ⟨_, rfl⟩
  rw [k1] at B1 A2
  rw [k2] at B2 A1
  have q2 : ∀ wx, (Op.equalIn 10000 58 (.agg (u8s P2).toArray) (.agg (u8s P2).toArray)).run Try.prog wx = .ok true wx := equal32A 58 32 Try.underlying58 9998 _ N2
  have qz : ∀ wx, (Op.equalIn 10000 58 (.agg (u8s Z).toArray) (.agg (u8s Z).toArray)).run Try.prog wx = .ok true wx := equal32A 58 32 Try.underlying58 9998 _ NZ
  have q0 : ∀ wx, (Op.equalIn 10000 58 (.agg (u8s Z).toArray) (.agg (u8s zK32).toArray)).run Try.prog wx = .ok false wx := fun wx => equalK_no 9998 Z zK32 NZ zK_length hz wx
  have hb0 := build_zero
  have KZ : Hid ((u8s Z).length = 32 ∧ (u8s zK32).length = 32) := ⟨by rw [u8s_length, NZ], rfl⟩
  obtain ⟨z0, hz0⟩ : ∃ z, zK32 = z := ⟨_, rfl⟩
  rw [hz0] at q0 hb0 KZ
  clear la ba lb bbb lu bu h1 h2 h3 hZ hz N2 NZ k1 k2 hz0
  go_enter Try.func9, Try.ntmps9
  go_wp2_with (first | (refine wpList_box_new rfl 58 (.tmp 0) rfl (u8s aa) rfl ?_; intro x1 z1 s1 l1) | (refine wpList_box_new rfl 58 (.tmp 1) rfl (u8s bb) rfl ?_; intro x2 z2 s2 l2) | (refine wpList_box_new rfl 58 (.tmp 2) rfl (u8s uu) rfl ?_; intro x3 z3 s3 l3))
  rw [s1] at z2
  rw [s2, s1] at z3
  have V0 : Hid (Below w.heap.size w x3 ∧ Blk x3 w.heap.size 58 (u8s aa) ∧ Blk x3 (w.heap.size + 1) 58 (u8s bb) ∧ Blk x3 (w.heap.size + 1 + 1) 58 (u8s uu)) := ⟨below_chain (below_chain l1 l2 (by omega)) l3 (by omega), (z1.later l2 (by omega)).later l3 (by omega), z2.later l3 (by omega), z3⟩
  try simp only [Act.put, List.setIfInBounds_toArray, List.set_cons_zero, List.set_cons_succ, s1, s2]
  clear z1 s1 l1 z2 s2 l2 z3 s3 l3
  refine region_invGT ((.val (.agg (u8s aa).toArray)) :: (.val (.agg (u8s bb).toArray)) :: (.val (.agg (u8s uu).toArray)) :: (.val (.agg (u8s P1).toArray)) :: (.val (.agg (u8s P2).toArray)) :: (.val (.agg (u8s bb).toArray)) :: (.val (.agg (u8s aa).toArray)) :: (.val (.agg (u8s uu).toArray)) :: (.val (.agg (u8s P3).toArray)) :: (.val (.agg (u8s P2).toArray)) :: []) (by kernel_rfl) (by kernel_rfl) (by repeat (first | exact trivial | (refine ⟨by first | trivial | rfl, ?_⟩))) (by kernel_rfl) ?_ ?_
  · refine Steps'.cons ?_ (Steps'.cons ?_ (Steps'.cons ?_ (Steps'.cons ?_ (Steps'.cons ?_ (Steps'.cons ?_ (Steps'.cons ?_ (Steps'.cons ?_ (Steps'.cons ?_ (Steps'.cons ?_ (Steps'.one _ _ _ _ _ _ _))))))))))
    · intro ax wx hb hs hd
      have h3 : ax.tmps.getD 3 undef = (.pointer (some ⟨w.heap.size, 0, none⟩)) := hs 3 (by kernel_rfl)
      exact Does.load 58 (.tmp 3) rfl w.heap.size 0 h3 (u8s aa) _ ((Blk.later V0.out.2.1 hb (Blk.lt V0.out.2.1)).whole) Try.underlying58 rfl (by rw [HL.out.1]; exact sizeKey)
    · intro ax wx hb hs hd
      have h4 : ax.tmps.getD 4 undef = (.pointer (some ⟨(w.heap.size + 1), 0, none⟩)) := hs 4 (by kernel_rfl)
      exact Does.load 58 (.tmp 4) rfl (w.heap.size + 1) 0 h4 (u8s bb) _ ((Blk.later V0.out.2.2.1 hb (Blk.lt V0.out.2.2.1)).whole) Try.underlying58 rfl (by rw [HL.out.2.1]; exact sizeKey)
    · intro ax wx hb hs hd
      have h5 : ax.tmps.getD 5 undef = (.pointer (some ⟨(w.heap.size + 1 + 1), 0, none⟩)) := hs 5 (by kernel_rfl)
      exact Does.load 58 (.tmp 5) rfl (w.heap.size + 1 + 1) 0 h5 (u8s uu) _ ((Blk.later V0.out.2.2.2 hb (Blk.lt V0.out.2.2.2)).whole) Try.underlying58 rfl (by rw [HL.out.2.2]; exact sizeKey)
    · intro ax wx hb hs hd
      have h12 : ax.tmps.getD 12 undef = (.agg (u8s bb).toArray) := hd 1 12 rfl (by kernel_rfl) (by decide)
      have h13 : ax.tmps.getD 13 undef = (.agg (u8s uu).toArray) := hd 2 13 rfl (by kernel_rfl) (by decide)
      refine Does.call 32 #[(.agg (u8s bb).toArray), (.agg (u8s uu).toArray)] (by clear hs hd; go_simp) ?_
      refine (M1 _).mono ?_
      rintro z w' ⟨rfl, l⟩
      exact ⟨_, rfl, rfl, l⟩
    · intro ax wx hb hs hd
      have h11 : ax.tmps.getD 11 undef = (.agg (u8s aa).toArray) := hd 0 11 rfl (by kernel_rfl) (by decide)
      have h14 : ax.tmps.getD 14 undef = (.agg (u8s P1).toArray) := hd 3 14 rfl (by kernel_rfl) (by decide)
      refine Does.call 32 #[(.agg (u8s aa).toArray), (.agg (u8s P1).toArray)] (by clear hs hd; go_simp) ?_
      refine (M2 _).mono ?_
      rintro z w' ⟨rfl, l⟩
      exact ⟨_, rfl, rfl, l⟩
    · intro ax wx hb hs hd
      have h4 : ax.tmps.getD 4 undef = (.pointer (some ⟨(w.heap.size + 1), 0, none⟩)) := hs 4 (by kernel_rfl)
      exact Does.load 58 (.tmp 4) rfl (w.heap.size + 1) 0 h4 (u8s bb) _ ((Blk.later V0.out.2.2.1 hb (Blk.lt V0.out.2.2.1)).whole) Try.underlying58 rfl (by rw [HL.out.2.1]; exact sizeKey)
    · intro ax wx hb hs hd
      have h3 : ax.tmps.getD 3 undef = (.pointer (some ⟨w.heap.size, 0, none⟩)) := hs 3 (by kernel_rfl)
      exact Does.load 58 (.tmp 3) rfl w.heap.size 0 h3 (u8s aa) _ ((Blk.later V0.out.2.1 hb (Blk.lt V0.out.2.1)).whole) Try.underlying58 rfl (by rw [HL.out.1]; exact sizeKey)
    · intro ax wx hb hs hd
      have h5 : ax.tmps.getD 5 undef = (.pointer (some ⟨(w.heap.size + 1 + 1), 0, none⟩)) := hs 5 (by kernel_rfl)
      exact Does.load 58 (.tmp 5) rfl (w.heap.size + 1 + 1) 0 h5 (u8s uu) _ ((Blk.later V0.out.2.2.2 hb (Blk.lt V0.out.2.2.2)).whole) Try.underlying58 rfl (by rw [HL.out.2.2]; exact sizeKey)
    · intro ax wx hb hs hd
      have h17 : ax.tmps.getD 17 undef = (.agg (u8s aa).toArray) := hd 6 17 rfl (by kernel_rfl) (by decide)
      have h18 : ax.tmps.getD 18 undef = (.agg (u8s uu).toArray) := hd 7 18 rfl (by kernel_rfl) (by decide)
      refine Does.call 32 #[(.agg (u8s aa).toArray), (.agg (u8s uu).toArray)] (by clear hs hd; go_simp) ?_
      refine (M3 _).mono ?_
      rintro z w' ⟨rfl, l⟩
      exact ⟨_, rfl, rfl, l⟩
    · intro ax wx hb hs hd
      have h16 : ax.tmps.getD 16 undef = (.agg (u8s bb).toArray) := hd 5 16 rfl (by kernel_rfl) (by decide)
      have h19 : ax.tmps.getD 19 undef = (.agg (u8s P3).toArray) := hd 8 19 rfl (by kernel_rfl) (by decide)
      refine Does.call 32 #[(.agg (u8s bb).toArray), (.agg (u8s P3).toArray)] (by clear hs hd; go_simp) ?_
      refine (M4 _).mono ?_
      rintro z w' ⟨rfl, l⟩
      exact ⟨_, rfl, rfl, l⟩
  · intro wx hb
    refine @Ends.val _ _ _ _ _ _ _ _ _ (.agg (u8s aa).toArray) rfl ?_
    refine @Ends.val _ _ _ _ _ _ _ _ _ (.agg (u8s bb).toArray) rfl ?_
    refine @Ends.val _ _ _ _ _ _ _ _ _ (.agg (u8s uu).toArray) rfl ?_
    refine @Ends.val _ _ _ _ _ _ _ _ _ (.agg (u8s P1).toArray) rfl ?_
    refine @Ends.val _ _ _ _ _ _ _ _ _ (.agg (u8s P2).toArray) rfl ?_
    refine @Ends.val _ _ _ _ _ _ _ _ _ (.agg (u8s bb).toArray) rfl ?_
    refine @Ends.val _ _ _ _ _ _ _ _ _ (.agg (u8s aa).toArray) rfl ?_
    refine @Ends.val _ _ _ _ _ _ _ _ _ (.agg (u8s uu).toArray) rfl ?_
    refine @Ends.val _ _ _ _ _ _ _ _ _ (.agg (u8s P3).toArray) rfl ?_
    refine @Ends.val _ _ _ _ _ _ _ _ _ (.agg (u8s P2).toArray) rfl ?_
    refine @Ends.one _ _ _ _ _ _ _ ?_
    simp only [Act.put, List.setIfInBounds_toArray, List.set_cons_zero, List.set_cons_succ]
    refine last_value (some 21) rfl (.bool false) (by go_simp) ?_
    have V1 : Hid (Below w.heap.size w wx ∧ Blk wx w.heap.size 58 (u8s aa) ∧ Blk wx (w.heap.size + 1) 58 (u8s bb) ∧ Blk wx (w.heap.size + 1 + 1) 58 (u8s uu)) := ⟨below_chain V0.out.1 hb V0.out.1.size, (V0.out.2.1.later hb V0.out.2.1.lt), (V0.out.2.2.1.later hb V0.out.2.2.1.lt), (V0.out.2.2.2.later hb V0.out.2.2.2.lt)⟩
    obtain ⟨yV1, rfl⟩ : ∃ q, q = wx := ⟨_, rfl⟩
    clear V0 hb 
    simp only [Act.put, List.setIfInBounds_toArray, List.set_cons_zero, List.set_cons_succ]
    go_wp2_with fail
    refine region_invX 8 6 rfl ((.val (.agg (u8s aa).toArray)) :: (.val (.agg (u8s bb).toArray)) :: (.val (.agg (u8s Q2).toArray)) :: (.val (.tuple #[.agg (u8s Z).toArray, .int .u64 18446744073709551615])) :: (.val (.tuple #[.agg (u8s Z).toArray, .int .u64 18446744073709551615])) :: (.val (.agg (u8s Z).toArray)) :: (.val (.int .u64 18446744073709551615)) :: (.blk 58 (u8s (List.replicate 32 0))) :: []) (by kernel_rfl) (by kernel_rfl) (by kernel_rfl) (by kernel_rfl) (by kernel_rfl) (fun ax wx hd => by have h22 : ax.tmps.getD 22 undef = (.tuple #[.agg (u8s Z).toArray, .int .u64 18446744073709551615]) := hd 4 22 rfl (by kernel_rfl) (by decide); exact ⟨_, rfl, .inl ⟨rfl, fun w => by clear hd; go_simp⟩⟩) (by kernel_rfl) [7] ⟨.inl rfl, .inl rfl, .inl rfl, .inl rfl, .inl rfl, .inl rfl, .inl rfl, .inr ⟨58, _, 32, rfl, rfl, zeroKey⟩, trivial⟩ (by kernel_rfl) (by kernel_rfl) ?_ ?_
    · refine Steps'.cons ?_ (Steps'.cons ?_ (Steps'.cons ?_ (Steps'.cons ?_ (Steps'.cons ?_ (Steps'.cons ?_ (Steps'.cons ?_ (Steps'.cons ?_ (Steps'.one _ _ _ _ _ _ _))))))))
      · intro ax wx hb hs hd
        have h3 : ax.tmps.getD 3 undef = (.pointer (some ⟨w.heap.size, 0, none⟩)) := hs 3 (by kernel_rfl)
        exact Does.load 58 (.tmp 3) rfl w.heap.size 0 h3 (u8s aa) _ ((Blk.later V1.out.2.1 hb (Blk.lt V1.out.2.1)).whole) Try.underlying58 rfl (by rw [HL.out.1]; exact sizeKey)
      · intro ax wx hb hs hd
        have h4 : ax.tmps.getD 4 undef = (.pointer (some ⟨(w.heap.size + 1), 0, none⟩)) := hs 4 (by kernel_rfl)
        exact Does.load 58 (.tmp 4) rfl (w.heap.size + 1) 0 h4 (u8s bb) _ ((Blk.later V1.out.2.2.1 hb (Blk.lt V1.out.2.2.1)).whole) Try.underlying58 rfl (by rw [HL.out.2.1]; exact sizeKey)
      · intro ax wx hb hs hd
        have h24 : ax.tmps.getD 24 undef = (.agg (u8s bb).toArray) := hd 1 24 rfl (by kernel_rfl) (by decide)
        refine Does.call 39 #[(.agg (u8s bb).toArray)] (by clear hs hd; go_simp) ?_
        refine (B2 _).mono ?_
        rintro z w' ⟨rfl, l⟩
        exact ⟨_, rfl, rfl, l⟩
      · intro ax wx hb hs hd
        have h23 : ax.tmps.getD 23 undef = (.agg (u8s aa).toArray) := hd 0 23 rfl (by kernel_rfl) (by decide)
        have h25 : ax.tmps.getD 25 undef = (.agg (u8s Q2).toArray) := hd 2 25 rfl (by kernel_rfl) (by decide)
        refine Does.call 36 #[(.agg (u8s aa).toArray), (.agg (u8s Q2).toArray)] (by clear hs hd; go_simp) ?_
        refine (A1 _).mono ?_
        rintro z w' ⟨rfl, l⟩
        exact ⟨_, rfl, rfl, l⟩
      · intro ax wx hb hs hd
        have h26 : ax.tmps.getD 26 undef = (.tuple #[.agg (u8s Z).toArray, .int .u64 18446744073709551615]) := hd 3 26 rfl (by kernel_rfl) (by decide)
        refine Does.value (.tuple #[.agg (u8s Z).toArray, .int .u64 18446744073709551615]) ?_ rfl
        clear hs hd
        go_simp
      · intro ax wx hb hs hd
        have h22 : ax.tmps.getD 22 undef = (.tuple #[.agg (u8s Z).toArray, .int .u64 18446744073709551615]) := hd 4 22 rfl (by kernel_rfl) (by decide)
        refine Does.value (.agg (u8s Z).toArray) ?_ rfl
        clear hs hd
        go_simp
      · intro ax wx hb hs hd
        have h22 : ax.tmps.getD 22 undef = (.tuple #[.agg (u8s Z).toArray, .int .u64 18446744073709551615]) := hd 4 22 rfl (by kernel_rfl) (by decide)
        refine Does.value (.int .u64 18446744073709551615) ?_ rfl
        clear hs hd
        go_simp
      · intro ax wx hb hs hd
        exact Does.alloc 58 rfl 32 _ zeroKey hb.size
    · intro wx hb
      refine @EndsP.val _ _ _ _ _ _ _ _ (.agg (u8s aa).toArray) rfl ?_
      refine @EndsP.val _ _ _ _ _ _ _ _ (.agg (u8s bb).toArray) rfl ?_
      refine @EndsP.val _ _ _ _ _ _ _ _ (.agg (u8s Q2).toArray) rfl ?_
      refine @EndsP.val _ _ _ _ _ _ _ _ (.tuple #[.agg (u8s Z).toArray, .int .u64 18446744073709551615]) rfl ?_
      refine @EndsP.val _ _ _ _ _ _ _ _ (.tuple #[.agg (u8s Z).toArray, .int .u64 18446744073709551615]) rfl ?_
      refine @EndsP.val _ _ _ _ _ _ _ _ (.agg (u8s Z).toArray) rfl ?_
      refine @EndsP.val _ _ _ _ _ _ _ _ (.int .u64 18446744073709551615) rfl ?_
      refine @EndsP.blk _ _ _ _ _ _ _ _ 58 (u8s (List.replicate 32 0)) rfl ?_
      intro g7 hg7 bg7
      intro hD nf hn
      obtain ⟨mf, rfl⟩ : ∃ mf, nf = mf + 2 := ⟨nf - 2, by have h3 : 2 ≤ nf := hn; omega⟩
      have N_Z : Hid ((u8s Z).length = 32) := by exact KZ.out.1
      clear hD hn
      simp only [Act.put, List.setIfInBounds_toArray, List.set_cons_zero, List.set_cons_succ]
      refine wpAny_ready (rs := [8]) (by kernel_rfl) (by simp) (AllReady.cons rfl (fun K hK => ?_) AllReady.nil)
      rw [if_pos (by rfl)]
      refine last_store 58 (.tmp 7) (.tmp 27) rfl rfl g7 rfl 58 _ (u8s Z) rfl bg7 (by rw [N_Z.out]; rfl) (by rw [N_Z.out]; exact sizeKey) (u8s_one _) ?_
      intro w0 b0 s0 k0
      refine hK _ _ ?_
      refine wpAny_ready (rs := [9]) (by kernel_rfl) (by simp) (AllReady.cons rfl (fun K hK => ?_) AllReady.nil)
      rw [if_pos (by rfl)]
      refine last_assign (.tmp 28) rfl (some 8) rfl (.int .u64 18446744073709551615) rfl ?_
      refine hK _ _ ?_
      refine wpAny_done (by kernel_rfl) (NoPanic.normal ?_) _
      have V2 : Hid (Below w.heap.size w w0 ∧ Blk w0 w.heap.size 58 (u8s aa) ∧ Blk w0 (w.heap.size + 1) 58 (u8s bb) ∧ Blk w0 (w.heap.size + 1 + 1) 58 (u8s uu) ∧ Blk w0 g7 58 (u8s Z)) := by
        have qb := hb.size
        have qw := V1.out.1.size
        have q0 := V1.out.2.1.lt
        have q1 := V1.out.2.2.1.lt
        have q2 := V1.out.2.2.2.lt
        exact ⟨below_kept (below_chain V1.out.1 hb (by omega)) k0 (by omega) (fun j hj => by omega), ((V1.out.2.1.later hb V1.out.2.1.lt).kept k0 (by omega)), ((V1.out.2.2.1.later hb V1.out.2.2.1.lt).kept k0 (by omega)), ((V1.out.2.2.2.later hb V1.out.2.2.2.lt).kept k0 (by omega)), b0⟩
      obtain ⟨gz, rfl⟩ : ∃ q, q = g7 := ⟨_, rfl⟩
      obtain ⟨yV2, rfl⟩ : ∃ q, q = w0 := ⟨_, rfl⟩
      clear hb V1 hK b0 s0 k0 bg7 hg7 
      clear N_Z
      try simp only [Act.put, List.setIfInBounds_toArray, List.set_cons_zero, List.set_cons_succ]
      go_wp2_with fail
      refine region_invX 8 6 rfl ((.val (.agg (u8s bb).toArray)) :: (.val (.agg (u8s aa).toArray)) :: (.val (.agg (u8s Q1).toArray)) :: (.val (.tuple #[.agg (u8s Z).toArray, .int .u64 18446744073709551615])) :: (.val (.tuple #[.agg (u8s Z).toArray, .int .u64 18446744073709551615])) :: (.val (.agg (u8s Z).toArray)) :: (.val (.int .u64 18446744073709551615)) :: (.blk 58 (u8s (List.replicate 32 0))) :: []) (by kernel_rfl) (by kernel_rfl) (by kernel_rfl) (by kernel_rfl) (by kernel_rfl) (fun ax wx hd => by have h29 : ax.tmps.getD 29 undef = (.tuple #[.agg (u8s Z).toArray, .int .u64 18446744073709551615]) := hd 4 29 rfl (by kernel_rfl) (by decide); exact ⟨_, rfl, .inl ⟨rfl, fun w => by clear hd; go_simp⟩⟩) (by kernel_rfl) [9] ⟨.inl rfl, .inl rfl, .inl rfl, .inl rfl, .inl rfl, .inl rfl, .inl rfl, .inr ⟨58, _, 32, rfl, rfl, zeroKey⟩, trivial⟩ (by kernel_rfl) (by kernel_rfl) ?_ ?_
      · refine Steps'.cons ?_ (Steps'.cons ?_ (Steps'.cons ?_ (Steps'.cons ?_ (Steps'.cons ?_ (Steps'.cons ?_ (Steps'.cons ?_ (Steps'.cons ?_ (Steps'.one _ _ _ _ _ _ _))))))))
        · intro ax wx hb hs hd
          have h4 : ax.tmps.getD 4 undef = (.pointer (some ⟨(w.heap.size + 1), 0, none⟩)) := hs 4 (by kernel_rfl)
          exact Does.load 58 (.tmp 4) rfl (w.heap.size + 1) 0 h4 (u8s bb) _ ((Blk.later V2.out.2.2.1 hb (Blk.lt V2.out.2.2.1)).whole) Try.underlying58 rfl (by rw [HL.out.2.1]; exact sizeKey)
        · intro ax wx hb hs hd
          have h3 : ax.tmps.getD 3 undef = (.pointer (some ⟨w.heap.size, 0, none⟩)) := hs 3 (by kernel_rfl)
          exact Does.load 58 (.tmp 3) rfl w.heap.size 0 h3 (u8s aa) _ ((Blk.later V2.out.2.1 hb (Blk.lt V2.out.2.1)).whole) Try.underlying58 rfl (by rw [HL.out.1]; exact sizeKey)
        · intro ax wx hb hs hd
          have h31 : ax.tmps.getD 31 undef = (.agg (u8s aa).toArray) := hd 1 31 rfl (by kernel_rfl) (by decide)
          refine Does.call 39 #[(.agg (u8s aa).toArray)] (by clear hs hd; go_simp) ?_
          refine (B1 _).mono ?_
          rintro z w' ⟨rfl, l⟩
          exact ⟨_, rfl, rfl, l⟩
        · intro ax wx hb hs hd
          have h30 : ax.tmps.getD 30 undef = (.agg (u8s bb).toArray) := hd 0 30 rfl (by kernel_rfl) (by decide)
          have h32 : ax.tmps.getD 32 undef = (.agg (u8s Q1).toArray) := hd 2 32 rfl (by kernel_rfl) (by decide)
          refine Does.call 36 #[(.agg (u8s bb).toArray), (.agg (u8s Q1).toArray)] (by clear hs hd; go_simp) ?_
          refine (A2 _).mono ?_
          rintro z w' ⟨rfl, l⟩
          exact ⟨_, rfl, rfl, l⟩
        · intro ax wx hb hs hd
          have h33 : ax.tmps.getD 33 undef = (.tuple #[.agg (u8s Z).toArray, .int .u64 18446744073709551615]) := hd 3 33 rfl (by kernel_rfl) (by decide)
          refine Does.value (.tuple #[.agg (u8s Z).toArray, .int .u64 18446744073709551615]) ?_ rfl
          clear hs hd
          go_simp
        · intro ax wx hb hs hd
          have h29 : ax.tmps.getD 29 undef = (.tuple #[.agg (u8s Z).toArray, .int .u64 18446744073709551615]) := hd 4 29 rfl (by kernel_rfl) (by decide)
          refine Does.value (.agg (u8s Z).toArray) ?_ rfl
          clear hs hd
          go_simp
        · intro ax wx hb hs hd
          have h29 : ax.tmps.getD 29 undef = (.tuple #[.agg (u8s Z).toArray, .int .u64 18446744073709551615]) := hd 4 29 rfl (by kernel_rfl) (by decide)
          refine Does.value (.int .u64 18446744073709551615) ?_ rfl
          clear hs hd
          go_simp
        · intro ax wx hb hs hd
          exact Does.alloc 58 rfl 32 _ zeroKey hb.size
      · intro wx hb
        refine @EndsP.val _ _ _ _ _ _ _ _ (.agg (u8s bb).toArray) rfl ?_
        refine @EndsP.val _ _ _ _ _ _ _ _ (.agg (u8s aa).toArray) rfl ?_
        refine @EndsP.val _ _ _ _ _ _ _ _ (.agg (u8s Q1).toArray) rfl ?_
        refine @EndsP.val _ _ _ _ _ _ _ _ (.tuple #[.agg (u8s Z).toArray, .int .u64 18446744073709551615]) rfl ?_
        refine @EndsP.val _ _ _ _ _ _ _ _ (.tuple #[.agg (u8s Z).toArray, .int .u64 18446744073709551615]) rfl ?_
        refine @EndsP.val _ _ _ _ _ _ _ _ (.agg (u8s Z).toArray) rfl ?_
        refine @EndsP.val _ _ _ _ _ _ _ _ (.int .u64 18446744073709551615) rfl ?_
        refine @EndsP.blk _ _ _ _ _ _ _ _ 58 (u8s (List.replicate 32 0)) rfl ?_
        intro g7 hg7 bg7
        intro hD nf hn
        obtain ⟨mf, rfl⟩ : ∃ mf, nf = mf + 2 := ⟨nf - 2, by have h3 : 2 ≤ nf := hn; omega⟩
        have N_Z : Hid ((u8s Z).length = 32) := by exact KZ.out.1
        clear hD hn
        simp only [Act.put, List.setIfInBounds_toArray, List.set_cons_zero, List.set_cons_succ]
        refine wpAny_ready (rs := [8]) (by kernel_rfl) (by simp) (AllReady.cons rfl (fun K hK => ?_) AllReady.nil)
        rw [if_pos (by rfl)]
        refine last_store 58 (.tmp 9) (.tmp 34) rfl rfl g7 rfl 58 _ (u8s Z) rfl bg7 (by rw [N_Z.out]; rfl) (by rw [N_Z.out]; exact sizeKey) (u8s_one _) ?_
        intro w0 b0 s0 k0
        refine hK _ _ ?_
        refine wpAny_ready (rs := [9]) (by kernel_rfl) (by simp) (AllReady.cons rfl (fun K hK => ?_) AllReady.nil)
        rw [if_pos (by rfl)]
        refine last_assign (.tmp 35) rfl (some 10) rfl (.int .u64 18446744073709551615) rfl ?_
        refine hK _ _ ?_
        refine wpAny_done (by kernel_rfl) (NoPanic.normal ?_) _
        have V3 : Hid (Below w.heap.size w w0 ∧ Blk w0 w.heap.size 58 (u8s aa) ∧ Blk w0 (w.heap.size + 1) 58 (u8s bb) ∧ Blk w0 (w.heap.size + 1 + 1) 58 (u8s uu) ∧ Blk w0 gz 58 (u8s Z) ∧ Blk w0 g7 58 (u8s Z)) := by
          have qb := hb.size
          have qw := V2.out.1.size
          have q0 := V2.out.2.1.lt
          have q1 := V2.out.2.2.1.lt
          have q2 := V2.out.2.2.2.1.lt
          have q3 := V2.out.2.2.2.2.lt
          exact ⟨below_kept (below_chain V2.out.1 hb (by omega)) k0 (by omega) (fun j hj => by omega), ((V2.out.2.1.later hb V2.out.2.1.lt).kept k0 (by omega)), ((V2.out.2.2.1.later hb V2.out.2.2.1.lt).kept k0 (by omega)), ((V2.out.2.2.2.1.later hb V2.out.2.2.2.1.lt).kept k0 (by omega)), ((V2.out.2.2.2.2.later hb V2.out.2.2.2.2.lt).kept k0 (by omega)), b0⟩
        obtain ⟨gy, rfl⟩ : ∃ q, q = g7 := ⟨_, rfl⟩
        obtain ⟨yV3, rfl⟩ : ∃ q, q = w0 := ⟨_, rfl⟩
        clear hb V2 hK b0 s0 k0 bg7 hg7 
        clear N_Z
        try simp only [Act.put, List.setIfInBounds_toArray, List.set_cons_zero, List.set_cons_succ]
        try simp only [Act.put, List.setIfInBounds_toArray, List.set_cons_zero, List.set_cons_succ]
        go_wp2_with (first | ((with_reducible show wpList _ _ _ (({ dst := some 36, op := _, type := _, pos := _, after := _, guard := _ } : Oper) :: _) _ _); refine wpList_load_blk rfl 58 (.tmp 7) rfl gz rfl (u8s Z) _ V3.out.2.2.2.2.1 Try.underlying58 rfl (by rw [KZ.out.1]; exact sizeKey) ?_) | ((with_reducible show wpList _ _ _ (({ dst := some 37, op := _, type := _, pos := _, after := _, guard := _ } : Oper) :: _) _ _); refine wpList_load_blk rfl 58 (.tmp 9) rfl gy rfl (u8s Z) _ V3.out.2.2.2.2.2 Try.underlying58 rfl (by rw [KZ.out.1]; exact sizeKey) ?_) | ((with_reducible show wpList _ _ _ (({ dst := some 48, op := _, type := _, pos := _, after := _, guard := _ } : Oper) :: _) _ _); refine wpList_load_g (by rfl) 58 (.tmp 7) rfl gz rfl (u8s Z) _ V3.out.2.2.2.2.1 Try.underlying58 rfl (by rw [KZ.out.1]; exact sizeKey) ?_) | ((with_reducible show wpList _ _ _ (({ dst := some 49, op := _, type := _, pos := _, after := _, guard := _ } : Oper) :: _) _ _); refine wpList_build_g (by rfl) 58 _ rfl #[] (by simp) _ (hb0 _) ?_) | (go_at_call 34; refine (works_any _).mono ?_; rintro e x9 ⟨rfl, l9⟩))
        go_ret
        exact ⟨rfl, below_chain V3.out.1 l9 V3.out.1.size⟩
end Go.Proofs.Ytnifolefhelmcaa
