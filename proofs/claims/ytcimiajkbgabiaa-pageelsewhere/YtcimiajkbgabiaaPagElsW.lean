/- The walk of PageElsewhere. -/
import Derived.Test.YtcimiajkbgabiaaZG
namespace Go.Proofs.Ytcimiajkbgabiaa
open Go.RowKit
set_option linter.unusedVariables false
set_option linter.unusedSimpArgs false

theorem hd_same {r c r' c' : Int} (hr : Word r) (hc : U32 c) (hr' : Word r') (hc' : U32 c') : decide (hdL r c = hdL r' c') = (r' == r && c' == c) := by
  have e : hdL r c = hdL r' c' ↔ r' = r ∧ c' = c := by
    constructor
    · intro h
      have := (tell_head (hdL_bytes r c) (by rw [hdL_length]; exact Nat.le_refl _) hr hc).2 (List.take_of_length_le (by rw [hdL_length]; exact Nat.le_refl _))
      have k := (tell_head (hdL_bytes r' c') (by rw [hdL_length]; exact Nat.le_refl _) hr' hc').2 (List.take_of_length_le (by rw [hdL_length]; exact Nat.le_refl _))
      rw [h] at this
      exact ⟨k.1.symm.trans this.1, k.2.symm.trans this.2⟩
    · rintro ⟨rfl, rfl⟩; rfl
  by_cases h : r' = r ∧ c' = c
  · rw [decide_eq_true (e.2 h), h.1, h.2]; simp
  · rw [decide_eq_false (fun x => h (e.1 x))]
    symm
    simp only [Bool.and_eq_false_iff, beq_eq_false_iff_ne]
    by_cases h1 : r' = r
    · exact .inr (fun h2 => h ⟨h1, h2⟩)
    · exact .inl h1
set_option maxRecDepth 20000 in
set_option maxHeartbeats 4000000 in
theorem els_big (s : Sh) (pr pc pp pq : Int) (w : World) (h : ShIn w s) (gp : Word pr ∧ U32 pc ∧ U32 pp ∧ U32 pq) (hbig : 4096 < s.m) : Calls Try.prog 6 #[.agg (sheetC s).toArray, .agg (placeC pr pc pp pq).toArray] w fun e w' => e = .returned (.bool true) ∧ Below w.heap.size w w' := by
  have HI : Hid (ShIn w s) := h
  have HP : Hid (Word pr ∧ U32 pc ∧ U32 pp ∧ U32 pq) := gp
  have t1 := h.text.top
  have i1 : (4096 : Int) < (s.m : Int) := by omega
  clear h gp
  go_enter Try.func6, Try.ntmps6
  go_wp2_with (first | (refine wpList_box_new rfl 36 _ rfl (sheetC s) rfl ?_; intro w1 b1 s1 l1) | (refine wpList_box_new rfl 31 _ rfl (placeC pr pc pp pq) rfl ?_; intro w2 b2 s2 l2))
  rw [s1] at b2
  have H2 : Hid (ShAt w2 w.heap.size s ∧ Below w.heap.size w w2 ∧ Blk w2 (w.heap.size + 1) 31 (placeC pr pc pp pq)) := ⟨⟨b1.later l2 (by omega), HI.out.later (below_chain l1 l2 (by omega)) (Nat.le_refl _)⟩, below_chain l1 l2 (by omega), b2⟩
  clear b1 l1 b2 s2 l2 s1
  refine (pworks_any w2).mono ?_
  rintro e w3 ⟨rfl, l3⟩
  have H3 : Hid (ShAt w3 w.heap.size s ∧ Below w.heap.size w w3 ∧ Blk w3 (w.heap.size + 1) 31 (placeC pr pc pp pq)) := ⟨H2.out.1.later l3, below_chain H2.out.2.1 l3 H2.out.2.1.size, H2.out.2.2.later l3 H2.out.2.2.lt⟩
  have cT := H3.out.1.cT
  clear l3
  go_wp2_with (go_at_call 11; refine (pworks_any _).mono ?_; rintro e w4 ⟨rfl, l4⟩)
  go_ret
  exact ⟨rfl, below_chain H3.out.2.1 l4 H3.out.2.1.size⟩
theorem first12 {w : World} {ao : Option Addr} {n c : Nat} {X : List Int} (h : Seen w ao n X) (hn : 12 ≤ n) (hc : n ≤ c) : Seen w (subA ao 0 c) 12 (X.take 12) := by
  have k := h.sub 0 12 c (by omega) hn hc
  rwa [List.drop_zero, Nat.sub_zero] at k
set_option maxRecDepth 20000 in
set_option maxHeartbeats 4000000 in
theorem els_yes (s : Sh) (pr pc pp pq : Int) (w : World) (h : ShIn w s) (gp : Word pr ∧ U32 pc ∧ U32 pp ∧ U32 pq) (hbig : s.m ≤ 4096) (e1 : (pr == s.r) = true) (e2 : (pc == s.c) = true) (ho : pOpens s.key pr pc pp pq (pageL s.key s.r s.c s.p s.q s.zs) = true) : Calls Try.prog 6 #[.agg (sheetC s).toArray, .agg (placeC pr pc pp pq).toArray] w fun e w' => e = .returned (.bool true) ∧ Below w.heap.size w w' := by
  have HI : Hid (ShIn w s) := h
  have HP : Hid (Word pr ∧ U32 pc ∧ U32 pp ∧ U32 pq) := gp
  have t1 := h.text.top
  have i1 : ¬ (4096 : Int) < (s.m : Int) := by omega
  have i2 : ¬ ((s.m + 28 : Nat) : Int) < 28 := by omega
  have hl := h.text.len
  obtain ⟨X, hX⟩ : ∃ X, pageL s.key s.r s.c s.p s.q s.zs = X := ⟨_, rfl⟩
  obtain ⟨Y, hY⟩ : ∃ X, pageL s.key pr pc pp pq s.zs = X := ⟨_, rfl⟩
  have HX : Hid (pageL s.key s.r s.c s.p s.q s.zs = X ∧ X.length = s.m + 28 ∧ Bytes X) := ⟨hX, by rw [← hX, pageL_length, hl], by rw [← hX]; exact pageL_bytes _ _ _ _ _ h.text.bytes⟩
  have HY : Hid (pageL s.key pr pc pp pq s.zs = Y ∧ Y.length = s.m + 28 ∧ Bytes Y) := ⟨hY, by rw [← hY, pageL_length, hl], by rw [← hY]; exact pageL_bytes _ _ _ _ _ h.text.bytes⟩
  rw [hX] at ho
  have hO : Hid (pOpens s.key pr pc pp pq X = true) := ho
  have HS : Hid ((∀ (ao : Option Addr) (n c : Nat), 12 ≤ c → ∀ W, (Instr.sliceAt 22 (.slice ao n c) none (some (.int .i64 12)) none).run Try.prog W = .ok (.slice (subA ao 0 c) 12 c) W) ∧ decide (X.take 12 = Y.take 12) = true) := by
    refine ⟨fun ao n c hc W => sl_h ao n c 12 hc W, ?_⟩
    rw [← hX, ← hY, pageL_head, pageL_head, hd_same h.hr h.hc gp.1 gp.2.1, e1, e2]
    rfl
  obtain ⟨Z, hZ⟩ : ∃ Z, pText s.key pr pc X = Z := ⟨_, rfl⟩
  have HZ : Hid (pText s.key pr pc X = Z ∧ Z.length = s.m ∧ Bytes Z) := by
    have hp := page_text HX.out.2.2 gp.1 gp.2.1 ho
    have hl2 := pageL_length s.key pr pc pp pq (pText s.key pr pc X)
    rw [hp, HX.out.2.1] at hl2
    exact ⟨hZ, by rw [← hZ]; omega, by rw [← hZ]; exact textL_bytes _ _ (bytes_drop HX.out.2.2 _)⟩
  clear hZ
  clear h gp hX hY ho hl t1
  go_enter Try.func6, Try.ntmps6
  go_wp2_with (first | (refine wpList_box_new rfl 36 _ rfl (sheetC s) rfl ?_; intro w1 b1 s1 l1) | (refine wpList_box_new rfl 31 _ rfl (placeC pr pc pp pq) rfl ?_; intro w2 b2 s2 l2))
  rw [s1] at b2
  have H2 : Hid (ShAt w2 w.heap.size s ∧ Below w.heap.size w w2 ∧ Blk w2 (w.heap.size + 1) 31 (placeC pr pc pp pq)) := ⟨⟨b1.later l2 (by omega), HI.out.later (below_chain l1 l2 (by omega)) (Nat.le_refl _)⟩, below_chain l1 l2 (by omega), b2⟩
  clear b1 l1 b2 s2 l2 s1
  refine (pworks_any w2).mono ?_
  rintro e w3 ⟨rfl, l3⟩
  have H3 : Hid (ShAt w3 w.heap.size s ∧ Below w.heap.size w w3 ∧ Blk w3 (w.heap.size + 1) 31 (placeC pr pc pp pq)) := ⟨H2.out.1.later l3, below_chain H2.out.2.1 l3 H2.out.2.1.size, H2.out.2.2.later l3 H2.out.2.2.lt⟩
  have cT := H3.out.1.cT
  clear l3
  go_wp2_with fail
  refine region_inv [.val (.pointer (some ⟨w.heap.size, 0, none⟩)), .val (.agg (u8s s.key).toArray), .val (.pointer (some ⟨w.heap.size, 32, none⟩)), .val (.agg (placeC s.r s.c s.p s.q).toArray), .val (.pointer (some ⟨w.heap.size, 36, none⟩)), .val (.slice s.bo s.m s.d), .any (isO w.heap.size s.m s.zs) (isO_later _ _ _), .any (isT w.heap.size (s.m + 28) X 0) (isT_later _ _ _ _), .any (isT w.heap.size (s.m + 28) X 0) (isT_later _ _ _ _), .any (isO w.heap.size (s.m + 28) X) (isO_later _ _ _), .val (.int .i64 0), .any (isO w.heap.size (s.m + 28) X) (isO_later _ _ _)] (by kernel_rfl) (by kernel_rfl) (by kernel_rfl) ?_ ?_
  · refine Steps'.cons ?_ (Steps'.cons ?_ (Steps'.cons ?_ (Steps'.cons ?_ (Steps'.cons ?_ (Steps'.cons ?_ (Steps'.cons ?_ (Steps'.cons ?_ (Steps'.cons ?_ (Steps'.cons ?_ (Steps'.cons ?_ (Steps'.cons ?_ (Steps'.one _ _ _ _ _ _ _))))))))))))
    · intro ax wx hb hs hd
      have h2 : ax.tmps.getD 2 undef = (.pointer (some ⟨w.heap.size, 0, none⟩)) := hs 2 (by kernel_rfl)
      refine Does.value (.pointer (some ⟨w.heap.size, 0, none⟩)) ?_ rfl
      clear hs hd
      go_simp
    · intro ax wx hb hs hd
      have h22 : ax.tmps.getD 22 undef = (.pointer (some ⟨w.heap.size, 0, none⟩)) := hd 0 22 rfl (by kernel_rfl) (by decide)
      exact Does.load 27 (.tmp 22) rfl w.heap.size 0 h22 (u8s s.key) _ (H3.out.1.later hb).key Try.underlying27 rfl (by rw [u8s_length, H3.out.1.is.k32]; exact sizeKey)
    · intro ax wx hb hs hd
      have h2 : ax.tmps.getD 2 undef = (.pointer (some ⟨w.heap.size, 0, none⟩)) := hs 2 (by kernel_rfl)
      refine Does.value (.pointer (some ⟨w.heap.size, 32, none⟩)) ?_ rfl
      clear hs hd
      go_simp
    · intro ax wx hb hs hd
      have h24 : ax.tmps.getD 24 undef = (.pointer (some ⟨w.heap.size, 32, none⟩)) := hd 2 24 rfl (by kernel_rfl) (by decide)
      exact Does.load 31 (.tmp 24) rfl w.heap.size 32 h24 (placeC s.r s.c s.p s.q) _ (H3.out.1.later hb).place Try.underlying31 rfl pzKey
    · intro ax wx hb hs hd
      have h2 : ax.tmps.getD 2 undef = (.pointer (some ⟨w.heap.size, 0, none⟩)) := hs 2 (by kernel_rfl)
      refine Does.value (.pointer (some ⟨w.heap.size, 36, none⟩)) ?_ rfl
      clear hs hd
      go_simp
    · intro ax wx hb hs hd
      have h26 : ax.tmps.getD 26 undef = (.pointer (some ⟨w.heap.size, 36, none⟩)) := hd 4 26 rfl (by kernel_rfl) (by decide)
      have cx : wx.cell? ⟨w.heap.size, 36, none⟩ = some (.slice s.bo s.m s.d) := (H3.out.1.later hb).cT
      refine Does.value (.slice s.bo s.m s.d) ?_ rfl
      clear hs hd
      go_simp
    · intro ax wx hb hs hd
      have h27 : ax.tmps.getD 27 undef = (.slice s.bo s.m s.d) := hd 5 27 rfl (by kernel_rfl) (by decide)
      refine Does.call 12 #[(.slice s.bo s.m s.d)] (by clear hs hd; go_simp) ?_
      refine (copyB_any s.bo s.m s.d s.zs wx (H3.out.1.later hb).is.text).mono ?_
      rintro e w' ⟨v, rfl, o, l⟩
      exact ⟨_, rfl, ownsRow_base o (by have := hb.size; have := H3.out.2.1.size; omega), l⟩
    · intro ax wx hb hs hd
      have h23 : ax.tmps.getD 23 undef = (.agg (u8s s.key).toArray) := hd 1 23 rfl (by kernel_rfl) (by decide)
      have h25 : ax.tmps.getD 25 undef = (.agg (placeC s.r s.c s.p s.q).toArray) := hd 3 25 rfl (by kernel_rfl) (by decide)
      have p28 : (isO w.heap.size s.m s.zs) (ax.tmps.getD 28 undef) wx := hd 6 28 rfl (by kernel_rfl) (by decide)
      obtain ⟨o28, c28, h28, s28, k28, n28⟩ := pown_sl HI.out.text.len HI.out.text.bytes HI.out.text.top p28
      clear p28
      refine Does.call 9 #[(.agg (u8s s.key).toArray), (.agg (placeC s.r s.c s.p s.q).toArray), (.slice o28 s.m c28)] (by clear hs hd; go_simp) ?_
      refine (pseal_any s.key s.r s.c s.p s.q o28 s.m c28 s.zs HI.out.k32 HI.out.kb HI.out.hr HI.out.hc HI.out.hp HI.out.hq hbig wx s28 k28).mono ?_
      rintro e w' ⟨v, rfl, o, l⟩
      rw [HX.out.1] at o
      exact ⟨_, rfl, ⟨v, rfl, ownsRow_base o (by have := hb.size; have := H3.out.2.1.size; omega)⟩, l⟩
    · intro ax wx hb hs hd
      have p29 : (isT w.heap.size (s.m + 28) X 0) (ax.tmps.getD 29 undef) wx := hd 7 29 rfl (by kernel_rfl) (by decide)
      obtain ⟨u, h29, o⟩ := p29
      refine Does.value (.tuple #[u, .int .i64 0]) ?_ ⟨u, rfl, o⟩
      clear hs hd
      go_simp
    · intro ax wx hb hs hd
      have p21 : (isT w.heap.size (s.m + 28) X 0) (ax.tmps.getD 21 undef) wx := hd 8 21 rfl (by kernel_rfl) (by decide)
      obtain ⟨u, h21, o⟩ := p21
      refine Does.value u ?_ o
      clear hs hd
      go_simp
    · intro ax wx hb hs hd
      have p21 : (isT w.heap.size (s.m + 28) X 0) (ax.tmps.getD 21 undef) wx := hd 8 21 rfl (by kernel_rfl) (by decide)
      obtain ⟨u, h21, o⟩ := p21
      refine Does.value (.int .i64 0) ?_ rfl
      clear hs hd
      go_simp
    · intro ax wx hb hs hd
      have p30 : (isO w.heap.size (s.m + 28) X) (ax.tmps.getD 30 undef) wx := hd 9 30 rfl (by kernel_rfl) (by decide)
      obtain ⟨u, h30⟩ : ∃ u, ax.tmps.getD 30 undef = u := ⟨_, rfl⟩
      rw [h30] at p30
      refine Does.value u ?_ p30
      clear hs hd
      go_simp
  · intro wx hb
    refine @Ends.val _ _ _ _ _ _ _ _ _ (.pointer (some ⟨w.heap.size, 0, none⟩)) rfl ?_
    refine @Ends.val _ _ _ _ _ _ _ _ _ (.agg (u8s s.key).toArray) rfl ?_
    refine @Ends.val _ _ _ _ _ _ _ _ _ (.pointer (some ⟨w.heap.size, 32, none⟩)) rfl ?_
    refine @Ends.val _ _ _ _ _ _ _ _ _ (.agg (placeC s.r s.c s.p s.q).toArray) rfl ?_
    refine @Ends.val _ _ _ _ _ _ _ _ _ (.pointer (some ⟨w.heap.size, 36, none⟩)) rfl ?_
    refine @Ends.val _ _ _ _ _ _ _ _ _ (.slice s.bo s.m s.d) rfl ?_
    refine @Ends.any _ _ _ _ _ _ _ _ _ (isO w.heap.size s.m s.zs) (isO_later _ _ _) rfl ?_
    intro v28 p28
    refine @Ends.any _ _ _ _ _ _ _ _ _ (isT w.heap.size (s.m + 28) X 0) (isT_later _ _ _ _) rfl ?_
    intro v29 p29
    refine @Ends.any _ _ _ _ _ _ _ _ _ (isT w.heap.size (s.m + 28) X 0) (isT_later _ _ _ _) rfl ?_
    intro v21 p21
    refine @Ends.any _ _ _ _ _ _ _ _ _ (isO w.heap.size (s.m + 28) X) (isO_later _ _ _) rfl ?_
    intro v30 p30
    refine @Ends.val _ _ _ _ _ _ _ _ _ (.int .i64 0) rfl ?_
    refine @Ends.any _ _ _ _ _ _ _ _ _ (isO w.heap.size (s.m + 28) X) (isO_later _ _ _) rfl ?_
    intro v5 p5
    refine @Ends.one _ _ _ _ _ _ _ ?_
    simp only [Act.put, List.setIfInBounds_toArray, List.set_cons_zero, List.set_cons_succ]
    obtain ⟨ao5, ac5, rfl, s5, c5, _⟩ := pown_sl HX.out.2.1 HX.out.2.2 (by omega) p5
    have H5 : Hid (ShAt wx w.heap.size s ∧ Below w.heap.size w wx ∧ Blk wx (w.heap.size + 1) 31 (placeC pr pc pp pq) ∧ Seen wx ao5 (s.m + 28) X ∧ s.m + 28 ≤ ac5) := ⟨H3.out.1.later hb, below_chain H3.out.2.1 hb H3.out.2.1.size, H3.out.2.2.later hb H3.out.2.2.lt, s5, c5⟩
    clear p5 p30 p29 p28 p21 s5 cT
    refine last_assign (.tmp 31) rfl (some 6) rfl (.int .i64 0) rfl ?_
    simp only [Act.put, List.setIfInBounds_toArray, List.set_cons_zero, List.set_cons_succ]
    go_wp2_with fail
    refine region_inv [.val (.pointer (some ⟨w.heap.size, 0, none⟩)), .val (.agg (u8s s.key).toArray), .val (.agg (placeC pr pc pp pq).toArray), .val (.pointer (some ⟨w.heap.size, 36, none⟩)), .val (.slice s.bo s.m s.d), .any (isO w.heap.size s.m s.zs) (isO_later _ _ _), .any (isT w.heap.size (s.m + 28) Y 0) (isT_later _ _ _ _), .any (isT w.heap.size (s.m + 28) Y 0) (isT_later _ _ _ _), .any (isO w.heap.size (s.m + 28) Y) (isO_later _ _ _), .val (.int .i64 0), .any (isO w.heap.size (s.m + 28) Y) (isO_later _ _ _)] (by kernel_rfl) (by kernel_rfl) (by kernel_rfl) ?_ ?_
    · refine Steps'.cons ?_ (Steps'.cons ?_ (Steps'.cons ?_ (Steps'.cons ?_ (Steps'.cons ?_ (Steps'.cons ?_ (Steps'.cons ?_ (Steps'.cons ?_ (Steps'.cons ?_ (Steps'.cons ?_ (Steps'.cons ?_ (Steps'.one _ _ _ _ _ _ _)))))))))))
      · intro ax wx hb hs hd
        have h2 : ax.tmps.getD 2 undef = (.pointer (some ⟨w.heap.size, 0, none⟩)) := hs 2 (by kernel_rfl)
        refine Does.value (.pointer (some ⟨w.heap.size, 0, none⟩)) ?_ rfl
        clear hs hd
        go_simp
      · intro ax wx hb hs hd
        have h33 : ax.tmps.getD 33 undef = (.pointer (some ⟨w.heap.size, 0, none⟩)) := hd 0 33 rfl (by kernel_rfl) (by decide)
        exact Does.load 27 (.tmp 33) rfl w.heap.size 0 h33 (u8s s.key) _ (H5.out.1.later hb).key Try.underlying27 rfl (by rw [u8s_length, H5.out.1.is.k32]; exact sizeKey)
      · intro ax wx hb hs hd
        have h3 : ax.tmps.getD 3 undef = (.pointer (some ⟨w.heap.size + 1, 0, none⟩)) := hs 3 (by kernel_rfl)
        exact Does.load 31 (.tmp 3) rfl (w.heap.size + 1) 0 h3 (placeC pr pc pp pq) _ ((H5.out.2.2.1).later hb (H5.out.2.2.1).lt).all Try.underlying31 rfl pzKey
      · intro ax wx hb hs hd
        have h2 : ax.tmps.getD 2 undef = (.pointer (some ⟨w.heap.size, 0, none⟩)) := hs 2 (by kernel_rfl)
        refine Does.value (.pointer (some ⟨w.heap.size, 36, none⟩)) ?_ rfl
        clear hs hd
        go_simp
      · intro ax wx hb hs hd
        have h36 : ax.tmps.getD 36 undef = (.pointer (some ⟨w.heap.size, 36, none⟩)) := hd 3 36 rfl (by kernel_rfl) (by decide)
        have cx : wx.cell? ⟨w.heap.size, 36, none⟩ = some (.slice s.bo s.m s.d) := (H5.out.1.later hb).cT
        refine Does.value (.slice s.bo s.m s.d) ?_ rfl
        clear hs hd
        go_simp
      · intro ax wx hb hs hd
        have h37 : ax.tmps.getD 37 undef = (.slice s.bo s.m s.d) := hd 4 37 rfl (by kernel_rfl) (by decide)
        refine Does.call 12 #[(.slice s.bo s.m s.d)] (by clear hs hd; go_simp) ?_
        refine (copyB_any s.bo s.m s.d s.zs wx (H5.out.1.later hb).is.text).mono ?_
        rintro e w' ⟨v, rfl, o, l⟩
        exact ⟨_, rfl, ownsRow_base o (by have := hb.size; have := H5.out.2.1.size; omega), l⟩
      · intro ax wx hb hs hd
        have h34 : ax.tmps.getD 34 undef = (.agg (u8s s.key).toArray) := hd 1 34 rfl (by kernel_rfl) (by decide)
        have h35 : ax.tmps.getD 35 undef = (.agg (placeC pr pc pp pq).toArray) := hd 2 35 rfl (by kernel_rfl) (by decide)
        have p38 : (isO w.heap.size s.m s.zs) (ax.tmps.getD 38 undef) wx := hd 5 38 rfl (by kernel_rfl) (by decide)
        obtain ⟨o38, c38, h38, s38, k38, n38⟩ := pown_sl HI.out.text.len HI.out.text.bytes HI.out.text.top p38
        clear p38
        refine Does.call 9 #[(.agg (u8s s.key).toArray), (.agg (placeC pr pc pp pq).toArray), (.slice o38 s.m c38)] (by clear hs hd; go_simp) ?_
        refine (pseal_any s.key pr pc pp pq o38 s.m c38 s.zs HI.out.k32 HI.out.kb HP.out.1 HP.out.2.1 HP.out.2.2.1 HP.out.2.2.2 hbig wx s38 k38).mono ?_
        rintro e w' ⟨v, rfl, o, l⟩
        rw [HY.out.1] at o
        exact ⟨_, rfl, ⟨v, rfl, ownsRow_base o (by have := hb.size; have := H5.out.2.1.size; omega)⟩, l⟩
      · intro ax wx hb hs hd
        have p39 : (isT w.heap.size (s.m + 28) Y 0) (ax.tmps.getD 39 undef) wx := hd 6 39 rfl (by kernel_rfl) (by decide)
        obtain ⟨u, h39, o⟩ := p39
        refine Does.value (.tuple #[u, .int .i64 0]) ?_ ⟨u, rfl, o⟩
        clear hs hd
        go_simp
      · intro ax wx hb hs hd
        have p32 : (isT w.heap.size (s.m + 28) Y 0) (ax.tmps.getD 32 undef) wx := hd 7 32 rfl (by kernel_rfl) (by decide)
        obtain ⟨u, h32, o⟩ := p32
        refine Does.value u ?_ o
        clear hs hd
        go_simp
      · intro ax wx hb hs hd
        have p32 : (isT w.heap.size (s.m + 28) Y 0) (ax.tmps.getD 32 undef) wx := hd 7 32 rfl (by kernel_rfl) (by decide)
        obtain ⟨u, h32, o⟩ := p32
        refine Does.value (.int .i64 0) ?_ rfl
        clear hs hd
        go_simp
      · intro ax wx hb hs hd
        have p40 : (isO w.heap.size (s.m + 28) Y) (ax.tmps.getD 40 undef) wx := hd 8 40 rfl (by kernel_rfl) (by decide)
        obtain ⟨u, h40⟩ : ∃ u, ax.tmps.getD 40 undef = u := ⟨_, rfl⟩
        rw [h40] at p40
        refine Does.value u ?_ p40
        clear hs hd
        go_simp
    · intro wx4 hb
      refine @Ends.val _ _ _ _ _ _ _ _ _ (.pointer (some ⟨w.heap.size, 0, none⟩)) rfl ?_
      refine @Ends.val _ _ _ _ _ _ _ _ _ (.agg (u8s s.key).toArray) rfl ?_
      refine @Ends.val _ _ _ _ _ _ _ _ _ (.agg (placeC pr pc pp pq).toArray) rfl ?_
      refine @Ends.val _ _ _ _ _ _ _ _ _ (.pointer (some ⟨w.heap.size, 36, none⟩)) rfl ?_
      refine @Ends.val _ _ _ _ _ _ _ _ _ (.slice s.bo s.m s.d) rfl ?_
      refine @Ends.any _ _ _ _ _ _ _ _ _ (isO w.heap.size s.m s.zs) (isO_later _ _ _) rfl ?_
      intro v38 p38
      refine @Ends.any _ _ _ _ _ _ _ _ _ (isT w.heap.size (s.m + 28) Y 0) (isT_later _ _ _ _) rfl ?_
      intro v39 p39
      refine @Ends.any _ _ _ _ _ _ _ _ _ (isT w.heap.size (s.m + 28) Y 0) (isT_later _ _ _ _) rfl ?_
      intro v32 p32
      refine @Ends.any _ _ _ _ _ _ _ _ _ (isO w.heap.size (s.m + 28) Y) (isO_later _ _ _) rfl ?_
      intro v40 p40
      refine @Ends.val _ _ _ _ _ _ _ _ _ (.int .i64 0) rfl ?_
      refine @Ends.any _ _ _ _ _ _ _ _ _ (isO w.heap.size (s.m + 28) Y) (isO_later _ _ _) rfl ?_
      intro v7 p7
      refine @Ends.one _ _ _ _ _ _ _ ?_
      simp only [Act.put, List.setIfInBounds_toArray, List.set_cons_zero, List.set_cons_succ]
      obtain ⟨bo7, bc7, rfl, s7, c7, _⟩ := pown_sl HY.out.2.1 HY.out.2.2 (by omega) p7
      have H7 : Hid (ShAt wx4 w.heap.size s ∧ Below w.heap.size w wx4 ∧ Blk wx4 (w.heap.size + 1) 31 (placeC pr pc pp pq) ∧ Seen wx4 ao5 (s.m + 28) X ∧ s.m + 28 ≤ ac5 ∧ Seen wx4 bo7 (s.m + 28) Y ∧ s.m + 28 ≤ bc7) := ⟨H5.out.1.later hb, below_chain H5.out.2.1 hb H5.out.2.1.size, H5.out.2.2.1.later hb H5.out.2.2.1.lt, H5.out.2.2.2.1.later hb (Nat.le_refl _), H5.out.2.2.2.2, s7, c7⟩
      clear p7 p40 p39 p38 p32 s7
      have cR := H7.out.1.cR
      have cC := H7.out.1.cC
      have cr : wx4.cell? ⟨w.heap.size + 1, 0, none⟩ = some (.int .u64 pr) := H7.out.2.2.1.cell 0
      have cc : wx4.cell? ⟨w.heap.size + 1, 1, none⟩ = some (.int .u32 pc) := H7.out.2.2.1.cell 1
      refine last_assign (.tmp 41) rfl (some 8) rfl (.int .i64 0) rfl ?_
      simp only [Act.put, List.setIfInBounds_toArray, List.set_cons_zero, List.set_cons_succ]
      go_wp2_with fail
      clear cR cC cr cc
      refine region_inv [.val (.pointer (some ⟨w.heap.size, 0, none⟩)), .val (.agg (u8s s.key).toArray), .val (.agg (placeC pr pc pp pq).toArray), .val (.slice ao5 (s.m + 28) ac5), .any (isO w.heap.size (s.m + 28) X) (isO_later _ _ _), .any (isT w.heap.size s.m Z 0) (isT_later _ _ _ _), .any (isT w.heap.size s.m Z 0) (isT_later _ _ _ _), .any (isO w.heap.size s.m Z) (isO_later _ _ _), .val (.int .i64 0), .any (isO w.heap.size s.m Z) (isO_later _ _ _)] (by kernel_rfl) (by kernel_rfl) (by kernel_rfl) ?_ ?_
      · refine Steps'.cons ?_ (Steps'.cons ?_ (Steps'.cons ?_ (Steps'.cons ?_ (Steps'.cons ?_ (Steps'.cons ?_ (Steps'.cons ?_ (Steps'.cons ?_ (Steps'.cons ?_ (Steps'.cons ?_ (Steps'.one _ _ _ _ _ _ _))))))))))
        · intro ax wx hb hs hd
          have h2 : ax.tmps.getD 2 undef = (.pointer (some ⟨w.heap.size, 0, none⟩)) := hs 2 (by kernel_rfl)
          refine Does.value (.pointer (some ⟨w.heap.size, 0, none⟩)) ?_ rfl
          clear hs hd
          go_simp
        · intro ax wx hb hs hd
          have h73 : ax.tmps.getD 73 undef = (.pointer (some ⟨w.heap.size, 0, none⟩)) := hd 0 73 rfl (by kernel_rfl) (by decide)
          exact Does.load 27 (.tmp 73) rfl w.heap.size 0 h73 (u8s s.key) _ (H7.out.1.later hb).key Try.underlying27 rfl (by rw [u8s_length, H7.out.1.is.k32]; exact sizeKey)
        · intro ax wx hb hs hd
          have h3 : ax.tmps.getD 3 undef = (.pointer (some ⟨w.heap.size + 1, 0, none⟩)) := hs 3 (by kernel_rfl)
          exact Does.load 31 (.tmp 3) rfl (w.heap.size + 1) 0 h3 (placeC pr pc pp pq) _ ((H7.out.2.2.1).later hb (H7.out.2.2.1).lt).all Try.underlying31 rfl pzKey
        · intro ax wx hb hs hd
          have h5 : ax.tmps.getD 5 undef = (.slice ao5 (s.m + 28) ac5) := hs 5 (by kernel_rfl)
          refine Does.value (.slice ao5 (s.m + 28) ac5) ?_ rfl
          clear hs hd
          go_simp
        · intro ax wx hb hs hd
          have h76 : ax.tmps.getD 76 undef = (.slice ao5 (s.m + 28) ac5) := hd 3 76 rfl (by kernel_rfl) (by decide)
          refine Does.call 12 #[(.slice ao5 (s.m + 28) ac5)] (by clear hs hd; go_simp) ?_
          refine (copyB_any ao5 (s.m + 28) ac5 X wx (H7.out.2.2.2.1.later hb (Nat.le_refl _))).mono ?_
          rintro e w' ⟨v, rfl, o, l⟩
          exact ⟨_, rfl, ownsRow_base o (by have := hb.size; have := H7.out.2.1.size; omega), l⟩
        · intro ax wx hb hs hd
          have h74 : ax.tmps.getD 74 undef = (.agg (u8s s.key).toArray) := hd 1 74 rfl (by kernel_rfl) (by decide)
          have h75 : ax.tmps.getD 75 undef = (.agg (placeC pr pc pp pq).toArray) := hd 2 75 rfl (by kernel_rfl) (by decide)
          have p77 : (isO w.heap.size (s.m + 28) X) (ax.tmps.getD 77 undef) wx := hd 4 77 rfl (by kernel_rfl) (by decide)
          obtain ⟨o77, c77, h77, s77, k77, n77⟩ := pown_sl HX.out.2.1 HX.out.2.2 (by omega) p77
          clear p77
          refine Does.call 8 #[(.agg (u8s s.key).toArray), (.agg (placeC pr pc pp pq).toArray), (.slice o77 (s.m + 28) c77)] (by clear hs hd; go_simp) ?_
          refine (popen_good s.key pr pc pp pq o77 (s.m + 28) c77 X HI.out.k32 HI.out.kb HP.out.1 HP.out.2.1 HP.out.2.2.1 HP.out.2.2.2 wx s77 k77 hO.out).mono ?_
          rintro e w' ⟨v, rfl, o, l⟩
          rw [HZ.out.1, Nat.add_sub_cancel] at o
          exact ⟨_, rfl, ⟨v, rfl, ownsRow_base o (by have := hb.size; have := H7.out.2.1.size; omega)⟩, l⟩
        · intro ax wx hb hs hd
          have p78 : (isT w.heap.size s.m Z 0) (ax.tmps.getD 78 undef) wx := hd 5 78 rfl (by kernel_rfl) (by decide)
          obtain ⟨u, h78, o⟩ := p78
          refine Does.value (.tuple #[u, .int .i64 0]) ?_ ⟨u, rfl, o⟩
          clear hs hd
          go_simp
        · intro ax wx hb hs hd
          have p72 : (isT w.heap.size s.m Z 0) (ax.tmps.getD 72 undef) wx := hd 6 72 rfl (by kernel_rfl) (by decide)
          obtain ⟨u, h72, o⟩ := p72
          refine Does.value u ?_ o
          clear hs hd
          go_simp
        · intro ax wx hb hs hd
          have p72 : (isT w.heap.size s.m Z 0) (ax.tmps.getD 72 undef) wx := hd 6 72 rfl (by kernel_rfl) (by decide)
          obtain ⟨u, h72, o⟩ := p72
          refine Does.value (.int .i64 0) ?_ rfl
          clear hs hd
          go_simp
        · intro ax wx hb hs hd
          have p79 : (isO w.heap.size s.m Z) (ax.tmps.getD 79 undef) wx := hd 7 79 rfl (by kernel_rfl) (by decide)
          obtain ⟨u, h79⟩ : ∃ u, ax.tmps.getD 79 undef = u := ⟨_, rfl⟩
          rw [h79] at p79
          refine Does.value u ?_ p79
          clear hs hd
          go_simp
      · intro wx8 hb
        refine @Ends.val _ _ _ _ _ _ _ _ _ (.pointer (some ⟨w.heap.size, 0, none⟩)) rfl ?_
        refine @Ends.val _ _ _ _ _ _ _ _ _ (.agg (u8s s.key).toArray) rfl ?_
        refine @Ends.val _ _ _ _ _ _ _ _ _ (.agg (placeC pr pc pp pq).toArray) rfl ?_
        refine @Ends.val _ _ _ _ _ _ _ _ _ (.slice ao5 (s.m + 28) ac5) rfl ?_
        refine @Ends.any _ _ _ _ _ _ _ _ _ (isO w.heap.size (s.m + 28) X) (isO_later _ _ _) rfl ?_
        intro v77 p77
        refine @Ends.any _ _ _ _ _ _ _ _ _ (isT w.heap.size s.m Z 0) (isT_later _ _ _ _) rfl ?_
        intro v78 p78
        refine @Ends.any _ _ _ _ _ _ _ _ _ (isT w.heap.size s.m Z 0) (isT_later _ _ _ _) rfl ?_
        intro v72 p72
        refine @Ends.any _ _ _ _ _ _ _ _ _ (isO w.heap.size s.m Z) (isO_later _ _ _) rfl ?_
        intro v79 p79
        refine @Ends.val _ _ _ _ _ _ _ _ _ (.int .i64 0) rfl ?_
        refine @Ends.any _ _ _ _ _ _ _ _ _ (isO w.heap.size s.m Z) (isO_later _ _ _) rfl ?_
        intro v10 p10
        refine @Ends.one _ _ _ _ _ _ _ ?_
        simp only [Act.put, List.setIfInBounds_toArray, List.set_cons_zero, List.set_cons_succ]
        obtain ⟨to, tc, rfl, st, ct, _⟩ := pown_sl HZ.out.2.1 HZ.out.2.2 (by omega) p10
        clear p10 p79 p78 p72 st ct
        have H8 : Hid (Below w.heap.size w wx8 ∧ Seen wx8 (subA ao5 0 ac5) 12 (X.take 12) ∧ Seen wx8 (subA bo7 0 bc7) 12 (Y.take 12)) := ⟨below_chain H7.out.2.1 hb H7.out.2.1.size, first12 (H7.out.2.2.2.1.later hb (Nat.le_refl _)) (by omega) H7.out.2.2.2.2.1, first12 (H7.out.2.2.2.2.2.1.later hb (Nat.le_refl _)) (by omega) H7.out.2.2.2.2.2.2⟩
        clear p77
        refine last_assign (.tmp 80) rfl (some 11) rfl (.int .i64 0) rfl ?_
        simp only [Act.put, List.setIfInBounds_toArray, List.set_cons_zero, List.set_cons_succ]
        go_wp2_with fail
        refine region_inv [.val (.slice ao5 (s.m + 28) ac5), .val (.slice (subA ao5 0 ac5) 12 ac5), .val (.slice bo7 (s.m + 28) bc7), .val (.slice (subA bo7 0 bc7) 12 bc7), .val (.bool true), .val (.bool true), .val (.bool true)] (by kernel_rfl) (by kernel_rfl) (by kernel_rfl) ?_ ?_
        · refine Steps'.cons ?_ (Steps'.cons ?_ (Steps'.cons ?_ (Steps'.cons ?_ (Steps'.cons ?_ (Steps'.cons ?_ (Steps'.cons ?_ (Steps'.one _ _ _ _ _ _ _)))))))
          · intro ax wx hb hs hd
            have h5 : ax.tmps.getD 5 undef = (.slice ao5 (s.m + 28) ac5) := hs 5 (by kernel_rfl)
            refine Does.value (.slice ao5 (s.m + 28) ac5) ?_ rfl
            clear hs hd
            go_simp
          · intro ax wx hb hs hd
            have h92 : ax.tmps.getD 92 undef = (.slice ao5 (s.m + 28) ac5) := hd 0 92 rfl (by kernel_rfl) (by decide)
            have SA := HS.out.1 ao5 (s.m + 28) ac5 (by have := H7.out.2.2.2.2.1; omega)
            refine Does.value (.slice (subA ao5 0 ac5) 12 ac5) ?_ rfl
            clear hs hd
            go_simp
          · intro ax wx hb hs hd
            have h7 : ax.tmps.getD 7 undef = (.slice bo7 (s.m + 28) bc7) := hs 7 (by kernel_rfl)
            refine Does.value (.slice bo7 (s.m + 28) bc7) ?_ rfl
            clear hs hd
            go_simp
          · intro ax wx hb hs hd
            have h94 : ax.tmps.getD 94 undef = (.slice bo7 (s.m + 28) bc7) := hd 2 94 rfl (by kernel_rfl) (by decide)
            have SA := HS.out.1 bo7 (s.m + 28) bc7 (by have := H7.out.2.2.2.2.2.2; omega)
            refine Does.value (.slice (subA bo7 0 bc7) 12 bc7) ?_ rfl
            clear hs hd
            go_simp
          · intro ax wx hb hs hd
            have h93 : ax.tmps.getD 93 undef = (.slice (subA ao5 0 ac5) 12 ac5) := hd 1 93 rfl (by kernel_rfl) (by decide)
            have h95 : ax.tmps.getD 95 undef = (.slice (subA bo7 0 bc7) 12 bc7) := hd 3 95 rfl (by kernel_rfl) (by decide)
            refine Does.call 13 #[.slice (subA ao5 0 ac5) 12 ac5, .slice (subA bo7 0 bc7) 12 bc7] (by clear hs hd; go_simp) ?_
            refine (reqb_any (subA ao5 0 ac5) (subA bo7 0 bc7) 12 12 ac5 bc7 (X.take 12) (Y.take 12) wx (H8.out.2.1.later hb (Nat.le_refl _)) (H8.out.2.2.later hb (Nat.le_refl _))).mono ?_
            rintro e w' ⟨rfl, q, rfl⟩
            rw [HS.out.2]
            exact ⟨_, rfl, rfl, below_dn (Below.refl _ _) q⟩
          · intro ax wx hb hs hd
            have h9 : ax.tmps.getD 9 undef = (.bool true) := hs 9 (by kernel_rfl)
            refine Does.value (.bool true) ?_ rfl
            clear hs hd
            go_simp
          · intro ax wx hb hs hd
            have h96 : ax.tmps.getD 96 undef = (.bool true) := hd 4 96 rfl (by kernel_rfl) (by decide)
            have h97 : ax.tmps.getD 97 undef = (.bool true) := hd 5 97 rfl (by kernel_rfl) (by decide)
            refine Does.value (.bool true) ?_ rfl
            clear hs hd
            go_simp
        · intro wy hb
          refine @Ends.val _ _ _ _ _ _ _ _ _ (.slice ao5 (s.m + 28) ac5) rfl ?_
          refine @Ends.val _ _ _ _ _ _ _ _ _ (.slice (subA ao5 0 ac5) 12 ac5) rfl ?_
          refine @Ends.val _ _ _ _ _ _ _ _ _ (.slice bo7 (s.m + 28) bc7) rfl ?_
          refine @Ends.val _ _ _ _ _ _ _ _ _ (.slice (subA bo7 0 bc7) 12 bc7) rfl ?_
          refine @Ends.val _ _ _ _ _ _ _ _ _ (.bool true) rfl ?_
          refine @Ends.val _ _ _ _ _ _ _ _ _ (.bool true) rfl ?_
          refine @Ends.val _ _ _ _ _ _ _ _ _ (.bool true) rfl ?_
          refine @Ends.one _ _ _ _ _ _ _ ?_
          simp only [Act.put, List.setIfInBounds_toArray, List.set_cons_zero, List.set_cons_succ]
          refine last_assign (.tmp 98) rfl (some 4) rfl (.bool true) rfl ?_
          simp only [Act.put, List.setIfInBounds_toArray, List.set_cons_zero, List.set_cons_succ]
          have L := below_chain H8.out.1 hb H8.out.1.size
          clear hb
          go_wp2
          go_ret
          exact ⟨rfl, L⟩
set_option maxRecDepth 20000 in
set_option maxHeartbeats 4000000 in
theorem els_no (s : Sh) (pr pc pp pq : Int) (w : World) (h : ShIn w s) (gp : Word pr ∧ U32 pc ∧ U32 pp ∧ U32 pq) (hbig : s.m ≤ 4096) (e1 : (pr == s.r) = true) (e2 : (pc == s.c) = true) (ho : pOpens s.key pr pc pp pq (pageL s.key s.r s.c s.p s.q s.zs) = false) : Calls Try.prog 6 #[.agg (sheetC s).toArray, .agg (placeC pr pc pp pq).toArray] w fun e w' => e = .returned (.bool true) ∧ Below w.heap.size w w' := by
  have HI : Hid (ShIn w s) := h
  have HP : Hid (Word pr ∧ U32 pc ∧ U32 pp ∧ U32 pq) := gp
  have t1 := h.text.top
  have i1 : ¬ (4096 : Int) < (s.m : Int) := by omega
  have i2 : ¬ ((s.m + 28 : Nat) : Int) < 28 := by omega
  have hl := h.text.len
  obtain ⟨X, hX⟩ : ∃ X, pageL s.key s.r s.c s.p s.q s.zs = X := ⟨_, rfl⟩
  obtain ⟨Y, hY⟩ : ∃ X, pageL s.key pr pc pp pq s.zs = X := ⟨_, rfl⟩
  have HX : Hid (pageL s.key s.r s.c s.p s.q s.zs = X ∧ X.length = s.m + 28 ∧ Bytes X) := ⟨hX, by rw [← hX, pageL_length, hl], by rw [← hX]; exact pageL_bytes _ _ _ _ _ h.text.bytes⟩
  have HY : Hid (pageL s.key pr pc pp pq s.zs = Y ∧ Y.length = s.m + 28 ∧ Bytes Y) := ⟨hY, by rw [← hY, pageL_length, hl], by rw [← hY]; exact pageL_bytes _ _ _ _ _ h.text.bytes⟩
  rw [hX] at ho
  have hO : Hid (pOpens s.key pr pc pp pq X = false) := ho
  have HS : Hid ((∀ (ao : Option Addr) (n c : Nat), 12 ≤ c → ∀ W, (Instr.sliceAt 22 (.slice ao n c) none (some (.int .i64 12)) none).run Try.prog W = .ok (.slice (subA ao 0 c) 12 c) W) ∧ decide (X.take 12 = Y.take 12) = true) := by
    refine ⟨fun ao n c hc W => sl_h ao n c 12 hc W, ?_⟩
    rw [← hX, ← hY, pageL_head, pageL_head, hd_same h.hr h.hc gp.1 gp.2.1, e1, e2]
    rfl
  clear h gp hX hY ho hl t1
  go_enter Try.func6, Try.ntmps6
  go_wp2_with (first | (refine wpList_box_new rfl 36 _ rfl (sheetC s) rfl ?_; intro w1 b1 s1 l1) | (refine wpList_box_new rfl 31 _ rfl (placeC pr pc pp pq) rfl ?_; intro w2 b2 s2 l2))
  rw [s1] at b2
  have H2 : Hid (ShAt w2 w.heap.size s ∧ Below w.heap.size w w2 ∧ Blk w2 (w.heap.size + 1) 31 (placeC pr pc pp pq)) := ⟨⟨b1.later l2 (by omega), HI.out.later (below_chain l1 l2 (by omega)) (Nat.le_refl _)⟩, below_chain l1 l2 (by omega), b2⟩
  clear b1 l1 b2 s2 l2 s1
  refine (pworks_any w2).mono ?_
  rintro e w3 ⟨rfl, l3⟩
  have H3 : Hid (ShAt w3 w.heap.size s ∧ Below w.heap.size w w3 ∧ Blk w3 (w.heap.size + 1) 31 (placeC pr pc pp pq)) := ⟨H2.out.1.later l3, below_chain H2.out.2.1 l3 H2.out.2.1.size, H2.out.2.2.later l3 H2.out.2.2.lt⟩
  have cT := H3.out.1.cT
  clear l3
  go_wp2_with fail
  refine region_inv [.val (.pointer (some ⟨w.heap.size, 0, none⟩)), .val (.agg (u8s s.key).toArray), .val (.pointer (some ⟨w.heap.size, 32, none⟩)), .val (.agg (placeC s.r s.c s.p s.q).toArray), .val (.pointer (some ⟨w.heap.size, 36, none⟩)), .val (.slice s.bo s.m s.d), .any (isO w.heap.size s.m s.zs) (isO_later _ _ _), .any (isT w.heap.size (s.m + 28) X 0) (isT_later _ _ _ _), .any (isT w.heap.size (s.m + 28) X 0) (isT_later _ _ _ _), .any (isO w.heap.size (s.m + 28) X) (isO_later _ _ _), .val (.int .i64 0), .any (isO w.heap.size (s.m + 28) X) (isO_later _ _ _)] (by kernel_rfl) (by kernel_rfl) (by kernel_rfl) ?_ ?_
  · refine Steps'.cons ?_ (Steps'.cons ?_ (Steps'.cons ?_ (Steps'.cons ?_ (Steps'.cons ?_ (Steps'.cons ?_ (Steps'.cons ?_ (Steps'.cons ?_ (Steps'.cons ?_ (Steps'.cons ?_ (Steps'.cons ?_ (Steps'.cons ?_ (Steps'.one _ _ _ _ _ _ _))))))))))))
    · intro ax wx hb hs hd
      have h2 : ax.tmps.getD 2 undef = (.pointer (some ⟨w.heap.size, 0, none⟩)) := hs 2 (by kernel_rfl)
      refine Does.value (.pointer (some ⟨w.heap.size, 0, none⟩)) ?_ rfl
      clear hs hd
      go_simp
    · intro ax wx hb hs hd
      have h22 : ax.tmps.getD 22 undef = (.pointer (some ⟨w.heap.size, 0, none⟩)) := hd 0 22 rfl (by kernel_rfl) (by decide)
      exact Does.load 27 (.tmp 22) rfl w.heap.size 0 h22 (u8s s.key) _ (H3.out.1.later hb).key Try.underlying27 rfl (by rw [u8s_length, H3.out.1.is.k32]; exact sizeKey)
    · intro ax wx hb hs hd
      have h2 : ax.tmps.getD 2 undef = (.pointer (some ⟨w.heap.size, 0, none⟩)) := hs 2 (by kernel_rfl)
      refine Does.value (.pointer (some ⟨w.heap.size, 32, none⟩)) ?_ rfl
      clear hs hd
      go_simp
    · intro ax wx hb hs hd
      have h24 : ax.tmps.getD 24 undef = (.pointer (some ⟨w.heap.size, 32, none⟩)) := hd 2 24 rfl (by kernel_rfl) (by decide)
      exact Does.load 31 (.tmp 24) rfl w.heap.size 32 h24 (placeC s.r s.c s.p s.q) _ (H3.out.1.later hb).place Try.underlying31 rfl pzKey
    · intro ax wx hb hs hd
      have h2 : ax.tmps.getD 2 undef = (.pointer (some ⟨w.heap.size, 0, none⟩)) := hs 2 (by kernel_rfl)
      refine Does.value (.pointer (some ⟨w.heap.size, 36, none⟩)) ?_ rfl
      clear hs hd
      go_simp
    · intro ax wx hb hs hd
      have h26 : ax.tmps.getD 26 undef = (.pointer (some ⟨w.heap.size, 36, none⟩)) := hd 4 26 rfl (by kernel_rfl) (by decide)
      have cx : wx.cell? ⟨w.heap.size, 36, none⟩ = some (.slice s.bo s.m s.d) := (H3.out.1.later hb).cT
      refine Does.value (.slice s.bo s.m s.d) ?_ rfl
      clear hs hd
      go_simp
    · intro ax wx hb hs hd
      have h27 : ax.tmps.getD 27 undef = (.slice s.bo s.m s.d) := hd 5 27 rfl (by kernel_rfl) (by decide)
      refine Does.call 12 #[(.slice s.bo s.m s.d)] (by clear hs hd; go_simp) ?_
      refine (copyB_any s.bo s.m s.d s.zs wx (H3.out.1.later hb).is.text).mono ?_
      rintro e w' ⟨v, rfl, o, l⟩
      exact ⟨_, rfl, ownsRow_base o (by have := hb.size; have := H3.out.2.1.size; omega), l⟩
    · intro ax wx hb hs hd
      have h23 : ax.tmps.getD 23 undef = (.agg (u8s s.key).toArray) := hd 1 23 rfl (by kernel_rfl) (by decide)
      have h25 : ax.tmps.getD 25 undef = (.agg (placeC s.r s.c s.p s.q).toArray) := hd 3 25 rfl (by kernel_rfl) (by decide)
      have p28 : (isO w.heap.size s.m s.zs) (ax.tmps.getD 28 undef) wx := hd 6 28 rfl (by kernel_rfl) (by decide)
      obtain ⟨o28, c28, h28, s28, k28, n28⟩ := pown_sl HI.out.text.len HI.out.text.bytes HI.out.text.top p28
      clear p28
      refine Does.call 9 #[(.agg (u8s s.key).toArray), (.agg (placeC s.r s.c s.p s.q).toArray), (.slice o28 s.m c28)] (by clear hs hd; go_simp) ?_
      refine (pseal_any s.key s.r s.c s.p s.q o28 s.m c28 s.zs HI.out.k32 HI.out.kb HI.out.hr HI.out.hc HI.out.hp HI.out.hq hbig wx s28 k28).mono ?_
      rintro e w' ⟨v, rfl, o, l⟩
      rw [HX.out.1] at o
      exact ⟨_, rfl, ⟨v, rfl, ownsRow_base o (by have := hb.size; have := H3.out.2.1.size; omega)⟩, l⟩
    · intro ax wx hb hs hd
      have p29 : (isT w.heap.size (s.m + 28) X 0) (ax.tmps.getD 29 undef) wx := hd 7 29 rfl (by kernel_rfl) (by decide)
      obtain ⟨u, h29, o⟩ := p29
      refine Does.value (.tuple #[u, .int .i64 0]) ?_ ⟨u, rfl, o⟩
      clear hs hd
      go_simp
    · intro ax wx hb hs hd
      have p21 : (isT w.heap.size (s.m + 28) X 0) (ax.tmps.getD 21 undef) wx := hd 8 21 rfl (by kernel_rfl) (by decide)
      obtain ⟨u, h21, o⟩ := p21
      refine Does.value u ?_ o
      clear hs hd
      go_simp
    · intro ax wx hb hs hd
      have p21 : (isT w.heap.size (s.m + 28) X 0) (ax.tmps.getD 21 undef) wx := hd 8 21 rfl (by kernel_rfl) (by decide)
      obtain ⟨u, h21, o⟩ := p21
      refine Does.value (.int .i64 0) ?_ rfl
      clear hs hd
      go_simp
    · intro ax wx hb hs hd
      have p30 : (isO w.heap.size (s.m + 28) X) (ax.tmps.getD 30 undef) wx := hd 9 30 rfl (by kernel_rfl) (by decide)
      obtain ⟨u, h30⟩ : ∃ u, ax.tmps.getD 30 undef = u := ⟨_, rfl⟩
      rw [h30] at p30
      refine Does.value u ?_ p30
      clear hs hd
      go_simp
  · intro wx hb
    refine @Ends.val _ _ _ _ _ _ _ _ _ (.pointer (some ⟨w.heap.size, 0, none⟩)) rfl ?_
    refine @Ends.val _ _ _ _ _ _ _ _ _ (.agg (u8s s.key).toArray) rfl ?_
    refine @Ends.val _ _ _ _ _ _ _ _ _ (.pointer (some ⟨w.heap.size, 32, none⟩)) rfl ?_
    refine @Ends.val _ _ _ _ _ _ _ _ _ (.agg (placeC s.r s.c s.p s.q).toArray) rfl ?_
    refine @Ends.val _ _ _ _ _ _ _ _ _ (.pointer (some ⟨w.heap.size, 36, none⟩)) rfl ?_
    refine @Ends.val _ _ _ _ _ _ _ _ _ (.slice s.bo s.m s.d) rfl ?_
    refine @Ends.any _ _ _ _ _ _ _ _ _ (isO w.heap.size s.m s.zs) (isO_later _ _ _) rfl ?_
    intro v28 p28
    refine @Ends.any _ _ _ _ _ _ _ _ _ (isT w.heap.size (s.m + 28) X 0) (isT_later _ _ _ _) rfl ?_
    intro v29 p29
    refine @Ends.any _ _ _ _ _ _ _ _ _ (isT w.heap.size (s.m + 28) X 0) (isT_later _ _ _ _) rfl ?_
    intro v21 p21
    refine @Ends.any _ _ _ _ _ _ _ _ _ (isO w.heap.size (s.m + 28) X) (isO_later _ _ _) rfl ?_
    intro v30 p30
    refine @Ends.val _ _ _ _ _ _ _ _ _ (.int .i64 0) rfl ?_
    refine @Ends.any _ _ _ _ _ _ _ _ _ (isO w.heap.size (s.m + 28) X) (isO_later _ _ _) rfl ?_
    intro v5 p5
    refine @Ends.one _ _ _ _ _ _ _ ?_
    simp only [Act.put, List.setIfInBounds_toArray, List.set_cons_zero, List.set_cons_succ]
    obtain ⟨ao5, ac5, rfl, s5, c5, _⟩ := pown_sl HX.out.2.1 HX.out.2.2 (by omega) p5
    have H5 : Hid (ShAt wx w.heap.size s ∧ Below w.heap.size w wx ∧ Blk wx (w.heap.size + 1) 31 (placeC pr pc pp pq) ∧ Seen wx ao5 (s.m + 28) X ∧ s.m + 28 ≤ ac5) := ⟨H3.out.1.later hb, below_chain H3.out.2.1 hb H3.out.2.1.size, H3.out.2.2.later hb H3.out.2.2.lt, s5, c5⟩
    clear p5 p30 p29 p28 p21 s5 cT
    refine last_assign (.tmp 31) rfl (some 6) rfl (.int .i64 0) rfl ?_
    simp only [Act.put, List.setIfInBounds_toArray, List.set_cons_zero, List.set_cons_succ]
    go_wp2_with fail
    refine region_inv [.val (.pointer (some ⟨w.heap.size, 0, none⟩)), .val (.agg (u8s s.key).toArray), .val (.agg (placeC pr pc pp pq).toArray), .val (.pointer (some ⟨w.heap.size, 36, none⟩)), .val (.slice s.bo s.m s.d), .any (isO w.heap.size s.m s.zs) (isO_later _ _ _), .any (isT w.heap.size (s.m + 28) Y 0) (isT_later _ _ _ _), .any (isT w.heap.size (s.m + 28) Y 0) (isT_later _ _ _ _), .any (isO w.heap.size (s.m + 28) Y) (isO_later _ _ _), .val (.int .i64 0), .any (isO w.heap.size (s.m + 28) Y) (isO_later _ _ _)] (by kernel_rfl) (by kernel_rfl) (by kernel_rfl) ?_ ?_
    · refine Steps'.cons ?_ (Steps'.cons ?_ (Steps'.cons ?_ (Steps'.cons ?_ (Steps'.cons ?_ (Steps'.cons ?_ (Steps'.cons ?_ (Steps'.cons ?_ (Steps'.cons ?_ (Steps'.cons ?_ (Steps'.cons ?_ (Steps'.one _ _ _ _ _ _ _)))))))))))
      · intro ax wx hb hs hd
        have h2 : ax.tmps.getD 2 undef = (.pointer (some ⟨w.heap.size, 0, none⟩)) := hs 2 (by kernel_rfl)
        refine Does.value (.pointer (some ⟨w.heap.size, 0, none⟩)) ?_ rfl
        clear hs hd
        go_simp
      · intro ax wx hb hs hd
        have h33 : ax.tmps.getD 33 undef = (.pointer (some ⟨w.heap.size, 0, none⟩)) := hd 0 33 rfl (by kernel_rfl) (by decide)
        exact Does.load 27 (.tmp 33) rfl w.heap.size 0 h33 (u8s s.key) _ (H5.out.1.later hb).key Try.underlying27 rfl (by rw [u8s_length, H5.out.1.is.k32]; exact sizeKey)
      · intro ax wx hb hs hd
        have h3 : ax.tmps.getD 3 undef = (.pointer (some ⟨w.heap.size + 1, 0, none⟩)) := hs 3 (by kernel_rfl)
        exact Does.load 31 (.tmp 3) rfl (w.heap.size + 1) 0 h3 (placeC pr pc pp pq) _ ((H5.out.2.2.1).later hb (H5.out.2.2.1).lt).all Try.underlying31 rfl pzKey
      · intro ax wx hb hs hd
        have h2 : ax.tmps.getD 2 undef = (.pointer (some ⟨w.heap.size, 0, none⟩)) := hs 2 (by kernel_rfl)
        refine Does.value (.pointer (some ⟨w.heap.size, 36, none⟩)) ?_ rfl
        clear hs hd
        go_simp
      · intro ax wx hb hs hd
        have h36 : ax.tmps.getD 36 undef = (.pointer (some ⟨w.heap.size, 36, none⟩)) := hd 3 36 rfl (by kernel_rfl) (by decide)
        have cx : wx.cell? ⟨w.heap.size, 36, none⟩ = some (.slice s.bo s.m s.d) := (H5.out.1.later hb).cT
        refine Does.value (.slice s.bo s.m s.d) ?_ rfl
        clear hs hd
        go_simp
      · intro ax wx hb hs hd
        have h37 : ax.tmps.getD 37 undef = (.slice s.bo s.m s.d) := hd 4 37 rfl (by kernel_rfl) (by decide)
        refine Does.call 12 #[(.slice s.bo s.m s.d)] (by clear hs hd; go_simp) ?_
        refine (copyB_any s.bo s.m s.d s.zs wx (H5.out.1.later hb).is.text).mono ?_
        rintro e w' ⟨v, rfl, o, l⟩
        exact ⟨_, rfl, ownsRow_base o (by have := hb.size; have := H5.out.2.1.size; omega), l⟩
      · intro ax wx hb hs hd
        have h34 : ax.tmps.getD 34 undef = (.agg (u8s s.key).toArray) := hd 1 34 rfl (by kernel_rfl) (by decide)
        have h35 : ax.tmps.getD 35 undef = (.agg (placeC pr pc pp pq).toArray) := hd 2 35 rfl (by kernel_rfl) (by decide)
        have p38 : (isO w.heap.size s.m s.zs) (ax.tmps.getD 38 undef) wx := hd 5 38 rfl (by kernel_rfl) (by decide)
        obtain ⟨o38, c38, h38, s38, k38, n38⟩ := pown_sl HI.out.text.len HI.out.text.bytes HI.out.text.top p38
        clear p38
        refine Does.call 9 #[(.agg (u8s s.key).toArray), (.agg (placeC pr pc pp pq).toArray), (.slice o38 s.m c38)] (by clear hs hd; go_simp) ?_
        refine (pseal_any s.key pr pc pp pq o38 s.m c38 s.zs HI.out.k32 HI.out.kb HP.out.1 HP.out.2.1 HP.out.2.2.1 HP.out.2.2.2 hbig wx s38 k38).mono ?_
        rintro e w' ⟨v, rfl, o, l⟩
        rw [HY.out.1] at o
        exact ⟨_, rfl, ⟨v, rfl, ownsRow_base o (by have := hb.size; have := H5.out.2.1.size; omega)⟩, l⟩
      · intro ax wx hb hs hd
        have p39 : (isT w.heap.size (s.m + 28) Y 0) (ax.tmps.getD 39 undef) wx := hd 6 39 rfl (by kernel_rfl) (by decide)
        obtain ⟨u, h39, o⟩ := p39
        refine Does.value (.tuple #[u, .int .i64 0]) ?_ ⟨u, rfl, o⟩
        clear hs hd
        go_simp
      · intro ax wx hb hs hd
        have p32 : (isT w.heap.size (s.m + 28) Y 0) (ax.tmps.getD 32 undef) wx := hd 7 32 rfl (by kernel_rfl) (by decide)
        obtain ⟨u, h32, o⟩ := p32
        refine Does.value u ?_ o
        clear hs hd
        go_simp
      · intro ax wx hb hs hd
        have p32 : (isT w.heap.size (s.m + 28) Y 0) (ax.tmps.getD 32 undef) wx := hd 7 32 rfl (by kernel_rfl) (by decide)
        obtain ⟨u, h32, o⟩ := p32
        refine Does.value (.int .i64 0) ?_ rfl
        clear hs hd
        go_simp
      · intro ax wx hb hs hd
        have p40 : (isO w.heap.size (s.m + 28) Y) (ax.tmps.getD 40 undef) wx := hd 8 40 rfl (by kernel_rfl) (by decide)
        obtain ⟨u, h40⟩ : ∃ u, ax.tmps.getD 40 undef = u := ⟨_, rfl⟩
        rw [h40] at p40
        refine Does.value u ?_ p40
        clear hs hd
        go_simp
    · intro wx4 hb
      refine @Ends.val _ _ _ _ _ _ _ _ _ (.pointer (some ⟨w.heap.size, 0, none⟩)) rfl ?_
      refine @Ends.val _ _ _ _ _ _ _ _ _ (.agg (u8s s.key).toArray) rfl ?_
      refine @Ends.val _ _ _ _ _ _ _ _ _ (.agg (placeC pr pc pp pq).toArray) rfl ?_
      refine @Ends.val _ _ _ _ _ _ _ _ _ (.pointer (some ⟨w.heap.size, 36, none⟩)) rfl ?_
      refine @Ends.val _ _ _ _ _ _ _ _ _ (.slice s.bo s.m s.d) rfl ?_
      refine @Ends.any _ _ _ _ _ _ _ _ _ (isO w.heap.size s.m s.zs) (isO_later _ _ _) rfl ?_
      intro v38 p38
      refine @Ends.any _ _ _ _ _ _ _ _ _ (isT w.heap.size (s.m + 28) Y 0) (isT_later _ _ _ _) rfl ?_
      intro v39 p39
      refine @Ends.any _ _ _ _ _ _ _ _ _ (isT w.heap.size (s.m + 28) Y 0) (isT_later _ _ _ _) rfl ?_
      intro v32 p32
      refine @Ends.any _ _ _ _ _ _ _ _ _ (isO w.heap.size (s.m + 28) Y) (isO_later _ _ _) rfl ?_
      intro v40 p40
      refine @Ends.val _ _ _ _ _ _ _ _ _ (.int .i64 0) rfl ?_
      refine @Ends.any _ _ _ _ _ _ _ _ _ (isO w.heap.size (s.m + 28) Y) (isO_later _ _ _) rfl ?_
      intro v7 p7
      refine @Ends.one _ _ _ _ _ _ _ ?_
      simp only [Act.put, List.setIfInBounds_toArray, List.set_cons_zero, List.set_cons_succ]
      obtain ⟨bo7, bc7, rfl, s7, c7, _⟩ := pown_sl HY.out.2.1 HY.out.2.2 (by omega) p7
      have H7 : Hid (ShAt wx4 w.heap.size s ∧ Below w.heap.size w wx4 ∧ Blk wx4 (w.heap.size + 1) 31 (placeC pr pc pp pq) ∧ Seen wx4 ao5 (s.m + 28) X ∧ s.m + 28 ≤ ac5 ∧ Seen wx4 bo7 (s.m + 28) Y ∧ s.m + 28 ≤ bc7) := ⟨H5.out.1.later hb, below_chain H5.out.2.1 hb H5.out.2.1.size, H5.out.2.2.1.later hb H5.out.2.2.1.lt, H5.out.2.2.2.1.later hb (Nat.le_refl _), H5.out.2.2.2.2, s7, c7⟩
      clear p7 p40 p39 p38 p32 s7
      have cR := H7.out.1.cR
      have cC := H7.out.1.cC
      have cr : wx4.cell? ⟨w.heap.size + 1, 0, none⟩ = some (.int .u64 pr) := H7.out.2.2.1.cell 0
      have cc : wx4.cell? ⟨w.heap.size + 1, 1, none⟩ = some (.int .u32 pc) := H7.out.2.2.1.cell 1
      refine last_assign (.tmp 41) rfl (some 8) rfl (.int .i64 0) rfl ?_
      simp only [Act.put, List.setIfInBounds_toArray, List.set_cons_zero, List.set_cons_succ]
      go_wp2_with fail
      clear cR cC cr cc
      refine region_inv [.val (.pointer (some ⟨w.heap.size, 0, none⟩)), .val (.agg (u8s s.key).toArray), .val (.agg (placeC pr pc pp pq).toArray), .val (.slice ao5 (s.m + 28) ac5), .any (isO w.heap.size (s.m + 28) X) (isO_later _ _ _), .val (.tuple #[.slice none 0 0, .int .i64 120]), .val (.tuple #[.slice none 0 0, .int .i64 120]), .val (.slice none 0 0), .val (.int .i64 120), .val (.slice none 0 0)] (by kernel_rfl) (by kernel_rfl) (by kernel_rfl) ?_ ?_
      · refine Steps'.cons ?_ (Steps'.cons ?_ (Steps'.cons ?_ (Steps'.cons ?_ (Steps'.cons ?_ (Steps'.cons ?_ (Steps'.cons ?_ (Steps'.cons ?_ (Steps'.cons ?_ (Steps'.cons ?_ (Steps'.one _ _ _ _ _ _ _))))))))))
        · intro ax wx hb hs hd
          have h2 : ax.tmps.getD 2 undef = (.pointer (some ⟨w.heap.size, 0, none⟩)) := hs 2 (by kernel_rfl)
          refine Does.value (.pointer (some ⟨w.heap.size, 0, none⟩)) ?_ rfl
          clear hs hd
          go_simp
        · intro ax wx hb hs hd
          have h73 : ax.tmps.getD 73 undef = (.pointer (some ⟨w.heap.size, 0, none⟩)) := hd 0 73 rfl (by kernel_rfl) (by decide)
          exact Does.load 27 (.tmp 73) rfl w.heap.size 0 h73 (u8s s.key) _ (H7.out.1.later hb).key Try.underlying27 rfl (by rw [u8s_length, H7.out.1.is.k32]; exact sizeKey)
        · intro ax wx hb hs hd
          have h3 : ax.tmps.getD 3 undef = (.pointer (some ⟨w.heap.size + 1, 0, none⟩)) := hs 3 (by kernel_rfl)
          exact Does.load 31 (.tmp 3) rfl (w.heap.size + 1) 0 h3 (placeC pr pc pp pq) _ ((H7.out.2.2.1).later hb (H7.out.2.2.1).lt).all Try.underlying31 rfl pzKey
        · intro ax wx hb hs hd
          have h5 : ax.tmps.getD 5 undef = (.slice ao5 (s.m + 28) ac5) := hs 5 (by kernel_rfl)
          refine Does.value (.slice ao5 (s.m + 28) ac5) ?_ rfl
          clear hs hd
          go_simp
        · intro ax wx hb hs hd
          have h76 : ax.tmps.getD 76 undef = (.slice ao5 (s.m + 28) ac5) := hd 3 76 rfl (by kernel_rfl) (by decide)
          refine Does.call 12 #[(.slice ao5 (s.m + 28) ac5)] (by clear hs hd; go_simp) ?_
          refine (copyB_any ao5 (s.m + 28) ac5 X wx (H7.out.2.2.2.1.later hb (Nat.le_refl _))).mono ?_
          rintro e w' ⟨v, rfl, o, l⟩
          exact ⟨_, rfl, ownsRow_base o (by have := hb.size; have := H7.out.2.1.size; omega), l⟩
        · intro ax wx hb hs hd
          have h74 : ax.tmps.getD 74 undef = (.agg (u8s s.key).toArray) := hd 1 74 rfl (by kernel_rfl) (by decide)
          have h75 : ax.tmps.getD 75 undef = (.agg (placeC pr pc pp pq).toArray) := hd 2 75 rfl (by kernel_rfl) (by decide)
          have p77 : (isO w.heap.size (s.m + 28) X) (ax.tmps.getD 77 undef) wx := hd 4 77 rfl (by kernel_rfl) (by decide)
          obtain ⟨o77, c77, h77, s77, k77, n77⟩ := pown_sl HX.out.2.1 HX.out.2.2 (by omega) p77
          clear p77
          refine Does.call 8 #[(.agg (u8s s.key).toArray), (.agg (placeC pr pc pp pq).toArray), (.slice o77 (s.m + 28) c77)] (by clear hs hd; go_simp) ?_
          refine (popen_bad s.key pr pc pp pq o77 (s.m + 28) c77 X HI.out.k32 HI.out.kb HP.out.1 HP.out.2.1 HP.out.2.2.1 HP.out.2.2.2 wx s77 k77 hO.out).mono ?_
          rintro e w' ⟨rfl, l⟩
          exact ⟨_, rfl, rfl, l⟩
        · intro ax wx hb hs hd
          have h78 : ax.tmps.getD 78 undef = (.tuple #[.slice none 0 0, .int .i64 120]) := hd 5 78 rfl (by kernel_rfl) (by decide)
          refine Does.value (.tuple #[.slice none 0 0, .int .i64 120]) ?_ rfl
          clear hs hd
          go_simp
        · intro ax wx hb hs hd
          have h72 : ax.tmps.getD 72 undef = (.tuple #[.slice none 0 0, .int .i64 120]) := hd 6 72 rfl (by kernel_rfl) (by decide)
          refine Does.value (.slice none 0 0) ?_ rfl
          clear hs hd
          go_simp
        · intro ax wx hb hs hd
          have h72 : ax.tmps.getD 72 undef = (.tuple #[.slice none 0 0, .int .i64 120]) := hd 6 72 rfl (by kernel_rfl) (by decide)
          refine Does.value (.int .i64 120) ?_ rfl
          clear hs hd
          go_simp
        · intro ax wx hb hs hd
          have h79 : ax.tmps.getD 79 undef = (.slice none 0 0) := hd 7 79 rfl (by kernel_rfl) (by decide)
          refine Does.value (.slice none 0 0) ?_ rfl
          clear hs hd
          go_simp
      · intro wx8 hb
        refine @Ends.val _ _ _ _ _ _ _ _ _ (.pointer (some ⟨w.heap.size, 0, none⟩)) rfl ?_
        refine @Ends.val _ _ _ _ _ _ _ _ _ (.agg (u8s s.key).toArray) rfl ?_
        refine @Ends.val _ _ _ _ _ _ _ _ _ (.agg (placeC pr pc pp pq).toArray) rfl ?_
        refine @Ends.val _ _ _ _ _ _ _ _ _ (.slice ao5 (s.m + 28) ac5) rfl ?_
        refine @Ends.any _ _ _ _ _ _ _ _ _ (isO w.heap.size (s.m + 28) X) (isO_later _ _ _) rfl ?_
        intro v77 p77
        refine @Ends.val _ _ _ _ _ _ _ _ _ (.tuple #[.slice none 0 0, .int .i64 120]) rfl ?_
        refine @Ends.val _ _ _ _ _ _ _ _ _ (.tuple #[.slice none 0 0, .int .i64 120]) rfl ?_
        refine @Ends.val _ _ _ _ _ _ _ _ _ (.slice none 0 0) rfl ?_
        refine @Ends.val _ _ _ _ _ _ _ _ _ (.int .i64 120) rfl ?_
        refine @Ends.val _ _ _ _ _ _ _ _ _ (.slice none 0 0) rfl ?_
        refine @Ends.one _ _ _ _ _ _ _ ?_
        simp only [Act.put, List.setIfInBounds_toArray, List.set_cons_zero, List.set_cons_succ]
        have D : True := trivial
        have H8 : Hid (Below w.heap.size w wx8 ∧ Seen wx8 (subA ao5 0 ac5) 12 (X.take 12) ∧ Seen wx8 (subA bo7 0 bc7) 12 (Y.take 12)) := ⟨below_chain H7.out.2.1 hb H7.out.2.1.size, first12 (H7.out.2.2.2.1.later hb (Nat.le_refl _)) (by omega) H7.out.2.2.2.2.1, first12 (H7.out.2.2.2.2.2.1.later hb (Nat.le_refl _)) (by omega) H7.out.2.2.2.2.2.2⟩
        clear p77
        refine last_assign (.tmp 80) rfl (some 11) rfl (.int .i64 120) rfl ?_
        simp only [Act.put, List.setIfInBounds_toArray, List.set_cons_zero, List.set_cons_succ]
        go_wp2_with fail
        refine region_inv [.val (.slice ao5 (s.m + 28) ac5), .val (.slice (subA ao5 0 ac5) 12 ac5), .val (.slice bo7 (s.m + 28) bc7), .val (.slice (subA bo7 0 bc7) 12 bc7), .val (.bool true), .val (.bool true), .val (.bool true)] (by kernel_rfl) (by kernel_rfl) (by kernel_rfl) ?_ ?_
        · refine Steps'.cons ?_ (Steps'.cons ?_ (Steps'.cons ?_ (Steps'.cons ?_ (Steps'.cons ?_ (Steps'.cons ?_ (Steps'.cons ?_ (Steps'.one _ _ _ _ _ _ _)))))))
          · intro ax wx hb hs hd
            have h5 : ax.tmps.getD 5 undef = (.slice ao5 (s.m + 28) ac5) := hs 5 (by kernel_rfl)
            refine Does.value (.slice ao5 (s.m + 28) ac5) ?_ rfl
            clear hs hd
            go_simp
          · intro ax wx hb hs hd
            have h92 : ax.tmps.getD 92 undef = (.slice ao5 (s.m + 28) ac5) := hd 0 92 rfl (by kernel_rfl) (by decide)
            have SA := HS.out.1 ao5 (s.m + 28) ac5 (by have := H7.out.2.2.2.2.1; omega)
            refine Does.value (.slice (subA ao5 0 ac5) 12 ac5) ?_ rfl
            clear hs hd
            go_simp
          · intro ax wx hb hs hd
            have h7 : ax.tmps.getD 7 undef = (.slice bo7 (s.m + 28) bc7) := hs 7 (by kernel_rfl)
            refine Does.value (.slice bo7 (s.m + 28) bc7) ?_ rfl
            clear hs hd
            go_simp
          · intro ax wx hb hs hd
            have h94 : ax.tmps.getD 94 undef = (.slice bo7 (s.m + 28) bc7) := hd 2 94 rfl (by kernel_rfl) (by decide)
            have SA := HS.out.1 bo7 (s.m + 28) bc7 (by have := H7.out.2.2.2.2.2.2; omega)
            refine Does.value (.slice (subA bo7 0 bc7) 12 bc7) ?_ rfl
            clear hs hd
            go_simp
          · intro ax wx hb hs hd
            have h93 : ax.tmps.getD 93 undef = (.slice (subA ao5 0 ac5) 12 ac5) := hd 1 93 rfl (by kernel_rfl) (by decide)
            have h95 : ax.tmps.getD 95 undef = (.slice (subA bo7 0 bc7) 12 bc7) := hd 3 95 rfl (by kernel_rfl) (by decide)
            refine Does.call 13 #[.slice (subA ao5 0 ac5) 12 ac5, .slice (subA bo7 0 bc7) 12 bc7] (by clear hs hd; go_simp) ?_
            refine (reqb_any (subA ao5 0 ac5) (subA bo7 0 bc7) 12 12 ac5 bc7 (X.take 12) (Y.take 12) wx (H8.out.2.1.later hb (Nat.le_refl _)) (H8.out.2.2.later hb (Nat.le_refl _))).mono ?_
            rintro e w' ⟨rfl, q, rfl⟩
            rw [HS.out.2]
            exact ⟨_, rfl, rfl, below_dn (Below.refl _ _) q⟩
          · intro ax wx hb hs hd
            have h9 : ax.tmps.getD 9 undef = (.bool true) := hs 9 (by kernel_rfl)
            refine Does.value (.bool true) ?_ rfl
            clear hs hd
            go_simp
          · intro ax wx hb hs hd
            have h96 : ax.tmps.getD 96 undef = (.bool true) := hd 4 96 rfl (by kernel_rfl) (by decide)
            have h97 : ax.tmps.getD 97 undef = (.bool true) := hd 5 97 rfl (by kernel_rfl) (by decide)
            refine Does.value (.bool true) ?_ rfl
            clear hs hd
            go_simp
        · intro wy hb
          refine @Ends.val _ _ _ _ _ _ _ _ _ (.slice ao5 (s.m + 28) ac5) rfl ?_
          refine @Ends.val _ _ _ _ _ _ _ _ _ (.slice (subA ao5 0 ac5) 12 ac5) rfl ?_
          refine @Ends.val _ _ _ _ _ _ _ _ _ (.slice bo7 (s.m + 28) bc7) rfl ?_
          refine @Ends.val _ _ _ _ _ _ _ _ _ (.slice (subA bo7 0 bc7) 12 bc7) rfl ?_
          refine @Ends.val _ _ _ _ _ _ _ _ _ (.bool true) rfl ?_
          refine @Ends.val _ _ _ _ _ _ _ _ _ (.bool true) rfl ?_
          refine @Ends.val _ _ _ _ _ _ _ _ _ (.bool true) rfl ?_
          refine @Ends.one _ _ _ _ _ _ _ ?_
          simp only [Act.put, List.setIfInBounds_toArray, List.set_cons_zero, List.set_cons_succ]
          refine last_assign (.tmp 98) rfl (some 4) rfl (.bool true) rfl ?_
          simp only [Act.put, List.setIfInBounds_toArray, List.set_cons_zero, List.set_cons_succ]
          have L := below_chain H8.out.1 hb H8.out.1.size
          clear hb
          go_wp2
          go_ret
          exact ⟨rfl, L⟩
set_option maxRecDepth 20000 in
set_option maxHeartbeats 4000000 in
theorem els_ne1 (s : Sh) (pr pc pp pq : Int) (w : World) (h : ShIn w s) (gp : Word pr ∧ U32 pc ∧ U32 pp ∧ U32 pq) (hbig : s.m ≤ 4096) (e1 : (pr == s.r) = false) (ho : pOpens s.key pr pc pp pq (pageL s.key s.r s.c s.p s.q s.zs) = false) : Calls Try.prog 6 #[.agg (sheetC s).toArray, .agg (placeC pr pc pp pq).toArray] w fun e w' => e = .returned (.bool true) ∧ Below w.heap.size w w' := by
  have HI : Hid (ShIn w s) := h
  have HP : Hid (Word pr ∧ U32 pc ∧ U32 pp ∧ U32 pq) := gp
  have t1 := h.text.top
  have i1 : ¬ (4096 : Int) < (s.m : Int) := by omega
  have i2 : ¬ ((s.m + 28 : Nat) : Int) < 28 := by omega
  have hl := h.text.len
  obtain ⟨X, hX⟩ : ∃ X, pageL s.key s.r s.c s.p s.q s.zs = X := ⟨_, rfl⟩
  obtain ⟨Y, hY⟩ : ∃ X, pageL s.key pr pc pp pq s.zs = X := ⟨_, rfl⟩
  have HX : Hid (pageL s.key s.r s.c s.p s.q s.zs = X ∧ X.length = s.m + 28 ∧ Bytes X) := ⟨hX, by rw [← hX, pageL_length, hl], by rw [← hX]; exact pageL_bytes _ _ _ _ _ h.text.bytes⟩
  have HY : Hid (pageL s.key pr pc pp pq s.zs = Y ∧ Y.length = s.m + 28 ∧ Bytes Y) := ⟨hY, by rw [← hY, pageL_length, hl], by rw [← hY]; exact pageL_bytes _ _ _ _ _ h.text.bytes⟩
  rw [hX] at ho
  have hO : Hid (pOpens s.key pr pc pp pq X = false) := ho
  have HS : Hid ((∀ (ao : Option Addr) (n c : Nat), 12 ≤ c → ∀ W, (Instr.sliceAt 22 (.slice ao n c) none (some (.int .i64 12)) none).run Try.prog W = .ok (.slice (subA ao 0 c) 12 c) W) ∧ decide (X.take 12 = Y.take 12) = false) := by
    refine ⟨fun ao n c hc W => sl_h ao n c 12 hc W, ?_⟩
    rw [← hX, ← hY, pageL_head, pageL_head, hd_same h.hr h.hc gp.1 gp.2.1, e1]
    rfl
  clear h gp hX hY ho hl t1
  go_enter Try.func6, Try.ntmps6
  go_wp2_with (first | (refine wpList_box_new rfl 36 _ rfl (sheetC s) rfl ?_; intro w1 b1 s1 l1) | (refine wpList_box_new rfl 31 _ rfl (placeC pr pc pp pq) rfl ?_; intro w2 b2 s2 l2))
  rw [s1] at b2
  have H2 : Hid (ShAt w2 w.heap.size s ∧ Below w.heap.size w w2 ∧ Blk w2 (w.heap.size + 1) 31 (placeC pr pc pp pq)) := ⟨⟨b1.later l2 (by omega), HI.out.later (below_chain l1 l2 (by omega)) (Nat.le_refl _)⟩, below_chain l1 l2 (by omega), b2⟩
  clear b1 l1 b2 s2 l2 s1
  refine (pworks_any w2).mono ?_
  rintro e w3 ⟨rfl, l3⟩
  have H3 : Hid (ShAt w3 w.heap.size s ∧ Below w.heap.size w w3 ∧ Blk w3 (w.heap.size + 1) 31 (placeC pr pc pp pq)) := ⟨H2.out.1.later l3, below_chain H2.out.2.1 l3 H2.out.2.1.size, H2.out.2.2.later l3 H2.out.2.2.lt⟩
  have cT := H3.out.1.cT
  clear l3
  go_wp2_with fail
  refine region_inv [.val (.pointer (some ⟨w.heap.size, 0, none⟩)), .val (.agg (u8s s.key).toArray), .val (.pointer (some ⟨w.heap.size, 32, none⟩)), .val (.agg (placeC s.r s.c s.p s.q).toArray), .val (.pointer (some ⟨w.heap.size, 36, none⟩)), .val (.slice s.bo s.m s.d), .any (isO w.heap.size s.m s.zs) (isO_later _ _ _), .any (isT w.heap.size (s.m + 28) X 0) (isT_later _ _ _ _), .any (isT w.heap.size (s.m + 28) X 0) (isT_later _ _ _ _), .any (isO w.heap.size (s.m + 28) X) (isO_later _ _ _), .val (.int .i64 0), .any (isO w.heap.size (s.m + 28) X) (isO_later _ _ _)] (by kernel_rfl) (by kernel_rfl) (by kernel_rfl) ?_ ?_
  · refine Steps'.cons ?_ (Steps'.cons ?_ (Steps'.cons ?_ (Steps'.cons ?_ (Steps'.cons ?_ (Steps'.cons ?_ (Steps'.cons ?_ (Steps'.cons ?_ (Steps'.cons ?_ (Steps'.cons ?_ (Steps'.cons ?_ (Steps'.cons ?_ (Steps'.one _ _ _ _ _ _ _))))))))))))
    · intro ax wx hb hs hd
      have h2 : ax.tmps.getD 2 undef = (.pointer (some ⟨w.heap.size, 0, none⟩)) := hs 2 (by kernel_rfl)
      refine Does.value (.pointer (some ⟨w.heap.size, 0, none⟩)) ?_ rfl
      clear hs hd
      go_simp
    · intro ax wx hb hs hd
      have h22 : ax.tmps.getD 22 undef = (.pointer (some ⟨w.heap.size, 0, none⟩)) := hd 0 22 rfl (by kernel_rfl) (by decide)
      exact Does.load 27 (.tmp 22) rfl w.heap.size 0 h22 (u8s s.key) _ (H3.out.1.later hb).key Try.underlying27 rfl (by rw [u8s_length, H3.out.1.is.k32]; exact sizeKey)
    · intro ax wx hb hs hd
      have h2 : ax.tmps.getD 2 undef = (.pointer (some ⟨w.heap.size, 0, none⟩)) := hs 2 (by kernel_rfl)
      refine Does.value (.pointer (some ⟨w.heap.size, 32, none⟩)) ?_ rfl
      clear hs hd
      go_simp
    · intro ax wx hb hs hd
      have h24 : ax.tmps.getD 24 undef = (.pointer (some ⟨w.heap.size, 32, none⟩)) := hd 2 24 rfl (by kernel_rfl) (by decide)
      exact Does.load 31 (.tmp 24) rfl w.heap.size 32 h24 (placeC s.r s.c s.p s.q) _ (H3.out.1.later hb).place Try.underlying31 rfl pzKey
    · intro ax wx hb hs hd
      have h2 : ax.tmps.getD 2 undef = (.pointer (some ⟨w.heap.size, 0, none⟩)) := hs 2 (by kernel_rfl)
      refine Does.value (.pointer (some ⟨w.heap.size, 36, none⟩)) ?_ rfl
      clear hs hd
      go_simp
    · intro ax wx hb hs hd
      have h26 : ax.tmps.getD 26 undef = (.pointer (some ⟨w.heap.size, 36, none⟩)) := hd 4 26 rfl (by kernel_rfl) (by decide)
      have cx : wx.cell? ⟨w.heap.size, 36, none⟩ = some (.slice s.bo s.m s.d) := (H3.out.1.later hb).cT
      refine Does.value (.slice s.bo s.m s.d) ?_ rfl
      clear hs hd
      go_simp
    · intro ax wx hb hs hd
      have h27 : ax.tmps.getD 27 undef = (.slice s.bo s.m s.d) := hd 5 27 rfl (by kernel_rfl) (by decide)
      refine Does.call 12 #[(.slice s.bo s.m s.d)] (by clear hs hd; go_simp) ?_
      refine (copyB_any s.bo s.m s.d s.zs wx (H3.out.1.later hb).is.text).mono ?_
      rintro e w' ⟨v, rfl, o, l⟩
      exact ⟨_, rfl, ownsRow_base o (by have := hb.size; have := H3.out.2.1.size; omega), l⟩
    · intro ax wx hb hs hd
      have h23 : ax.tmps.getD 23 undef = (.agg (u8s s.key).toArray) := hd 1 23 rfl (by kernel_rfl) (by decide)
      have h25 : ax.tmps.getD 25 undef = (.agg (placeC s.r s.c s.p s.q).toArray) := hd 3 25 rfl (by kernel_rfl) (by decide)
      have p28 : (isO w.heap.size s.m s.zs) (ax.tmps.getD 28 undef) wx := hd 6 28 rfl (by kernel_rfl) (by decide)
      obtain ⟨o28, c28, h28, s28, k28, n28⟩ := pown_sl HI.out.text.len HI.out.text.bytes HI.out.text.top p28
      clear p28
      refine Does.call 9 #[(.agg (u8s s.key).toArray), (.agg (placeC s.r s.c s.p s.q).toArray), (.slice o28 s.m c28)] (by clear hs hd; go_simp) ?_
      refine (pseal_any s.key s.r s.c s.p s.q o28 s.m c28 s.zs HI.out.k32 HI.out.kb HI.out.hr HI.out.hc HI.out.hp HI.out.hq hbig wx s28 k28).mono ?_
      rintro e w' ⟨v, rfl, o, l⟩
      rw [HX.out.1] at o
      exact ⟨_, rfl, ⟨v, rfl, ownsRow_base o (by have := hb.size; have := H3.out.2.1.size; omega)⟩, l⟩
    · intro ax wx hb hs hd
      have p29 : (isT w.heap.size (s.m + 28) X 0) (ax.tmps.getD 29 undef) wx := hd 7 29 rfl (by kernel_rfl) (by decide)
      obtain ⟨u, h29, o⟩ := p29
      refine Does.value (.tuple #[u, .int .i64 0]) ?_ ⟨u, rfl, o⟩
      clear hs hd
      go_simp
    · intro ax wx hb hs hd
      have p21 : (isT w.heap.size (s.m + 28) X 0) (ax.tmps.getD 21 undef) wx := hd 8 21 rfl (by kernel_rfl) (by decide)
      obtain ⟨u, h21, o⟩ := p21
      refine Does.value u ?_ o
      clear hs hd
      go_simp
    · intro ax wx hb hs hd
      have p21 : (isT w.heap.size (s.m + 28) X 0) (ax.tmps.getD 21 undef) wx := hd 8 21 rfl (by kernel_rfl) (by decide)
      obtain ⟨u, h21, o⟩ := p21
      refine Does.value (.int .i64 0) ?_ rfl
      clear hs hd
      go_simp
    · intro ax wx hb hs hd
      have p30 : (isO w.heap.size (s.m + 28) X) (ax.tmps.getD 30 undef) wx := hd 9 30 rfl (by kernel_rfl) (by decide)
      obtain ⟨u, h30⟩ : ∃ u, ax.tmps.getD 30 undef = u := ⟨_, rfl⟩
      rw [h30] at p30
      refine Does.value u ?_ p30
      clear hs hd
      go_simp
  · intro wx hb
    refine @Ends.val _ _ _ _ _ _ _ _ _ (.pointer (some ⟨w.heap.size, 0, none⟩)) rfl ?_
    refine @Ends.val _ _ _ _ _ _ _ _ _ (.agg (u8s s.key).toArray) rfl ?_
    refine @Ends.val _ _ _ _ _ _ _ _ _ (.pointer (some ⟨w.heap.size, 32, none⟩)) rfl ?_
    refine @Ends.val _ _ _ _ _ _ _ _ _ (.agg (placeC s.r s.c s.p s.q).toArray) rfl ?_
    refine @Ends.val _ _ _ _ _ _ _ _ _ (.pointer (some ⟨w.heap.size, 36, none⟩)) rfl ?_
    refine @Ends.val _ _ _ _ _ _ _ _ _ (.slice s.bo s.m s.d) rfl ?_
    refine @Ends.any _ _ _ _ _ _ _ _ _ (isO w.heap.size s.m s.zs) (isO_later _ _ _) rfl ?_
    intro v28 p28
    refine @Ends.any _ _ _ _ _ _ _ _ _ (isT w.heap.size (s.m + 28) X 0) (isT_later _ _ _ _) rfl ?_
    intro v29 p29
    refine @Ends.any _ _ _ _ _ _ _ _ _ (isT w.heap.size (s.m + 28) X 0) (isT_later _ _ _ _) rfl ?_
    intro v21 p21
    refine @Ends.any _ _ _ _ _ _ _ _ _ (isO w.heap.size (s.m + 28) X) (isO_later _ _ _) rfl ?_
    intro v30 p30
    refine @Ends.val _ _ _ _ _ _ _ _ _ (.int .i64 0) rfl ?_
    refine @Ends.any _ _ _ _ _ _ _ _ _ (isO w.heap.size (s.m + 28) X) (isO_later _ _ _) rfl ?_
    intro v5 p5
    refine @Ends.one _ _ _ _ _ _ _ ?_
    simp only [Act.put, List.setIfInBounds_toArray, List.set_cons_zero, List.set_cons_succ]
    obtain ⟨ao5, ac5, rfl, s5, c5, _⟩ := pown_sl HX.out.2.1 HX.out.2.2 (by omega) p5
    have H5 : Hid (ShAt wx w.heap.size s ∧ Below w.heap.size w wx ∧ Blk wx (w.heap.size + 1) 31 (placeC pr pc pp pq) ∧ Seen wx ao5 (s.m + 28) X ∧ s.m + 28 ≤ ac5) := ⟨H3.out.1.later hb, below_chain H3.out.2.1 hb H3.out.2.1.size, H3.out.2.2.later hb H3.out.2.2.lt, s5, c5⟩
    clear p5 p30 p29 p28 p21 s5 cT
    refine last_assign (.tmp 31) rfl (some 6) rfl (.int .i64 0) rfl ?_
    simp only [Act.put, List.setIfInBounds_toArray, List.set_cons_zero, List.set_cons_succ]
    go_wp2_with fail
    refine region_inv [.val (.pointer (some ⟨w.heap.size, 0, none⟩)), .val (.agg (u8s s.key).toArray), .val (.agg (placeC pr pc pp pq).toArray), .val (.pointer (some ⟨w.heap.size, 36, none⟩)), .val (.slice s.bo s.m s.d), .any (isO w.heap.size s.m s.zs) (isO_later _ _ _), .any (isT w.heap.size (s.m + 28) Y 0) (isT_later _ _ _ _), .any (isT w.heap.size (s.m + 28) Y 0) (isT_later _ _ _ _), .any (isO w.heap.size (s.m + 28) Y) (isO_later _ _ _), .val (.int .i64 0), .any (isO w.heap.size (s.m + 28) Y) (isO_later _ _ _)] (by kernel_rfl) (by kernel_rfl) (by kernel_rfl) ?_ ?_
    · refine Steps'.cons ?_ (Steps'.cons ?_ (Steps'.cons ?_ (Steps'.cons ?_ (Steps'.cons ?_ (Steps'.cons ?_ (Steps'.cons ?_ (Steps'.cons ?_ (Steps'.cons ?_ (Steps'.cons ?_ (Steps'.cons ?_ (Steps'.one _ _ _ _ _ _ _)))))))))))
      · intro ax wx hb hs hd
        have h2 : ax.tmps.getD 2 undef = (.pointer (some ⟨w.heap.size, 0, none⟩)) := hs 2 (by kernel_rfl)
        refine Does.value (.pointer (some ⟨w.heap.size, 0, none⟩)) ?_ rfl
        clear hs hd
        go_simp
      · intro ax wx hb hs hd
        have h33 : ax.tmps.getD 33 undef = (.pointer (some ⟨w.heap.size, 0, none⟩)) := hd 0 33 rfl (by kernel_rfl) (by decide)
        exact Does.load 27 (.tmp 33) rfl w.heap.size 0 h33 (u8s s.key) _ (H5.out.1.later hb).key Try.underlying27 rfl (by rw [u8s_length, H5.out.1.is.k32]; exact sizeKey)
      · intro ax wx hb hs hd
        have h3 : ax.tmps.getD 3 undef = (.pointer (some ⟨w.heap.size + 1, 0, none⟩)) := hs 3 (by kernel_rfl)
        exact Does.load 31 (.tmp 3) rfl (w.heap.size + 1) 0 h3 (placeC pr pc pp pq) _ ((H5.out.2.2.1).later hb (H5.out.2.2.1).lt).all Try.underlying31 rfl pzKey
      · intro ax wx hb hs hd
        have h2 : ax.tmps.getD 2 undef = (.pointer (some ⟨w.heap.size, 0, none⟩)) := hs 2 (by kernel_rfl)
        refine Does.value (.pointer (some ⟨w.heap.size, 36, none⟩)) ?_ rfl
        clear hs hd
        go_simp
      · intro ax wx hb hs hd
        have h36 : ax.tmps.getD 36 undef = (.pointer (some ⟨w.heap.size, 36, none⟩)) := hd 3 36 rfl (by kernel_rfl) (by decide)
        have cx : wx.cell? ⟨w.heap.size, 36, none⟩ = some (.slice s.bo s.m s.d) := (H5.out.1.later hb).cT
        refine Does.value (.slice s.bo s.m s.d) ?_ rfl
        clear hs hd
        go_simp
      · intro ax wx hb hs hd
        have h37 : ax.tmps.getD 37 undef = (.slice s.bo s.m s.d) := hd 4 37 rfl (by kernel_rfl) (by decide)
        refine Does.call 12 #[(.slice s.bo s.m s.d)] (by clear hs hd; go_simp) ?_
        refine (copyB_any s.bo s.m s.d s.zs wx (H5.out.1.later hb).is.text).mono ?_
        rintro e w' ⟨v, rfl, o, l⟩
        exact ⟨_, rfl, ownsRow_base o (by have := hb.size; have := H5.out.2.1.size; omega), l⟩
      · intro ax wx hb hs hd
        have h34 : ax.tmps.getD 34 undef = (.agg (u8s s.key).toArray) := hd 1 34 rfl (by kernel_rfl) (by decide)
        have h35 : ax.tmps.getD 35 undef = (.agg (placeC pr pc pp pq).toArray) := hd 2 35 rfl (by kernel_rfl) (by decide)
        have p38 : (isO w.heap.size s.m s.zs) (ax.tmps.getD 38 undef) wx := hd 5 38 rfl (by kernel_rfl) (by decide)
        obtain ⟨o38, c38, h38, s38, k38, n38⟩ := pown_sl HI.out.text.len HI.out.text.bytes HI.out.text.top p38
        clear p38
        refine Does.call 9 #[(.agg (u8s s.key).toArray), (.agg (placeC pr pc pp pq).toArray), (.slice o38 s.m c38)] (by clear hs hd; go_simp) ?_
        refine (pseal_any s.key pr pc pp pq o38 s.m c38 s.zs HI.out.k32 HI.out.kb HP.out.1 HP.out.2.1 HP.out.2.2.1 HP.out.2.2.2 hbig wx s38 k38).mono ?_
        rintro e w' ⟨v, rfl, o, l⟩
        rw [HY.out.1] at o
        exact ⟨_, rfl, ⟨v, rfl, ownsRow_base o (by have := hb.size; have := H5.out.2.1.size; omega)⟩, l⟩
      · intro ax wx hb hs hd
        have p39 : (isT w.heap.size (s.m + 28) Y 0) (ax.tmps.getD 39 undef) wx := hd 6 39 rfl (by kernel_rfl) (by decide)
        obtain ⟨u, h39, o⟩ := p39
        refine Does.value (.tuple #[u, .int .i64 0]) ?_ ⟨u, rfl, o⟩
        clear hs hd
        go_simp
      · intro ax wx hb hs hd
        have p32 : (isT w.heap.size (s.m + 28) Y 0) (ax.tmps.getD 32 undef) wx := hd 7 32 rfl (by kernel_rfl) (by decide)
        obtain ⟨u, h32, o⟩ := p32
        refine Does.value u ?_ o
        clear hs hd
        go_simp
      · intro ax wx hb hs hd
        have p32 : (isT w.heap.size (s.m + 28) Y 0) (ax.tmps.getD 32 undef) wx := hd 7 32 rfl (by kernel_rfl) (by decide)
        obtain ⟨u, h32, o⟩ := p32
        refine Does.value (.int .i64 0) ?_ rfl
        clear hs hd
        go_simp
      · intro ax wx hb hs hd
        have p40 : (isO w.heap.size (s.m + 28) Y) (ax.tmps.getD 40 undef) wx := hd 8 40 rfl (by kernel_rfl) (by decide)
        obtain ⟨u, h40⟩ : ∃ u, ax.tmps.getD 40 undef = u := ⟨_, rfl⟩
        rw [h40] at p40
        refine Does.value u ?_ p40
        clear hs hd
        go_simp
    · intro wx4 hb
      refine @Ends.val _ _ _ _ _ _ _ _ _ (.pointer (some ⟨w.heap.size, 0, none⟩)) rfl ?_
      refine @Ends.val _ _ _ _ _ _ _ _ _ (.agg (u8s s.key).toArray) rfl ?_
      refine @Ends.val _ _ _ _ _ _ _ _ _ (.agg (placeC pr pc pp pq).toArray) rfl ?_
      refine @Ends.val _ _ _ _ _ _ _ _ _ (.pointer (some ⟨w.heap.size, 36, none⟩)) rfl ?_
      refine @Ends.val _ _ _ _ _ _ _ _ _ (.slice s.bo s.m s.d) rfl ?_
      refine @Ends.any _ _ _ _ _ _ _ _ _ (isO w.heap.size s.m s.zs) (isO_later _ _ _) rfl ?_
      intro v38 p38
      refine @Ends.any _ _ _ _ _ _ _ _ _ (isT w.heap.size (s.m + 28) Y 0) (isT_later _ _ _ _) rfl ?_
      intro v39 p39
      refine @Ends.any _ _ _ _ _ _ _ _ _ (isT w.heap.size (s.m + 28) Y 0) (isT_later _ _ _ _) rfl ?_
      intro v32 p32
      refine @Ends.any _ _ _ _ _ _ _ _ _ (isO w.heap.size (s.m + 28) Y) (isO_later _ _ _) rfl ?_
      intro v40 p40
      refine @Ends.val _ _ _ _ _ _ _ _ _ (.int .i64 0) rfl ?_
      refine @Ends.any _ _ _ _ _ _ _ _ _ (isO w.heap.size (s.m + 28) Y) (isO_later _ _ _) rfl ?_
      intro v7 p7
      refine @Ends.one _ _ _ _ _ _ _ ?_
      simp only [Act.put, List.setIfInBounds_toArray, List.set_cons_zero, List.set_cons_succ]
      obtain ⟨bo7, bc7, rfl, s7, c7, _⟩ := pown_sl HY.out.2.1 HY.out.2.2 (by omega) p7
      have H7 : Hid (ShAt wx4 w.heap.size s ∧ Below w.heap.size w wx4 ∧ Blk wx4 (w.heap.size + 1) 31 (placeC pr pc pp pq) ∧ Seen wx4 ao5 (s.m + 28) X ∧ s.m + 28 ≤ ac5 ∧ Seen wx4 bo7 (s.m + 28) Y ∧ s.m + 28 ≤ bc7) := ⟨H5.out.1.later hb, below_chain H5.out.2.1 hb H5.out.2.1.size, H5.out.2.2.1.later hb H5.out.2.2.1.lt, H5.out.2.2.2.1.later hb (Nat.le_refl _), H5.out.2.2.2.2, s7, c7⟩
      clear p7 p40 p39 p38 p32 s7
      have cR := H7.out.1.cR
      have cC := H7.out.1.cC
      have cr : wx4.cell? ⟨w.heap.size + 1, 0, none⟩ = some (.int .u64 pr) := H7.out.2.2.1.cell 0
      have cc : wx4.cell? ⟨w.heap.size + 1, 1, none⟩ = some (.int .u32 pc) := H7.out.2.2.1.cell 1
      refine last_assign (.tmp 41) rfl (some 8) rfl (.int .i64 0) rfl ?_
      simp only [Act.put, List.setIfInBounds_toArray, List.set_cons_zero, List.set_cons_succ]
      go_wp2_with fail
      clear cR cC cr cc
      refine region_inv [.val (.pointer (some ⟨w.heap.size, 0, none⟩)), .val (.agg (u8s s.key).toArray), .val (.agg (placeC pr pc pp pq).toArray), .val (.slice ao5 (s.m + 28) ac5), .any (isO w.heap.size (s.m + 28) X) (isO_later _ _ _), .val (.tuple #[.slice none 0 0, .int .i64 120]), .val (.tuple #[.slice none 0 0, .int .i64 120]), .val (.slice none 0 0), .val (.int .i64 120), .val (.slice none 0 0)] (by kernel_rfl) (by kernel_rfl) (by kernel_rfl) ?_ ?_
      · refine Steps'.cons ?_ (Steps'.cons ?_ (Steps'.cons ?_ (Steps'.cons ?_ (Steps'.cons ?_ (Steps'.cons ?_ (Steps'.cons ?_ (Steps'.cons ?_ (Steps'.cons ?_ (Steps'.cons ?_ (Steps'.one _ _ _ _ _ _ _))))))))))
        · intro ax wx hb hs hd
          have h2 : ax.tmps.getD 2 undef = (.pointer (some ⟨w.heap.size, 0, none⟩)) := hs 2 (by kernel_rfl)
          refine Does.value (.pointer (some ⟨w.heap.size, 0, none⟩)) ?_ rfl
          clear hs hd
          go_simp
        · intro ax wx hb hs hd
          have h73 : ax.tmps.getD 73 undef = (.pointer (some ⟨w.heap.size, 0, none⟩)) := hd 0 73 rfl (by kernel_rfl) (by decide)
          exact Does.load 27 (.tmp 73) rfl w.heap.size 0 h73 (u8s s.key) _ (H7.out.1.later hb).key Try.underlying27 rfl (by rw [u8s_length, H7.out.1.is.k32]; exact sizeKey)
        · intro ax wx hb hs hd
          have h3 : ax.tmps.getD 3 undef = (.pointer (some ⟨w.heap.size + 1, 0, none⟩)) := hs 3 (by kernel_rfl)
          exact Does.load 31 (.tmp 3) rfl (w.heap.size + 1) 0 h3 (placeC pr pc pp pq) _ ((H7.out.2.2.1).later hb (H7.out.2.2.1).lt).all Try.underlying31 rfl pzKey
        · intro ax wx hb hs hd
          have h5 : ax.tmps.getD 5 undef = (.slice ao5 (s.m + 28) ac5) := hs 5 (by kernel_rfl)
          refine Does.value (.slice ao5 (s.m + 28) ac5) ?_ rfl
          clear hs hd
          go_simp
        · intro ax wx hb hs hd
          have h76 : ax.tmps.getD 76 undef = (.slice ao5 (s.m + 28) ac5) := hd 3 76 rfl (by kernel_rfl) (by decide)
          refine Does.call 12 #[(.slice ao5 (s.m + 28) ac5)] (by clear hs hd; go_simp) ?_
          refine (copyB_any ao5 (s.m + 28) ac5 X wx (H7.out.2.2.2.1.later hb (Nat.le_refl _))).mono ?_
          rintro e w' ⟨v, rfl, o, l⟩
          exact ⟨_, rfl, ownsRow_base o (by have := hb.size; have := H7.out.2.1.size; omega), l⟩
        · intro ax wx hb hs hd
          have h74 : ax.tmps.getD 74 undef = (.agg (u8s s.key).toArray) := hd 1 74 rfl (by kernel_rfl) (by decide)
          have h75 : ax.tmps.getD 75 undef = (.agg (placeC pr pc pp pq).toArray) := hd 2 75 rfl (by kernel_rfl) (by decide)
          have p77 : (isO w.heap.size (s.m + 28) X) (ax.tmps.getD 77 undef) wx := hd 4 77 rfl (by kernel_rfl) (by decide)
          obtain ⟨o77, c77, h77, s77, k77, n77⟩ := pown_sl HX.out.2.1 HX.out.2.2 (by omega) p77
          clear p77
          refine Does.call 8 #[(.agg (u8s s.key).toArray), (.agg (placeC pr pc pp pq).toArray), (.slice o77 (s.m + 28) c77)] (by clear hs hd; go_simp) ?_
          refine (popen_bad s.key pr pc pp pq o77 (s.m + 28) c77 X HI.out.k32 HI.out.kb HP.out.1 HP.out.2.1 HP.out.2.2.1 HP.out.2.2.2 wx s77 k77 hO.out).mono ?_
          rintro e w' ⟨rfl, l⟩
          exact ⟨_, rfl, rfl, l⟩
        · intro ax wx hb hs hd
          have h78 : ax.tmps.getD 78 undef = (.tuple #[.slice none 0 0, .int .i64 120]) := hd 5 78 rfl (by kernel_rfl) (by decide)
          refine Does.value (.tuple #[.slice none 0 0, .int .i64 120]) ?_ rfl
          clear hs hd
          go_simp
        · intro ax wx hb hs hd
          have h72 : ax.tmps.getD 72 undef = (.tuple #[.slice none 0 0, .int .i64 120]) := hd 6 72 rfl (by kernel_rfl) (by decide)
          refine Does.value (.slice none 0 0) ?_ rfl
          clear hs hd
          go_simp
        · intro ax wx hb hs hd
          have h72 : ax.tmps.getD 72 undef = (.tuple #[.slice none 0 0, .int .i64 120]) := hd 6 72 rfl (by kernel_rfl) (by decide)
          refine Does.value (.int .i64 120) ?_ rfl
          clear hs hd
          go_simp
        · intro ax wx hb hs hd
          have h79 : ax.tmps.getD 79 undef = (.slice none 0 0) := hd 7 79 rfl (by kernel_rfl) (by decide)
          refine Does.value (.slice none 0 0) ?_ rfl
          clear hs hd
          go_simp
      · intro wx8 hb
        refine @Ends.val _ _ _ _ _ _ _ _ _ (.pointer (some ⟨w.heap.size, 0, none⟩)) rfl ?_
        refine @Ends.val _ _ _ _ _ _ _ _ _ (.agg (u8s s.key).toArray) rfl ?_
        refine @Ends.val _ _ _ _ _ _ _ _ _ (.agg (placeC pr pc pp pq).toArray) rfl ?_
        refine @Ends.val _ _ _ _ _ _ _ _ _ (.slice ao5 (s.m + 28) ac5) rfl ?_
        refine @Ends.any _ _ _ _ _ _ _ _ _ (isO w.heap.size (s.m + 28) X) (isO_later _ _ _) rfl ?_
        intro v77 p77
        refine @Ends.val _ _ _ _ _ _ _ _ _ (.tuple #[.slice none 0 0, .int .i64 120]) rfl ?_
        refine @Ends.val _ _ _ _ _ _ _ _ _ (.tuple #[.slice none 0 0, .int .i64 120]) rfl ?_
        refine @Ends.val _ _ _ _ _ _ _ _ _ (.slice none 0 0) rfl ?_
        refine @Ends.val _ _ _ _ _ _ _ _ _ (.int .i64 120) rfl ?_
        refine @Ends.val _ _ _ _ _ _ _ _ _ (.slice none 0 0) rfl ?_
        refine @Ends.one _ _ _ _ _ _ _ ?_
        simp only [Act.put, List.setIfInBounds_toArray, List.set_cons_zero, List.set_cons_succ]
        have D : True := trivial
        have H8 : Hid (Below w.heap.size w wx8 ∧ Seen wx8 (subA ao5 0 ac5) 12 (X.take 12) ∧ Seen wx8 (subA bo7 0 bc7) 12 (Y.take 12)) := ⟨below_chain H7.out.2.1 hb H7.out.2.1.size, first12 (H7.out.2.2.2.1.later hb (Nat.le_refl _)) (by omega) H7.out.2.2.2.2.1, first12 (H7.out.2.2.2.2.2.1.later hb (Nat.le_refl _)) (by omega) H7.out.2.2.2.2.2.2⟩
        clear p77
        refine last_assign (.tmp 80) rfl (some 11) rfl (.int .i64 120) rfl ?_
        simp only [Act.put, List.setIfInBounds_toArray, List.set_cons_zero, List.set_cons_succ]
        go_wp2_with fail
        refine region_inv [.val (.slice ao5 (s.m + 28) ac5), .val (.slice (subA ao5 0 ac5) 12 ac5), .val (.slice bo7 (s.m + 28) bc7), .val (.slice (subA bo7 0 bc7) 12 bc7), .val (.bool false), .val (.bool false), .val (.bool true)] (by kernel_rfl) (by kernel_rfl) (by kernel_rfl) ?_ ?_
        · refine Steps'.cons ?_ (Steps'.cons ?_ (Steps'.cons ?_ (Steps'.cons ?_ (Steps'.cons ?_ (Steps'.cons ?_ (Steps'.cons ?_ (Steps'.one _ _ _ _ _ _ _)))))))
          · intro ax wx hb hs hd
            have h5 : ax.tmps.getD 5 undef = (.slice ao5 (s.m + 28) ac5) := hs 5 (by kernel_rfl)
            refine Does.value (.slice ao5 (s.m + 28) ac5) ?_ rfl
            clear hs hd
            go_simp
          · intro ax wx hb hs hd
            have h92 : ax.tmps.getD 92 undef = (.slice ao5 (s.m + 28) ac5) := hd 0 92 rfl (by kernel_rfl) (by decide)
            have SA := HS.out.1 ao5 (s.m + 28) ac5 (by have := H7.out.2.2.2.2.1; omega)
            refine Does.value (.slice (subA ao5 0 ac5) 12 ac5) ?_ rfl
            clear hs hd
            go_simp
          · intro ax wx hb hs hd
            have h7 : ax.tmps.getD 7 undef = (.slice bo7 (s.m + 28) bc7) := hs 7 (by kernel_rfl)
            refine Does.value (.slice bo7 (s.m + 28) bc7) ?_ rfl
            clear hs hd
            go_simp
          · intro ax wx hb hs hd
            have h94 : ax.tmps.getD 94 undef = (.slice bo7 (s.m + 28) bc7) := hd 2 94 rfl (by kernel_rfl) (by decide)
            have SA := HS.out.1 bo7 (s.m + 28) bc7 (by have := H7.out.2.2.2.2.2.2; omega)
            refine Does.value (.slice (subA bo7 0 bc7) 12 bc7) ?_ rfl
            clear hs hd
            go_simp
          · intro ax wx hb hs hd
            have h93 : ax.tmps.getD 93 undef = (.slice (subA ao5 0 ac5) 12 ac5) := hd 1 93 rfl (by kernel_rfl) (by decide)
            have h95 : ax.tmps.getD 95 undef = (.slice (subA bo7 0 bc7) 12 bc7) := hd 3 95 rfl (by kernel_rfl) (by decide)
            refine Does.call 13 #[.slice (subA ao5 0 ac5) 12 ac5, .slice (subA bo7 0 bc7) 12 bc7] (by clear hs hd; go_simp) ?_
            refine (reqb_any (subA ao5 0 ac5) (subA bo7 0 bc7) 12 12 ac5 bc7 (X.take 12) (Y.take 12) wx (H8.out.2.1.later hb (Nat.le_refl _)) (H8.out.2.2.later hb (Nat.le_refl _))).mono ?_
            rintro e w' ⟨rfl, q, rfl⟩
            rw [HS.out.2]
            exact ⟨_, rfl, rfl, below_dn (Below.refl _ _) q⟩
          · intro ax wx hb hs hd
            have h9 : ax.tmps.getD 9 undef = (.bool false) := hs 9 (by kernel_rfl)
            refine Does.value (.bool false) ?_ rfl
            clear hs hd
            go_simp
          · intro ax wx hb hs hd
            have h96 : ax.tmps.getD 96 undef = (.bool false) := hd 4 96 rfl (by kernel_rfl) (by decide)
            have h97 : ax.tmps.getD 97 undef = (.bool false) := hd 5 97 rfl (by kernel_rfl) (by decide)
            refine Does.value (.bool true) ?_ rfl
            clear hs hd
            go_simp
        · intro wy hb
          refine @Ends.val _ _ _ _ _ _ _ _ _ (.slice ao5 (s.m + 28) ac5) rfl ?_
          refine @Ends.val _ _ _ _ _ _ _ _ _ (.slice (subA ao5 0 ac5) 12 ac5) rfl ?_
          refine @Ends.val _ _ _ _ _ _ _ _ _ (.slice bo7 (s.m + 28) bc7) rfl ?_
          refine @Ends.val _ _ _ _ _ _ _ _ _ (.slice (subA bo7 0 bc7) 12 bc7) rfl ?_
          refine @Ends.val _ _ _ _ _ _ _ _ _ (.bool false) rfl ?_
          refine @Ends.val _ _ _ _ _ _ _ _ _ (.bool false) rfl ?_
          refine @Ends.val _ _ _ _ _ _ _ _ _ (.bool true) rfl ?_
          refine @Ends.one _ _ _ _ _ _ _ ?_
          simp only [Act.put, List.setIfInBounds_toArray, List.set_cons_zero, List.set_cons_succ]
          refine last_assign (.tmp 98) rfl (some 4) rfl (.bool true) rfl ?_
          simp only [Act.put, List.setIfInBounds_toArray, List.set_cons_zero, List.set_cons_succ]
          have L := below_chain H8.out.1 hb H8.out.1.size
          clear hb
          go_wp2
          go_ret
          exact ⟨rfl, L⟩
set_option maxRecDepth 20000 in
set_option maxHeartbeats 4000000 in
theorem els_ne2 (s : Sh) (pr pc pp pq : Int) (w : World) (h : ShIn w s) (gp : Word pr ∧ U32 pc ∧ U32 pp ∧ U32 pq) (hbig : s.m ≤ 4096) (e1 : (pr == s.r) = true) (e2 : (pc == s.c) = false) (ho : pOpens s.key pr pc pp pq (pageL s.key s.r s.c s.p s.q s.zs) = false) : Calls Try.prog 6 #[.agg (sheetC s).toArray, .agg (placeC pr pc pp pq).toArray] w fun e w' => e = .returned (.bool true) ∧ Below w.heap.size w w' := by
  have HI : Hid (ShIn w s) := h
  have HP : Hid (Word pr ∧ U32 pc ∧ U32 pp ∧ U32 pq) := gp
  have t1 := h.text.top
  have i1 : ¬ (4096 : Int) < (s.m : Int) := by omega
  have i2 : ¬ ((s.m + 28 : Nat) : Int) < 28 := by omega
  have hl := h.text.len
  obtain ⟨X, hX⟩ : ∃ X, pageL s.key s.r s.c s.p s.q s.zs = X := ⟨_, rfl⟩
  obtain ⟨Y, hY⟩ : ∃ X, pageL s.key pr pc pp pq s.zs = X := ⟨_, rfl⟩
  have HX : Hid (pageL s.key s.r s.c s.p s.q s.zs = X ∧ X.length = s.m + 28 ∧ Bytes X) := ⟨hX, by rw [← hX, pageL_length, hl], by rw [← hX]; exact pageL_bytes _ _ _ _ _ h.text.bytes⟩
  have HY : Hid (pageL s.key pr pc pp pq s.zs = Y ∧ Y.length = s.m + 28 ∧ Bytes Y) := ⟨hY, by rw [← hY, pageL_length, hl], by rw [← hY]; exact pageL_bytes _ _ _ _ _ h.text.bytes⟩
  rw [hX] at ho
  have hO : Hid (pOpens s.key pr pc pp pq X = false) := ho
  have HS : Hid ((∀ (ao : Option Addr) (n c : Nat), 12 ≤ c → ∀ W, (Instr.sliceAt 22 (.slice ao n c) none (some (.int .i64 12)) none).run Try.prog W = .ok (.slice (subA ao 0 c) 12 c) W) ∧ decide (X.take 12 = Y.take 12) = false) := by
    refine ⟨fun ao n c hc W => sl_h ao n c 12 hc W, ?_⟩
    rw [← hX, ← hY, pageL_head, pageL_head, hd_same h.hr h.hc gp.1 gp.2.1, e1, e2]
    rfl
  clear h gp hX hY ho hl t1
  go_enter Try.func6, Try.ntmps6
  go_wp2_with (first | (refine wpList_box_new rfl 36 _ rfl (sheetC s) rfl ?_; intro w1 b1 s1 l1) | (refine wpList_box_new rfl 31 _ rfl (placeC pr pc pp pq) rfl ?_; intro w2 b2 s2 l2))
  rw [s1] at b2
  have H2 : Hid (ShAt w2 w.heap.size s ∧ Below w.heap.size w w2 ∧ Blk w2 (w.heap.size + 1) 31 (placeC pr pc pp pq)) := ⟨⟨b1.later l2 (by omega), HI.out.later (below_chain l1 l2 (by omega)) (Nat.le_refl _)⟩, below_chain l1 l2 (by omega), b2⟩
  clear b1 l1 b2 s2 l2 s1
  refine (pworks_any w2).mono ?_
  rintro e w3 ⟨rfl, l3⟩
  have H3 : Hid (ShAt w3 w.heap.size s ∧ Below w.heap.size w w3 ∧ Blk w3 (w.heap.size + 1) 31 (placeC pr pc pp pq)) := ⟨H2.out.1.later l3, below_chain H2.out.2.1 l3 H2.out.2.1.size, H2.out.2.2.later l3 H2.out.2.2.lt⟩
  have cT := H3.out.1.cT
  clear l3
  go_wp2_with fail
  refine region_inv [.val (.pointer (some ⟨w.heap.size, 0, none⟩)), .val (.agg (u8s s.key).toArray), .val (.pointer (some ⟨w.heap.size, 32, none⟩)), .val (.agg (placeC s.r s.c s.p s.q).toArray), .val (.pointer (some ⟨w.heap.size, 36, none⟩)), .val (.slice s.bo s.m s.d), .any (isO w.heap.size s.m s.zs) (isO_later _ _ _), .any (isT w.heap.size (s.m + 28) X 0) (isT_later _ _ _ _), .any (isT w.heap.size (s.m + 28) X 0) (isT_later _ _ _ _), .any (isO w.heap.size (s.m + 28) X) (isO_later _ _ _), .val (.int .i64 0), .any (isO w.heap.size (s.m + 28) X) (isO_later _ _ _)] (by kernel_rfl) (by kernel_rfl) (by kernel_rfl) ?_ ?_
  · refine Steps'.cons ?_ (Steps'.cons ?_ (Steps'.cons ?_ (Steps'.cons ?_ (Steps'.cons ?_ (Steps'.cons ?_ (Steps'.cons ?_ (Steps'.cons ?_ (Steps'.cons ?_ (Steps'.cons ?_ (Steps'.cons ?_ (Steps'.cons ?_ (Steps'.one _ _ _ _ _ _ _))))))))))))
    · intro ax wx hb hs hd
      have h2 : ax.tmps.getD 2 undef = (.pointer (some ⟨w.heap.size, 0, none⟩)) := hs 2 (by kernel_rfl)
      refine Does.value (.pointer (some ⟨w.heap.size, 0, none⟩)) ?_ rfl
      clear hs hd
      go_simp
    · intro ax wx hb hs hd
      have h22 : ax.tmps.getD 22 undef = (.pointer (some ⟨w.heap.size, 0, none⟩)) := hd 0 22 rfl (by kernel_rfl) (by decide)
      exact Does.load 27 (.tmp 22) rfl w.heap.size 0 h22 (u8s s.key) _ (H3.out.1.later hb).key Try.underlying27 rfl (by rw [u8s_length, H3.out.1.is.k32]; exact sizeKey)
    · intro ax wx hb hs hd
      have h2 : ax.tmps.getD 2 undef = (.pointer (some ⟨w.heap.size, 0, none⟩)) := hs 2 (by kernel_rfl)
      refine Does.value (.pointer (some ⟨w.heap.size, 32, none⟩)) ?_ rfl
      clear hs hd
      go_simp
    · intro ax wx hb hs hd
      have h24 : ax.tmps.getD 24 undef = (.pointer (some ⟨w.heap.size, 32, none⟩)) := hd 2 24 rfl (by kernel_rfl) (by decide)
      exact Does.load 31 (.tmp 24) rfl w.heap.size 32 h24 (placeC s.r s.c s.p s.q) _ (H3.out.1.later hb).place Try.underlying31 rfl pzKey
    · intro ax wx hb hs hd
      have h2 : ax.tmps.getD 2 undef = (.pointer (some ⟨w.heap.size, 0, none⟩)) := hs 2 (by kernel_rfl)
      refine Does.value (.pointer (some ⟨w.heap.size, 36, none⟩)) ?_ rfl
      clear hs hd
      go_simp
    · intro ax wx hb hs hd
      have h26 : ax.tmps.getD 26 undef = (.pointer (some ⟨w.heap.size, 36, none⟩)) := hd 4 26 rfl (by kernel_rfl) (by decide)
      have cx : wx.cell? ⟨w.heap.size, 36, none⟩ = some (.slice s.bo s.m s.d) := (H3.out.1.later hb).cT
      refine Does.value (.slice s.bo s.m s.d) ?_ rfl
      clear hs hd
      go_simp
    · intro ax wx hb hs hd
      have h27 : ax.tmps.getD 27 undef = (.slice s.bo s.m s.d) := hd 5 27 rfl (by kernel_rfl) (by decide)
      refine Does.call 12 #[(.slice s.bo s.m s.d)] (by clear hs hd; go_simp) ?_
      refine (copyB_any s.bo s.m s.d s.zs wx (H3.out.1.later hb).is.text).mono ?_
      rintro e w' ⟨v, rfl, o, l⟩
      exact ⟨_, rfl, ownsRow_base o (by have := hb.size; have := H3.out.2.1.size; omega), l⟩
    · intro ax wx hb hs hd
      have h23 : ax.tmps.getD 23 undef = (.agg (u8s s.key).toArray) := hd 1 23 rfl (by kernel_rfl) (by decide)
      have h25 : ax.tmps.getD 25 undef = (.agg (placeC s.r s.c s.p s.q).toArray) := hd 3 25 rfl (by kernel_rfl) (by decide)
      have p28 : (isO w.heap.size s.m s.zs) (ax.tmps.getD 28 undef) wx := hd 6 28 rfl (by kernel_rfl) (by decide)
      obtain ⟨o28, c28, h28, s28, k28, n28⟩ := pown_sl HI.out.text.len HI.out.text.bytes HI.out.text.top p28
      clear p28
      refine Does.call 9 #[(.agg (u8s s.key).toArray), (.agg (placeC s.r s.c s.p s.q).toArray), (.slice o28 s.m c28)] (by clear hs hd; go_simp) ?_
      refine (pseal_any s.key s.r s.c s.p s.q o28 s.m c28 s.zs HI.out.k32 HI.out.kb HI.out.hr HI.out.hc HI.out.hp HI.out.hq hbig wx s28 k28).mono ?_
      rintro e w' ⟨v, rfl, o, l⟩
      rw [HX.out.1] at o
      exact ⟨_, rfl, ⟨v, rfl, ownsRow_base o (by have := hb.size; have := H3.out.2.1.size; omega)⟩, l⟩
    · intro ax wx hb hs hd
      have p29 : (isT w.heap.size (s.m + 28) X 0) (ax.tmps.getD 29 undef) wx := hd 7 29 rfl (by kernel_rfl) (by decide)
      obtain ⟨u, h29, o⟩ := p29
      refine Does.value (.tuple #[u, .int .i64 0]) ?_ ⟨u, rfl, o⟩
      clear hs hd
      go_simp
    · intro ax wx hb hs hd
      have p21 : (isT w.heap.size (s.m + 28) X 0) (ax.tmps.getD 21 undef) wx := hd 8 21 rfl (by kernel_rfl) (by decide)
      obtain ⟨u, h21, o⟩ := p21
      refine Does.value u ?_ o
      clear hs hd
      go_simp
    · intro ax wx hb hs hd
      have p21 : (isT w.heap.size (s.m + 28) X 0) (ax.tmps.getD 21 undef) wx := hd 8 21 rfl (by kernel_rfl) (by decide)
      obtain ⟨u, h21, o⟩ := p21
      refine Does.value (.int .i64 0) ?_ rfl
      clear hs hd
      go_simp
    · intro ax wx hb hs hd
      have p30 : (isO w.heap.size (s.m + 28) X) (ax.tmps.getD 30 undef) wx := hd 9 30 rfl (by kernel_rfl) (by decide)
      obtain ⟨u, h30⟩ : ∃ u, ax.tmps.getD 30 undef = u := ⟨_, rfl⟩
      rw [h30] at p30
      refine Does.value u ?_ p30
      clear hs hd
      go_simp
  · intro wx hb
    refine @Ends.val _ _ _ _ _ _ _ _ _ (.pointer (some ⟨w.heap.size, 0, none⟩)) rfl ?_
    refine @Ends.val _ _ _ _ _ _ _ _ _ (.agg (u8s s.key).toArray) rfl ?_
    refine @Ends.val _ _ _ _ _ _ _ _ _ (.pointer (some ⟨w.heap.size, 32, none⟩)) rfl ?_
    refine @Ends.val _ _ _ _ _ _ _ _ _ (.agg (placeC s.r s.c s.p s.q).toArray) rfl ?_
    refine @Ends.val _ _ _ _ _ _ _ _ _ (.pointer (some ⟨w.heap.size, 36, none⟩)) rfl ?_
    refine @Ends.val _ _ _ _ _ _ _ _ _ (.slice s.bo s.m s.d) rfl ?_
    refine @Ends.any _ _ _ _ _ _ _ _ _ (isO w.heap.size s.m s.zs) (isO_later _ _ _) rfl ?_
    intro v28 p28
    refine @Ends.any _ _ _ _ _ _ _ _ _ (isT w.heap.size (s.m + 28) X 0) (isT_later _ _ _ _) rfl ?_
    intro v29 p29
    refine @Ends.any _ _ _ _ _ _ _ _ _ (isT w.heap.size (s.m + 28) X 0) (isT_later _ _ _ _) rfl ?_
    intro v21 p21
    refine @Ends.any _ _ _ _ _ _ _ _ _ (isO w.heap.size (s.m + 28) X) (isO_later _ _ _) rfl ?_
    intro v30 p30
    refine @Ends.val _ _ _ _ _ _ _ _ _ (.int .i64 0) rfl ?_
    refine @Ends.any _ _ _ _ _ _ _ _ _ (isO w.heap.size (s.m + 28) X) (isO_later _ _ _) rfl ?_
    intro v5 p5
    refine @Ends.one _ _ _ _ _ _ _ ?_
    simp only [Act.put, List.setIfInBounds_toArray, List.set_cons_zero, List.set_cons_succ]
    obtain ⟨ao5, ac5, rfl, s5, c5, _⟩ := pown_sl HX.out.2.1 HX.out.2.2 (by omega) p5
    have H5 : Hid (ShAt wx w.heap.size s ∧ Below w.heap.size w wx ∧ Blk wx (w.heap.size + 1) 31 (placeC pr pc pp pq) ∧ Seen wx ao5 (s.m + 28) X ∧ s.m + 28 ≤ ac5) := ⟨H3.out.1.later hb, below_chain H3.out.2.1 hb H3.out.2.1.size, H3.out.2.2.later hb H3.out.2.2.lt, s5, c5⟩
    clear p5 p30 p29 p28 p21 s5 cT
    refine last_assign (.tmp 31) rfl (some 6) rfl (.int .i64 0) rfl ?_
    simp only [Act.put, List.setIfInBounds_toArray, List.set_cons_zero, List.set_cons_succ]
    go_wp2_with fail
    refine region_inv [.val (.pointer (some ⟨w.heap.size, 0, none⟩)), .val (.agg (u8s s.key).toArray), .val (.agg (placeC pr pc pp pq).toArray), .val (.pointer (some ⟨w.heap.size, 36, none⟩)), .val (.slice s.bo s.m s.d), .any (isO w.heap.size s.m s.zs) (isO_later _ _ _), .any (isT w.heap.size (s.m + 28) Y 0) (isT_later _ _ _ _), .any (isT w.heap.size (s.m + 28) Y 0) (isT_later _ _ _ _), .any (isO w.heap.size (s.m + 28) Y) (isO_later _ _ _), .val (.int .i64 0), .any (isO w.heap.size (s.m + 28) Y) (isO_later _ _ _)] (by kernel_rfl) (by kernel_rfl) (by kernel_rfl) ?_ ?_
    · refine Steps'.cons ?_ (Steps'.cons ?_ (Steps'.cons ?_ (Steps'.cons ?_ (Steps'.cons ?_ (Steps'.cons ?_ (Steps'.cons ?_ (Steps'.cons ?_ (Steps'.cons ?_ (Steps'.cons ?_ (Steps'.cons ?_ (Steps'.one _ _ _ _ _ _ _)))))))))))
      · intro ax wx hb hs hd
        have h2 : ax.tmps.getD 2 undef = (.pointer (some ⟨w.heap.size, 0, none⟩)) := hs 2 (by kernel_rfl)
        refine Does.value (.pointer (some ⟨w.heap.size, 0, none⟩)) ?_ rfl
        clear hs hd
        go_simp
      · intro ax wx hb hs hd
        have h33 : ax.tmps.getD 33 undef = (.pointer (some ⟨w.heap.size, 0, none⟩)) := hd 0 33 rfl (by kernel_rfl) (by decide)
        exact Does.load 27 (.tmp 33) rfl w.heap.size 0 h33 (u8s s.key) _ (H5.out.1.later hb).key Try.underlying27 rfl (by rw [u8s_length, H5.out.1.is.k32]; exact sizeKey)
      · intro ax wx hb hs hd
        have h3 : ax.tmps.getD 3 undef = (.pointer (some ⟨w.heap.size + 1, 0, none⟩)) := hs 3 (by kernel_rfl)
        exact Does.load 31 (.tmp 3) rfl (w.heap.size + 1) 0 h3 (placeC pr pc pp pq) _ ((H5.out.2.2.1).later hb (H5.out.2.2.1).lt).all Try.underlying31 rfl pzKey
      · intro ax wx hb hs hd
        have h2 : ax.tmps.getD 2 undef = (.pointer (some ⟨w.heap.size, 0, none⟩)) := hs 2 (by kernel_rfl)
        refine Does.value (.pointer (some ⟨w.heap.size, 36, none⟩)) ?_ rfl
        clear hs hd
        go_simp
      · intro ax wx hb hs hd
        have h36 : ax.tmps.getD 36 undef = (.pointer (some ⟨w.heap.size, 36, none⟩)) := hd 3 36 rfl (by kernel_rfl) (by decide)
        have cx : wx.cell? ⟨w.heap.size, 36, none⟩ = some (.slice s.bo s.m s.d) := (H5.out.1.later hb).cT
        refine Does.value (.slice s.bo s.m s.d) ?_ rfl
        clear hs hd
        go_simp
      · intro ax wx hb hs hd
        have h37 : ax.tmps.getD 37 undef = (.slice s.bo s.m s.d) := hd 4 37 rfl (by kernel_rfl) (by decide)
        refine Does.call 12 #[(.slice s.bo s.m s.d)] (by clear hs hd; go_simp) ?_
        refine (copyB_any s.bo s.m s.d s.zs wx (H5.out.1.later hb).is.text).mono ?_
        rintro e w' ⟨v, rfl, o, l⟩
        exact ⟨_, rfl, ownsRow_base o (by have := hb.size; have := H5.out.2.1.size; omega), l⟩
      · intro ax wx hb hs hd
        have h34 : ax.tmps.getD 34 undef = (.agg (u8s s.key).toArray) := hd 1 34 rfl (by kernel_rfl) (by decide)
        have h35 : ax.tmps.getD 35 undef = (.agg (placeC pr pc pp pq).toArray) := hd 2 35 rfl (by kernel_rfl) (by decide)
        have p38 : (isO w.heap.size s.m s.zs) (ax.tmps.getD 38 undef) wx := hd 5 38 rfl (by kernel_rfl) (by decide)
        obtain ⟨o38, c38, h38, s38, k38, n38⟩ := pown_sl HI.out.text.len HI.out.text.bytes HI.out.text.top p38
        clear p38
        refine Does.call 9 #[(.agg (u8s s.key).toArray), (.agg (placeC pr pc pp pq).toArray), (.slice o38 s.m c38)] (by clear hs hd; go_simp) ?_
        refine (pseal_any s.key pr pc pp pq o38 s.m c38 s.zs HI.out.k32 HI.out.kb HP.out.1 HP.out.2.1 HP.out.2.2.1 HP.out.2.2.2 hbig wx s38 k38).mono ?_
        rintro e w' ⟨v, rfl, o, l⟩
        rw [HY.out.1] at o
        exact ⟨_, rfl, ⟨v, rfl, ownsRow_base o (by have := hb.size; have := H5.out.2.1.size; omega)⟩, l⟩
      · intro ax wx hb hs hd
        have p39 : (isT w.heap.size (s.m + 28) Y 0) (ax.tmps.getD 39 undef) wx := hd 6 39 rfl (by kernel_rfl) (by decide)
        obtain ⟨u, h39, o⟩ := p39
        refine Does.value (.tuple #[u, .int .i64 0]) ?_ ⟨u, rfl, o⟩
        clear hs hd
        go_simp
      · intro ax wx hb hs hd
        have p32 : (isT w.heap.size (s.m + 28) Y 0) (ax.tmps.getD 32 undef) wx := hd 7 32 rfl (by kernel_rfl) (by decide)
        obtain ⟨u, h32, o⟩ := p32
        refine Does.value u ?_ o
        clear hs hd
        go_simp
      · intro ax wx hb hs hd
        have p32 : (isT w.heap.size (s.m + 28) Y 0) (ax.tmps.getD 32 undef) wx := hd 7 32 rfl (by kernel_rfl) (by decide)
        obtain ⟨u, h32, o⟩ := p32
        refine Does.value (.int .i64 0) ?_ rfl
        clear hs hd
        go_simp
      · intro ax wx hb hs hd
        have p40 : (isO w.heap.size (s.m + 28) Y) (ax.tmps.getD 40 undef) wx := hd 8 40 rfl (by kernel_rfl) (by decide)
        obtain ⟨u, h40⟩ : ∃ u, ax.tmps.getD 40 undef = u := ⟨_, rfl⟩
        rw [h40] at p40
        refine Does.value u ?_ p40
        clear hs hd
        go_simp
    · intro wx4 hb
      refine @Ends.val _ _ _ _ _ _ _ _ _ (.pointer (some ⟨w.heap.size, 0, none⟩)) rfl ?_
      refine @Ends.val _ _ _ _ _ _ _ _ _ (.agg (u8s s.key).toArray) rfl ?_
      refine @Ends.val _ _ _ _ _ _ _ _ _ (.agg (placeC pr pc pp pq).toArray) rfl ?_
      refine @Ends.val _ _ _ _ _ _ _ _ _ (.pointer (some ⟨w.heap.size, 36, none⟩)) rfl ?_
      refine @Ends.val _ _ _ _ _ _ _ _ _ (.slice s.bo s.m s.d) rfl ?_
      refine @Ends.any _ _ _ _ _ _ _ _ _ (isO w.heap.size s.m s.zs) (isO_later _ _ _) rfl ?_
      intro v38 p38
      refine @Ends.any _ _ _ _ _ _ _ _ _ (isT w.heap.size (s.m + 28) Y 0) (isT_later _ _ _ _) rfl ?_
      intro v39 p39
      refine @Ends.any _ _ _ _ _ _ _ _ _ (isT w.heap.size (s.m + 28) Y 0) (isT_later _ _ _ _) rfl ?_
      intro v32 p32
      refine @Ends.any _ _ _ _ _ _ _ _ _ (isO w.heap.size (s.m + 28) Y) (isO_later _ _ _) rfl ?_
      intro v40 p40
      refine @Ends.val _ _ _ _ _ _ _ _ _ (.int .i64 0) rfl ?_
      refine @Ends.any _ _ _ _ _ _ _ _ _ (isO w.heap.size (s.m + 28) Y) (isO_later _ _ _) rfl ?_
      intro v7 p7
      refine @Ends.one _ _ _ _ _ _ _ ?_
      simp only [Act.put, List.setIfInBounds_toArray, List.set_cons_zero, List.set_cons_succ]
      obtain ⟨bo7, bc7, rfl, s7, c7, _⟩ := pown_sl HY.out.2.1 HY.out.2.2 (by omega) p7
      have H7 : Hid (ShAt wx4 w.heap.size s ∧ Below w.heap.size w wx4 ∧ Blk wx4 (w.heap.size + 1) 31 (placeC pr pc pp pq) ∧ Seen wx4 ao5 (s.m + 28) X ∧ s.m + 28 ≤ ac5 ∧ Seen wx4 bo7 (s.m + 28) Y ∧ s.m + 28 ≤ bc7) := ⟨H5.out.1.later hb, below_chain H5.out.2.1 hb H5.out.2.1.size, H5.out.2.2.1.later hb H5.out.2.2.1.lt, H5.out.2.2.2.1.later hb (Nat.le_refl _), H5.out.2.2.2.2, s7, c7⟩
      clear p7 p40 p39 p38 p32 s7
      have cR := H7.out.1.cR
      have cC := H7.out.1.cC
      have cr : wx4.cell? ⟨w.heap.size + 1, 0, none⟩ = some (.int .u64 pr) := H7.out.2.2.1.cell 0
      have cc : wx4.cell? ⟨w.heap.size + 1, 1, none⟩ = some (.int .u32 pc) := H7.out.2.2.1.cell 1
      refine last_assign (.tmp 41) rfl (some 8) rfl (.int .i64 0) rfl ?_
      simp only [Act.put, List.setIfInBounds_toArray, List.set_cons_zero, List.set_cons_succ]
      go_wp2_with fail
      clear cR cC cr cc
      refine region_inv [.val (.pointer (some ⟨w.heap.size, 0, none⟩)), .val (.agg (u8s s.key).toArray), .val (.agg (placeC pr pc pp pq).toArray), .val (.slice ao5 (s.m + 28) ac5), .any (isO w.heap.size (s.m + 28) X) (isO_later _ _ _), .val (.tuple #[.slice none 0 0, .int .i64 120]), .val (.tuple #[.slice none 0 0, .int .i64 120]), .val (.slice none 0 0), .val (.int .i64 120), .val (.slice none 0 0)] (by kernel_rfl) (by kernel_rfl) (by kernel_rfl) ?_ ?_
      · refine Steps'.cons ?_ (Steps'.cons ?_ (Steps'.cons ?_ (Steps'.cons ?_ (Steps'.cons ?_ (Steps'.cons ?_ (Steps'.cons ?_ (Steps'.cons ?_ (Steps'.cons ?_ (Steps'.cons ?_ (Steps'.one _ _ _ _ _ _ _))))))))))
        · intro ax wx hb hs hd
          have h2 : ax.tmps.getD 2 undef = (.pointer (some ⟨w.heap.size, 0, none⟩)) := hs 2 (by kernel_rfl)
          refine Does.value (.pointer (some ⟨w.heap.size, 0, none⟩)) ?_ rfl
          clear hs hd
          go_simp
        · intro ax wx hb hs hd
          have h73 : ax.tmps.getD 73 undef = (.pointer (some ⟨w.heap.size, 0, none⟩)) := hd 0 73 rfl (by kernel_rfl) (by decide)
          exact Does.load 27 (.tmp 73) rfl w.heap.size 0 h73 (u8s s.key) _ (H7.out.1.later hb).key Try.underlying27 rfl (by rw [u8s_length, H7.out.1.is.k32]; exact sizeKey)
        · intro ax wx hb hs hd
          have h3 : ax.tmps.getD 3 undef = (.pointer (some ⟨w.heap.size + 1, 0, none⟩)) := hs 3 (by kernel_rfl)
          exact Does.load 31 (.tmp 3) rfl (w.heap.size + 1) 0 h3 (placeC pr pc pp pq) _ ((H7.out.2.2.1).later hb (H7.out.2.2.1).lt).all Try.underlying31 rfl pzKey
        · intro ax wx hb hs hd
          have h5 : ax.tmps.getD 5 undef = (.slice ao5 (s.m + 28) ac5) := hs 5 (by kernel_rfl)
          refine Does.value (.slice ao5 (s.m + 28) ac5) ?_ rfl
          clear hs hd
          go_simp
        · intro ax wx hb hs hd
          have h76 : ax.tmps.getD 76 undef = (.slice ao5 (s.m + 28) ac5) := hd 3 76 rfl (by kernel_rfl) (by decide)
          refine Does.call 12 #[(.slice ao5 (s.m + 28) ac5)] (by clear hs hd; go_simp) ?_
          refine (copyB_any ao5 (s.m + 28) ac5 X wx (H7.out.2.2.2.1.later hb (Nat.le_refl _))).mono ?_
          rintro e w' ⟨v, rfl, o, l⟩
          exact ⟨_, rfl, ownsRow_base o (by have := hb.size; have := H7.out.2.1.size; omega), l⟩
        · intro ax wx hb hs hd
          have h74 : ax.tmps.getD 74 undef = (.agg (u8s s.key).toArray) := hd 1 74 rfl (by kernel_rfl) (by decide)
          have h75 : ax.tmps.getD 75 undef = (.agg (placeC pr pc pp pq).toArray) := hd 2 75 rfl (by kernel_rfl) (by decide)
          have p77 : (isO w.heap.size (s.m + 28) X) (ax.tmps.getD 77 undef) wx := hd 4 77 rfl (by kernel_rfl) (by decide)
          obtain ⟨o77, c77, h77, s77, k77, n77⟩ := pown_sl HX.out.2.1 HX.out.2.2 (by omega) p77
          clear p77
          refine Does.call 8 #[(.agg (u8s s.key).toArray), (.agg (placeC pr pc pp pq).toArray), (.slice o77 (s.m + 28) c77)] (by clear hs hd; go_simp) ?_
          refine (popen_bad s.key pr pc pp pq o77 (s.m + 28) c77 X HI.out.k32 HI.out.kb HP.out.1 HP.out.2.1 HP.out.2.2.1 HP.out.2.2.2 wx s77 k77 hO.out).mono ?_
          rintro e w' ⟨rfl, l⟩
          exact ⟨_, rfl, rfl, l⟩
        · intro ax wx hb hs hd
          have h78 : ax.tmps.getD 78 undef = (.tuple #[.slice none 0 0, .int .i64 120]) := hd 5 78 rfl (by kernel_rfl) (by decide)
          refine Does.value (.tuple #[.slice none 0 0, .int .i64 120]) ?_ rfl
          clear hs hd
          go_simp
        · intro ax wx hb hs hd
          have h72 : ax.tmps.getD 72 undef = (.tuple #[.slice none 0 0, .int .i64 120]) := hd 6 72 rfl (by kernel_rfl) (by decide)
          refine Does.value (.slice none 0 0) ?_ rfl
          clear hs hd
          go_simp
        · intro ax wx hb hs hd
          have h72 : ax.tmps.getD 72 undef = (.tuple #[.slice none 0 0, .int .i64 120]) := hd 6 72 rfl (by kernel_rfl) (by decide)
          refine Does.value (.int .i64 120) ?_ rfl
          clear hs hd
          go_simp
        · intro ax wx hb hs hd
          have h79 : ax.tmps.getD 79 undef = (.slice none 0 0) := hd 7 79 rfl (by kernel_rfl) (by decide)
          refine Does.value (.slice none 0 0) ?_ rfl
          clear hs hd
          go_simp
      · intro wx8 hb
        refine @Ends.val _ _ _ _ _ _ _ _ _ (.pointer (some ⟨w.heap.size, 0, none⟩)) rfl ?_
        refine @Ends.val _ _ _ _ _ _ _ _ _ (.agg (u8s s.key).toArray) rfl ?_
        refine @Ends.val _ _ _ _ _ _ _ _ _ (.agg (placeC pr pc pp pq).toArray) rfl ?_
        refine @Ends.val _ _ _ _ _ _ _ _ _ (.slice ao5 (s.m + 28) ac5) rfl ?_
        refine @Ends.any _ _ _ _ _ _ _ _ _ (isO w.heap.size (s.m + 28) X) (isO_later _ _ _) rfl ?_
        intro v77 p77
        refine @Ends.val _ _ _ _ _ _ _ _ _ (.tuple #[.slice none 0 0, .int .i64 120]) rfl ?_
        refine @Ends.val _ _ _ _ _ _ _ _ _ (.tuple #[.slice none 0 0, .int .i64 120]) rfl ?_
        refine @Ends.val _ _ _ _ _ _ _ _ _ (.slice none 0 0) rfl ?_
        refine @Ends.val _ _ _ _ _ _ _ _ _ (.int .i64 120) rfl ?_
        refine @Ends.val _ _ _ _ _ _ _ _ _ (.slice none 0 0) rfl ?_
        refine @Ends.one _ _ _ _ _ _ _ ?_
        simp only [Act.put, List.setIfInBounds_toArray, List.set_cons_zero, List.set_cons_succ]
        have D : True := trivial
        have H8 : Hid (Below w.heap.size w wx8 ∧ Seen wx8 (subA ao5 0 ac5) 12 (X.take 12) ∧ Seen wx8 (subA bo7 0 bc7) 12 (Y.take 12)) := ⟨below_chain H7.out.2.1 hb H7.out.2.1.size, first12 (H7.out.2.2.2.1.later hb (Nat.le_refl _)) (by omega) H7.out.2.2.2.2.1, first12 (H7.out.2.2.2.2.2.1.later hb (Nat.le_refl _)) (by omega) H7.out.2.2.2.2.2.2⟩
        clear p77
        refine last_assign (.tmp 80) rfl (some 11) rfl (.int .i64 120) rfl ?_
        simp only [Act.put, List.setIfInBounds_toArray, List.set_cons_zero, List.set_cons_succ]
        go_wp2_with fail
        refine region_inv [.val (.slice ao5 (s.m + 28) ac5), .val (.slice (subA ao5 0 ac5) 12 ac5), .val (.slice bo7 (s.m + 28) bc7), .val (.slice (subA bo7 0 bc7) 12 bc7), .val (.bool false), .val (.bool false), .val (.bool true)] (by kernel_rfl) (by kernel_rfl) (by kernel_rfl) ?_ ?_
        · refine Steps'.cons ?_ (Steps'.cons ?_ (Steps'.cons ?_ (Steps'.cons ?_ (Steps'.cons ?_ (Steps'.cons ?_ (Steps'.cons ?_ (Steps'.one _ _ _ _ _ _ _)))))))
          · intro ax wx hb hs hd
            have h5 : ax.tmps.getD 5 undef = (.slice ao5 (s.m + 28) ac5) := hs 5 (by kernel_rfl)
            refine Does.value (.slice ao5 (s.m + 28) ac5) ?_ rfl
            clear hs hd
            go_simp
          · intro ax wx hb hs hd
            have h92 : ax.tmps.getD 92 undef = (.slice ao5 (s.m + 28) ac5) := hd 0 92 rfl (by kernel_rfl) (by decide)
            have SA := HS.out.1 ao5 (s.m + 28) ac5 (by have := H7.out.2.2.2.2.1; omega)
            refine Does.value (.slice (subA ao5 0 ac5) 12 ac5) ?_ rfl
            clear hs hd
            go_simp
          · intro ax wx hb hs hd
            have h7 : ax.tmps.getD 7 undef = (.slice bo7 (s.m + 28) bc7) := hs 7 (by kernel_rfl)
            refine Does.value (.slice bo7 (s.m + 28) bc7) ?_ rfl
            clear hs hd
            go_simp
          · intro ax wx hb hs hd
            have h94 : ax.tmps.getD 94 undef = (.slice bo7 (s.m + 28) bc7) := hd 2 94 rfl (by kernel_rfl) (by decide)
            have SA := HS.out.1 bo7 (s.m + 28) bc7 (by have := H7.out.2.2.2.2.2.2; omega)
            refine Does.value (.slice (subA bo7 0 bc7) 12 bc7) ?_ rfl
            clear hs hd
            go_simp
          · intro ax wx hb hs hd
            have h93 : ax.tmps.getD 93 undef = (.slice (subA ao5 0 ac5) 12 ac5) := hd 1 93 rfl (by kernel_rfl) (by decide)
            have h95 : ax.tmps.getD 95 undef = (.slice (subA bo7 0 bc7) 12 bc7) := hd 3 95 rfl (by kernel_rfl) (by decide)
            refine Does.call 13 #[.slice (subA ao5 0 ac5) 12 ac5, .slice (subA bo7 0 bc7) 12 bc7] (by clear hs hd; go_simp) ?_
            refine (reqb_any (subA ao5 0 ac5) (subA bo7 0 bc7) 12 12 ac5 bc7 (X.take 12) (Y.take 12) wx (H8.out.2.1.later hb (Nat.le_refl _)) (H8.out.2.2.later hb (Nat.le_refl _))).mono ?_
            rintro e w' ⟨rfl, q, rfl⟩
            rw [HS.out.2]
            exact ⟨_, rfl, rfl, below_dn (Below.refl _ _) q⟩
          · intro ax wx hb hs hd
            have h9 : ax.tmps.getD 9 undef = (.bool false) := hs 9 (by kernel_rfl)
            refine Does.value (.bool false) ?_ rfl
            clear hs hd
            go_simp
          · intro ax wx hb hs hd
            have h96 : ax.tmps.getD 96 undef = (.bool false) := hd 4 96 rfl (by kernel_rfl) (by decide)
            have h97 : ax.tmps.getD 97 undef = (.bool false) := hd 5 97 rfl (by kernel_rfl) (by decide)
            refine Does.value (.bool true) ?_ rfl
            clear hs hd
            go_simp
        · intro wy hb
          refine @Ends.val _ _ _ _ _ _ _ _ _ (.slice ao5 (s.m + 28) ac5) rfl ?_
          refine @Ends.val _ _ _ _ _ _ _ _ _ (.slice (subA ao5 0 ac5) 12 ac5) rfl ?_
          refine @Ends.val _ _ _ _ _ _ _ _ _ (.slice bo7 (s.m + 28) bc7) rfl ?_
          refine @Ends.val _ _ _ _ _ _ _ _ _ (.slice (subA bo7 0 bc7) 12 bc7) rfl ?_
          refine @Ends.val _ _ _ _ _ _ _ _ _ (.bool false) rfl ?_
          refine @Ends.val _ _ _ _ _ _ _ _ _ (.bool false) rfl ?_
          refine @Ends.val _ _ _ _ _ _ _ _ _ (.bool true) rfl ?_
          refine @Ends.one _ _ _ _ _ _ _ ?_
          simp only [Act.put, List.setIfInBounds_toArray, List.set_cons_zero, List.set_cons_succ]
          refine last_assign (.tmp 98) rfl (some 4) rfl (.bool true) rfl ?_
          simp only [Act.put, List.setIfInBounds_toArray, List.set_cons_zero, List.set_cons_succ]
          have L := below_chain H8.out.1 hb H8.out.1.size
          clear hb
          go_wp2
          go_ret
          exact ⟨rfl, L⟩
theorem pageElsewhere.walk (s : Sh) (pr pc pp pq : Int) (w : World) (h : ShIn w s) (_ : s.m ≤ 140737488351232) (gp : Word pr ∧ U32 pc ∧ U32 pp ∧ U32 pq) : Calls Try.prog 6 #[.agg (sheetC s).toArray, .agg (placeC pr pc pp pq).toArray] w fun e w' => e = .returned (.bool true) ∧ Below w.heap.size w w' := by
  by_cases hb : 4096 < s.m
  · exact els_big s pr pc pp pq w h gp hb
  · have hb' : s.m ≤ 4096 := by omega
    have ht := tell_page s.key s.r s.c s.p s.q h.text.bytes h.hr h.hc
    have bad : (s.r == pr && s.c == pc) = false → pOpens s.key pr pc pp pq (pageL s.key s.r s.c s.p s.q s.zs) = false := fun hh => by
      rw [pOpens, ht.1, ht.2, hh, Bool.false_and, Bool.and_false]
    cases e1 : (pr == s.r) with
    | false =>
      refine els_ne1 s pr pc pp pq w h gp hb' e1 (bad ?_)
      have : ¬ pr = s.r := by simpa using e1
      simp only [Bool.and_eq_false_iff, beq_eq_false_iff_ne]
      exact .inl (fun h => this h.symm)
    | true =>
      cases e2 : (pc == s.c) with
      | false =>
        refine els_ne2 s pr pc pp pq w h gp hb' e1 e2 (bad ?_)
        have : ¬ pc = s.c := by simpa using e2
        simp only [Bool.and_eq_false_iff, beq_eq_false_iff_ne]
        exact .inr (fun h => this h.symm)
      | true =>
        cases ho : pOpens s.key pr pc pp pq (pageL s.key s.r s.c s.p s.q s.zs) with
        | false => exact els_no s pr pc pp pq w h gp hb' e1 e2 ho
        | true => exact els_yes s pr pc pp pq w h gp hb' e1 e2 ho
end Go.Proofs.Ytcimiajkbgabiaa
