/- The walk of PageReturns. -/
import Derived.Test.YtcimiajkbgabiaaZG
namespace Go.Proofs.Ytcimiajkbgabiaa
open Go.RowKit
set_option linter.unusedVariables false
set_option linter.unusedSimpArgs false

set_option maxRecDepth 20000 in
set_option maxHeartbeats 4000000 in
theorem ret_big (s : Sh) (w : World) (h : ShIn w s) (hbig : 4096 < s.m) : Calls Try.prog 4 #[.agg (sheetC s).toArray] w fun e w' => e = .returned (.bool true) ∧ Below w.heap.size w w' := by
  have t1 := h.text.top
  have HI : Hid (ShIn w s) := h
  clear h
  have i1 : (4096 : Int) < (s.m : Int) := by omega
  go_enter Try.func4, Try.ntmps4
  go_wp2_with (first | (refine wpList_box_new rfl 36 _ rfl (sheetC s) rfl ?_; intro w1 b1 s1 l1))
  have H1 : Hid (ShAt w1 w.heap.size s ∧ Below w.heap.size w w1) := ⟨⟨b1, HI.out.later l1 (Nat.le_refl _)⟩, l1⟩
  clear b1 s1 l1
  refine region_inv [.val (.pointer (some ⟨w.heap.size, 0, none⟩)), .val (.agg (u8s s.key).toArray), .val (.pointer (some ⟨w.heap.size, 32, none⟩)), .val (.agg (placeC s.r s.c s.p s.q).toArray), .val (.pointer (some ⟨w.heap.size, 36, none⟩)), .val (.slice s.bo s.m s.d), .any (isO w.heap.size s.m s.zs) (isO_later _ _ _), .val (.tuple #[.slice none 0 0, .int .i64 3]), .val (.tuple #[.slice none 0 0, .int .i64 3]), .val (.slice none 0 0), .val (.int .i64 3), .val (.slice none 0 0)] (by kernel_rfl) (by kernel_rfl) (by kernel_rfl) ?_ ?_
  · refine Steps'.cons ?_ (Steps'.cons ?_ (Steps'.cons ?_ (Steps'.cons ?_ (Steps'.cons ?_ (Steps'.cons ?_ (Steps'.cons ?_ (Steps'.cons ?_ (Steps'.cons ?_ (Steps'.cons ?_ (Steps'.cons ?_ (Steps'.cons ?_ (Steps'.one _ _ _ _ _ _ _))))))))))))
    · intro ax wx hb hs hd
      have h1 : ax.tmps.getD 1 undef = (.pointer (some ⟨w.heap.size, 0, none⟩)) := hs 1 (by kernel_rfl)
      refine Does.value (.pointer (some ⟨w.heap.size, 0, none⟩)) ?_ rfl
      clear hs hd
      go_simp
    · intro ax wx hb hs hd
      have h11 : ax.tmps.getD 11 undef = (.pointer (some ⟨w.heap.size, 0, none⟩)) := hd 0 11 rfl (by kernel_rfl) (by decide)
      exact Does.load 27 (.tmp 11) rfl w.heap.size 0 h11 (u8s s.key) _ (H1.out.1.later hb).key Try.underlying27 rfl (by rw [u8s_length, H1.out.1.is.k32]; exact sizeKey)
    · intro ax wx hb hs hd
      have h1 : ax.tmps.getD 1 undef = (.pointer (some ⟨w.heap.size, 0, none⟩)) := hs 1 (by kernel_rfl)
      refine Does.value (.pointer (some ⟨w.heap.size, 32, none⟩)) ?_ rfl
      clear hs hd
      go_simp
    · intro ax wx hb hs hd
      have h13 : ax.tmps.getD 13 undef = (.pointer (some ⟨w.heap.size, 32, none⟩)) := hd 2 13 rfl (by kernel_rfl) (by decide)
      exact Does.load 31 (.tmp 13) rfl w.heap.size 32 h13 (placeC s.r s.c s.p s.q) _ (H1.out.1.later hb).place Try.underlying31 rfl pzKey
    · intro ax wx hb hs hd
      have h1 : ax.tmps.getD 1 undef = (.pointer (some ⟨w.heap.size, 0, none⟩)) := hs 1 (by kernel_rfl)
      refine Does.value (.pointer (some ⟨w.heap.size, 36, none⟩)) ?_ rfl
      clear hs hd
      go_simp
    · intro ax wx hb hs hd
      have h15 : ax.tmps.getD 15 undef = (.pointer (some ⟨w.heap.size, 36, none⟩)) := hd 4 15 rfl (by kernel_rfl) (by decide)
      have cx : wx.cell? ⟨w.heap.size, 36, none⟩ = some (.slice s.bo s.m s.d) := (H1.out.1.later hb).cT
      refine Does.value (.slice s.bo s.m s.d) ?_ rfl
      clear hs hd
      go_simp
    · intro ax wx hb hs hd
      have h16 : ax.tmps.getD 16 undef = (.slice s.bo s.m s.d) := hd 5 16 rfl (by kernel_rfl) (by decide)
      refine Does.call 12 #[(.slice s.bo s.m s.d)] (by clear hs hd; go_simp) ?_
      refine (copyB_any s.bo s.m s.d s.zs wx (H1.out.1.later hb).is.text).mono ?_
      rintro e w' ⟨v, rfl, o, l⟩
      exact ⟨_, rfl, ownsRow_base o (by have := hb.size; have := H1.out.2.size; omega), l⟩
    · intro ax wx hb hs hd
      have h12 : ax.tmps.getD 12 undef = (.agg (u8s s.key).toArray) := hd 1 12 rfl (by kernel_rfl) (by decide)
      have h14 : ax.tmps.getD 14 undef = (.agg (placeC s.r s.c s.p s.q).toArray) := hd 3 14 rfl (by kernel_rfl) (by decide)
      have p17 : (isO w.heap.size s.m s.zs) (ax.tmps.getD 17 undef) wx := hd 6 17 rfl (by kernel_rfl) (by decide)
      obtain ⟨o17, c17, h17, s17, k17, n17⟩ := pown_sl HI.out.text.len HI.out.text.bytes HI.out.text.top p17
      clear p17
      refine Does.call 9 #[(.agg (u8s s.key).toArray), (.agg (placeC s.r s.c s.p s.q).toArray), (.slice o17 s.m c17)] (by clear hs hd; go_simp) ?_
      refine (pseal_bad s.key s.r s.c s.p s.q o17 s.m c17 t1 hbig wx).mono ?_
      rintro e w' ⟨rfl, l⟩
      exact ⟨_, rfl, rfl, l⟩
    · intro ax wx hb hs hd
      have h18 : ax.tmps.getD 18 undef = (.tuple #[.slice none 0 0, .int .i64 3]) := hd 7 18 rfl (by kernel_rfl) (by decide)
      refine Does.value (.tuple #[.slice none 0 0, .int .i64 3]) ?_ rfl
      clear hs hd
      go_simp
    · intro ax wx hb hs hd
      have h10 : ax.tmps.getD 10 undef = (.tuple #[.slice none 0 0, .int .i64 3]) := hd 8 10 rfl (by kernel_rfl) (by decide)
      refine Does.value (.slice none 0 0) ?_ rfl
      clear hs hd
      go_simp
    · intro ax wx hb hs hd
      have h10 : ax.tmps.getD 10 undef = (.tuple #[.slice none 0 0, .int .i64 3]) := hd 8 10 rfl (by kernel_rfl) (by decide)
      refine Does.value (.int .i64 3) ?_ rfl
      clear hs hd
      go_simp
    · intro ax wx hb hs hd
      have h19 : ax.tmps.getD 19 undef = (.slice none 0 0) := hd 9 19 rfl (by kernel_rfl) (by decide)
      refine Does.value (.slice none 0 0) ?_ rfl
      clear hs hd
      go_simp
  · intro wx hb
    refine @Ends.val _ _ _ _ _ _ _ _ _ (.pointer (some ⟨w.heap.size, 0, none⟩)) rfl ?_
    refine @Ends.val _ _ _ _ _ _ _ _ _ (.agg (u8s s.key).toArray) rfl ?_
    refine @Ends.val _ _ _ _ _ _ _ _ _ (.pointer (some ⟨w.heap.size, 32, none⟩)) rfl ?_
    refine @Ends.val _ _ _ _ _ _ _ _ _ (.agg (placeC s.r s.c s.p s.q).toArray) rfl ?_
    refine @Ends.val _ _ _ _ _ _ _ _ _ (.pointer (some ⟨w.heap.size, 36, none⟩)) rfl ?_
    refine @Ends.val _ _ _ _ _ _ _ _ _ (.slice s.bo s.m s.d) rfl ?_
    refine @Ends.any _ _ _ _ _ _ _ _ _ (isO w.heap.size s.m s.zs) (isO_later _ _ _) rfl ?_
    intro v17 p17
    refine @Ends.val _ _ _ _ _ _ _ _ _ (.tuple #[.slice none 0 0, .int .i64 3]) rfl ?_
    refine @Ends.val _ _ _ _ _ _ _ _ _ (.tuple #[.slice none 0 0, .int .i64 3]) rfl ?_
    refine @Ends.val _ _ _ _ _ _ _ _ _ (.slice none 0 0) rfl ?_
    refine @Ends.val _ _ _ _ _ _ _ _ _ (.int .i64 3) rfl ?_
    refine @Ends.val _ _ _ _ _ _ _ _ _ (.slice none 0 0) rfl ?_
    refine @Ends.one _ _ _ _ _ _ _ ?_
    simp only [Act.put, List.setIfInBounds_toArray, List.set_cons_zero, List.set_cons_succ]
    have W2 : Hid (ShAt wx w.heap.size s ∧ Below w.heap.size w wx) := ⟨H1.out.1.later hb, below_chain H1.out.2 hb H1.out.2.size⟩
    have cT := W2.out.1.cT
    clear p17
    refine last_assign (.tmp 20) rfl (some 4) rfl (.int .i64 3) rfl ?_
    simp only [Act.put, List.setIfInBounds_toArray, List.set_cons_zero, List.set_cons_succ]
    go_wp2_with (go_at_call 11; refine (pworks_any _).mono ?_; rintro e w3 ⟨rfl, l3⟩)
    go_ret
    exact ⟨rfl, below_chain W2.out.2 l3 W2.out.2.size⟩
set_option maxRecDepth 20000 in
set_option maxHeartbeats 4000000 in
theorem ret_small (s : Sh) (w : World) (h : ShIn w s) (hbig : s.m ≤ 4096) : Calls Try.prog 4 #[.agg (sheetC s).toArray] w fun e w' => e = .returned (.bool true) ∧ Below w.heap.size w w' := by
  have i1 : ¬ (4096 : Int) < (s.m : Int) := by omega
  have hl := h.text.len
  have hO := opens_page s.key s.r s.c s.p s.q h.text.bytes (by omega) h.hr h.hc
  have hT := text_page s.key s.r s.c s.p s.q h.text.bytes
  have hL := pageL_length s.key s.r s.c s.p s.q s.zs
  have hB := pageL_bytes s.key s.r s.c s.p s.q h.text.bytes
  have hR := tell_page s.key s.r s.c s.p s.q h.text.bytes h.hr h.hc
  rw [hl] at hL
  obtain ⟨X, hX⟩ : ∃ X, pageL s.key s.r s.c s.p s.q s.zs = X := ⟨_, rfl⟩
  rw [hX] at hO hT hL hB hR
  have HX : Hid (pageL s.key s.r s.c s.p s.q s.zs = X ∧ X.length = s.m + 28 ∧ Bytes X ∧ pOpens s.key s.r s.c s.p s.q X = true ∧ pText s.key s.r s.c X = s.zs ∧ tellR X = s.r ∧ tellC X = s.c) := ⟨hX, hL, hB, hO, hT, hR.1, hR.2⟩
  have HI : Hid (ShIn w s) := h
  clear h hX hL hB hO hT hR hl
  go_enter Try.func4, Try.ntmps4
  go_wp2_with (first | (refine wpList_box_new rfl 36 _ rfl (sheetC s) rfl ?_; intro w1 b1 s1 l1))
  have H1 : Hid (ShAt w1 w.heap.size s ∧ Below w.heap.size w w1) := ⟨⟨b1, HI.out.later l1 (Nat.le_refl _)⟩, l1⟩
  clear b1 s1 l1
  refine region_inv [.val (.pointer (some ⟨w.heap.size, 0, none⟩)), .val (.agg (u8s s.key).toArray), .val (.pointer (some ⟨w.heap.size, 32, none⟩)), .val (.agg (placeC s.r s.c s.p s.q).toArray), .val (.pointer (some ⟨w.heap.size, 36, none⟩)), .val (.slice s.bo s.m s.d), .any (isO w.heap.size s.m s.zs) (isO_later _ _ _), .any (isT w.heap.size (s.m + 28) X 0) (isT_later _ _ _ _), .any (isT w.heap.size (s.m + 28) X 0) (isT_later _ _ _ _), .any (isO w.heap.size (s.m + 28) X) (isO_later _ _ _), .val (.int .i64 0), .any (isO w.heap.size (s.m + 28) X) (isO_later _ _ _)] (by kernel_rfl) (by kernel_rfl) (by kernel_rfl) ?_ ?_
  · refine Steps'.cons ?_ (Steps'.cons ?_ (Steps'.cons ?_ (Steps'.cons ?_ (Steps'.cons ?_ (Steps'.cons ?_ (Steps'.cons ?_ (Steps'.cons ?_ (Steps'.cons ?_ (Steps'.cons ?_ (Steps'.cons ?_ (Steps'.cons ?_ (Steps'.one _ _ _ _ _ _ _))))))))))))
    · intro ax wx hb hs hd
      have h1 : ax.tmps.getD 1 undef = (.pointer (some ⟨w.heap.size, 0, none⟩)) := hs 1 (by kernel_rfl)
      refine Does.value (.pointer (some ⟨w.heap.size, 0, none⟩)) ?_ rfl
      clear hs hd
      go_simp
    · intro ax wx hb hs hd
      have h11 : ax.tmps.getD 11 undef = (.pointer (some ⟨w.heap.size, 0, none⟩)) := hd 0 11 rfl (by kernel_rfl) (by decide)
      exact Does.load 27 (.tmp 11) rfl w.heap.size 0 h11 (u8s s.key) _ (H1.out.1.later hb).key Try.underlying27 rfl (by rw [u8s_length, H1.out.1.is.k32]; exact sizeKey)
    · intro ax wx hb hs hd
      have h1 : ax.tmps.getD 1 undef = (.pointer (some ⟨w.heap.size, 0, none⟩)) := hs 1 (by kernel_rfl)
      refine Does.value (.pointer (some ⟨w.heap.size, 32, none⟩)) ?_ rfl
      clear hs hd
      go_simp
    · intro ax wx hb hs hd
      have h13 : ax.tmps.getD 13 undef = (.pointer (some ⟨w.heap.size, 32, none⟩)) := hd 2 13 rfl (by kernel_rfl) (by decide)
      exact Does.load 31 (.tmp 13) rfl w.heap.size 32 h13 (placeC s.r s.c s.p s.q) _ (H1.out.1.later hb).place Try.underlying31 rfl pzKey
    · intro ax wx hb hs hd
      have h1 : ax.tmps.getD 1 undef = (.pointer (some ⟨w.heap.size, 0, none⟩)) := hs 1 (by kernel_rfl)
      refine Does.value (.pointer (some ⟨w.heap.size, 36, none⟩)) ?_ rfl
      clear hs hd
      go_simp
    · intro ax wx hb hs hd
      have h15 : ax.tmps.getD 15 undef = (.pointer (some ⟨w.heap.size, 36, none⟩)) := hd 4 15 rfl (by kernel_rfl) (by decide)
      have cx : wx.cell? ⟨w.heap.size, 36, none⟩ = some (.slice s.bo s.m s.d) := (H1.out.1.later hb).cT
      refine Does.value (.slice s.bo s.m s.d) ?_ rfl
      clear hs hd
      go_simp
    · intro ax wx hb hs hd
      have h16 : ax.tmps.getD 16 undef = (.slice s.bo s.m s.d) := hd 5 16 rfl (by kernel_rfl) (by decide)
      refine Does.call 12 #[(.slice s.bo s.m s.d)] (by clear hs hd; go_simp) ?_
      refine (copyB_any s.bo s.m s.d s.zs wx (H1.out.1.later hb).is.text).mono ?_
      rintro e w' ⟨v, rfl, o, l⟩
      exact ⟨_, rfl, ownsRow_base o (by have := hb.size; have := H1.out.2.size; omega), l⟩
    · intro ax wx hb hs hd
      have h12 : ax.tmps.getD 12 undef = (.agg (u8s s.key).toArray) := hd 1 12 rfl (by kernel_rfl) (by decide)
      have h14 : ax.tmps.getD 14 undef = (.agg (placeC s.r s.c s.p s.q).toArray) := hd 3 14 rfl (by kernel_rfl) (by decide)
      have p17 : (isO w.heap.size s.m s.zs) (ax.tmps.getD 17 undef) wx := hd 6 17 rfl (by kernel_rfl) (by decide)
      obtain ⟨o17, c17, h17, s17, k17, n17⟩ := pown_sl HI.out.text.len HI.out.text.bytes HI.out.text.top p17
      clear p17
      refine Does.call 9 #[(.agg (u8s s.key).toArray), (.agg (placeC s.r s.c s.p s.q).toArray), (.slice o17 s.m c17)] (by clear hs hd; go_simp) ?_
      refine (pseal_any s.key s.r s.c s.p s.q o17 s.m c17 s.zs HI.out.k32 HI.out.kb HI.out.hr HI.out.hc HI.out.hp HI.out.hq hbig wx s17 k17).mono ?_
      rintro e w' ⟨v, rfl, o, l⟩
      rw [HX.out.1] at o
      exact ⟨_, rfl, ⟨v, rfl, ownsRow_base o (by have := hb.size; have := H1.out.2.size; omega)⟩, l⟩
    · intro ax wx hb hs hd
      have p18 : (isT w.heap.size (s.m + 28) X 0) (ax.tmps.getD 18 undef) wx := hd 7 18 rfl (by kernel_rfl) (by decide)
      obtain ⟨u, h18, o⟩ := p18
      refine Does.value (.tuple #[u, .int .i64 0]) ?_ ⟨u, rfl, o⟩
      clear hs hd
      go_simp
    · intro ax wx hb hs hd
      have p10 : (isT w.heap.size (s.m + 28) X 0) (ax.tmps.getD 10 undef) wx := hd 8 10 rfl (by kernel_rfl) (by decide)
      obtain ⟨u, h10, o⟩ := p10
      refine Does.value u ?_ o
      clear hs hd
      go_simp
    · intro ax wx hb hs hd
      have p10 : (isT w.heap.size (s.m + 28) X 0) (ax.tmps.getD 10 undef) wx := hd 8 10 rfl (by kernel_rfl) (by decide)
      obtain ⟨u, h10, o⟩ := p10
      refine Does.value (.int .i64 0) ?_ rfl
      clear hs hd
      go_simp
    · intro ax wx hb hs hd
      have p19 : (isO w.heap.size (s.m + 28) X) (ax.tmps.getD 19 undef) wx := hd 9 19 rfl (by kernel_rfl) (by decide)
      obtain ⟨u, h19⟩ : ∃ u, ax.tmps.getD 19 undef = u := ⟨_, rfl⟩
      rw [h19] at p19
      refine Does.value u ?_ p19
      clear hs hd
      go_simp
  · intro wx hb
    refine @Ends.val _ _ _ _ _ _ _ _ _ (.pointer (some ⟨w.heap.size, 0, none⟩)) rfl ?_
    refine @Ends.val _ _ _ _ _ _ _ _ _ (.agg (u8s s.key).toArray) rfl ?_
    refine @Ends.val _ _ _ _ _ _ _ _ _ (.pointer (some ⟨w.heap.size, 32, none⟩)) rfl ?_
    refine @Ends.val _ _ _ _ _ _ _ _ _ (.agg (placeC s.r s.c s.p s.q).toArray) rfl ?_
    refine @Ends.val _ _ _ _ _ _ _ _ _ (.pointer (some ⟨w.heap.size, 36, none⟩)) rfl ?_
    refine @Ends.val _ _ _ _ _ _ _ _ _ (.slice s.bo s.m s.d) rfl ?_
    refine @Ends.any _ _ _ _ _ _ _ _ _ (isO w.heap.size s.m s.zs) (isO_later _ _ _) rfl ?_
    intro v17 p17
    refine @Ends.any _ _ _ _ _ _ _ _ _ (isT w.heap.size (s.m + 28) X 0) (isT_later _ _ _ _) rfl ?_
    intro v18 p18
    refine @Ends.any _ _ _ _ _ _ _ _ _ (isT w.heap.size (s.m + 28) X 0) (isT_later _ _ _ _) rfl ?_
    intro v10 p10
    refine @Ends.any _ _ _ _ _ _ _ _ _ (isO w.heap.size (s.m + 28) X) (isO_later _ _ _) rfl ?_
    intro v19 p19
    refine @Ends.val _ _ _ _ _ _ _ _ _ (.int .i64 0) rfl ?_
    refine @Ends.any _ _ _ _ _ _ _ _ _ (isO w.heap.size (s.m + 28) X) (isO_later _ _ _) rfl ?_
    intro v3 p3
    refine @Ends.one _ _ _ _ _ _ _ ?_
    simp only [Act.put, List.setIfInBounds_toArray, List.set_cons_zero, List.set_cons_succ]
    obtain ⟨bo2, bc2, rfl, sb, cb, _⟩ := pown_sl HX.out.2.1 HX.out.2.2.1 (by omega) p3
    have W2 : Hid (ShAt wx w.heap.size s ∧ Below w.heap.size w wx ∧ Seen wx bo2 (s.m + 28) X ∧ s.m + 28 ≤ bc2) := ⟨H1.out.1.later hb, below_chain H1.out.2 hb H1.out.2.size, sb, cb⟩
    have cT := W2.out.1.cT
    clear p17 p3 p19 p18 p10 sb
    have hq : (((s.m + 28 : Nat) : Int) != (s.m : Int) + 28) = false := by simp
    refine last_assign (.tmp 20) rfl (some 4) rfl (.int .i64 0) rfl ?_
    simp only [Act.put, List.setIfInBounds_toArray, List.set_cons_zero, List.set_cons_succ]
    go_wp2_with fail
    rename World => w2
    clear cT
    refine region_inv [.val (.pointer (some ⟨w.heap.size, 0, none⟩)), .val (.agg (u8s s.key).toArray), .val (.pointer (some ⟨w.heap.size, 32, none⟩)), .val (.agg (placeC s.r s.c s.p s.q).toArray), .val (.slice bo2 (s.m + 28) bc2), .any (isO w.heap.size (s.m + 28) X) (isO_later _ _ _), .any (isT w.heap.size s.m s.zs 0) (isT_later _ _ _ _), .any (isT w.heap.size s.m s.zs 0) (isT_later _ _ _ _), .any (isO w.heap.size s.m s.zs) (isO_later _ _ _), .val (.int .i64 0), .any (isO w.heap.size s.m s.zs) (isO_later _ _ _)] (by kernel_rfl) (by kernel_rfl) (by kernel_rfl) ?_ ?_
    · refine Steps'.cons ?_ (Steps'.cons ?_ (Steps'.cons ?_ (Steps'.cons ?_ (Steps'.cons ?_ (Steps'.cons ?_ (Steps'.cons ?_ (Steps'.cons ?_ (Steps'.cons ?_ (Steps'.cons ?_ (Steps'.cons ?_ (Steps'.one _ _ _ _ _ _ _)))))))))))
      · intro ax wx hb hs hd
        have h1 : ax.tmps.getD 1 undef = (.pointer (some ⟨w.heap.size, 0, none⟩)) := hs 1 (by kernel_rfl)
        refine Does.value (.pointer (some ⟨w.heap.size, 0, none⟩)) ?_ rfl
        clear hs hd
        go_simp
      · intro ax wx hb hs hd
        have h47 : ax.tmps.getD 47 undef = (.pointer (some ⟨w.heap.size, 0, none⟩)) := hd 0 47 rfl (by kernel_rfl) (by decide)
        exact Does.load 27 (.tmp 47) rfl w.heap.size 0 h47 (u8s s.key) _ (W2.out.1.later hb).key Try.underlying27 rfl (by rw [u8s_length, W2.out.1.is.k32]; exact sizeKey)
      · intro ax wx hb hs hd
        have h1 : ax.tmps.getD 1 undef = (.pointer (some ⟨w.heap.size, 0, none⟩)) := hs 1 (by kernel_rfl)
        refine Does.value (.pointer (some ⟨w.heap.size, 32, none⟩)) ?_ rfl
        clear hs hd
        go_simp
      · intro ax wx hb hs hd
        have h49 : ax.tmps.getD 49 undef = (.pointer (some ⟨w.heap.size, 32, none⟩)) := hd 2 49 rfl (by kernel_rfl) (by decide)
        exact Does.load 31 (.tmp 49) rfl w.heap.size 32 h49 (placeC s.r s.c s.p s.q) _ (W2.out.1.later hb).place Try.underlying31 rfl pzKey
      · intro ax wx hb hs hd
        have h3 : ax.tmps.getD 3 undef = (.slice bo2 (s.m + 28) bc2) := hs 3 (by kernel_rfl)
        refine Does.value (.slice bo2 (s.m + 28) bc2) ?_ rfl
        clear hs hd
        go_simp
      · intro ax wx hb hs hd
        have h51 : ax.tmps.getD 51 undef = (.slice bo2 (s.m + 28) bc2) := hd 4 51 rfl (by kernel_rfl) (by decide)
        refine Does.call 12 #[(.slice bo2 (s.m + 28) bc2)] (by clear hs hd; go_simp) ?_
        refine (copyB_any bo2 (s.m + 28) bc2 X wx (W2.out.2.2.1.later hb (Nat.le_refl _))).mono ?_
        rintro e w' ⟨v, rfl, o, l⟩
        exact ⟨_, rfl, ownsRow_base o (by have := hb.size; have := W2.out.2.1.size; omega), l⟩
      · intro ax wx hb hs hd
        have h48 : ax.tmps.getD 48 undef = (.agg (u8s s.key).toArray) := hd 1 48 rfl (by kernel_rfl) (by decide)
        have h50 : ax.tmps.getD 50 undef = (.agg (placeC s.r s.c s.p s.q).toArray) := hd 3 50 rfl (by kernel_rfl) (by decide)
        have p52 : (isO w.heap.size (s.m + 28) X) (ax.tmps.getD 52 undef) wx := hd 5 52 rfl (by kernel_rfl) (by decide)
        obtain ⟨o52, c52, h52, s52, k52, n52⟩ := pown_sl HX.out.2.1 HX.out.2.2.1 (by omega) p52
        clear p52
        refine Does.call 8 #[(.agg (u8s s.key).toArray), (.agg (placeC s.r s.c s.p s.q).toArray), (.slice o52 (s.m + 28) c52)] (by clear hs hd; go_simp) ?_
        refine (popen_good s.key s.r s.c s.p s.q o52 (s.m + 28) c52 X HI.out.k32 HI.out.kb HI.out.hr HI.out.hc HI.out.hp HI.out.hq wx s52 k52 HX.out.2.2.2.1).mono ?_
        rintro e w' ⟨v, rfl, o, l⟩
        rw [HX.out.2.2.2.2.1, Nat.add_sub_cancel] at o
        exact ⟨_, rfl, ⟨v, rfl, ownsRow_base o (by have := hb.size; have := W2.out.2.1.size; omega)⟩, l⟩
      · intro ax wx hb hs hd
        have p53 : (isT w.heap.size s.m s.zs 0) (ax.tmps.getD 53 undef) wx := hd 6 53 rfl (by kernel_rfl) (by decide)
        obtain ⟨u, h53, o⟩ := p53
        refine Does.value (.tuple #[u, .int .i64 0]) ?_ ⟨u, rfl, o⟩
        clear hs hd
        go_simp
      · intro ax wx hb hs hd
        have p46 : (isT w.heap.size s.m s.zs 0) (ax.tmps.getD 46 undef) wx := hd 7 46 rfl (by kernel_rfl) (by decide)
        obtain ⟨u, h46, o⟩ := p46
        refine Does.value u ?_ o
        clear hs hd
        go_simp
      · intro ax wx hb hs hd
        have p46 : (isT w.heap.size s.m s.zs 0) (ax.tmps.getD 46 undef) wx := hd 7 46 rfl (by kernel_rfl) (by decide)
        obtain ⟨u, h46, o⟩ := p46
        refine Does.value (.int .i64 0) ?_ rfl
        clear hs hd
        go_simp
      · intro ax wx hb hs hd
        have p54 : (isO w.heap.size s.m s.zs) (ax.tmps.getD 54 undef) wx := hd 8 54 rfl (by kernel_rfl) (by decide)
        obtain ⟨u, h54⟩ : ∃ u, ax.tmps.getD 54 undef = u := ⟨_, rfl⟩
        rw [h54] at p54
        refine Does.value u ?_ p54
        clear hs hd
        go_simp
    · intro wx2 hb
      refine @Ends.val _ _ _ _ _ _ _ _ _ (.pointer (some ⟨w.heap.size, 0, none⟩)) rfl ?_
      refine @Ends.val _ _ _ _ _ _ _ _ _ (.agg (u8s s.key).toArray) rfl ?_
      refine @Ends.val _ _ _ _ _ _ _ _ _ (.pointer (some ⟨w.heap.size, 32, none⟩)) rfl ?_
      refine @Ends.val _ _ _ _ _ _ _ _ _ (.agg (placeC s.r s.c s.p s.q).toArray) rfl ?_
      refine @Ends.val _ _ _ _ _ _ _ _ _ (.slice bo2 (s.m + 28) bc2) rfl ?_
      refine @Ends.any _ _ _ _ _ _ _ _ _ (isO w.heap.size (s.m + 28) X) (isO_later _ _ _) rfl ?_
      intro v52 p52
      refine @Ends.any _ _ _ _ _ _ _ _ _ (isT w.heap.size s.m s.zs 0) (isT_later _ _ _ _) rfl ?_
      intro v53 p53
      refine @Ends.any _ _ _ _ _ _ _ _ _ (isT w.heap.size s.m s.zs 0) (isT_later _ _ _ _) rfl ?_
      intro v46 p46
      refine @Ends.any _ _ _ _ _ _ _ _ _ (isO w.heap.size s.m s.zs) (isO_later _ _ _) rfl ?_
      intro v54 p54
      refine @Ends.val _ _ _ _ _ _ _ _ _ (.int .i64 0) rfl ?_
      refine @Ends.any _ _ _ _ _ _ _ _ _ (isO w.heap.size s.m s.zs) (isO_later _ _ _) rfl ?_
      intro v5 p5
      refine @Ends.one _ _ _ _ _ _ _ ?_
      simp only [Act.put, List.setIfInBounds_toArray, List.set_cons_zero, List.set_cons_succ]
      obtain ⟨to, tc, rfl, st, ct, _⟩ := pown_sl HI.out.text.len HI.out.text.bytes HI.out.text.top p5
      have W6 : Hid (ShAt wx2 w.heap.size s ∧ Below w.heap.size w wx2 ∧ Seen wx2 bo2 (s.m + 28) X ∧ Seen wx2 to s.m s.zs) := ⟨W2.out.1.later hb, below_chain W2.out.2.1 hb W2.out.2.1.size, W2.out.2.2.1.later hb (Nat.le_refl _), st⟩
      clear st p5 p54 p53 p46 p52
      refine last_assign (.tmp 55) rfl (some 6) rfl (.int .i64 0) rfl ?_
      simp only [Act.put, List.setIfInBounds_toArray, List.set_cons_zero, List.set_cons_succ]
      go_wp2_with fail
      refine (phead_any bo2 (s.m + 28) bc2 X wx2 W6.out.2.2.1 (by omega) W2.out.2.2.2).mono ?_
      rintro e w7 ⟨rfl, l7⟩
      rw [HX.out.2.2.2.2.2.1, HX.out.2.2.2.2.2.2]
      have W7 : Hid (ShAt w7 w.heap.size s ∧ Below w.heap.size w w7 ∧ Seen w7 to s.m s.zs) := ⟨W6.out.1.later l7, below_chain W6.out.2.1 l7 W6.out.2.1.size, W6.out.2.2.2.later l7 (Nat.le_refl _)⟩
      have cT := W7.out.1.cT
      clear l7
      go_wp2_with fail
      refine (reqb_any to s.bo s.m s.m tc s.d s.zs s.zs w7 W7.out.2.2 W7.out.1.is.text).mono ?_
      rintro e w8 ⟨rfl, q, rfl⟩
      rw [decide_eq_true rfl]
      have cR := (W7.out.1.dn q).cR
      have cC := (W7.out.1.dn q).cC
      go_wp2_with fail
      go_ret
      exact ⟨rfl, below_dn W7.out.2.1 q⟩
theorem pageReturns.walk (s : Sh) (w : World) (h : ShIn w s) (_ : s.m ≤ 140737488351232) : Calls Try.prog 4 #[.agg (sheetC s).toArray] w fun e w' => e = .returned (.bool true) ∧ Below w.heap.size w w' := by
  by_cases hb : 4096 < s.m
  · exact ret_big s w h hb
  · exact ret_small s w h (by omega)
end Go.Proofs.Ytcimiajkbgabiaa
