/- The walk of PageOneForm. -/
import Derived.Test.YtcimiajkbgabiaaZG
namespace Go.Proofs.Ytcimiajkbgabiaa
open Go.RowKit
set_option linter.unusedVariables false
set_option linter.unusedSimpArgs false

set_option maxRecDepth 20000 in
set_option maxHeartbeats 4000000 in
theorem one_bad (s : Sh) (w : World) (h : ShIn w s) (ho : pOpens s.key s.r s.c s.p s.q s.zs = false) : Calls Try.prog 5 #[.agg (sheetC s).toArray] w fun e w' => e = .returned (.bool true) ∧ Below w.heap.size w w' := by
  have hO : Hid (pOpens s.key s.r s.c s.p s.q s.zs = false) := ho
  have HI : Hid (ShIn w s) := h
  clear h ho
  go_enter Try.func5, Try.ntmps5
  go_wp2_with (first | (refine wpList_box_new rfl 36 _ rfl (sheetC s) rfl ?_; intro w1 b1 s1 l1))
  have H1 : Hid (ShAt w1 w.heap.size s ∧ Below w.heap.size w w1) := ⟨⟨b1, HI.out.later l1 (Nat.le_refl _)⟩, l1⟩
  clear b1 s1 l1
  refine region_inv [.val (.pointer (some ⟨w.heap.size, 0, none⟩)), .val (.agg (u8s s.key).toArray), .val (.pointer (some ⟨w.heap.size, 32, none⟩)), .val (.agg (placeC s.r s.c s.p s.q).toArray), .val (.pointer (some ⟨w.heap.size, 36, none⟩)), .val (.slice s.bo s.m s.d), .any (isO w.heap.size s.m s.zs) (isO_later _ _ _), .val (.tuple #[.slice none 0 0, .int .i64 120]), .val (.tuple #[.slice none 0 0, .int .i64 120]), .val (.slice none 0 0), .val (.int .i64 120), .val (.slice none 0 0)] (by kernel_rfl) (by kernel_rfl) (by kernel_rfl) ?_ ?_
  · refine Steps'.cons ?_ (Steps'.cons ?_ (Steps'.cons ?_ (Steps'.cons ?_ (Steps'.cons ?_ (Steps'.cons ?_ (Steps'.cons ?_ (Steps'.cons ?_ (Steps'.cons ?_ (Steps'.cons ?_ (Steps'.cons ?_ (Steps'.cons ?_ (Steps'.one _ _ _ _ _ _ _))))))))))))
    · intro ax wx hb hs hd
      have h1 : ax.tmps.getD 1 undef = (.pointer (some ⟨w.heap.size, 0, none⟩)) := hs 1 (by kernel_rfl)
      refine Does.value (.pointer (some ⟨w.heap.size, 0, none⟩)) ?_ rfl
      clear hs hd
      go_simp
    · intro ax wx hb hs hd
      have h8 : ax.tmps.getD 8 undef = (.pointer (some ⟨w.heap.size, 0, none⟩)) := hd 0 8 rfl (by kernel_rfl) (by decide)
      exact Does.load 27 (.tmp 8) rfl w.heap.size 0 h8 (u8s s.key) _ (H1.out.1.later hb).key Try.underlying27 rfl (by rw [u8s_length, H1.out.1.is.k32]; exact sizeKey)
    · intro ax wx hb hs hd
      have h1 : ax.tmps.getD 1 undef = (.pointer (some ⟨w.heap.size, 0, none⟩)) := hs 1 (by kernel_rfl)
      refine Does.value (.pointer (some ⟨w.heap.size, 32, none⟩)) ?_ rfl
      clear hs hd
      go_simp
    · intro ax wx hb hs hd
      have h10 : ax.tmps.getD 10 undef = (.pointer (some ⟨w.heap.size, 32, none⟩)) := hd 2 10 rfl (by kernel_rfl) (by decide)
      exact Does.load 31 (.tmp 10) rfl w.heap.size 32 h10 (placeC s.r s.c s.p s.q) _ (H1.out.1.later hb).place Try.underlying31 rfl pzKey
    · intro ax wx hb hs hd
      have h1 : ax.tmps.getD 1 undef = (.pointer (some ⟨w.heap.size, 0, none⟩)) := hs 1 (by kernel_rfl)
      refine Does.value (.pointer (some ⟨w.heap.size, 36, none⟩)) ?_ rfl
      clear hs hd
      go_simp
    · intro ax wx hb hs hd
      have h12 : ax.tmps.getD 12 undef = (.pointer (some ⟨w.heap.size, 36, none⟩)) := hd 4 12 rfl (by kernel_rfl) (by decide)
      have cx : wx.cell? ⟨w.heap.size, 36, none⟩ = some (.slice s.bo s.m s.d) := (H1.out.1.later hb).cT
      refine Does.value (.slice s.bo s.m s.d) ?_ rfl
      clear hs hd
      go_simp
    · intro ax wx hb hs hd
      have h13 : ax.tmps.getD 13 undef = (.slice s.bo s.m s.d) := hd 5 13 rfl (by kernel_rfl) (by decide)
      refine Does.call 12 #[(.slice s.bo s.m s.d)] (by clear hs hd; go_simp) ?_
      refine (copyB_any s.bo s.m s.d s.zs wx (H1.out.1.later hb).is.text).mono ?_
      rintro e w' ⟨v, rfl, o, l⟩
      exact ⟨_, rfl, ownsRow_base o (by have := hb.size; have := H1.out.2.size; omega), l⟩
    · intro ax wx hb hs hd
      have h9 : ax.tmps.getD 9 undef = (.agg (u8s s.key).toArray) := hd 1 9 rfl (by kernel_rfl) (by decide)
      have h11 : ax.tmps.getD 11 undef = (.agg (placeC s.r s.c s.p s.q).toArray) := hd 3 11 rfl (by kernel_rfl) (by decide)
      have p14 : (isO w.heap.size s.m s.zs) (ax.tmps.getD 14 undef) wx := hd 6 14 rfl (by kernel_rfl) (by decide)
      obtain ⟨o14, c14, h14, s14, k14, n14⟩ := pown_sl HI.out.text.len HI.out.text.bytes HI.out.text.top p14
      clear p14
      refine Does.call 8 #[(.agg (u8s s.key).toArray), (.agg (placeC s.r s.c s.p s.q).toArray), (.slice o14 s.m c14)] (by clear hs hd; go_simp) ?_
      refine (popen_bad s.key s.r s.c s.p s.q o14 s.m c14 s.zs HI.out.k32 HI.out.kb HI.out.hr HI.out.hc HI.out.hp HI.out.hq wx s14 k14 hO.out).mono ?_
      rintro e w' ⟨rfl, l⟩
      exact ⟨_, rfl, rfl, l⟩
    · intro ax wx hb hs hd
      have h15 : ax.tmps.getD 15 undef = (.tuple #[.slice none 0 0, .int .i64 120]) := hd 7 15 rfl (by kernel_rfl) (by decide)
      refine Does.value (.tuple #[.slice none 0 0, .int .i64 120]) ?_ rfl
      clear hs hd
      go_simp
    · intro ax wx hb hs hd
      have h7 : ax.tmps.getD 7 undef = (.tuple #[.slice none 0 0, .int .i64 120]) := hd 8 7 rfl (by kernel_rfl) (by decide)
      refine Does.value (.slice none 0 0) ?_ rfl
      clear hs hd
      go_simp
    · intro ax wx hb hs hd
      have h7 : ax.tmps.getD 7 undef = (.tuple #[.slice none 0 0, .int .i64 120]) := hd 8 7 rfl (by kernel_rfl) (by decide)
      refine Does.value (.int .i64 120) ?_ rfl
      clear hs hd
      go_simp
    · intro ax wx hb hs hd
      have h16 : ax.tmps.getD 16 undef = (.slice none 0 0) := hd 9 16 rfl (by kernel_rfl) (by decide)
      refine Does.value (.slice none 0 0) ?_ rfl
      clear hs hd
      go_simp
  · intro wx hb
    refine @Ends.val _ _ _ _ _ _ _ _ _ (.pointer (some ⟨w.heap.size, 0, none⟩)) rfl ?_
    refine @Ends.val _ _ _ _ _ _ _ _ _ (.agg (u8s s.key).toArray) rfl ?_
    refine @Ends.val _ _ _ _ _ _ _ _ _ (.pointer (some ⟨w.heap.size, 32, none⟩)) rfl ?_
    refine @Ends.val _ _ _ _ _ _ _ _ _ (.agg (placeC s.r s.c s.p s.q).toArray) rfl ?_
    refine @Ends.val _ _ _ _ _ _ _ _ _ (.pointer (some ⟨w.heap.size, 36, none⟩)) rfl ?_
    refine @Ends.val _ _ _ _ _ _ _ _ _ (.slice s.bo s.m s.d) rfl ?_
    refine @Ends.any _ _ _ _ _ _ _ _ _ (isO w.heap.size s.m s.zs) (isO_later _ _ _) rfl ?_
    intro v14 p14
    refine @Ends.val _ _ _ _ _ _ _ _ _ (.tuple #[.slice none 0 0, .int .i64 120]) rfl ?_
    refine @Ends.val _ _ _ _ _ _ _ _ _ (.tuple #[.slice none 0 0, .int .i64 120]) rfl ?_
    refine @Ends.val _ _ _ _ _ _ _ _ _ (.slice none 0 0) rfl ?_
    refine @Ends.val _ _ _ _ _ _ _ _ _ (.int .i64 120) rfl ?_
    refine @Ends.val _ _ _ _ _ _ _ _ _ (.slice none 0 0) rfl ?_
    refine @Ends.one _ _ _ _ _ _ _ ?_
    simp only [Act.put, List.setIfInBounds_toArray, List.set_cons_zero, List.set_cons_succ]
    have W2 : Hid (Below w.heap.size w wx) := below_chain H1.out.2 hb H1.out.2.size
    clear p14
    refine last_assign (.tmp 17) rfl (some 4) rfl (.int .i64 120) rfl ?_
    simp only [Act.put, List.setIfInBounds_toArray, List.set_cons_zero, List.set_cons_succ]
    go_wp2_with (go_at_call 11; refine (pworks_any _).mono ?_; rintro e w3 ⟨rfl, l3⟩)
    go_ret
    exact ⟨rfl, below_chain W2.out l3 W2.out.size⟩
set_option maxRecDepth 20000 in
set_option maxHeartbeats 4000000 in
theorem one_good (s : Sh) (w : World) (h : ShIn w s) (ho : pOpens s.key s.r s.c s.p s.q s.zs = true) : Calls Try.prog 5 #[.agg (sheetC s).toArray] w fun e w' => e = .returned (.bool true) ∧ Below w.heap.size w w' := by
  have hO : Hid (pOpens s.key s.r s.c s.p s.q s.zs = true) := ho
  obtain ⟨o1, o2, _⟩ := pOpens_len ho
  have hl := h.text.len
  rw [hl] at o1 o2
  obtain ⟨K, hK⟩ : ∃ K, s.m = K + 28 := ⟨s.m - 28, by omega⟩
  have hK4 : K ≤ 4096 := by omega
  have HK : Hid (s.m = K + 28 ∧ s.m - 28 = K) := ⟨hK, by omega⟩
  have hp := page_text h.text.bytes h.hr h.hc ho
  obtain ⟨X, hX⟩ : ∃ X, pText s.key s.r s.c s.zs = X := ⟨_, rfl⟩
  have hL : X.length = K := by
    have := pageL_length s.key s.r s.c s.p s.q X
    rw [← hX, hp, hl] at this
    rw [← hX]; omega
  have HX : Hid (pText s.key s.r s.c s.zs = X ∧ X.length = K ∧ Bytes X ∧ pageL s.key s.r s.c s.p s.q X = s.zs) := ⟨hX, hL, by rw [← hX]; exact textL_bytes _ _ (bytes_drop h.text.bytes _), by rw [← hX]; exact hp⟩
  have HI : Hid (ShIn w s) := h
  clear h hX hL hp ho hl o1 o2 hK
  go_enter Try.func5, Try.ntmps5
  go_wp2_with (first | (refine wpList_box_new rfl 36 _ rfl (sheetC s) rfl ?_; intro w1 b1 s1 l1))
  have H1 : Hid (ShAt w1 w.heap.size s ∧ Below w.heap.size w w1) := ⟨⟨b1, HI.out.later l1 (Nat.le_refl _)⟩, l1⟩
  clear b1 s1 l1
  refine region_inv [.val (.pointer (some ⟨w.heap.size, 0, none⟩)), .val (.agg (u8s s.key).toArray), .val (.pointer (some ⟨w.heap.size, 32, none⟩)), .val (.agg (placeC s.r s.c s.p s.q).toArray), .val (.pointer (some ⟨w.heap.size, 36, none⟩)), .val (.slice s.bo s.m s.d), .any (isO w.heap.size s.m s.zs) (isO_later _ _ _), .any (isT w.heap.size K X 0) (isT_later _ _ _ _), .any (isT w.heap.size K X 0) (isT_later _ _ _ _), .any (isO w.heap.size K X) (isO_later _ _ _), .val (.int .i64 0), .any (isO w.heap.size K X) (isO_later _ _ _)] (by kernel_rfl) (by kernel_rfl) (by kernel_rfl) ?_ ?_
  · refine Steps'.cons ?_ (Steps'.cons ?_ (Steps'.cons ?_ (Steps'.cons ?_ (Steps'.cons ?_ (Steps'.cons ?_ (Steps'.cons ?_ (Steps'.cons ?_ (Steps'.cons ?_ (Steps'.cons ?_ (Steps'.cons ?_ (Steps'.cons ?_ (Steps'.one _ _ _ _ _ _ _))))))))))))
    · intro ax wx hb hs hd
      have h1 : ax.tmps.getD 1 undef = (.pointer (some ⟨w.heap.size, 0, none⟩)) := hs 1 (by kernel_rfl)
      refine Does.value (.pointer (some ⟨w.heap.size, 0, none⟩)) ?_ rfl
      clear hs hd
      go_simp
    · intro ax wx hb hs hd
      have h8 : ax.tmps.getD 8 undef = (.pointer (some ⟨w.heap.size, 0, none⟩)) := hd 0 8 rfl (by kernel_rfl) (by decide)
      exact Does.load 27 (.tmp 8) rfl w.heap.size 0 h8 (u8s s.key) _ (H1.out.1.later hb).key Try.underlying27 rfl (by rw [u8s_length, H1.out.1.is.k32]; exact sizeKey)
    · intro ax wx hb hs hd
      have h1 : ax.tmps.getD 1 undef = (.pointer (some ⟨w.heap.size, 0, none⟩)) := hs 1 (by kernel_rfl)
      refine Does.value (.pointer (some ⟨w.heap.size, 32, none⟩)) ?_ rfl
      clear hs hd
      go_simp
    · intro ax wx hb hs hd
      have h10 : ax.tmps.getD 10 undef = (.pointer (some ⟨w.heap.size, 32, none⟩)) := hd 2 10 rfl (by kernel_rfl) (by decide)
      exact Does.load 31 (.tmp 10) rfl w.heap.size 32 h10 (placeC s.r s.c s.p s.q) _ (H1.out.1.later hb).place Try.underlying31 rfl pzKey
    · intro ax wx hb hs hd
      have h1 : ax.tmps.getD 1 undef = (.pointer (some ⟨w.heap.size, 0, none⟩)) := hs 1 (by kernel_rfl)
      refine Does.value (.pointer (some ⟨w.heap.size, 36, none⟩)) ?_ rfl
      clear hs hd
      go_simp
    · intro ax wx hb hs hd
      have h12 : ax.tmps.getD 12 undef = (.pointer (some ⟨w.heap.size, 36, none⟩)) := hd 4 12 rfl (by kernel_rfl) (by decide)
      have cx : wx.cell? ⟨w.heap.size, 36, none⟩ = some (.slice s.bo s.m s.d) := (H1.out.1.later hb).cT
      refine Does.value (.slice s.bo s.m s.d) ?_ rfl
      clear hs hd
      go_simp
    · intro ax wx hb hs hd
      have h13 : ax.tmps.getD 13 undef = (.slice s.bo s.m s.d) := hd 5 13 rfl (by kernel_rfl) (by decide)
      refine Does.call 12 #[(.slice s.bo s.m s.d)] (by clear hs hd; go_simp) ?_
      refine (copyB_any s.bo s.m s.d s.zs wx (H1.out.1.later hb).is.text).mono ?_
      rintro e w' ⟨v, rfl, o, l⟩
      exact ⟨_, rfl, ownsRow_base o (by have := hb.size; have := H1.out.2.size; omega), l⟩
    · intro ax wx hb hs hd
      have h9 : ax.tmps.getD 9 undef = (.agg (u8s s.key).toArray) := hd 1 9 rfl (by kernel_rfl) (by decide)
      have h11 : ax.tmps.getD 11 undef = (.agg (placeC s.r s.c s.p s.q).toArray) := hd 3 11 rfl (by kernel_rfl) (by decide)
      have p14 : (isO w.heap.size s.m s.zs) (ax.tmps.getD 14 undef) wx := hd 6 14 rfl (by kernel_rfl) (by decide)
      obtain ⟨o14, c14, h14, s14, k14, n14⟩ := pown_sl HI.out.text.len HI.out.text.bytes HI.out.text.top p14
      clear p14
      refine Does.call 8 #[(.agg (u8s s.key).toArray), (.agg (placeC s.r s.c s.p s.q).toArray), (.slice o14 s.m c14)] (by clear hs hd; go_simp) ?_
      refine (popen_good s.key s.r s.c s.p s.q o14 s.m c14 s.zs HI.out.k32 HI.out.kb HI.out.hr HI.out.hc HI.out.hp HI.out.hq wx s14 k14 hO.out).mono ?_
      rintro e w' ⟨v, rfl, o, l⟩
      rw [HX.out.1, HK.out.2] at o
      exact ⟨_, rfl, ⟨v, rfl, ownsRow_base o (by have := hb.size; have := H1.out.2.size; omega)⟩, l⟩
    · intro ax wx hb hs hd
      have p15 : (isT w.heap.size K X 0) (ax.tmps.getD 15 undef) wx := hd 7 15 rfl (by kernel_rfl) (by decide)
      obtain ⟨u, h15, o⟩ := p15
      refine Does.value (.tuple #[u, .int .i64 0]) ?_ ⟨u, rfl, o⟩
      clear hs hd
      go_simp
    · intro ax wx hb hs hd
      have p7 : (isT w.heap.size K X 0) (ax.tmps.getD 7 undef) wx := hd 8 7 rfl (by kernel_rfl) (by decide)
      obtain ⟨u, h7, o⟩ := p7
      refine Does.value u ?_ o
      clear hs hd
      go_simp
    · intro ax wx hb hs hd
      have p7 : (isT w.heap.size K X 0) (ax.tmps.getD 7 undef) wx := hd 8 7 rfl (by kernel_rfl) (by decide)
      obtain ⟨u, h7, o⟩ := p7
      refine Does.value (.int .i64 0) ?_ rfl
      clear hs hd
      go_simp
    · intro ax wx hb hs hd
      have p16 : (isO w.heap.size K X) (ax.tmps.getD 16 undef) wx := hd 9 16 rfl (by kernel_rfl) (by decide)
      obtain ⟨u, h16⟩ : ∃ u, ax.tmps.getD 16 undef = u := ⟨_, rfl⟩
      rw [h16] at p16
      refine Does.value u ?_ p16
      clear hs hd
      go_simp
  · intro wx hb
    refine @Ends.val _ _ _ _ _ _ _ _ _ (.pointer (some ⟨w.heap.size, 0, none⟩)) rfl ?_
    refine @Ends.val _ _ _ _ _ _ _ _ _ (.agg (u8s s.key).toArray) rfl ?_
    refine @Ends.val _ _ _ _ _ _ _ _ _ (.pointer (some ⟨w.heap.size, 32, none⟩)) rfl ?_
    refine @Ends.val _ _ _ _ _ _ _ _ _ (.agg (placeC s.r s.c s.p s.q).toArray) rfl ?_
    refine @Ends.val _ _ _ _ _ _ _ _ _ (.pointer (some ⟨w.heap.size, 36, none⟩)) rfl ?_
    refine @Ends.val _ _ _ _ _ _ _ _ _ (.slice s.bo s.m s.d) rfl ?_
    refine @Ends.any _ _ _ _ _ _ _ _ _ (isO w.heap.size s.m s.zs) (isO_later _ _ _) rfl ?_
    intro v14 p14
    refine @Ends.any _ _ _ _ _ _ _ _ _ (isT w.heap.size K X 0) (isT_later _ _ _ _) rfl ?_
    intro v15 p15
    refine @Ends.any _ _ _ _ _ _ _ _ _ (isT w.heap.size K X 0) (isT_later _ _ _ _) rfl ?_
    intro v7 p7
    refine @Ends.any _ _ _ _ _ _ _ _ _ (isO w.heap.size K X) (isO_later _ _ _) rfl ?_
    intro v16 p16
    refine @Ends.val _ _ _ _ _ _ _ _ _ (.int .i64 0) rfl ?_
    refine @Ends.any _ _ _ _ _ _ _ _ _ (isO w.heap.size K X) (isO_later _ _ _) rfl ?_
    intro v3 p3
    refine @Ends.one _ _ _ _ _ _ _ ?_
    simp only [Act.put, List.setIfInBounds_toArray, List.set_cons_zero, List.set_cons_succ]
    obtain ⟨to, tc, rfl, st, ct, _⟩ := pown_sl HX.out.2.1 HX.out.2.2.1 (by omega) p3
    have W2 : Hid (ShAt wx w.heap.size s ∧ Below w.heap.size w wx ∧ Seen wx to K X ∧ K ≤ tc) := ⟨H1.out.1.later hb, below_chain H1.out.2 hb H1.out.2.size, st, ct⟩
    clear p14 p3 p16 p15 p7 st
    refine last_assign (.tmp 17) rfl (some 4) rfl (.int .i64 0) rfl ?_
    simp only [Act.put, List.setIfInBounds_toArray, List.set_cons_zero, List.set_cons_succ]
    go_wp2_with (first | (refine wpList_load_mid rfl 27 _ rfl w.heap.size 0 rfl (u8s s.key) _ W2.out.1.key Try.underlying27 rfl (by rw [u8s_length, HI.out.k32]; exact sizeKey) ?_) | (refine wpList_load_mid rfl 31 _ rfl w.heap.size 32 rfl (placeC s.r s.c s.p s.q) _ W2.out.1.place Try.underlying31 rfl pzKey ?_))
    refine (pseal_any s.key s.r s.c s.p s.q to K tc X HI.out.k32 HI.out.kb HI.out.hr HI.out.hc HI.out.hp HI.out.hq (by omega) wx W2.out.2.2.1 W2.out.2.2.2).mono ?_
    rintro e w4 ⟨v, rfl, o4, l4⟩
    rw [HX.out.2.2.2] at o4
    obtain ⟨bo4, bc4, rfl, s4, c4, _⟩ := pown_sl (n := K + 28) (by rw [HI.out.text.len]; exact HK.out.1) HI.out.text.bytes (by omega) o4
    have W4 : Hid (ShAt w4 w.heap.size s ∧ Below w.heap.size w w4 ∧ Seen w4 bo4 (K + 28) s.zs) := ⟨W2.out.1.later l4, below_chain W2.out.2.1 l4 W2.out.2.1.size, s4⟩
    have cT := W4.out.1.cT
    clear s4 o4 l4
    go_wp2_with fail
    refine (reqb_any bo4 s.bo (K + 28) s.m bc4 s.d s.zs s.zs w4 W4.out.2.2 W4.out.1.is.text).mono ?_
    rintro e w8 ⟨rfl, q, rfl⟩
    rw [decide_eq_true rfl]
    go_wp2_with (go_at_call 11; refine (pworks_any _).mono ?_; rintro e w9 ⟨rfl, l9⟩)
    go_ret
    have L := below_dn W4.out.2.1 q
    exact ⟨rfl, below_chain L l9 L.size⟩
theorem pageOneForm.walk (s : Sh) (w : World) (h : ShIn w s) (_ : s.m ≤ 140737488351232) : Calls Try.prog 5 #[.agg (sheetC s).toArray] w fun e w' => e = .returned (.bool true) ∧ Below w.heap.size w w' := by
  cases ho : pOpens s.key s.r s.c s.p s.q s.zs with
  | false => exact one_bad s w h ho
  | true => exact one_good s w h ho
end Go.Proofs.Ytcimiajkbgabiaa
