/- The document's Parse; each Parse in one contract. -/
import Derived.Test.YtabdjoljdefjdaaRcRIs
namespace Go.Proofs.Ytabdjoljdefjdaa
open Go.RowKit
set_option linter.unusedVariables false
set_option linter.unusedSimpArgs false

def psX (zs : List Int) : Hd := if isR zs then hdOf zs else hdZ
def psP (zs : List Int) : List Int := if isR zs then zs.drop 26 else []
def psN (zs : List Int) (n : Nat) : Nat := if isR zs then n - 26 else 0
def psE (zs : List Int) : Int := if isR zs then 0 else 140
theorem ps_len {zs : List Int} {n : Nat} (h : zs.length = n) : (psP zs).length = psN zs n := by
  unfold psP psN
  split
  · rw [List.length_drop, h]
  · rfl
theorem ps_bytes {zs : List Int} (h : Bytes zs) : Bytes (psP zs) := by
  unfold psP
  split
  · exact fun z hz => h z (List.mem_of_mem_drop hz)
  · exact fun z hz => by cases hz
theorem ps_ok {zs : List Int} (h : Bytes zs) : HdOk (psX zs) := by
  unfold psX
  split
  · exact hdOf_ok h (isR_long (by assumption))
  · exact hdZ_ok
theorem ps_le (zs : List Int) (n : Nat) : psN zs n ≤ n := by
  unfold psN
  split <;> omega
theorem parse_one (ao : Option Addr) (n c : Nat) (xs : List Int) (hc : n ≤ c) (w : World) (hx : Seen w ao n xs) :
    Calls Try.prog 19 #[.slice ao n c] w fun e w' => ∃ v, e = .returned (.tuple #[.agg (hdC (psX xs)).toArray, v, .int .i64 (psE xs)]) ∧ isO w.heap.size (psN xs n) (psP xs) v w' ∧ Below w.heap.size w w' := by
  cases hR : isR xs with
  | true =>
    rw [psX, psE, psN, psP, if_pos hR, if_pos hR, if_pos hR, if_pos hR]
    exact parse_good ao n c xs hc w hx hR
  | false =>
    rw [psX, psE, psN, psP, if_neg (by rw [hR]; decide), if_neg (by rw [hR]; decide), if_neg (by rw [hR]; decide), if_neg (by rw [hR]; decide)]
    refine (parse_bad ao n c xs hc w hx hR).mono ?_
    rintro e w' ⟨rfl, l⟩
    exact ⟨_, rfl, World.ownsRow_nil _ _ _ _, l⟩
theorem hdC_set (h : Hd) (k : Nat) (z : Int) : (hdC h).set (4 + k) (.int .u8 z) = hdC { h with group := h.group.set k z } := by
  rw [Nat.add_comm 4 k]
  simp [hdC, ← u8s_set]
theorem hbuild4 (a b c d : Int) (w : World) : (Instr.build 26 #[(0, .int .u8 a), (1, .int .u8 b), (2, .int .u32 c), (3, .int .u32 d)]).run Try.prog w = .ok (.agg (hdC ⟨a, b, c, d, List.replicate 16 0⟩).toArray) w := by kernel_rfl
theorem take_nextR (xs : List Int) (k : Nat) (hk : k < xs.length) (n : Nat) : (xs.take k ++ List.replicate (n + 1) 0).set k (xs.getD k 0) = xs.take (k + 1) ++ List.replicate n 0 := by
  have e : (xs.take k).length = k := by simp; omega
  have h := set_next (xs.take k) n (xs.getD k 0) 0
  rw [e] at h
  rw [h, List.take_succ_eq_append_getElem hk]
  simp [List.getD, hk]
set_option maxRecDepth 20000 in
set_option maxHeartbeats 2000000 in
theorem rparse_bad (ao : Option Addr) (n c : Nat) (xs : List Int) (w : World) (hx : Seen w ao n xs) (hR : isR xs = false) :
    Calls Try.prog 18 #[.slice ao n c] w fun e w' => e = .returned (.tuple #[.agg (hdC hdZ).toArray, .slice none 0 0, .bool false]) ∧ Below w.heap.size w w' := by
  have HX : Hid (Seen w ao n xs ∧ isR xs = false) := ⟨hx, hR⟩
  clear hx hR
  go_enter Try.func18, Try.ntmps18
  go_wp2_with (first | (refine wpList_alloc_new rfl 26 rfl 20 _ hzero ?_; intro w1 b1 s1 l1))
  refine (ris_any ao n c xs w1 (HX.out.1.later l1 (Nat.le_refl _))).mono ?_
  rintro e _ ⟨rfl, rfl⟩
  rw [HX.out.2]
  go_wp2_with (first | (refine wpList_build rfl 26 _ rfl #[] rfl _ (hbuild0 _) ?_) | (refine wpList_store_blk rfl 26 26 _ _ rfl _ rfl _ (hdC hdZ) rfl b1 rfl hsize (hdC_one _) ?_; intro w2 b2 s2 k2))
  exact ret_btt rfl w.heap.size (hdC hdZ) _ _ _ rfl rfl rfl b2 Try.underlying26 rfl hsize rfl ⟨rfl, below_kept l1 k2 (by omega) (fun j hj => by omega)⟩
set_option maxRecDepth 20000 in
set_option maxHeartbeats 8000000 in
theorem rparse_good (ao : Option Addr) (n c : Nat) (zs : List Int) (hc : n ≤ c) (w : World) (hx : Seen w ao n zs) (hR : isR zs = true) :
    Calls Try.prog 18 #[.slice ao n c] w fun e w' => ∃ v, e = .returned (.tuple #[.agg (hdC (hdOf zs)).toArray, v, .bool true]) ∧ isO w.heap.size (n - 26) (zs.drop 26) v w' ∧ Below w.heap.size w w' := by
  have hn : 26 ≤ n := by rw [← hx.len]; exact isR_long hR
  have HN : Hid (26 ≤ n ∧ n ≤ c) := ⟨hn, hc⟩
  have t1 := hx.top
  have hl := hx.len
  obtain ⟨b, o, rfl, hb0, hcells⟩ := hx.cells (by omega)
  have kz : HdOk (hdOf zs) := hdOf_ok hx.bytes (by omega)
  have HSn : Hid (Seen w (some ⟨b, o, none⟩) n zs) := hx
  obtain ⟨h, hh⟩ : ∃ h, hdOf zs = h := ⟨_, rfl⟩
  rw [hh] at kz ⊢
  have h0 : zs.getD 0 0 = h.live := by rw [← hh]; rfl
  have h1 : zs.getD 1 0 = h.flag := by rw [← hh]; rfl
  have h2 : le ((zs.drop 2).take 4) = h.index := by rw [← hh]; rfl
  have h3 : le ((zs.drop 6).take 4) = h.rank := by rw [← hh]; rfl
  have h4 : (zs.drop 10).take 16 = h.group := by rw [← hh]; rfl
  have HI : Hid (le ((zs.drop 2).take 4) = h.index ∧ le ((zs.drop 6).take 4) = h.rank ∧ HdOk h) := ⟨h2, h3, kz⟩
  have HC0 : Hid (∀ W, Below w.heap.size w W → W.cell? ⟨b, o, none⟩ = some (.int .u8 h.live) ∧ W.cell? ⟨b, o + 1, none⟩ = some (.int .u8 h.flag) ∧ Seen W (some ⟨b, o + 2, none⟩) 4 ((zs.drop 2).take 4) ∧ Seen W (some ⟨b, o + 6, none⟩) 4 ((zs.drop 6).take 4) ∧ W.rangeAt b (o + 10) (u8s h.group)) := by
    intro W hW
    have S := hx.later hW (Nat.le_refl _)
    have a : ∀ k, k ≤ 10 → subA (some ⟨b, o, none⟩) k c = some ⟨b, o + k, none⟩ := fun k hk => by rw [subA, if_neg (by omega), Option.map_some, add_mid]
    have S2 := S.sub 2 6 c (by omega) (by omega) hc
    have S6 := S.sub 6 10 c (by omega) (by omega) hc
    rw [a 2 (by omega)] at S2
    rw [a 6 (by omega)] at S6
    obtain ⟨b', o', e, _, C⟩ := S.cells (by omega)
    obtain ⟨rfl, rfl⟩ : b = b' ∧ o = o' := by simpa using e
    refine ⟨?_, ?_, S2, S6, ?_⟩
    · rw [← h0]; exact C 0 (by omega)
    · rw [← h1]; exact C 1 (by omega)
    · intro j v hv
      rw [← h4] at hv
      obtain ⟨hj, e⟩ := List.getElem?_eq_some_iff.1 hv
      have hj' : j < 16 := by rw [u8s_length, List.length_take] at hj; omega
      rw [Nat.add_assoc, C (10 + j) (by omega), ← e]
      simp [u8s, List.getD, show 10 + j < zs.length by omega]
  have HS : Hid ((∀ W, (Instr.sliceAt 27 (.slice (some ⟨b, o, none⟩) n c) (some (.int .i64 2)) (some (.int .i64 6)) none).run Try.prog W = .ok (.slice (some ⟨b, o + 2, none⟩) 4 (c - 2)) W) ∧ (∀ W, (Instr.sliceAt 27 (.slice (some ⟨b, o, none⟩) n c) (some (.int .i64 6)) (some (.int .i64 10)) none).run Try.prog W = .ok (.slice (some ⟨b, o + 6, none⟩) 4 (c - 6)) W) ∧ (∀ W, (Instr.sliceAt 27 (.slice (some ⟨b, o, none⟩) n c) (some (.int .i64 10)) (some (.int .i64 26)) none).run Try.prog W = .ok (.slice (some ⟨b, o + 10, none⟩) 16 (c - 10)) W)) := by
    have a : ∀ k, k ≤ 10 → subA (some ⟨b, o, none⟩) k c = some ⟨b, o + k, none⟩ := fun k hk => by rw [subA, if_neg (by omega), Option.map_some, add_mid]
    refine ⟨fun W => ?_, fun W => ?_, fun W => ?_⟩
    · have s := sl_lh (some ⟨b, o, none⟩) n c 2 6 (by omega) (by omega) W
      rw [a 2 (by omega)] at s
      exact s
    · have s := sl_lh (some ⟨b, o, none⟩) n c 6 10 (by omega) (by omega) W
      rw [a 6 (by omega)] at s
      exact s
    · have s := sl_lh (some ⟨b, o, none⟩) n c 10 26 (by omega) (by omega) W
      rw [a 10 (by omega)] at s
      exact s
  have HS26 : Hid ((∀ W, (Instr.sliceAt 27 (.slice (some ⟨b, o, none⟩) n c) (some (.int .i64 26)) none none).run Try.prog W = .ok (.slice (subA (some ⟨b, o, none⟩) 26 c) (n - 26) (c - 26)) W) ∧ Seen w (subA (some ⟨b, o, none⟩) 26 c) (n - 26) (zs.drop 26)) := by
    refine ⟨fun W => sl_l _ n c 26 hn W, ?_⟩
    have s := hx.sub 26 n c hn (Nat.le_refl _) hc
    rwa [List.take_of_length_le (by rw [List.length_drop, hx.len]; exact Nat.le_refl _)] at s
  have HRR : Hid (isR zs = true) := hR
  clear hx hcells hh h0 h1 h2 h3 h4 kz hb0 hl hn hc hR
  go_enter Try.func18, Try.ntmps18
  go_wp2_with (first | (refine wpList_alloc_new rfl 26 rfl 20 _ hzero ?_; intro w1 b1 s1 l1))
  refine (ris_any _ n c zs w1 (HSn.out.later l1 (Nat.le_refl _))).mono ?_
  rintro e _ ⟨rfl, rfl⟩
  rw [HRR.out]
  go_wp2_with fail
  have HC : Hid (∀ W, Below w1.heap.size w1 W → W.cell? ⟨b, o, none⟩ = some (.int .u8 h.live) ∧ W.cell? ⟨b, o + 1, none⟩ = some (.int .u8 h.flag) ∧ Seen W (some ⟨b, o + 2, none⟩) 4 ((zs.drop 2).take 4) ∧ Seen W (some ⟨b, o + 6, none⟩) 4 ((zs.drop 6).take 4) ∧ W.rangeAt b (o + 10) (u8s h.group)) := fun W hW => HC0.out W (below_chain l1 hW (by omega))
  refine region_inv [.val (.slice (some ⟨b, o, none⟩) n c), .val (.pointer (some ⟨b, o, none⟩)), .val (.int .u8 h.live), .val (.slice (some ⟨b, o, none⟩) n c), .val (.pointer (some ⟨b, o + 1, none⟩)), .val (.int .u8 h.flag), .val (.slice (some ⟨b, o, none⟩) n c), .val (.slice (some ⟨b, o + 2, none⟩) 4 (c - 2)), .val (.int .u32 h.index), .val (.slice (some ⟨b, o, none⟩) n c), .val (.slice (some ⟨b, o + 6, none⟩) 4 (c - 6)), .val (.int .u32 h.rank), .val (.agg (hdC ⟨h.live, h.flag, h.index, h.rank, List.replicate 16 0⟩).toArray), .blk 26 (hdC hdZ)] (by kernel_rfl) (by kernel_rfl) (by kernel_rfl) ?_ ?_
  · refine Steps'.cons ?_ (Steps'.cons ?_ (Steps'.cons ?_ (Steps'.cons ?_ (Steps'.cons ?_ (Steps'.cons ?_ (Steps'.cons ?_ (Steps'.cons ?_ (Steps'.cons ?_ (Steps'.cons ?_ (Steps'.cons ?_ (Steps'.cons ?_ (Steps'.cons ?_ (Steps'.cons ?_ (Steps'.one _ _ _ _ _ _ _))))))))))))))
    · intro ax wx hb hs hd
      have h0 : ax.tmps.getD 0 undef = (.slice (some ⟨b, o, none⟩) n c) := hs 0 (by kernel_rfl)
      refine Does.value (.slice (some ⟨b, o, none⟩) n c) ?_ rfl
      clear hs hd
      go_simp
    · intro ax wx hb hs hd
      have h11 : ax.tmps.getD 11 undef = (.slice (some ⟨b, o, none⟩) n c) := hd 0 11 rfl (by kernel_rfl) (by decide)
      have hn : 26 ≤ n := HN.out.1
      refine Does.value (.pointer (some ⟨b, o, none⟩)) ?_ rfl
      clear hs hd
      go_simp
      intro hz
      omega
    · intro ax wx hb hs hd
      have h12 : ax.tmps.getD 12 undef = (.pointer (some ⟨b, o, none⟩)) := hd 1 12 rfl (by kernel_rfl) (by decide)
      have c0 := (HC.out wx hb).1
      refine Does.value (.int .u8 h.live) ?_ rfl
      clear hs hd
      go_simp
    · intro ax wx hb hs hd
      have h0 : ax.tmps.getD 0 undef = (.slice (some ⟨b, o, none⟩) n c) := hs 0 (by kernel_rfl)
      refine Does.value (.slice (some ⟨b, o, none⟩) n c) ?_ rfl
      clear hs hd
      go_simp
    · intro ax wx hb hs hd
      have h14 : ax.tmps.getD 14 undef = (.slice (some ⟨b, o, none⟩) n c) := hd 3 14 rfl (by kernel_rfl) (by decide)
      have hn : 26 ≤ n := HN.out.1
      refine Does.value (.pointer (some ⟨b, o + 1, none⟩)) ?_ rfl
      clear hs hd
      go_simp
      intro hz
      omega
    · intro ax wx hb hs hd
      have h15 : ax.tmps.getD 15 undef = (.pointer (some ⟨b, o + 1, none⟩)) := hd 4 15 rfl (by kernel_rfl) (by decide)
      have c0 := (HC.out wx hb).2.1
      refine Does.value (.int .u8 h.flag) ?_ rfl
      clear hs hd
      go_simp
    · intro ax wx hb hs hd
      have h0 : ax.tmps.getD 0 undef = (.slice (some ⟨b, o, none⟩) n c) := hs 0 (by kernel_rfl)
      refine Does.value (.slice (some ⟨b, o, none⟩) n c) ?_ rfl
      clear hs hd
      go_simp
    · intro ax wx hb hs hd
      have h17 : ax.tmps.getD 17 undef = (.slice (some ⟨b, o, none⟩) n c) := hd 6 17 rfl (by kernel_rfl) (by decide)
      have S := HS.out.1
      refine Does.value (.slice (some ⟨b, o + 2, none⟩) 4 (c - 2)) ?_ rfl
      clear hs hd
      go_simp
    · intro ax wx hb hs hd
      have h18 : ax.tmps.getD 18 undef = (.slice (some ⟨b, o + 2, none⟩) 4 (c - 2)) := hd 7 18 rfl (by kernel_rfl) (by decide)
      refine Does.call 39 #[.slice (some ⟨b, o + 2, none⟩) 4 (c - 2)] (by clear hs hd; go_simp) ?_
      refine (rnum_any _ _ _ wx (HC.out wx hb).2.2.1).mono ?_
      rintro e w' ⟨rfl, q, rfl⟩
      rw [HI.out.1]
      exact ⟨_, rfl, rfl, below_dn (Below.refl _ _) q⟩
    · intro ax wx hb hs hd
      have h0 : ax.tmps.getD 0 undef = (.slice (some ⟨b, o, none⟩) n c) := hs 0 (by kernel_rfl)
      refine Does.value (.slice (some ⟨b, o, none⟩) n c) ?_ rfl
      clear hs hd
      go_simp
    · intro ax wx hb hs hd
      have h20 : ax.tmps.getD 20 undef = (.slice (some ⟨b, o, none⟩) n c) := hd 9 20 rfl (by kernel_rfl) (by decide)
      have S := HS.out.2.1
      refine Does.value (.slice (some ⟨b, o + 6, none⟩) 4 (c - 6)) ?_ rfl
      clear hs hd
      go_simp
    · intro ax wx hb hs hd
      have h21 : ax.tmps.getD 21 undef = (.slice (some ⟨b, o + 6, none⟩) 4 (c - 6)) := hd 10 21 rfl (by kernel_rfl) (by decide)
      refine Does.call 39 #[.slice (some ⟨b, o + 6, none⟩) 4 (c - 6)] (by clear hs hd; go_simp) ?_
      refine (rnum_any _ _ _ wx (HC.out wx hb).2.2.2.1).mono ?_
      rintro e w' ⟨rfl, q, rfl⟩
      rw [HI.out.2.1]
      exact ⟨_, rfl, rfl, below_dn (Below.refl _ _) q⟩
    · intro ax wx hb hs hd
      have h13 : ax.tmps.getD 13 undef = (.int .u8 h.live) := hd 2 13 rfl (by kernel_rfl) (by decide)
      have h16 : ax.tmps.getD 16 undef = (.int .u8 h.flag) := hd 5 16 rfl (by kernel_rfl) (by decide)
      have h19 : ax.tmps.getD 19 undef = (.int .u32 h.index) := hd 8 19 rfl (by kernel_rfl) (by decide)
      have h22 : ax.tmps.getD 22 undef = (.int .u32 h.rank) := hd 11 22 rfl (by kernel_rfl) (by decide)
      refine Does.build 26 _ rfl #[(0, .int .u8 h.live), (1, .int .u8 h.flag), (2, .int .u32 h.index), (3, .int .u32 h.rank)] ?_ _ (hbuild4 _ _ _ _ wx)
      simp only [List.map_toArray, List.map_cons, List.map_nil]
      clear hs hd
      simp only [Act.eval, h13, h16, h19, h22]
    · intro ax wx hb hs hd
      exact Does.alloc 26 rfl 20 _ hzero hb.size
  · intro wx hb
    refine @Ends.val _ _ _ _ _ _ _ _ _ (.slice (some ⟨b, o, none⟩) n c) rfl ?_
    refine @Ends.val _ _ _ _ _ _ _ _ _ (.pointer (some ⟨b, o, none⟩)) rfl ?_
    refine @Ends.val _ _ _ _ _ _ _ _ _ (.int .u8 h.live) rfl ?_
    refine @Ends.val _ _ _ _ _ _ _ _ _ (.slice (some ⟨b, o, none⟩) n c) rfl ?_
    refine @Ends.val _ _ _ _ _ _ _ _ _ (.pointer (some ⟨b, o + 1, none⟩)) rfl ?_
    refine @Ends.val _ _ _ _ _ _ _ _ _ (.int .u8 h.flag) rfl ?_
    refine @Ends.val _ _ _ _ _ _ _ _ _ (.slice (some ⟨b, o, none⟩) n c) rfl ?_
    refine @Ends.val _ _ _ _ _ _ _ _ _ (.slice (some ⟨b, o + 2, none⟩) 4 (c - 2)) rfl ?_
    refine @Ends.val _ _ _ _ _ _ _ _ _ (.int .u32 h.index) rfl ?_
    refine @Ends.val _ _ _ _ _ _ _ _ _ (.slice (some ⟨b, o, none⟩) n c) rfl ?_
    refine @Ends.val _ _ _ _ _ _ _ _ _ (.slice (some ⟨b, o + 6, none⟩) 4 (c - 6)) rfl ?_
    refine @Ends.val _ _ _ _ _ _ _ _ _ (.int .u32 h.rank) rfl ?_
    refine @Ends.val _ _ _ _ _ _ _ _ _ (.agg (hdC ⟨h.live, h.flag, h.index, h.rank, List.replicate 16 0⟩).toArray) rfl ?_
    refine @Ends.blk _ _ _ _ _ _ _ _ _ 26 (hdC hdZ) rfl ?_
    intro g5 hg5 bg5
    refine @Ends.one _ _ _ _ _ _ _ ?_
    simp only [Act.put, List.setIfInBounds_toArray, List.set_cons_zero, List.set_cons_succ]
    refine last_store 26 (.tmp 5) (.tmp 23) rfl rfl g5 rfl 26 _ (hdC ⟨h.live, h.flag, h.index, h.rank, List.replicate 16 0⟩) rfl bg5 rfl hsize (hdC_one _) ?_
    intro w2 b2 s2 k2
    have q1 := hb.size
    have V : Hid (Blk w2 g5 26 (hdC ⟨h.live, h.flag, h.index, h.rank, List.replicate 16 0⟩) ∧ Blk w2 w.heap.size 26 (hdC hdZ) ∧ Below w.heap.size w w2 ∧ w.heap.size < g5) := ⟨b2, (b1.later hb (by omega)).kept k2 (by omega), below_kept (below_chain l1 hb (by omega)) k2 (by omega) (fun j hj => by omega), by omega⟩
    clear b2 k2 bg5 b1 l1 hb q1 s2 s1 hg5 HC
    go_wp2_with fail
    go_loopw [6] (fun i wr => ∃ k : Nat, k ≤ 16 ∧ i = .int .i64 k ∧ Blk wr g5 26 (hdC ⟨h.live, h.flag, h.index, h.rank, h.group.take k ++ List.replicate (16 - k) 0⟩) ∧ Kept (fun y => y = g5) w2 wr) (fun i _ => 16 - (intOf i).toNat)
    case atStart => exact ⟨0, Nat.zero_le _, rfl, V.out.1, Kept.refl _ _⟩
    case round =>
      obtain ⟨k, hk, rfl, hbk, hkp⟩ := hrel
      have hgl := HI.out.2.2.len
      by_cases hlt : k < 16
      · obtain ⟨z, hz⟩ : ∃ z, h.group.getD k 0 = z := ⟨_, rfl⟩
        have HB1 : Below w.heap.size w wr := below_kept V.out.2.2.1 hkp V.out.2.2.1.size (fun j hj e => by have := V.out.2.2.2; omega)
        have c0 : wr.cell? ⟨b, o + (10 + k), none⟩ = some (.int .u8 z) := by
          have r := (HC0.out wr HB1).2.2.2.2 k (.int .u8 z) (by rw [← hz]; simp [u8s, List.getD, show k < h.group.length by omega])
          rwa [Nat.add_assoc] at r
        have c1 : wr.cell? ⟨g5, 4 + k, none⟩ = some (.int .u8 0) := by
          rw [hbk.cell, hdC, Nat.add_comm 4 k]
          simp [u8s, List.getElem?_append_right, show min k h.group.length = k by omega, show 0 < 16 - k by omega]
        have f1 := hbk.frozen (4 + k)
        have K1 := (Kept.refl (fun y => y = g5) wr).setCell (p := ⟨g5, 4 + k, none⟩) rfl (.int .u8 z)
        have T1 : Hid (Blk (wr.setCell ⟨g5, 4 + k, none⟩ (.int .u8 z)) g5 26 (hdC ⟨h.live, h.flag, h.index, h.rank, h.group.take (k + 1) ++ List.replicate (16 - (k + 1)) 0⟩) ∧ Kept (fun y => y = g5) w2 (wr.setCell ⟨g5, 4 + k, none⟩ (.int .u8 z))) := by
          refine ⟨?_, hkp.trans K1⟩
          have t := hbk.set (4 + k) (.int .u8 z)
          rw [hdC_set] at t
          have e := take_nextR h.group k (by omega) (16 - (k + 1))
          rw [show 16 - (k + 1) + 1 = 16 - k by omega, hz] at e
          simp only [e] at t
          exact t
        have j1 : (0 : Int) ≤ (k : Int) := by omega
        have j2 : (k : Int) < 16 := by omega
        have v1 : IntKind.i64.wrap (10 + (k : Int)) = 10 + (k : Int) := by simp only [IntKind.wrap, IntKind.bits, IntKind.signed]; simp; omega
        have j3 : (0 : Int) ≤ 10 + (k : Int) := by omega
        have j4 : 10 + (k : Int) < (n : Int) := by have := HN.out.1; omega
        have j5 : (10 + (k : Int)).toNat = 10 + k := by omega
        clear hz hbk hkp K1 HB1
        go_wp2_with fail
        go_roundw
        case rel => exact ⟨k + 1, by omega, by go_num, T1.out.1, T1.out.2⟩
        case measure => simp [intOf]; omega
      · obtain rfl : k = 16 := by omega
        have e : (⟨h.live, h.flag, h.index, h.rank, h.group.take 16 ++ List.replicate (16 - 16) 0⟩ : Hd) = h := by rw [List.take_of_length_le (by omega), Nat.sub_self, List.replicate_zero, List.append_nil]
        rw [e] at hbk
        have V2 : Hid (Blk wr g5 26 (hdC h) ∧ Blk wr w.heap.size 26 (hdC hdZ) ∧ Below w.heap.size w wr) := ⟨hbk, V.out.2.1.kept hkp (fun e => by have := V.out.2.2.2; omega), below_kept V.out.2.2.1 hkp V.out.2.2.1.size (fun j hj e => by have := V.out.2.2.2; omega)⟩
        clear hbk hkp e
        go_wp2_with fail
        refine region_invP 4 ((.val (.agg (hdC h).toArray)) :: (.val (.slice (some ⟨b, o, none⟩) n c)) :: (.val (.slice (subA (some ⟨b, o, none⟩) 26 c) (n - 26) (c - 26))) :: (.any (isO wr.heap.size (n - 26) (zs.drop 26)) (isO_later _ _ _)) :: []) (by kernel_rfl) (by kernel_rfl) (by kernel_rfl) [] ⟨.inl rfl, .inl rfl, .inl rfl, .inl rfl, trivial⟩ (by kernel_rfl) ?_ ?_
        · refine Steps'.cons ?_ (Steps'.cons ?_ (Steps'.cons ?_ (Steps'.cons ?_ (Steps'.one _ _ _ _ _ _ _))))
          · intro ax wx hb hs hd
            have h5 : ax.tmps.getD 5 undef = (.pointer (some ⟨g5, 0, none⟩)) := hs 5 (by kernel_rfl)
            exact Does.load 26 (.tmp 5) rfl g5 0 h5 (hdC h) _ (V2.out.1.later hb V2.out.1.lt).allR Try.underlying26 rfl (hsizeC HI.out.2.2.len)
          · intro ax wx hb hs hd
            have h0 : ax.tmps.getD 0 undef = (.slice (some ⟨b, o, none⟩) n c) := hs 0 (by kernel_rfl)
            refine Does.value (.slice (some ⟨b, o, none⟩) n c) ?_ rfl
            clear hs hd
            go_simp
          · intro ax wx hb hs hd
            have h37 : ax.tmps.getD 37 undef = (.slice (some ⟨b, o, none⟩) n c) := hd 1 37 rfl (by kernel_rfl) (by decide)
            have S := HS26.out.1
            refine Does.value (.slice (subA (some ⟨b, o, none⟩) 26 c) (n - 26) (c - 26)) ?_ rfl
            clear hs hd
            go_simp
          · intro ax wx hb hs hd
            have h38 : ax.tmps.getD 38 undef = (.slice (subA (some ⟨b, o, none⟩) 26 c) (n - 26) (c - 26)) := hd 2 38 rfl (by kernel_rfl) (by decide)
            refine Does.call 17 #[.slice (subA (some ⟨b, o, none⟩) 26 c) (n - 26) (c - 26)] (by clear hs hd; go_simp) ?_
            refine (copyB_any _ _ _ _ wx (HS26.out.2.later (below_chain V2.out.2.2 hb V2.out.2.2.size) (Nat.le_refl _))).mono ?_
            rintro e w' ⟨v, rfl, o, l⟩
            exact ⟨_, rfl, ownsRow_base o hb.size, l⟩
        · intro wx hb
          refine @EndsP.val _ _ _ _ _ _ _ _ (.agg (hdC h).toArray) rfl ?_
          refine @EndsP.val _ _ _ _ _ _ _ _ (.slice (some ⟨b, o, none⟩) n c) rfl ?_
          refine @EndsP.val _ _ _ _ _ _ _ _ (.slice (subA (some ⟨b, o, none⟩) 26 c) (n - 26) (c - 26)) rfl ?_
          refine @EndsP.any _ _ _ _ _ _ _ _ (isO wr.heap.size (n - 26) (zs.drop 26)) (isO_later _ _ _) rfl ?_
          intro v3 p3
          intro hD nf hn
          obtain ⟨mf, rfl⟩ : ∃ mf, nf = mf + 3 := ⟨nf - 3, by have h3 : 3 ≤ nf := hn; omega⟩
          clear hD hn
          simp only [Act.put, List.setIfInBounds_toArray, List.set_cons_zero, List.set_cons_succ]
          refine wpAny_ready (rs := [4]) (by kernel_rfl) (by simp) (AllReady.cons rfl (fun K hK => ?_) AllReady.nil)
          rw [if_pos (by rfl)]
          refine last_store 26 (.tmp 2) (.tmp 36) rfl rfl w.heap.size rfl 26 _ (hdC h) rfl (V2.out.2.1.later hb V2.out.2.1.lt) (by rw [hdC_length HI.out.2.2.len]; rfl) (hsizeC HI.out.2.2.len) (hdC_one _) ?_
          intro wp' bp sp kp
          refine hK _ _ ?_
          clear hK K
          refine wpAny_ready (rs := [5]) (by kernel_rfl) (by simp) (AllReady.cons rfl (fun K hK => ?_) AllReady.nil)
          rw [if_pos (by rfl)]
          refine last_assign (.tmp 39) rfl (some 3) rfl v3 rfl ?_
          refine hK _ _ ?_
          clear hK K
          simp only [Act.put, List.setIfInBounds_toArray, List.set_cons_zero, List.set_cons_succ]
          refine wpAny_ready (rs := [6]) (by kernel_rfl) (by simp) (AllReady.cons rfl (fun K hK => ?_) AllReady.nil)
          rw [if_pos (by rfl)]
          refine last_assign (.const (.bool true)) rfl (some 4) rfl (.bool true) rfl ?_
          refine hK _ _ ?_
          clear hK K
          simp only [Act.put, List.setIfInBounds_toArray, List.set_cons_zero, List.set_cons_succ]
          refine wpAny_done (by kernel_rfl) (NoPanic.normal ?_) _
          have q2 := V2.out.2.2.size
          have q3 := hb.size
          have L : Below w.heap.size w wp' := below_kept (below_chain V2.out.2.2 hb q2) kp (Nat.le_trans q2 q3) (fun j hj => by omega)
          have O3 : Hid (isO w.heap.size (n - 26) (zs.drop 26) v3 wp') := isO_base (isO_kept p3 kp (fun j hj => hj ▸ V2.out.2.1.lt)) q2
          clear kp sp hb q2 q3 p3
          go_wp2
          exact ret_btt rfl w.heap.size (hdC h) _ _ _ rfl rfl rfl bp Try.underlying26 rfl (hsizeC HI.out.2.2.len) rfl ⟨_, rfl, O3.out, L⟩
theorem rparse_one (ao : Option Addr) (n c : Nat) (xs : List Int) (hc : n ≤ c) (w : World) (hx : Seen w ao n xs) :
    Calls Try.prog 18 #[.slice ao n c] w fun e w' => ∃ v, e = .returned (.tuple #[.agg (hdC (psX xs)).toArray, v, .bool (isR xs)]) ∧ isO w.heap.size (psN xs n) (psP xs) v w' ∧ Below w.heap.size w w' := by
  cases hR : isR xs with
  | true =>
    rw [psX, psN, psP, if_pos hR, if_pos hR, if_pos hR]
    exact rparse_good ao n c xs hc w hx hR
  | false =>
    rw [psX, psN, psP, if_neg (by rw [hR]; decide), if_neg (by rw [hR]; decide), if_neg (by rw [hR]; decide)]
    refine (rparse_bad ao n c xs w hx hR).mono ?_
    rintro e w' ⟨rfl, l⟩
    exact ⟨_, rfl, World.ownsRow_nil _ _ _ _, l⟩
end Go.Proofs.Ytabdjoljdefjdaa
