/- The document's Sum, by value: the code of bytes. -/
import Derived.Test.YtlaegbabpiepeaaRTHalf
import Derived.Test.YtlaegbabpiepeaaTSum
import Derived.Test.YtlaegbabpiepeaaDSpare
namespace Go.Proofs.Ytlaegbabpiepeaa
open Go.RowKit
set_option linter.unusedVariables false
set_option linter.unusedSimpArgs false

theorem zero_new (w : World) : SeenN (w.alloc (.cells #[.int .i64 0] 3)) (some ⟨w.heap.size, 0, none⟩) 1 [0] := by
  have h : RowN (w.alloc (.cells #[.int .i64 0] 3)) w.heap.size 1 [0] := ⟨[], heap_alloc_new w _, rfl⟩
  exact h.seen (by decide) (fun d hd => by simp at hd; subst hd; decide)
theorem b0n : Bytes [0] := fun z hz => by simp at hz; subst hz; decide
def chunkL (m : List Int) (k : Nat) : List Int := (m.drop (16 * k)).take 16
theorem chunk_at (m : List Int) (k j : Nat) (hj : j < 16) : (chunkL m k).getD j 0 = m.getD (16 * k + j) 0 := by
  simp [chunkL, List.getD, List.getElem?_take, hj, List.getElem?_drop]
theorem chunk_length (m : List Int) (k : Nat) : (chunkL m k).length = Nat.min 16 (m.length - 16 * k) := by simp [chunkL]
theorem chunk_bytes {m : List Int} (h : Bytes m) (k : Nat) : Bytes (chunkL m k) := bytes_take (bytes_drop h _) _
theorem docK_succ (r : Int) (m : List Int) (k : Nat) : docK r m (k + 1) = ((docK r m k + (le (chunkL m k ++ [1]))) * r) % prime := by
  rw [docK, le_app, le_one, Int.mul_one]; rfl
theorem bytes_one {c : List Int} (h : Bytes c) : Bytes (c ++ [1]) := bytes_app h (fun z hz => by simp at hz; subst hz; decide)
set_option maxHeartbeats 4000000 in
set_option maxRecDepth 20000 in
theorem rtsum_any (key : List Int) (hk : key.length = 32) (hkb : Bytes key) (ao : Option Addr) (n c : Nat) (m : List Int) (w : World) (hx : Seen w ao n m) :
    Calls Try.prog 12 #[.agg (u8s key).toArray, .slice ao n c] w fun e w' => e = .returned (.agg (u8s (tagB key m)).toArray) ∧ Below w.heap.size w w' := by
  have HX : Hid (Seen w ao n m ∧ m.length = n ∧ Bytes m) := ⟨hx, hx.len, hx.bytes⟩
  have HK : Hid (key.length = 32 ∧ Bytes key) := ⟨hk, hkb⟩
  have ht := hx.top
  obtain ⟨i0, hi, hz0, hz1, hz2⟩ := info_parts info_int
  obtain ⟨T, hT⟩ : ∃ T, tagB key m = T := ⟨_, rfl⟩
  have HT : Hid (tagB key m = T) := hT
  rw [hT]
  clear hx hk hkb hT
  go_enter Try.func12, Try.ntmps12
  go_wp2_with (first | (refine wpList_box_new rfl 27 _ rfl (u8s key) rfl ?_; intro w1 b1 s1 l1) | (refine wpList_alloc_new rfl 46 rfl 16 _ zeroTag ?_; intro w2 b2 s2 l2) | (refine wpList_load_blk rfl 27 _ rfl _ rfl (u8s key) _ (b1.later l2 (by omega)) Try.underlying27 rfl (by rw [u8s_length, HK.out.1]; exact sizeKey) ?_))
  have H2 : Hid (Blk w2 w.heap.size 27 (u8s key) ∧ Blk w2 (w.heap.size + 1) 46 (u8s (zs0 16)) ∧ Below w.heap.size w w2) := by
    rw [s1] at b2
    exact ⟨b1.later l2 (by omega), b2, below_chain l1 l2 (by omega)⟩
  clear b1 s1 l1 b2 s2 l2
  refine (half_r key HK.out.1 HK.out.2 w2).mono ?_
  rintro e w3 ⟨vr, rfl, hvr, l3⟩
  obtain ⟨ar, nr, cr, rfl, sr⟩ := hvr
  have hnr : nr = 16 := by rw [← sr.len, hR_length key HK.out.1]
  subst hnr
  have H3 : Hid (Blk w3 w.heap.size 27 (u8s key) ∧ Blk w3 (w.heap.size + 1) 46 (u8s (zs0 16)) ∧ Below w.heap.size w w3 ∧ SeenN w3 ar 16 (hR key)) := ⟨H2.out.1.later l3 H2.out.1.lt, H2.out.2.1.later l3 H2.out.2.1.lt, below_chain H2.out.2.2 l3 H2.out.2.2.size, sr⟩
  clear sr l3 H2
  go_wp2_with fail
  have s4 := zero_new w3
  have l4 : Below w3.heap.size w3 (w3.alloc (.cells #[.int .i64 0] 3)) := (Below.refl _ _).alloc (Nat.le_refl _) _
  obtain ⟨w4, hw4⟩ : ∃ W, w3.alloc (.cells #[.int .i64 0] 3) = W := ⟨_, rfl⟩
  rw [hw4] at s4 l4 ⊢
  have H4 : Hid (Blk w4 w.heap.size 27 (u8s key) ∧ Blk w4 (w.heap.size + 1) 46 (u8s (zs0 16)) ∧ Below w.heap.size w w4 ∧ SeenN w4 ar 16 (hR key) ∧ SeenN w4 (some ⟨w3.heap.size, 0, none⟩) 1 [0]) := ⟨H3.out.1.later l4 H3.out.1.lt, H3.out.2.1.later l4 H3.out.2.1.lt, below_chain H3.out.2.2.1 l4 H3.out.2.2.1.size, H3.out.2.2.2.later l4 (Nat.le_refl _), s4⟩
  clear s4 l4 hw4 H3
  go_loopw [6, 7] (fun v i wr => ∃ (k : Nat) (es : List Int) (ae : Option Addr) (ne ce : Nat), 16 * k < n + 16 ∧ i = .int .i64 (16 * (k : Int)) ∧ v = .slice ae ne ce ∧ SeenN wr ae ne es ∧ Bytes es ∧ ne ≤ 17 ∧ le es = docK (rOf key) m k ∧ Below w4.heap.size w4 wr) (fun _ i _ => n + 16 - (intOf i).toNat)
  case atStart => exact ⟨0, [0], _, 1, 1, by omega, rfl, rfl, H4.out.2.2.2.2, b0n, by decide, rfl, Below.refl _ _⟩
  case round =>
    obtain ⟨k, es, ae, ne, ce, hk, rfl, rfl, se, hbe, hne, hle, hbel⟩ := hrel
    have HE : Hid (SeenN wr ae ne es ∧ Bytes es ∧ le es = docK (rOf key) m k ∧ Below w4.heap.size w4 wr) := ⟨se, hbe, hle, hbel⟩
    clear se hbe hle hbel
    by_cases hlt : 16 * k < n
    · have HC : Hid ((chunkL m k).length = Nat.min 16 (n - 16 * k) ∧ Bytes (chunkL m k)) := ⟨by rw [chunk_length, HX.out.2.1], chunk_bytes HX.out.2.2 k⟩
      obtain ⟨Lc, HLc⟩ : ∃ Lc, Hid ((chunkL m k).length = Lc) := ⟨_, rfl⟩
      have hLc1 : Lc ≤ 16 := by rw [← HLc.out, HC.out.1]; exact Nat.min_le_left _ _
      have hLc2 : 16 * k + Lc ≤ n := by
        have : Lc ≤ n - 16 * k := by rw [← HLc.out, HC.out.1]; exact Nat.min_le_right _ _
        omega
      have hLc3 : Lc < 16 → 16 * k + Lc = n := by
        intro h
        have e : Lc = min 16 (n - 16 * k) := by rw [← HLc.out]; exact HC.out.1
        omega
      have i1 : 16 * (k : Int) < (n : Int) := by omega
      obtain ⟨w5, hw5⟩ : ∃ W, W = wr := ⟨_, rfl⟩
      subst hw5
      go_wp2_with fail
      go_loopw [8, 9] (fun v i wr => ∃ j : Nat, j ≤ Lc ∧ i = .int .i64 (16 * (k : Int) + (j : Int)) ∧ wr.ownsRow w5.heap.size 3 1 v j (i64s ((chunkL m k).take j)) ∧ Below w5.heap.size w5 wr) (fun _ i _ => 16 * k + 16 - (intOf i).toNat)
      case atStart => exact ⟨0, Nat.zero_le _, by simp, World.ownsRow_nil _ _ _ _, Below.refl _ _⟩
      case round =>
        obtain ⟨j, hj, rfl, hown, hbel⟩ := hrel
        have hsz := hbel.size
        by_cases hjl : j < Lc
        · have i2 : 16 * (k : Int) + (j : Int) < (n : Int) := by omega
          have i3 : 16 * (k : Int) + (j : Int) < 16 * (k : Int) + 16 := by omega
          have i4 : (0 : Int) ≤ 16 * (k : Int) + (j : Int) := by omega
          obtain ⟨b, o, rfl, hb, hc⟩ := HX.out.1.cells (by omega)
          have L5 := below_chain (below_chain H4.out.2.2.1 HE.out.2.2.2 H4.out.2.2.1.size) hbel (Nat.le_trans H4.out.2.2.1.size HE.out.2.2.2.size)
          have c1 := (L5.cell (p := ⟨b, o + (16 * k + j), none⟩) hb).trans (hc (16 * k + j) (by omega))
          have bD := HX.out.2.2.at (16 * k + j) (by rw [HX.out.2.1]; omega)
          have HN : Hid (j < (chunkL m k).length ∧ (chunkL m k).getD j 0 = m.getD (16 * k + j) 0) := ⟨by rw [HLc.out]; exact hjl, chunk_at m k j (by omega)⟩
          obtain ⟨D, hD⟩ : ∃ D, m.getD (16 * k + j) 0 = D := ⟨_, rfl⟩
          rw [hD] at c1 bD HN
          have v1 : IntKind.i64.wrap D = D := by rw [IntKind.wrap_i64]; omega
          have a1 : ((16 * k + j : Nat) : Int) = 16 * (k : Int) + (j : Int) := by omega
          have a2 : (16 * (k : Int) + (j : Int)).toNat = 16 * k + j := by omega
          clear hc hD L5
          go_wp2_with (at_builtin; refine wpList_append_own _ rfl _ _ 66 rfl w5.heap.size 3 i0 (.int .i64 0) 1 8 Try.underlying66 hi hz0 hz1 hz2 rfl (by decide) _ _ _ rfl (hown.alloc _) ⟨wr.heap.size, 0, none⟩ 1 1 [.int .i64 D] rfl rfl ?c1 ?c2 ?c3 ?c4 ?c5 ?_)
          try case c1 => exact one_new _ _ _
          case c2 => first | rfl | (intro u hu; simp at hu; subst hu; rfl)
          case c3 => unfold maxLen; omega
          case c4 => omega
          case c5 => first | omega | (simp; omega)
          · intro v' w6 hown' hgrow _
            have R := ownN_next (w := w5) HN.out.1 HN.out.2 hbel hown hown' hgrow
            clear hown' hgrow hown hbel c1 a1 a2
            go_wp2_with fail
            exact ⟨⟨j + 1, by omega, by go_num, R.1, R.2⟩, by simp [intOf]; omega⟩
        · obtain rfl : Lc = j := by omega
          rw [List.take_of_length_le (by rw [HLc.out]; exact Nat.le_refl _)] at hown
          have hstop : ¬ (16 * (k : Int) + (Lc : Int) < (n : Int)) ∨ (16 * (k : Int) + (Lc : Int) < (n : Int) ∧ ¬ (16 * (k : Int) + (Lc : Int) < 16 * (k : Int) + 16)) := by
            rcases Nat.lt_or_ge Lc 16 with h | h
            · left; have := hLc3 h; omega
            · by_cases h2 : 16 * (k : Int) + (Lc : Int) < (n : Int)
              · right; exact ⟨h2, by omega⟩
              · left; exact h2
          have hrest : ∀ (v' : Value) (w6 : World), w6.ownsRow w5.heap.size 3 1 v' (Lc + 1) (i64s (chunkL m k) ++ [.int .i64 1]) → (wr.alloc (.cells #[.int .i64 1] 3)).grownBy w6 u8.ownBlock → ∃ a6 c6, v' = .slice a6 (Lc + 1) c6 ∧ SeenN w6 a6 (Lc + 1) (chunkL m k ++ [1]) ∧ Below w5.heap.size w5 w6 := by
            intro v' w6 hown' hgrow
            have hown2 := hown
            have hown3 := hown'
            have R := ownN_more (w := w5) (zs := chunkL m k) (z := 1) hbel (by rw [HLc.out]; exact hown2) (by rw [HLc.out]; exact hown3) hgrow
            have hl : (chunkL m k ++ [1]).length = Lc + 1 := by rw [List.length_append, HLc.out]; rfl
            rw [hl] at R
            obtain ⟨a6, n6, c6, rfl, s6⟩ := isN_own hl (by omega) (small_of_bytes (bytes_one HC.out.2)) R.1
            obtain rfl : Lc + 1 = n6 := by rw [← hl, s6.len]
            exact ⟨a6, c6, rfl, s6, R.2⟩
          rcases hstop with h1 | ⟨h1, h2⟩
          all_goals
            go_wp2_with (at_builtin; refine wpList_append_own _ rfl _ _ 66 rfl w5.heap.size 3 i0 (.int .i64 0) 1 8 Try.underlying66 hi hz0 hz1 hz2 rfl (by decide) _ _ _ rfl (hown.alloc _) ⟨wr.heap.size, 0, none⟩ 1 1 [.int .i64 1] rfl rfl ?c1 ?c2 ?c3 ?c4 ?c5 ?_)
            try case c1 => exact one_new _ _ _
            case c2 => first | rfl | (intro u hu; simp at hu; subst hu; rfl)
            case c3 => unfold maxLen; omega
            case c4 => omega
            case c5 => first | omega | (simp; omega)
            · intro v' w6 hown' hgrow _
              obtain ⟨a6, c6, rfl, s6, l6⟩ := hrest v' w6 hown' hgrow
              have H6 : Hid (SeenN w6 a6 (Lc + 1) (chunkL m k ++ [1]) ∧ Below w4.heap.size w4 w6 ∧ SeenN w6 ae ne es ∧ SeenN w6 ar 16 (hR key)) := ⟨s6, below_chain HE.out.2.2.2 l6 HE.out.2.2.2.size, HE.out.1.later l6 (Nat.le_refl _), (H4.out.2.2.2.1.later HE.out.2.2.2 (Nat.le_refl _)).later l6 (Nat.le_refl _)⟩
              clear hown' hgrow hown hbel hrest s6 l6
              go_wp2_with fail
              refine (add_any ae a6 ne (Lc + 1) ce c6 es _ w6 H6.out.2.2.1 H6.out.1 HE.out.2.1 (bytes_one HC.out.2) (by omega) (by omega)).mono ?_
              rintro e w7 ⟨v7, rfl, p1, h7⟩
              obtain ⟨a7, n7, c7, rfl, s7⟩ := h7.1
              have hn7 : n7 ≤ 23 := by
                have h := h7.2.2.2.2.2.1
                rw [s7.len] at h
                have h3 : Nat.max ne (Lc + 1) ≤ 17 := Nat.max_le.2 ⟨by omega, by omega⟩
                omega
              have H7 : Hid (SeenN w7 a7 n7 p1 ∧ Bytes p1 ∧ le p1 = docK (rOf key) m k + le (chunkL m k ++ [1]) ∧ Below w4.heap.size w4 w7 ∧ SeenN w7 ar 16 (hR key)) := by
                obtain ⟨_, g2, g3, _, _, _, g7⟩ := h7
                exact ⟨s7, g2, by rw [g3, HE.out.2.2.1], below_chain H6.out.2.1 g7 H6.out.2.1.size, H6.out.2.2.2.later g7 (Nat.le_refl _)⟩
              clear h7 s7
              go_wp2_with fail
              refine (mul_any a7 ar n7 16 c7 cr p1 (hR key) w7 H7.out.1 H7.out.2.2.2.2 H7.out.2.1 (hR_bytes key HK.out.1) (by omega) (by decide)).mono ?_
              rintro e w8 ⟨v8, rfl, p2, h8⟩
              obtain ⟨a8, n8, c8, rfl, s8⟩ := h8.1
              have hn8 : n8 ≤ 45 := by have h := h8.2.2.2.2.1; rw [s8.len] at h; omega
              have H8 : Hid (SeenN w8 a8 n8 p2 ∧ Bytes p2 ∧ le p2 = (docK (rOf key) m k + le (chunkL m k ++ [1])) * rOf key ∧ Below w4.heap.size w4 w8) := by
                obtain ⟨_, g2, g3, _, _, g6⟩ := h8
                exact ⟨s8, g2, by rw [g3, H7.out.2.2.1, hR_le key HK.out.1 HK.out.2], below_chain H7.out.2.2.2.1 g6 H7.out.2.2.2.1.size⟩
              clear h8 s8
              go_wp2_with fail
              refine (fold_any a8 n8 c8 p2 w8 H8.out.1 H8.out.2.1 (by omega)).mono ?_
              rintro e w9 ⟨v9, rfl, p3, h9⟩
              obtain ⟨a9, n9, c9, rfl, s9⟩ := h9.1
              have hn9 : n9 ≤ 17 := by have h := h9.2.2.2.1; rwa [s9.len] at h
              have H9 : Hid (SeenN w9 a9 n9 p3 ∧ Bytes p3 ∧ le p3 = docK (rOf key) m (k + 1) ∧ Below w4.heap.size w4 w9) := by
                obtain ⟨_, g2, g3, _, g5⟩ := h9
                exact ⟨s9, g2, by rw [g3, H8.out.2.2.1, docK_succ], below_chain H8.out.2.2.2 g5 H8.out.2.2.2.size⟩
              clear h9 s9
              go_wp2_with fail
              exact ⟨⟨k + 1, p3, a9, n9, c9, by omega, by go_num, rfl, H9.out.1, H9.out.2.1, hn9, H9.out.2.2.1, H9.out.2.2.2⟩, by simp [intOf]; omega⟩
    · have i1 : ¬ 16 * (k : Int) < (n : Int) := by omega
      have hkk : (n + 15) / 16 = k := by omega
      have HF : Hid (tagB key m = leB 16 (le es + sOf key)) := by
        show _ = _
        rw [tagB, code_doc, HX.out.2.1, hkk, HE.out.2.2.1]
      have H5 : Hid (Blk wr w.heap.size 27 (u8s key) ∧ Blk wr (w.heap.size + 1) 46 (u8s (zs0 16)) ∧ Below w.heap.size w wr ∧ SeenN wr ae ne es) := ⟨H4.out.1.later HE.out.2.2.2 H4.out.1.lt, H4.out.2.1.later HE.out.2.2.2 H4.out.2.1.lt, below_chain H4.out.2.2.1 HE.out.2.2.2 H4.out.2.2.1.size, HE.out.1⟩
      clear hkk
      go_wp2_with (first | (refine wpList_load_blk rfl 27 _ rfl _ rfl (u8s key) _ H5.out.1 Try.underlying27 rfl (by rw [u8s_length, HK.out.1]; exact sizeKey) ?_))
      refine (half_s key HK.out.1 HK.out.2 wr).mono ?_
      rintro e w6 ⟨v6, rfl, hv6, l6⟩
      obtain ⟨a6, n6, c6, rfl, s6⟩ := hv6
      have hl6 : ((key.drop 16).take 16).length = 16 := by rw [List.length_take, List.length_drop, HK.out.1]; rfl
      obtain rfl : 16 = n6 := by rw [← hl6, s6.len]
      have H6 : Hid (SeenN w6 a6 16 ((key.drop 16).take 16) ∧ SeenN w6 ae ne es ∧ Below w.heap.size w w6 ∧ Blk w6 (w.heap.size + 1) 46 (u8s (zs0 16))) := ⟨s6, H5.out.2.2.2.later l6 (Nat.le_refl _), below_chain H5.out.2.2.1 l6 H5.out.2.2.1.size, H5.out.2.1.later l6 H5.out.2.1.lt⟩
      clear s6 l6 hl6
      go_wp2_with fail
      refine (add_any ae a6 ne 16 ce c6 es _ w6 H6.out.2.1 H6.out.1 HE.out.2.1 (bytes_take (bytes_drop HK.out.2 _) _) (by omega) (by decide)).mono ?_
      rintro e w7 ⟨v7, rfl, p1, h7⟩
      obtain ⟨a7, n7, c7, rfl, s7⟩ := h7.1
      have hn7 : 16 ≤ n7 := by have h := h7.2.2.2.2.1; rwa [s7.len] at h
      have ht7 := s7.top
      have hT := HT.out
      have H7 : Hid (SeenN w7 a7 n7 p1 ∧ Bytes p1 ∧ tagB key m = T ∧ p1.take 16 = T ∧ T.length = 16 ∧ Below w.heap.size w w7 ∧ Blk w7 (w.heap.size + 1) 46 (u8s (zs0 16)) ∧ p1.length = n7) := by
        obtain ⟨_, g2, g3, _, _, _, g7⟩ := h7
        refine ⟨s7, g2, hT, ?_, by rw [← hT, tagB_length], below_chain H6.out.2.2.1 g7 H6.out.2.2.1.size, H6.out.2.2.2.later g7 H6.out.2.2.2.lt, s7.len⟩
        rw [digits16 p1 g2 (by rw [s7.len]; exact hn7), g3, ← hT, HF.out]; rfl
      clear h7 s7 hT
      go_wp2_with (first | (refine wpList_alloc_new rfl 46 rfl 16 _ zeroTag ?_; intro w8 b8 s8 l8))
      have H8 : Hid (Blk w8 w7.heap.size 46 (u8s (zs0 16)) ∧ SeenN w8 a7 n7 p1 ∧ Below w.heap.size w w8 ∧ Blk w8 (w.heap.size + 1) 46 (u8s (zs0 16)) ∧ w.heap.size + 1 < w7.heap.size ∧ w8.heap.size = w7.heap.size + 1) := ⟨b8, H7.out.1.later l8 (Nat.le_refl _), below_chain H7.out.2.2.2.2.2.1 l8 H7.out.2.2.2.2.2.1.size, H7.out.2.2.2.2.2.2.1.later l8 H7.out.2.2.2.2.2.2.1.lt, H7.out.2.2.2.2.2.2.1.lt, s8⟩
      clear b8 s8 l8
      obtain ⟨G, HG⟩ : ∃ G, Hid (w7.heap.size = G) := ⟨_, rfl⟩
      rw [HG.out] at H8 ⊢
      go_loopw [12] (fun i wr => ∃ j : Nat, j ≤ 16 ∧ i = .int .i64 j ∧ Blk wr G 46 (u8s (T.take j ++ zs0 (16 - j))) ∧ Kept (fun b => b = G) w8 wr) (fun i _ => 16 - (intOf i).toNat)
      case atStart => exact ⟨0, Nat.zero_le _, rfl, H8.out.1, Kept.refl _ _⟩
      case round =>
        obtain ⟨j, hj, rfl, hbk, hkp⟩ := hrel
        by_cases hjl : j < 16
        · obtain ⟨b, o, rfl, hb, hc⟩ := H8.out.2.1.cells (by omega)
          have hbG : b ≠ G := by
            obtain ⟨b', o', e', hlt', _⟩ := H7.out.1.cells (by omega)
            simp only [Option.some.injEq, Addr.mk.injEq, and_true] at e'
            have := HG.out
            omega
          have c1 := (hkp.cell (p := ⟨b, o + j, none⟩) hb hbG).trans (hc j (by omega))
          have bD := H7.out.2.1.at j (by rw [H7.out.2.2.2.2.2.2.2]; omega)
          have eT : T.getD j 0 = p1.getD j 0 := by rw [← H7.out.2.2.2.1]; simp [List.getD, List.getElem?_take, hjl]
          have hlen : (T.take j ++ zs0 (16 - j) : List Int).length = 16 := by rw [List.length_append, List.length_take, H7.out.2.2.2.2.1, zs0_length]; omega
          have cg := u8s_cell hbk j (by rw [hlen]; exact hjl)
          have fg := hbk.frozen j
          have hset : (T.take j ++ zs0 (16 - j) : List Int).set j (p1.getD j 0) = T.take (j + 1) ++ zs0 (16 - (j + 1)) := by
            have h := take_next T j (by rw [H7.out.2.2.2.2.1]; exact hjl) (16 - (j + 1))
            rw [show 16 - (j + 1) + 1 = 16 - j by omega, eT] at h
            exact h
          obtain ⟨D, hD⟩ : ∃ D, p1.getD j 0 = D := ⟨_, rfl⟩
          obtain ⟨Z, hZ⟩ : ∃ Z, (T.take j ++ zs0 (16 - j) : List Int).getD j 0 = Z := ⟨_, rfl⟩
          rw [hD] at c1 bD hset
          rw [hZ] at cg
          have HQ : Hid (Blk (wr.setCell ⟨G, j, none⟩ (.int .u8 D)) G 46 (u8s (T.take (j + 1) ++ zs0 (16 - (j + 1)))) ∧ Kept (fun b => b = G) w8 (wr.setCell ⟨G, j, none⟩ (.int .u8 D))) := by
            have R := hbk.set j (.int .u8 D)
            rw [u8s_set, hset] at R
            exact ⟨R, hkp.setCell rfl _⟩
          have v1 : IntKind.u8.wrap D = D := by simp only [IntKind.wrap, IntKind.bits, IntKind.signed]; simp; omega
          have i2 : (j : Int) < 16 := by omega
          have i3 : (0 : Int) ≤ (j : Int) := by omega
          have i4 : (j : Int) < (n7 : Int) := by omega
          clear hc hD hZ hset eT hbk hkp hlen
          go_wp2_with fail
          exact ⟨⟨j + 1, by omega, by go_num, HQ.out.1, HQ.out.2⟩, by simp [intOf]; omega⟩
        · obtain rfl : j = 16 := by omega
          have e1 : T.take 16 ++ zs0 (16 - 16) = T := by rw [List.take_of_length_le (by rw [H7.out.2.2.2.2.1]; exact Nat.le_refl _)]; simp [zs0]
          rw [e1] at hbk
          have HQ : Hid (Blk wr G 46 (u8s T) ∧ Blk wr (w.heap.size + 1) 46 (u8s (zs0 16)) ∧ Below w.heap.size w wr ∧ T.length = 16) := by
            have := H8.out.2.2.2.2.1
            exact ⟨hbk, H8.out.2.2.2.1.kept hkp (by omega), below_kept H8.out.2.2.1 hkp H8.out.2.2.1.size (fun j hj => by omega), H7.out.2.2.2.2.1⟩
          clear hbk hkp e1
          rw [show ((16 : Nat) : Int) = 16 from rfl]
          go_wp2_with (first | (refine wpList_load_blk rfl 46 _ rfl _ rfl (u8s T) _ HQ.out.1 Try.underlying46 rfl (by rw [u8s_length, HQ.out.2.2.2]; exact sizeTag) ?_) | (refine wpList_store_blk rfl 46 46 _ _ rfl _ rfl _ (u8s T) rfl HQ.out.2.1 (by rw [u8s_length, u8s_length, HQ.out.2.2.2]; rfl) (by rw [u8s_length, HQ.out.2.2.2]; exact sizeTag) (u8s_one _) ?_; intro w9 b9 s9 k9))
          exact ret_blk rfl (w.heap.size + 1) (u8s T) _ rfl b9 Try.underlying46 rfl (by rw [u8s_length, HQ.out.2.2.2]; exact sizeTag) rfl ⟨rfl, below_kept HQ.out.2.2.1 k9 HQ.out.2.2.1.size (fun j hj => by omega)⟩
end Go.Proofs.Ytlaegbabpiepeaa
