/- Joined texts: TSeenP TSum TCheck DCopy TRows DSpare LMask. -/
import Derived.Test.YtogplebajpdmoaaBO
import Derived.Test.YtogplebajpdmoaaBT
import Derived.Test.YtogplebajpdmoaaBP
import Derived.Test.YtogplebajpdmoaaBR
import Derived.Laws.StructEq
import Derived.Lib.SmallJoins
import Derived.Laws.OwnMore
import Derived.Test.YtogplebajpdmoaaBS
/- Lists of bytes, as data. -/
namespace Go.Proofs.Ytogplebajpdmoaa
open Go.RowKit
set_option linter.unusedVariables false
set_option linter.unusedSimpArgs false

/-- Lists of bytes, as data. -/
structure SeenP (w : World) (ao : Option Addr) (n : Nat) (pss : List (List Int)) : Prop where
  len : pss.length = n
  cells : ∀ i, i < n → ∃ b o so c, ao = some ⟨b, o, none⟩ ∧ b < w.heap.size ∧ w.cell? ⟨b, o + i, none⟩ = some (.slice so (pss.getD i []).length c) ∧ Seen w so (pss.getD i []).length (pss.getD i []) ∧ (pss.getD i []).length ≤ c
theorem SeenP.later {w w' : World} {ao : Option Addr} {n : Nat} {pss : List (List Int)} (h : SeenP w ao n pss) {B : Nat} (hb : Below B w w') (hB : w.heap.size ≤ B) : SeenP w' ao n pss :=
  ⟨h.len, fun i hi => by
    obtain ⟨b, o, so, c, e, hlt, hc, hs, hl⟩ := h.cells i hi
    exact ⟨b, o, so, c, e, Nat.lt_of_lt_of_le hlt hb.size, (hb.cell (p := ⟨b, o + i, none⟩) (Nat.lt_of_lt_of_le hlt hB)).trans hc, hs.later hb hB, hl⟩⟩
theorem flat_succ (pss : List (List Int)) (k : Nat) (hk : k < pss.length) : (pss.take (k + 1)).flatten = (pss.take k).flatten ++ pss.getD k [] := by
  rw [List.take_succ_eq_append_getElem hk, List.flatten_append]
  simp [List.getD, hk]
theorem flat_le (pss : List (List Int)) (k : Nat) : (pss.take k).flatten.length ≤ pss.flatten.length := by
  conv => rhs; rw [← List.take_append_drop k pss, List.flatten_append, List.length_append]
  exact Nat.le_add_right _ _
end Go.Proofs.Ytogplebajpdmoaa

/- Layer tag: the code of parts. -/
namespace Go.Proofs.Ytogplebajpdmoaa
open Go.RowKit
set_option linter.unusedVariables false
set_option linter.unusedSimpArgs false

/-- The code of bytes under a key. -/
def tagB (key m : List Int) : List Int := codeB (rOf key) (sOf key) m
theorem tagB_length (key m : List Int) : (tagB key m).length = 16 := codeB_length _ _ _
theorem tagB_bytes (key m : List Int) : Bytes (tagB key m) := codeB_bytes _ _ _
/-- A poly of a key that holds the bytes m. -/
def KHolds (w : World) (g : Nat) (key m : List Int) : Prop := PHolds w g (rLow key) (rHigh key) (sOf key) m
theorem psum_key (g : Nat) (key m : List Int) (w : World) (h : KHolds w g key m) : Calls Try.prog 63 #[.pointer (some ⟨g, 0, none⟩)] w fun e w' => e = .returned (.agg (u8s (tagB key m)).toArray) ∧ Below w.heap.size w w' := psum_any g _ _ _ m w h
set_option maxRecDepth 20000 in
set_option maxHeartbeats 1000000 in
theorem tsum_any (key : List Int) (hkl : key.length = 32) (hkb : Bytes key) (ao : Option Addr) (n c : Nat) (pss : List (List Int)) (w : World) (hx : SeenP w ao n pss) (hn : n ≤ 140737488355328) :
    Calls Try.prog 28 #[.agg (u8s key).toArray, .slice ao n c] w fun e w' => e = .returned (.agg (u8s (tagB key pss.flatten)).toArray) ∧ Below w.heap.size w w' := by
  have HX : Hid (SeenP w ao n pss) := hx
  have HN : Hid (pss.length = n) := hx.len
  have HK : Hid (key.length = 32 ∧ Bytes key) := ⟨hkl, hkb⟩
  clear hx hkl hkb
  go_enter Try.func28, Try.ntmps28
  go_wp2_with (first | (refine wpList_box_new rfl 30 _ rfl (u8s key) rfl ?_; intro w1 b1 s1 l1) | (refine wpList_alloc_new rfl 47 rfl 16 _ zeroTag ?_; intro w2 b2 s2 l2) | (refine wpList_load_blk rfl 30 _ rfl _ rfl (u8s key) _ (b1.later l2 (by omega)) Try.underlying30 rfl (by rw [u8s_length, HK.out.1]; exact tsizeKey) ?_) | (go_at_call 61; refine (tnew_any key HK.out.1 HK.out.2 _).mono ?_; rintro e w4 ⟨G, rfl, hG, h4, l4⟩))
  have q2 := l4.size
  have HB : Hid (Blk w4 (w.heap.size + 1) 47 (u8s (zs0 16)) ∧ KHolds w4 G key [] ∧ Below w.heap.size w w4 ∧ w.heap.size + 1 < G) := by
    rw [s1] at b2
    exact ⟨b2.later l4 (by omega), h4, below_chain (below_chain l1 l2 (by omega)) l4 (by omega), by omega⟩
  clear b1 s1 l1 b2 s2 l2 hG h4 l4 q2
  go_loopw [12] (fun i wr => ∃ k : Nat, k ≤ n ∧ i = .int .i64 k ∧ KHolds wr G key (pss.take k).flatten ∧ Kept (fun b => b = G) w4 wr) (fun i _ => n - (intOf i).toNat)
  case atStart => exact ⟨0, Nat.zero_le _, rfl, HB.out.2.1, Kept.refl _ _⟩
  case round =>
    obtain ⟨k, hk, rfl, hh, hkp⟩ := hrel
    by_cases hlt : k < n
    · obtain ⟨b, o, so, cs, rfl, hb, hc, hs, hl⟩ := HX.out.cells k hlt
      obtain ⟨B1, B2, B3, B5⟩ := HB.out
      have c1 : wr.cell? ⟨b, o + k, none⟩ = some (.slice so (pss.getD k []).length cs) := (hkp.cell (p := ⟨b, o + k, none⟩) (Nat.lt_of_lt_of_le hb B3.size) (by show ¬ b = _; omega)).trans ((B3.cell (p := ⟨b, o + k, none⟩) hb).trans hc)
      have S1 : Hid (Seen wr so (pss.getD k []).length (pss.getD k [])) := (hs.later B3 (Nat.le_refl _)).kept hkp (fun b' o' h0 e => by
        have := hs.old (Nat.le_refl _) b' o' h0 e
        omega)
      have N1 : Hid (∀ b' o', 0 < (pss.getD k []).length → so = some ⟨b', o', none⟩ → b' ≠ G) := fun b' o' h0 e => by
        have := hs.old (Nat.le_refl _) b' o' h0 e
        omega
      have L1 : Hid ((pss.getD k []).length ≤ cs) := hl
      have E1 : Hid _ := flat_succ pss k (by have := HN.out; omega)
      have HH : Hid (KHolds wr G key (pss.take k).flatten ∧ Kept (fun b => b = G) w4 wr) := ⟨hh, hkp⟩
      have i1 : (0 : Int) ≤ (k : Int) := by omega
      have i2 : (k : Int) < (n : Int) := by omega
      clear B1 B2 B3 B5 hs hl hc hh hkp
      obtain ⟨p, hp⟩ : ∃ p, pss.getD k [] = p := ⟨_, rfl⟩
      rw [hp] at c1 S1 N1 L1 E1
      clear hp
      go_wp2_with (go_at_call 62; refine (write_any _ _ _ _ _ so p.length cs p _ HH.out.1 S1.out L1.out N1.out).mono ?_; rintro e w5 ⟨rfl, h5, k5⟩)
      exact ⟨⟨k + 1, by omega, by go_num, by rw [E1.out]; exact h5, HH.out.2.trans k5⟩, by simp [intOf]; omega⟩
    · obtain rfl : k = n := by omega
      obtain ⟨B1, B2, B3, B5⟩ := HB.out
      rw [List.take_of_length_le (by have := HN.out; omega)] at hh
      have X1 : Hid (KHolds wr G key pss.flatten ∧ Blk wr (w.heap.size + 1) 47 (u8s (zs0 16)) ∧ Below w.heap.size w wr) := ⟨hh, B1.kept hkp (by omega), below_kept B3 hkp B3.size (fun j hj => by omega)⟩
      clear B1 B2 B3 B5 hh hkp
      go_wp2_with (first | (go_at_call 63; refine (psum_key _ key pss.flatten _ X1.out.1).mono ?_; rintro e w5 ⟨rfl, l5⟩; have X5 : Hid (Blk w5 (w.heap.size + 1) 47 (u8s (zs0 16)) ∧ Below w.heap.size w w5) := ⟨X1.out.2.1.later l5 X1.out.2.1.lt, below_chain X1.out.2.2 l5 X1.out.2.2.size⟩) | (refine wpList_store_blk rfl 47 47 _ _ rfl _ rfl _ (u8s (tagB key pss.flatten)) rfl X5.out.1 (by rw [u8s_length, tagB_length]; rfl) (by rw [u8s_length, tagB_length]; exact sizeTag) (u8s_one _) ?_; intro w6 b6 s6 k6))
      exact ret_blk rfl (w.heap.size + 1) (u8s (tagB key pss.flatten)) _ rfl b6 Try.underlying47 rfl (by rw [u8s_length, tagB_length]; exact sizeTag) rfl ⟨rfl, below_kept X5.out.2 k6 X5.out.2.size (fun j hj => by omega)⟩
end Go.Proofs.Ytogplebajpdmoaa

/- Layer tag: mask.Same, Check. -/
namespace Go.Proofs.Ytogplebajpdmoaa
open Go.RowKit
set_option linter.unusedVariables false
set_option linter.unusedSimpArgs false

theorem zero_any (x : Int) (hx : Word x) (w : World) :
    Calls Try.prog 100 #[.int .u64 x] w fun e w' => e = .returned (.int .u64 (mk (x == 0))) ∧ w' = w := by
  have hb : Word (bits .or .u64 x (IntKind.u64.wrap (-x)) / 9223372036854775808) := by rw [top_code x hx]; split <;> decide
  have H : Hid (bits .xor .u64 IntKind.u64.max (mk (bits .or .u64 x (IntKind.u64.wrap (-x)) / 9223372036854775808 % 2 == 1)) = mk (x == 0)) := by
    show _ = _
    rw [not_mk, top_code x hx]
    by_cases h : x = 0
    · simp [h]
    · have h' : (x == 0) = false := by simpa using h
      simp [h, h']
  go_enter Try.func100, Try.ntmps100
  go_wp2_with (go_at_call 116; refine (bit_any _ hb _).mono ?_; rintro e w' ⟨rfl, rfl⟩)
  go_ret
  exact ⟨ret_int H.out, rfl⟩

set_option maxHeartbeats 1000000 in
theorem msame_any (ao bo : Option Addr) (n n' c c' : Nat) (xs ys : List Int) (w : World) (hx : Seen w ao n xs) (hy : Seen w bo n' ys) :
    Calls Try.prog 68 #[.slice ao n c, .slice bo n' c'] w fun e w' => e = .returned (.int .u64 (mk (decide (xs = ys)))) ∧ ∃ q, w' = w.drewN q := by
  have t1 := hx.top
  have t2 := hy.top
  by_cases hne : n = n'
  · subst hne
    have HL : Hid (xs.length = n ∧ ys.length = n) := ⟨hx.len, hy.len⟩
    go_enter Try.func68, Try.ntmps68
    go_wp2
    go_loopw [5, 14] (fun u i wr => ∃ (k : Nat) (U : Int), k ≤ n ∧ i = .int .i64 k ∧ u = .int .u8 U ∧ (0 ≤ U ∧ U < 256) ∧ (U = 0 ↔ xs.take k = ys.take k) ∧ ∃ q, wr = w.drewN q) (fun _ i _ => n - (intOf i).toNat)
    case atStart => exact ⟨0, 0, Nat.zero_le _, rfl, rfl, by decide, by simp, 0, rfl⟩
    case round =>
      obtain ⟨k, U, hk, rfl, rfl, bU, hs, q, rfl⟩ := hrel
      by_cases hlt : k < n
      · obtain ⟨b, o, rfl, hb, hc⟩ := hx.cells (by omega)
        obtain ⟨b', o', rfl, hb', hc'⟩ := hy.cells (by omega)
        have c1 := hc k hlt
        have c2 := hc' k hlt
        have l1 : k < xs.length := by have := HL.out.1; omega
        have l2 : k < ys.length := by have := HL.out.2; omega
        have HT := mtake_same_succ xs ys k l1 l2
        have bX := hx.bytes.at k l1
        have bY := hy.bytes.at k l2
        obtain ⟨X, hX⟩ : ∃ X, xs.getD k 0 = X := ⟨_, rfl⟩
        obtain ⟨Y, hY⟩ : ∃ Y, ys.getD k 0 = Y := ⟨_, rfl⟩
        rw [hX] at c1 HT bX
        rw [hY] at c2 HT bY
        have hO := orxor_bd U X Y bU bX bY
        have HO : Hid _ := hO.1
        have HI : Hid (bits .or .u8 U (bits .xor .u8 X Y) = 0 ↔ xs.take (k + 1) = ys.take (k + 1)) := by
          show _ ↔ _
          rw [hO.2, hs, HT]
        have i1 : (0 : Int) ≤ (k : Int) := by omega
        have i2 : (k : Int) < (n : Int) := by omega
        clear hX hY hc hc' hx hy hs HT hb hb' hO l1 l2
        go_wp2
        go_quiet (fail)
        go_wp2
        go_roundw
        case rel => exact ⟨k + 1, _, by omega, by go_num, rfl, HO.out, HI.out, _, rfl⟩
        case measure => simp [intOf]; omega
      · have HE : Hid ((U == 0) = decide (xs = ys)) := by
          show _ = _
          have e1 : xs.take k = xs := List.take_of_length_le (by have := HL.out.1; omega)
          have e2 : ys.take k = ys := List.take_of_length_le (by have := HL.out.2; omega)
          rw [e1, e2] at hs
          rw [Bool.eq_iff_iff]; simp [hs]
        have wU : Word U := ⟨by omega, by omega⟩
        clear hs
        go_wp2_with (go_at_call 100; refine (zero_any _ wU _).mono ?_; rintro e w2 ⟨rfl, hw2⟩; have hw3 := hw2.symm; subst hw3)
        go_ret
        exact ⟨ret_int (by rw [HE.out]), _, rfl⟩
  · have h : ((n : Int) != (n' : Int)) = true := by simp; omega
    have HN : Hid (decide (xs = ys) = false) := by
      show _ = _
      apply decide_eq_false
      intro h
      exact hne (by rw [← hx.len, ← hy.len, h])
    go_enter Try.func68, Try.ntmps68
    go_wp2
    go_ret
    exact ⟨ret_int (by rw [HN.out, mk_false]), 0, rfl⟩
set_option maxRecDepth 20000 in
set_option maxHeartbeats 1000000 in
theorem tcheck_any (key tag : List Int) (hkl : key.length = 32) (hkb : Bytes key) (htl : tag.length = 16) (htb : Bytes tag) (ao : Option Addr) (n c : Nat) (pss : List (List Int)) (w : World) (hx : SeenP w ao n pss) (hn : n ≤ 140737488355328) :
    Calls Try.prog 34 #[.agg (u8s key).toArray, .agg (u8s tag).toArray, .slice ao n c] w fun e w' => e = .returned (.bool (decide (tagB key pss.flatten = tag))) ∧ Below w.heap.size w w' := by
  have HK : Hid (key.length = 32 ∧ Bytes key ∧ tag.length = 16 ∧ Bytes tag) := ⟨hkl, hkb, htl, htb⟩
  have HX : Hid (SeenP w ao n pss) := hx
  obtain ⟨B, hB⟩ : ∃ z, tagB key pss.flatten = z := ⟨_, rfl⟩
  have HB : Hid (tagB key pss.flatten = B ∧ B.length = 16 ∧ Bytes B) := ⟨hB, by rw [← hB]; exact tagB_length _ _, by rw [← hB]; exact tagB_bytes _ _⟩
  obtain ⟨d, hd⟩ : ∃ d, decide (B = tag) = d := ⟨_, rfl⟩
  have HD : Hid (decide (B = tag) = d) := hd
  have hmk : (mk d != 0) = d := by cases d <;> rfl
  rw [hB, hd]
  clear hd hkl hkb htl htb hx hB
  go_enter Try.func34, Try.ntmps34
  go_wp2_with (first | (refine wpList_box_new rfl 30 _ rfl (u8s key) rfl ?_; intro w1 b1 s1 l1) | (refine wpList_box_new rfl 47 _ rfl (u8s tag) rfl ?_; intro w2 b2 s2 l2) | (refine wpList_load_blk rfl 30 _ rfl _ rfl (u8s key) _ (b1.later l2 (by omega)) Try.underlying30 rfl (by rw [u8s_length, HK.out.1]; exact tsizeKey) ?_) | (go_at_call 28; refine (tsum_any key HK.out.1 HK.out.2.1 ao n c pss _ (HX.out.later (below_chain l1 l2 (by omega)) (Nat.le_refl _)) hn).mono ?_; rintro e w3 ⟨rfl, l3⟩; rw [HB.out.1]) | (refine wpList_alloc_new rfl 47 rfl 16 _ zeroTag ?_; intro w4 b4 s4 l4) | (refine wpList_store_blk rfl 47 47 _ _ rfl _ rfl _ (u8s B) rfl b4 (by rw [u8s_length, HB.out.2.1]; rfl) (by rw [u8s_length, HB.out.2.1]; exact sizeTag) (u8s_one _) ?_; intro w5 b5 s5 k5))
  have q3 := l3.size
  obtain ⟨G, hG⟩ : ∃ G, w3.heap.size = G := ⟨_, rfl⟩
  try simp only [Act.put, List.setIfInBounds_toArray, List.set_cons_zero, List.set_cons_succ]
  rw [hG] at b5 k5 ⊢
  have HG : Hid (Blk w5 G 47 (u8s B) ∧ Blk w5 (w.heap.size + 1) 47 (u8s tag) ∧ Below w.heap.size w w5) := by
    rw [s1] at b2
    exact ⟨b5, ((b2.later l3 (by omega)).later l4 (by omega)).kept k5 (by omega), below_kept (below_chain (below_chain (below_chain l1 l2 (by omega)) l3 (by omega)) l4 (by omega)) k5 (by omega) (fun j hj => by omega)⟩
  clear b1 s1 l1 b2 s2 l2 l3 b4 s4 l4 b5 s5 k5 hG q3
  refine region_inv [.val (.slice (some ⟨G, 0, none⟩) 16 16), .val (.slice (some ⟨w.heap.size + 1, 0, none⟩) 16 16), .val (.int .u64 (mk d)), .val (.bool d)] (by kernel_rfl) (by kernel_rfl) (by kernel_rfl) ?_ ?_
  · refine Steps'.cons ?_ (Steps'.cons ?_ (Steps'.cons ?_ (Steps'.cons ?_ (Steps'.one _ _ _ _ _ _ _))))
    · intro ax wx hb hs hd
      have h7 : ax.tmps.getD 7 undef = (.pointer (some ⟨G, 0, none⟩)) := hs 7 (by kernel_rfl)
      refine Does.value _ ?_ rfl
      go_simp
    · intro ax wx hb hs hd
      have h4 : ax.tmps.getD 4 undef = (.pointer (some ⟨w.heap.size + 1, 0, none⟩)) := hs 4 (by kernel_rfl)
      refine Does.value _ ?_ rfl
      go_simp
    · intro ax wx hb hs hd
      have h11 : ax.tmps.getD 11 undef = (.slice (some ⟨G, 0, none⟩) 16 16) := hd 0 11 rfl (by kernel_rfl) (by decide)
      have h12 : ax.tmps.getD 12 undef = (.slice (some ⟨w.heap.size + 1, 0, none⟩) 16 16) := hd 1 12 rfl (by kernel_rfl) (by decide)
      refine Does.call 68 #[(.slice (some ⟨G, 0, none⟩) 16 16), (.slice (some ⟨w.heap.size + 1, 0, none⟩) 16 16)] (by go_simp) ?_
      have q1 := seen_blk (Blk.later HG.out.1 hb (Blk.lt HG.out.1)) HB.out.2.2 (by have := HB.out.2.1; omega)
      have q2 := seen_blk (Blk.later HG.out.2.1 hb (Blk.lt HG.out.2.1)) HK.out.2.2.2 (by have := HK.out.2.2.1; omega)
      rw [HB.out.2.1] at q1
      rw [HK.out.2.2.1] at q2
      refine (msame_any _ _ 16 16 16 16 B tag wx q1 q2).mono ?_
      rintro e w' ⟨rfl, q, rfl⟩
      exact ⟨_, rfl, by rw [HD.out]; rfl, below_dn (Below.refl _ _) q⟩
    · intro ax wx hb hs hd
      have h13 : ax.tmps.getD 13 undef = (.int .u64 (mk d)) := hd 2 13 rfl (by kernel_rfl) (by decide)
      refine Does.value _ ?_ rfl
      go_simp
  · intro wx hb
    refine @Ends.val _ _ _ _ _ _ _ _ _ (.slice (some ⟨G, 0, none⟩) 16 16) rfl ?_
    refine @Ends.val _ _ _ _ _ _ _ _ _ (.slice (some ⟨w.heap.size + 1, 0, none⟩) 16 16) rfl ?_
    refine @Ends.val _ _ _ _ _ _ _ _ _ (.int .u64 (mk d)) rfl ?_
    refine @Ends.val _ _ _ _ _ _ _ _ _ (.bool d) rfl ?_
    refine @Ends.one _ _ _ _ _ _ _ ?_
    simp only [Act.put, List.setIfInBounds_toArray, List.set_cons_zero, List.set_cons_succ]
    refine last_assign (.tmp 14) rfl (some 6) rfl _ rfl ?_
    simp only [Act.put, List.setIfInBounds_toArray, List.set_cons_zero, List.set_cons_succ]
    have XB : Hid (Below w.heap.size w wx) := below_chain HG.out.2.2 hb HG.out.2.2.size
    clear hb
    go_wp2_with fail
    go_ret
    exact ⟨rfl, XB.out⟩
end Go.Proofs.Ytogplebajpdmoaa

/- The statements' helpers for layer digest: CopyBytes, Join, Two, CopyRows. -/
namespace Go.Proofs.Ytogplebajpdmoaa
open Go.RowKit
set_option linter.unusedVariables false
set_option linter.unusedSimpArgs false

theorem one_new (w : World) (x : Value) (t : TypeId) : ∀ j u, [x][j]? = some u → (w.alloc (.cells #[x] t)).cell? ((⟨w.heap.size, 0, none⟩ : Addr).add j) = some u := by
  intro j u hj
  rw [add_mid, Nat.zero_add]
  have h : (w.alloc (.cells #[x] t)).heap[w.heap.size]? = some (.cells [x].toArray t (0, 0)) := heap_alloc_new w _
  rw [cell_of_row _ _ j _ t (0, 0) h]
  simpa using hj
/-- A value that owns bytes, read as data. -/
theorem own_data {w : World} {base : Nat} {v : Value} {zs : List Int} (hb : Bytes zs) (ht : zs.length ≤ 140737488355328) (h : w.ownsRow base 5 1 v zs.length (zs.map (Value.int .u8))) :
    ∃ vo cap, v = .slice vo zs.length cap ∧ Seen w vo zs.length zs ∧ zs.length ≤ cap ∧ (vo = none → cap = 0) ∧ (∀ b o, vo = some ⟨b, o, none⟩ → base ≤ b ∧ b < w.heap.size ∧ o = 0 ∧ RowAt w b zs) ∧ cap ≤ maxLen := by
  rcases own_cases h with ⟨rfl, h0⟩ | ⟨g, cap, rfl, hr, hg, hc, hm⟩
  · subst h0
    exact ⟨none, 0, rfl, Seen.empty _ _, Nat.le_refl _, fun _ => rfl, (fun b o h => by cases h), by decide⟩
  · refine ⟨_, cap, rfl, ?_, hc, (fun h => by cases h), fun b o h => ?_, hm⟩
    · have := Seen.of_row (n := zs.length) hr (Nat.le_refl _) ht hb
      rwa [List.take_length] at this
    · simp only [Option.some.injEq, Addr.mk.injEq, and_true] at h
      obtain ⟨rfl, rfl⟩ := h
      exact ⟨hg, hr.lt, rfl, hr⟩
set_option maxHeartbeats 1000000 in
set_option maxRecDepth 20000 in
theorem copyB_any (ao : Option Addr) (n c : Nat) (zs : List Int) (w : World) (hx : Seen w ao n zs) :
    Calls Try.prog 22 #[.slice ao n c] w fun e w' => ∃ v, e = .returned v ∧ w'.ownsRow w.heap.size 5 1 v n (zs.map (Value.int .u8)) ∧ Below w.heap.size w w' := by
  have t1 := hx.top
  have HL : Hid (zs.length = n) := hx.len
  obtain ⟨i0, hi, hz0, hz1, hz2⟩ := info_parts info_byte
  obtain ⟨w0, hmk, ho1, hg0⟩ := run_make_own (P := Try.prog) w w.heap.size 31 5 i0 (.int .u8 0) 1 Try.underlying31 hi hz0 hz1 .i64 .i64 n (by rw [hz2]; omega) (by unfold maxLen; omega) (Nat.le_refl _)
  have hb1 : Below w.heap.size w w0 := (Below.refl _ _).grown hg0 (Nat.le_refl _) (fun j hj => by cases hj)
  go_enter Try.func22, Try.ntmps22
  go_wp2
  go_loopw [3, 4] (fun v i wr => ∃ k : Nat, k ≤ n ∧ i = .int .i64 k ∧ wr.ownsRow w.heap.size 5 1 v k ((zs.map (Value.int .u8)).take k) ∧ Below w.heap.size w wr) (fun _ i _ => n - (intOf i).toNat)
  case atStart => exact ⟨0, Nat.zero_le _, rfl, ho1, hb1⟩
  case round =>
    clear ho1 hb1 hg0
    obtain ⟨k, hk, rfl, hown, hbel⟩ := hrel
    by_cases hlt : k < n
    · obtain ⟨b, o, rfl, hb, hc⟩ := hx.cells (by omega)
      have c1 := (hbel.cell (p := ⟨b, o + k, none⟩) hb).trans (hc k hlt)
      obtain ⟨Z, hZ⟩ : ∃ Z, zs.getD k 0 = Z := ⟨_, rfl⟩
      rw [hZ] at c1
      have HZ : Hid (zs.getD k 0 = Z) := hZ
      have hsz := hbel.size
      have i1 : (0 : Int) ≤ (k : Int) := by omega
      have i2 : (k : Int) < (n : Int) := by omega
      clear hZ hc hx
      go_wp2_with (at_builtin; refine wpList_append_own _ rfl _ _ 31 rfl w.heap.size 5 i0 (.int .u8 0) 1 1 Try.underlying31 hi hz0 hz1 hz2 rfl (by decide) _ _ _ rfl (hown.alloc _) ⟨wr.heap.size, 0, none⟩ 1 1 [.int .u8 Z] rfl rfl ?c1 ?c2 ?c3 ?c4 ?c5 ?_)
      case c1 => exact one_new _ _ _
      case c2 => intro u hu; simp at hu; subst hu; rfl
      case c3 => unfold maxLen; omega
      case c4 => omega
      case c5 => simp; omega
      · intro v' w1 hown' hgrow _
        have R := step_own hbel hown (by have := HL.out; omega) HZ.out hown' hgrow
        clear hown' hgrow hown hbel c1
        go_wp2
        go_roundw
        case rel => exact ⟨k + 1, by omega, by go_num, R.1, R.2⟩
        case measure => simp [intOf] <;> omega
    · obtain rfl : k = n := by omega
      have HO : Hid (wr.ownsRow w.heap.size 5 1 u3 k ((zs.map (Value.int .u8)).take k)) := hown
      have HB : Hid (Below w.heap.size w wr) := hbel
      clear hown hbel hx
      go_wp2
      go_ret
      refine ⟨_, rfl, ?_, HB.out⟩
      have h := HO.out
      rwa [List.take_of_length_le (by have := HL.out; simp; omega)] at h
/-- A byte more. -/
theorem own_more {w wr w1 : World} {v v' : Value} {zs : List Int} {z : Int}
    (hb : Below w.heap.size w wr) (hown : wr.ownsRow w.heap.size 5 1 v zs.length (zs.map (Value.int .u8)))
    (hown' : w1.ownsRow w.heap.size 5 1 v' (zs.length + 1) (zs.map (Value.int .u8) ++ [.int .u8 z])) (hg : (wr.alloc (.cells #[.int .u8 z] 5)).grownBy w1 v.ownBlock) :
    w1.ownsRow w.heap.size 5 1 v' (zs ++ [z]).length ((zs ++ [z]).map (Value.int .u8)) ∧ Below w.heap.size w w1 := by
  constructor
  · rw [List.map_append, List.length_append]; exact hown'
  · exact (hb.alloc hb.size _).grown hg (by have := hb.size; simp; omega) (fun j hj => (hown.lt j hj).1)
theorem seenP_bytes {w : World} {ao : Option Addr} {n : Nat} {pss : List (List Int)} (hx : SeenP w ao n pss) : ∀ k, k ≤ n → Bytes (pss.take k).flatten := by
  intro k
  induction k with
  | zero => intro _ z hz; simp at hz
  | succ k ih =>
    intro hk
    rw [flat_succ pss k (by rw [hx.len]; omega)]
    obtain ⟨b, o, so, c, _, _, _, hs, _⟩ := hx.cells k (by omega)
    exact bytes_app (ih (by omega)) hs.bytes
set_option maxHeartbeats 1000000 in
set_option maxRecDepth 20000 in
theorem join_any (ao : Option Addr) (n c : Nat) (pss : List (List Int)) (w : World) (hx : SeenP w ao n pss) (hn : n ≤ 140737488355328) (hm : pss.flatten.length ≤ 35184372088832) :
    Calls Try.prog 30 #[.slice ao n c] w fun e w' => ∃ v, e = .returned v ∧ w'.ownsRow w.heap.size 5 1 v pss.flatten.length (pss.flatten.map (Value.int .u8)) ∧ Below w.heap.size w w' := by
  have HX : Hid (SeenP w ao n pss) := hx
  have HN : Hid (pss.length = n ∧ pss.flatten.length ≤ 35184372088832) := ⟨hx.len, hm⟩
  obtain ⟨i0, hi, hz0, hz1, hz2⟩ := info_parts info_byte
  clear hx hm
  go_enter Try.func30, Try.ntmps30
  go_wp2
  go_loopw [3, 4] (fun v i wr => ∃ k : Nat, k ≤ n ∧ i = .int .i64 k ∧ wr.ownsRow w.heap.size 5 1 v (pss.take k).flatten.length ((pss.take k).flatten.map (Value.int .u8)) ∧ Below w.heap.size w wr) (fun _ i _ => n - (intOf i).toNat)
  case atStart => exact ⟨0, Nat.zero_le _, rfl, World.ownsRow_nil _ _ _ _, Below.refl _ _⟩
  case round =>
    obtain ⟨k, hk, rfl, hown, hbel⟩ := hrel
    by_cases hlt : k < n
    · obtain ⟨b, o, so, cs, rfl, hb, hc, hs, hl⟩ := HX.out.cells k hlt
      have E1 := flat_succ pss k (by have := HN.out.1; omega)
      have M1 : (pss.take k).flatten.length + (pss.getD k []).length ≤ 35184372088832 := by
        have h2 := flat_le pss (k + 1)
        rw [E1, List.length_append] at h2
        have := HN.out.2
        omega
      obtain ⟨p, hp⟩ : ∃ p, pss.getD k [] = p := ⟨_, rfl⟩
      obtain ⟨m, hm⟩ : ∃ m, (pss.take k).flatten = m := ⟨_, rfl⟩
      rw [hp] at hc hs hl E1 M1
      rw [hm] at E1 M1 hown
      have HE : Hid ((pss.take (k + 1)).flatten = m ++ p ∧ m.length + p.length ≤ 35184372088832) := ⟨E1, M1⟩
      have HS : Hid (Seen w so p.length p) := hs
      have HC : Hid (w.cell? ⟨b, o + k, none⟩ = some (.slice so p.length cs) ∧ b < w.heap.size) := ⟨hc, hb⟩
      have HO : Hid (wr.ownsRow w.heap.size 5 1 u3 m.length (m.map (Value.int .u8)) ∧ Below w.heap.size w wr) := ⟨hown, hbel⟩
      have i1 : (0 : Int) ≤ (k : Int) := by omega
      have i2 : (k : Int) < (n : Int) := by omega
      have hpl : p.length ≤ 35184372088832 := by omega
      clear E1 M1 hc hs hl hown hbel hp hm
      obtain ⟨w3, rfl⟩ : ∃ w3, w3 = wr := ⟨_, rfl⟩
      go_wp2
      go_loopw [3, 5] (fun v i wr => ∃ j : Nat, j ≤ p.length ∧ i = .int .i64 j ∧ wr.ownsRow w.heap.size 5 1 v (m ++ p.take j).length ((m ++ p.take j).map (Value.int .u8)) ∧ Below w.heap.size w wr) (fun _ i _ => p.length - (intOf i).toNat)
      case atStart => exact ⟨0, Nat.zero_le _, rfl, by simpa using HO.out.1, HO.out.2⟩
      case round =>
        obtain ⟨j, hj, rfl, hown, hbel⟩ := hrel
        have c1 := (hbel.cell (p := ⟨b, o + k, none⟩) HC.out.2).trans HC.out.1
        by_cases hlt2 : j < p.length
        · obtain ⟨b2, o2, rfl, hb2, hc2⟩ := HS.out.cells (by omega)
          have c2 := (hbel.cell (p := ⟨b2, o2 + j, none⟩) hb2).trans (hc2 j hlt2)
          obtain ⟨Z, hZ⟩ : ∃ Z, p.getD j 0 = Z := ⟨_, rfl⟩
          rw [hZ] at c2
          have HZ : Hid (m ++ p.take (j + 1) = (m ++ p.take j) ++ [Z]) := by
            show _ = _
            rw [List.take_succ_eq_append_getElem hlt2, ← hZ, List.append_assoc]
            simp [List.getD, hlt2]
          have hql : (m ++ p.take j).length ≤ 35184372088832 := by have := HE.out.2; simp; omega
          have hsz := hbel.size
          have j1 : (0 : Int) ≤ (j : Int) := by omega
          have j2 : (j : Int) < (p.length : Int) := by omega
          obtain ⟨q, hq⟩ : ∃ q, m ++ p.take j = q := ⟨_, rfl⟩
          rw [hq] at hown HZ hql
          clear hZ hc2 hq
          go_wp2_with (at_builtin; refine wpList_append_own _ rfl _ _ 31 rfl w.heap.size 5 i0 (.int .u8 0) 1 1 Try.underlying31 hi hz0 hz1 hz2 rfl (by decide) _ _ _ rfl (hown.alloc _) ⟨wr.heap.size, 0, none⟩ 1 1 [.int .u8 Z] rfl rfl ?c1 ?c2 ?c3 ?c4 ?c5 ?_)
          case c1 => exact one_new _ _ _
          case c2 => intro u hu; simp at hu; subst hu; rfl
          case c3 => unfold maxLen; omega
          case c4 => omega
          case c5 => simp; omega
          · intro v' w1 hown' hgrow _
            have R := own_more hbel hown hown' hgrow
            clear hown' hgrow hown hbel c1 c2
            go_wp2
            go_roundw
            case rel => exact ⟨j + 1, by omega, by go_num, by rw [HZ.out]; exact R.1, R.2⟩
            case measure => simp [intOf] <;> omega
        · obtain rfl : j = p.length := by omega
          rw [List.take_length] at hown
          have HQ : Hid (wr.ownsRow w.heap.size 5 1 u3 (pss.take (k + 1)).flatten.length ((pss.take (k + 1)).flatten.map (Value.int .u8)) ∧ Below w.heap.size w wr) := by
            rw [HE.out.1]
            exact ⟨hown, hbel⟩
          clear hown hbel
          go_wp2
          exact ⟨⟨k + 1, by omega, by go_num, HQ.out.1, HQ.out.2⟩, by simp [intOf]; omega⟩
    · obtain rfl : k = n := by omega
      rw [List.take_of_length_le (by have := HN.out.1; omega)] at hown
      have HO : Hid (wr.ownsRow w.heap.size 5 1 u3 pss.flatten.length (pss.flatten.map (Value.int .u8)) ∧ Below w.heap.size w wr) := ⟨hown, hbel⟩
      clear hown hbel
      go_wp2
      go_ret
      exact ⟨_, rfl, HO.out⟩
/-- One list, two lists in a new row of headers. -/
theorem seenP1 (W : World) (s1 : Option Addr) (n1 c1 : Nat) (z1 : List Int) (h1 : Seen W s1 n1 z1) (l1 : n1 ≤ c1) :
    SeenP (W.alloc (.cells #[.slice s1 n1 c1] 31)) (some ⟨W.heap.size, 0, none⟩) 1 [z1] := by
  obtain rfl := h1.len
  have hb : Below W.heap.size W (W.alloc (.cells #[.slice s1 z1.length c1] 31)) := (Below.refl _ _).alloc (Nat.le_refl _) _
  have hh : (W.alloc (.cells #[.slice s1 z1.length c1] 31)).heap[W.heap.size]? = some (.cells [.slice s1 z1.length c1].toArray 31 (0, 0)) := heap_alloc_new W _
  refine ⟨rfl, fun i hi => ?_⟩
  obtain rfl : i = 0 := by omega
  exact ⟨_, 0, s1, c1, rfl, by simp, by rw [cell_of_row _ _ _ _ _ _ hh]; rfl, h1.later hb (Nat.le_refl _), l1⟩
theorem seenP2 (W : World) (s1 s2 : Option Addr) (n1 n2 c1 c2 : Nat) (z1 z2 : List Int) (h1 : Seen W s1 n1 z1) (h2 : Seen W s2 n2 z2) (l1 : n1 ≤ c1) (l2 : n2 ≤ c2) :
    SeenP (W.alloc (.cells #[.slice s1 n1 c1, .slice s2 n2 c2] 31)) (some ⟨W.heap.size, 0, none⟩) 2 [z1, z2] := by
  obtain rfl := h1.len
  obtain rfl := h2.len
  have hb : Below W.heap.size W (W.alloc (.cells #[.slice s1 z1.length c1, .slice s2 z2.length c2] 31)) := (Below.refl _ _).alloc (Nat.le_refl _) _
  have hh : (W.alloc (.cells #[.slice s1 z1.length c1, .slice s2 z2.length c2] 31)).heap[W.heap.size]? = some (.cells [.slice s1 z1.length c1, .slice s2 z2.length c2].toArray 31 (0, 0)) := heap_alloc_new W _
  refine ⟨rfl, fun i hi => ?_⟩
  rcases (by omega : i = 0 ∨ i = 1) with rfl | rfl
  · exact ⟨_, 0, s1, c1, rfl, by simp, by rw [cell_of_row _ _ _ _ _ _ hh]; rfl, h1.later hb (Nat.le_refl _), l1⟩
  · exact ⟨_, 0, s2, c2, rfl, by simp, by rw [cell_of_row _ _ _ _ _ _ hh]; rfl, h2.later hb (Nat.le_refl _), l2⟩
set_option maxRecDepth 20000 in
theorem two_any (ao bo : Option Addr) (n m c d : Nat) (zs ys : List Int) (w : World) (hx : Seen w ao n zs) (hy : Seen w bo m ys) (hc : n ≤ c) (hd : m ≤ d) (hm : n + m ≤ 35184372088832) :
    Calls Try.prog 49 #[.slice ao n c, .slice bo m d] w fun e w' => ∃ v, e = .returned v ∧ w'.ownsRow w.heap.size 5 1 v (zs ++ ys).length ((zs ++ ys).map (Value.int .u8)) ∧ Below w.heap.size w w' := by
  have HS : Hid (SeenP (w.alloc (.cells #[.slice ao n c, .slice bo m d] 31)) (some ⟨w.heap.size, 0, none⟩) 2 [zs, ys]) := seenP2 w ao bo n m c d zs ys hx hy hc hd
  have HE : Hid (([zs, ys] : List (List Int)).flatten = zs ++ ys ∧ (zs ++ ys).length ≤ 35184372088832) := ⟨by simp, by rw [List.length_append, hx.len, hy.len]; exact hm⟩
  have HB : Hid (Below w.heap.size w (w.alloc (.cells #[.slice ao n c, .slice bo m d] 31))) := (Below.refl _ _).alloc (Nat.le_refl _) _
  clear hx hy
  go_enter Try.func49, Try.ntmps49
  go_wp2_with fail
  refine (join_any _ 2 2 [zs, ys] _ HS.out (by decide) (by rw [HE.out.1]; exact HE.out.2)).mono ?_
  rintro e w1 ⟨v, rfl, o1, l1⟩
  rw [HE.out.1] at o1
  have o2 := ownsRow_base o1 HB.out.size
  have HO : Hid _ := o2
  have HL : Hid (Below w.heap.size w w1) := below_chain HB.out l1 HB.out.size
  clear o1 o2 l1
  go_wp2
  go_ret
  exact ⟨_, rfl, HO.out, HL.out⟩
end Go.Proofs.Ytogplebajpdmoaa

/- Rows of headers, an array's ==, slices as values: for regions that draw. -/
namespace Go.Proofs.Ytogplebajpdmoaa
open Go.RowKit Go.Joins
set_option linter.unusedVariables false
set_option linter.unusedSimpArgs false

theorem infoByte : (Try.prog.info? 5).map (fun i => (i.zero, i.size)) = some (some (.int .u8 0), 1) := by kernel_rfl
/-- An array of bytes is itself. -/
theorem equal_self (d : Nat) (zs : List Int) (hl : zs.length = 16) (w : World) : (Op.equalIn (d + 2) 47 (.agg (u8s zs).toArray) (.agg (u8s zs).toArray)).run Try.prog w = .ok true w := by
  have hsz : ∀ w, (sizeOf 5).run Try.prog w = .ok 1 w := fun w => by
    have h := infoByte
    cases hq : Try.prog.info? 5 with
    | none => simp [hq] at h
    | some i => simp [hq] at h; simp [sizeOf, typeInfo, hq, h.2]
  have ht := Try.underlying47
  have he := Try.underlying5
  rw [Op.equalIn]
  simp only [Sem.run_bind, run_underlying ht, Result.andThen_ok, hsz, Std.Legacy.Range.forIn_eq_forIn_range', Std.Legacy.Range.size, Nat.sub_zero, Nat.add_sub_cancel, Nat.div_one]
  have hlr : ∀ i ∈ List.range' 0 16 1, i < 16 := fun i hi => by simpa using (List.mem_range'_1.1 hi).2
  generalize List.range' 0 16 1 = l at hlr ⊢
  induction l with
  | nil => simp
  | cons i l ih =>
    have hi : i < 16 := hlr i (by simp)
    have px : (Go.part 5 (u8s zs).toArray (i * 1)).run Try.prog w = .ok (.int .u8 (zs.getD i 0)) w := by
      simp [Go.part, isAgg, run_underlying he, u8s, List.getD, List.getElem?_eq_getElem (show i < zs.length by omega)]
    have pe : (Op.equalIn (d + 1) 5 (.int .u8 (zs.getD i 0)) (.int .u8 (zs.getD i 0))).run Try.prog w = .ok true w := by
      rw [run_equalIn_int w d 5 .u8 .u8 _ _ he]; simp
    simp only [List.forIn_cons, Sem.run_bind, px, pe, Result.andThen_ok]
    simp only [Bool.not_true, Bool.false_eq_true, if_false, Sem.run_pure, Result.andThen_ok]
    exact ih fun j hj => hlr j (by simp [hj])
/-- Lists in a new row of headers. -/
def isP (n : Nat) (pss : List (List Int)) (v : Value) (w : World) : Prop := ∃ b c, v = .slice (some ⟨b, 0, none⟩) n c ∧ SeenP w (some ⟨b, 0, none⟩) n pss
theorem isP_later (n : Nat) (pss : List (List Int)) : ∀ v w w', Below w.heap.size w w' → isP n pss v w → isP n pss v w' := fun _ _ _ hb ⟨b, c, h1, h2⟩ => ⟨b, c, h1, h2.later hb (Nat.le_refl _)⟩
theorem Does.run {base : Nat} {E : Exp} {ρ : Operand → Value} {o : Oper} {w w' : World} (v : Value) (h : (execOp ρ o).run Try.prog w = .ok (.value v) w') (hE : E.ok base v w') (hb : Below w.heap.size w w') : Does base E ρ o w := by
  unfold Does; rw [h]; exact ⟨hE, hb⟩
theorem bs1 (s1 : Option Addr) (n1 c1 : Nat) (w : World) : (Instr.buildSlice 40 1 #[(0, .slice s1 n1 c1)]).run Try.prog w = .ok (.slice (some ⟨w.heap.size, 0, none⟩) 1 1) (w.alloc (.cells #[.slice s1 n1 c1] 31)) := by kernel_rfl
theorem bs2 (s1 s2 : Option Addr) (n1 n2 c1 c2 : Nat) (w : World) : (Instr.buildSlice 40 2 #[(0, .slice s1 n1 c1), (1, .slice s2 n2 c2)]).run Try.prog w = .ok (.slice (some ⟨w.heap.size, 0, none⟩) 2 2) (w.alloc (.cells #[.slice s1 n1 c1, .slice s2 n2 c2] 31)) := by kernel_rfl
theorem Does.rows1 {base : Nat} {ρ : Operand → Value} {o : Oper} {w : World} (parts : Array (Nat × Operand)) (ho : o.op = .buildSlice 40 1 parts) (s1 : Option Addr) (n1 c1 : Nat) (z1 : List Int) (hp : (parts.map fun (i, x) => (i, ρ x)) = #[(0, .slice s1 n1 c1)]) (h1 : Seen w s1 n1 z1) (l1 : n1 ≤ c1) : Does base (.any (isP 1 [z1]) (isP_later _ _)) ρ o w := by
  refine Does.run (.slice (some ⟨w.heap.size, 0, none⟩) 1 1) (w' := w.alloc (.cells #[.slice s1 n1 c1] 31)) ?_ ⟨_, _, rfl, seenP1 w s1 n1 c1 z1 h1 l1⟩ ((Below.refl _ _).alloc (Nat.le_refl _) _)
  unfold execOp
  simp only [ho, hp, Sem.run_bind, bs1, Sem.run_pure, Result.andThen_ok]
theorem Does.rows2 {base : Nat} {ρ : Operand → Value} {o : Oper} {w : World} (parts : Array (Nat × Operand)) (ho : o.op = .buildSlice 40 2 parts) (s1 s2 : Option Addr) (n1 n2 c1 c2 : Nat) (z1 z2 : List Int) (hp : (parts.map fun (i, x) => (i, ρ x)) = #[(0, .slice s1 n1 c1), (1, .slice s2 n2 c2)]) (h1 : Seen w s1 n1 z1) (h2 : Seen w s2 n2 z2) (l1 : n1 ≤ c1) (l2 : n2 ≤ c2) : Does base (.any (isP 2 [z1, z2]) (isP_later _ _)) ρ o w := by
  refine Does.run (.slice (some ⟨w.heap.size, 0, none⟩) 2 2) (w' := w.alloc (.cells #[.slice s1 n1 c1, .slice s2 n2 c2] 31)) ?_ ⟨_, _, rfl, seenP2 w s1 s2 n1 n2 c1 c2 z1 z2 h1 h2 l1 l2⟩ ((Below.refl _ _).alloc (Nat.le_refl _) _)
  unfold execOp
  simp only [ho, hp, Sem.run_bind, bs2, Sem.run_pure, Result.andThen_ok]
theorem wpList_buildSlice {ops : Array Oper} {rest : List Oper} {o : Oper} {a : Act} {Q : Exit → Act → World → Prop} {w : World} (hgd : o.guard = none) (t : TypeId) (m : Nat) (parts : Array (Nat × Operand)) (ho : o.op = .buildSlice t m parts) (ps : Array (Nat × Value))
    (hp : (parts.map fun (i, x) => (i, a.eval x)) = ps) (v : Value) (w' : World) (hrun : (Instr.buildSlice t m ps).run Try.prog w = .ok v w') (h : wpList Try.prog ops Q rest (a.put o.dst v) w') : wpList Try.prog ops Q (o :: rest) a w := by
  refine wpList_plain hgd fun K hK => ?_
  unfold Oper.wp execOp
  simp only [ho, hp, Sem.run_bind, hrun, Sem.run_pure, Result.andThen_ok]
  exact hK _ _ h
/-- Lists in a new row of headers, however many. -/
def hdr (x : Option Addr × Nat × Nat × List Int) : Value := .slice x.1 x.2.1 x.2.2.1
theorem seenPn (W : World) (l : List (Option Addr × Nat × Nat × List Int)) (h : ∀ x ∈ l, Seen W x.1 x.2.1 x.2.2.2 ∧ x.2.1 ≤ x.2.2.1) :
    SeenP (W.alloc (.cells (l.map hdr).toArray 31)) (some ⟨W.heap.size, 0, none⟩) l.length (l.map (·.2.2.2)) := by
  have hb : Below W.heap.size W (W.alloc (.cells (l.map hdr).toArray 31)) := (Below.refl _ _).alloc (Nat.le_refl _) _
  have hh : (W.alloc (.cells (l.map hdr).toArray 31)).heap[W.heap.size]? = some (.cells (l.map hdr).toArray 31 (0, 0)) := heap_alloc_new W _
  refine ⟨by simp, fun i hi => ?_⟩
  have hx := h l[i] (List.getElem_mem hi)
  have e : (l.map (·.2.2.2)).getD i [] = l[i].2.2.2 := by simp [List.getD, hi]
  have el : l[i].2.2.2.length = l[i].2.1 := hx.1.len
  rw [e, el]
  refine ⟨_, 0, l[i].1, l[i].2.2.1, rfl, by simp, ?_, hx.1.later hb (Nat.le_refl _), hx.2⟩
  rw [cell_of_row _ _ _ _ _ _ hh]
  simp [hi, hdr]
theorem bs3 (s1 s2 s3 : Option Addr) (n1 n2 n3 c1 c2 c3 : Nat) (w : World) : (Instr.buildSlice 40 3 #[(0, .slice s1 n1 c1), (1, .slice s2 n2 c2), (2, .slice s3 n3 c3)]).run Try.prog w = .ok (.slice (some ⟨w.heap.size, 0, none⟩) 3 3) (w.alloc (.cells #[.slice s1 n1 c1, .slice s2 n2 c2, .slice s3 n3 c3] 31)) := by kernel_rfl
theorem bs4 (s1 s2 s3 s4 : Option Addr) (n1 n2 n3 n4 c1 c2 c3 c4 : Nat) (w : World) : (Instr.buildSlice 40 4 #[(0, .slice s1 n1 c1), (1, .slice s2 n2 c2), (2, .slice s3 n3 c3), (3, .slice s4 n4 c4)]).run Try.prog w = .ok (.slice (some ⟨w.heap.size, 0, none⟩) 4 4) (w.alloc (.cells #[.slice s1 n1 c1, .slice s2 n2 c2, .slice s3 n3 c3, .slice s4 n4 c4] 31)) := by kernel_rfl
theorem bs5 (s1 s2 s3 s4 s5 : Option Addr) (n1 n2 n3 n4 n5 c1 c2 c3 c4 c5 : Nat) (w : World) : (Instr.buildSlice 40 5 #[(0, .slice s1 n1 c1), (1, .slice s2 n2 c2), (2, .slice s3 n3 c3), (3, .slice s4 n4 c4), (4, .slice s5 n5 c5)]).run Try.prog w = .ok (.slice (some ⟨w.heap.size, 0, none⟩) 5 5) (w.alloc (.cells #[.slice s1 n1 c1, .slice s2 n2 c2, .slice s3 n3 c3, .slice s4 n4 c4, .slice s5 n5 c5] 31)) := by kernel_rfl
theorem Does.rows5 {base : Nat} {ρ : Operand → Value} {o : Oper} {w : World} (parts : Array (Nat × Operand)) (ho : o.op = .buildSlice 40 5 parts) (s1 s2 s3 s4 s5 : Option Addr) (n1 n2 n3 n4 n5 c1 c2 c3 c4 c5 : Nat) (z1 z2 z3 z4 z5 : List Int) (hp : (parts.map fun (i, x) => (i, ρ x)) = #[(0, .slice s1 n1 c1), (1, .slice s2 n2 c2), (2, .slice s3 n3 c3), (3, .slice s4 n4 c4), (4, .slice s5 n5 c5)])
    (h1 : Seen w s1 n1 z1 ∧ n1 ≤ c1) (h2 : Seen w s2 n2 z2 ∧ n2 ≤ c2) (h3 : Seen w s3 n3 z3 ∧ n3 ≤ c3) (h4 : Seen w s4 n4 z4 ∧ n4 ≤ c4) (h5 : Seen w s5 n5 z5 ∧ n5 ≤ c5) : Does base (.any (isP 5 [z1, z2, z3, z4, z5]) (isP_later _ _)) ρ o w := by
  refine Does.run (.slice (some ⟨w.heap.size, 0, none⟩) 5 5) (w' := w.alloc (.cells #[.slice s1 n1 c1, .slice s2 n2 c2, .slice s3 n3 c3, .slice s4 n4 c4, .slice s5 n5 c5] 31)) ?_ ⟨_, _, rfl, ?_⟩ ((Below.refl _ _).alloc (Nat.le_refl _) _)
  · unfold execOp
    simp only [ho, hp, Sem.run_bind, bs5, Sem.run_pure, Result.andThen_ok]
  · exact seenPn w [(s1, n1, c1, z1), (s2, n2, c2, z2), (s3, n3, c3, z3), (s4, n4, c4, z4), (s5, n5, c5, z5)] (fun x hx => by
      simp only [List.mem_cons, List.not_mem_nil, or_false] at hx
      rcases hx with rfl | rfl | rfl | rfl | rfl
      · exact h1
      · exact h2
      · exact h3
      · exact h4
      · exact h5)
/-- A slice of these bytes, with room enough. -/
def isS (zs : List Int) (v : Value) (w : World) : Prop := ∃ vo n c, v = .slice vo n c ∧ Seen w vo n zs ∧ n ≤ c
theorem isS_later (zs : List Int) : ∀ v w w', Below w.heap.size w w' → isS zs v w → isS zs v w' := fun _ _ _ hb ⟨b, o, c, h1, h2, h3⟩ => ⟨b, o, c, h1, h2.later hb (Nat.le_refl _), h3⟩
theorem copyB_is (ao : Option Addr) (n c : Nat) (zs : List Int) (w : World) (hx : Seen w ao n zs) : Calls Try.prog 22 #[.slice ao n c] w fun e w' => ∃ v, e = .returned v ∧ isS zs v w' ∧ Below w.heap.size w w' := by
  refine (copyB_any ao n c zs w hx).mono ?_
  rintro e w' ⟨v, rfl, ho, hb⟩
  have hl := hx.len
  subst hl
  obtain ⟨vo, cap, rfl, hs, hc, _⟩ := own_data hx.bytes hx.top ho
  exact ⟨_, rfl, ⟨_, _, _, rfl, hs, hc⟩, hb⟩
end Go.Proofs.Ytogplebajpdmoaa

/- The statements' helpers: Spare, EqBytes, Kept. -/
namespace Go.Proofs.Ytogplebajpdmoaa
open Go.RowKit
set_option linter.unusedVariables false
set_option linter.unusedSimpArgs false

/-- The mark at a place of the room behind a list. -/
def markB (i : Nat) : Int := bits .xor .i64 165 (i : Int) % 256
def spared (zs : List Int) : List Int := zs ++ (List.range 80).map (fun j => markB (zs.length + j))
theorem spared_length (zs : List Int) : (spared zs).length = zs.length + 80 := by simp [spared]
theorem spared_front (zs : List Int) (i : Nat) (hi : i < zs.length) : (spared zs).getD i 0 = zs.getD i 0 := by
  simp [spared, List.getD, List.getElem?_append_left hi]
theorem spared_mark (zs : List Int) (i : Nat) (h1 : zs.length ≤ i) (h2 : i < zs.length + 80) : (spared zs).getD i 0 = markB i := by
  obtain ⟨j, rfl⟩ : ∃ j, i = zs.length + j := ⟨i - zs.length, by omega⟩
  have hj : j < 80 := by omega
  simp [spared, List.getD, hj]
theorem take_next (xs : List Int) (k : Nat) (hk : k < xs.length) (n : Nat) : (xs.take k ++ List.replicate (n + 1) 0).set k (xs.getD k 0) = xs.take (k + 1) ++ List.replicate n 0 := by
  have e : (xs.take k).length = k := by simp; omega
  have h := set_next (xs.take k) n (xs.getD k 0) 0
  rw [e] at h
  rw [h, List.take_succ_eq_append_getElem hk]
  simp [List.getD, hk]
theorem made_zero (n : Nat) : (madeCells #[Value.int .u8 0] n) = (u8s (List.replicate n 0)).toArray := by
  apply Array.ext'
  rw [toList_madeCells_one]
  simp [u8s]
set_option maxHeartbeats 1000000 in
set_option maxRecDepth 20000 in
theorem spare_any (ao : Option Addr) (n c : Nat) (zs : List Int) (w : World) (hx : Seen w ao n zs) (hn : n ≤ 35184372088832) :
    Calls Try.prog 17 #[.slice ao n c] w fun e w' => e = .returned (.slice (some ⟨w.heap.size, 0, none⟩) n (n + 80)) ∧ Blk w' w.heap.size 5 (u8s (spared zs)) ∧ w'.heap.size = w.heap.size + 1 ∧ Below w.heap.size w w' := by
  have HL : Hid (zs.length = n) := hx.len
  have HX : Hid (Seen w ao n zs) := hx
  obtain ⟨i0, hi, hz0, hz1, hz2⟩ := info_parts info_byte
  have hmk := run_make (P := Try.prog) w 31 5 i0 (.int .u8 0) Try.underlying31 hi hz0 .i64 .i64 ((n : Int) + 80) ((n : Int) + 80) (by omega) (Int.le_refl _) (by rw [hz2]; omega) (by omega)
  rw [hz1, show (((n : Int) + 80).toNat) = n + 80 by omega, Nat.mul_one, show (Value.int .u8 0).cells = #[.int .u8 0] from rfl, made_zero] at hmk
  obtain ⟨w1, hw1, HB⟩ : ∃ w1, w.alloc (.cells (u8s (List.replicate (n + 80) 0)).toArray 5) = w1 ∧ Hid (Blk w1 w.heap.size 5 (u8s (List.replicate (n + 80) 0)) ∧ Below w.heap.size w w1 ∧ w1.heap.size = w.heap.size + 1) := ⟨_, rfl, ⟨heap_alloc_new w _, (Below.refl _ _).alloc (Nat.le_refl _) _, by simp⟩⟩
  rw [hw1] at hmk
  clear hw1 hx hi hz0 hz1 hz2
  go_enter Try.func17, Try.ntmps17
  go_wp2
  go_loopw [4] (fun i wr => ∃ k : Nat, k ≤ n + 80 ∧ i = .int .i64 k ∧ Blk wr w.heap.size 5 (u8s ((spared zs).take k ++ List.replicate (n + 80 - k) 0)) ∧ Kept (fun b => b = w.heap.size) w1 wr ∧ wr.heap.size = w.heap.size + 1) (fun i _ => n + 80 - (intOf i).toNat)
  case atStart => exact ⟨0, Nat.zero_le _, rfl, HB.out.1, Kept.refl _ _, HB.out.2.2⟩
  case round =>
    obtain ⟨k, hk, rfl, hb, hkp, hws⟩ := hrel
    have hsl := spared_length zs
    have hl := HL.out
    by_cases hlt : k < n + 80
    · have cs := u8s_cell hb k (by simp [hsl]; omega)
      have fs := hb.frozen k
      have i1 : (0 : Int) ≤ (k : Int) := by omega
      have i2 : (k : Int) < (n : Int) + 80 := by omega
      have HT := take_next (spared zs) k (by omega) (n + 80 - (k + 1))
      rw [show n + 80 - (k + 1) + 1 = n + 80 - k by omega] at HT
      have HE : Hid (((spared zs).take k ++ List.replicate (n + 80 - k) 0).set k ((spared zs).getD k 0) = (spared zs).take (k + 1) ++ List.replicate (n + 80 - (k + 1)) 0) := HT
      have X0 : Hid (Blk wr w.heap.size 5 (u8s ((spared zs).take k ++ List.replicate (n + 80 - k) 0)) ∧ Kept (fun b => b = w.heap.size) w1 wr ∧ wr.heap.size = w.heap.size + 1) := ⟨hb, hkp, hws⟩
      by_cases hin : k < n
      · obtain ⟨b, o, rfl, hbl, hc⟩ := HX.out.cells (by omega)
        have c1 : wr.cell? ⟨b, o + k, none⟩ = some (.int .u8 (zs.getD k 0)) := (hkp.cell (p := ⟨b, o + k, none⟩) (by show b < _; have := HB.out.2.2; omega) (by show ¬ b = _; omega)).trans ((HB.out.2.1.cell (p := ⟨b, o + k, none⟩) hbl).trans (hc k hin))
        have HV : Hid ((spared zs).getD k 0 = zs.getD k 0) := spared_front zs k (by omega)
        obtain ⟨Z, hZ⟩ : ∃ Z, zs.getD k 0 = Z := ⟨_, rfl⟩
        rw [hZ] at c1 HV
        have i3 : (k : Int) < (n : Int) := by omega
        clear hb hkp hZ hc HT hsl hl hws
        go_wp2
        have R1 := X0.out.1.set k (.int .u8 Z)
        rw [u8s_set, ← HV.out, HE.out, HV.out] at R1
        exact ⟨⟨k + 1, by omega, by go_num, R1, X0.out.2.1.setCell (S := fun b => b = w.heap.size) rfl _, by have := X0.out.2.2; simpa [World.setCell] using this⟩, by simp [intOf]; omega⟩
      · have HV : Hid ((spared zs).getD k 0 = markB k) := spared_mark zs k (by omega) (by omega)
        have i3 : ¬ (k : Int) < (n : Int) := by omega
        clear hb hkp HT hsl hl hws
        go_wp2
        have R1 := X0.out.1.set k (.int .u8 (markB k))
        rw [u8s_set, ← HV.out, HE.out, HV.out] at R1
        exact ⟨⟨k + 1, by omega, by go_num, R1, X0.out.2.1.setCell (S := fun b => b = w.heap.size) rfl _, by have := X0.out.2.2; simpa [World.setCell] using this⟩, by simp [intOf]; omega⟩
    · obtain rfl : k = n + 80 := by omega
      rw [Nat.sub_self, List.replicate_zero, List.append_nil, List.take_of_length_le (by omega)] at hb
      have X3 : Hid (Blk wr w.heap.size 5 (u8s (spared zs)) ∧ wr.heap.size = w.heap.size + 1 ∧ Below w.heap.size w wr) := ⟨hb, hws, below_kept HB.out.2.1 hkp HB.out.2.1.size (fun j hj => by omega)⟩
      clear hb hkp hws hsl hl
      go_wp2
      go_ret
      exact ⟨rfl, X3.out.1, X3.out.2.1, X3.out.2.2⟩
set_option maxHeartbeats 1000000 in
set_option maxRecDepth 20000 in
theorem eqb_yes (ao bo : Option Addr) (n c d : Nat) (zs : List Int) (w : World) (hx : Seen w ao n zs) (hy : Seen w bo n zs) :
    Calls Try.prog 20 #[.slice ao n c, .slice bo n d] w fun e w' => e = .returned (.bool true) ∧ ∃ q, w' = w.drewN q := by
  have t1 := hx.top
  go_enter Try.func20, Try.ntmps20
  go_wp2
  go_loopw [5] (fun i wr => ∃ k : Nat, k ≤ n ∧ i = .int .i64 k ∧ ∃ q, wr = w.drewN q) (fun i _ => n - (intOf i).toNat)
  case atStart => exact ⟨0, Nat.zero_le _, rfl, 0, rfl⟩
  case round =>
    obtain ⟨k, hk, rfl, q, rfl⟩ := hrel
    by_cases hlt : k < n
    · obtain ⟨b, o, rfl, hb, hc⟩ := hx.cells (by omega)
      obtain ⟨b2, o2, rfl, hb2, hc2⟩ := hy.cells (by omega)
      have c1 : (w.drewN q).cell? ⟨b, o + k, none⟩ = some (.int .u8 (zs.getD k 0)) := hc k hlt
      have c2 : (w.drewN q).cell? ⟨b2, o2 + k, none⟩ = some (.int .u8 (zs.getD k 0)) := hc2 k hlt
      obtain ⟨Z, hZ⟩ : ∃ Z, zs.getD k 0 = Z := ⟨_, rfl⟩
      rw [hZ] at c1 c2
      obtain ⟨wr, hwr⟩ : ∃ wr, w.drewN q = wr := ⟨_, rfl⟩
      rw [hwr] at c1 c2 ⊢
      have HW : Hid (w.drewN q = wr) := hwr
      have i1 : (0 : Int) ≤ (k : Int) := by omega
      have i2 : (k : Int) < (n : Int) := by omega
      clear hZ hc hc2 hx hy hwr
      go_wp2
      go_quiet (fail)
      go_wp2
      refine ⟨⟨k + 1, by omega, by go_num, q + nq, ?_⟩, by simp [intOf]; omega⟩
      rw [← HW.out, World.drewN_drewN]
    · obtain rfl : k = n := by omega
      clear hx hy
      go_wp2
      go_ret
      exact ⟨rfl, q, rfl⟩
/-- A list with marked room, as data. -/
theorem spared_seen {w : World} {g : Nat} {zs : List Int} (h : Blk w g 5 (u8s (spared zs))) (hb : Bytes zs) (ht : zs.length ≤ 35184372088832) : Seen w (some ⟨g, 0, none⟩) zs.length zs :=
  ⟨rfl, by omega, hb, fun _ => ⟨g, 0, rfl, h.lt, fun i hi => by rw [Nat.zero_add, u8s_cell h i (by rw [spared_length]; omega), spared_front zs i hi]⟩⟩
set_option maxHeartbeats 1000000 in
set_option maxRecDepth 20000 in
theorem kept_yes (g : Nat) (bo : Option Addr) (n d : Nat) (zs : List Int) (w : World) (hx : Blk w g 5 (u8s (spared zs))) (hy : Seen w bo n zs) (hn : n ≤ 35184372088832) :
    Calls Try.prog 21 #[.slice (some ⟨g, 0, none⟩) n (n + 80), .slice bo n d] w fun e w' => e = .returned (.bool true) ∧ ∃ q, w' = w.drewN q := by
  have hl := hy.len
  have S1 : Hid (Seen w (some ⟨g, 0, none⟩) n zs) := by
    have := spared_seen hx hy.bytes (by omega)
    rwa [hl] at this
  have HY : Hid (Seen w bo n zs ∧ Blk w g 5 (u8s (spared zs)) ∧ zs.length = n) := ⟨hy, hx, hl⟩
  clear hx hy hl
  go_enter Try.func21, Try.ntmps21
  go_wp2_with fail
  refine (eqb_yes _ bo n (n + 80) d zs w S1.out HY.out.1).mono ?_
  rintro e w1 ⟨rfl, q, rfl⟩
  go_wp2
  go_loopw [6] (fun i wr => ∃ k : Nat, n ≤ k ∧ k ≤ n + 80 ∧ i = .int .i64 k ∧ ∃ q, wr = w.drewN q) (fun i _ => n + 80 - (intOf i).toNat)
  case atStart => exact ⟨n, Nat.le_refl _, by omega, rfl, q, rfl⟩
  case round =>
    obtain ⟨k, hk0, hk, rfl, q, rfl⟩ := hrel
    by_cases hlt : k < n + 80
    · have c1 : (w.drewN q).cell? ⟨g, k, none⟩ = some (.int .u8 (markB k)) := by
        have := u8s_cell HY.out.2.1 k (by rw [spared_length, HY.out.2.2]; omega)
        rw [spared_mark zs k (by rw [HY.out.2.2]; exact hk0) (by rw [HY.out.2.2]; exact hlt)] at this
        exact this
      rw [markB] at c1
      have i1 : (0 : Int) ≤ (k : Int) := by omega
      have i2 : (k : Int) < (n : Int) + 80 := by omega
      go_wp2
      exact ⟨⟨k + 1, by omega, by omega, by go_num, q, rfl⟩, by simp [intOf]; omega⟩
    · obtain rfl : k = n + 80 := by omega
      go_wp2
      go_ret
      exact ⟨rfl, q, rfl⟩
end Go.Proofs.Ytogplebajpdmoaa

/- Layer mask, for seal: Copy. -/
namespace Go.Proofs.Ytogplebajpdmoaa
open Go.RowKit
set_option linter.unusedVariables false
set_option linter.unusedSimpArgs false

theorem ch8_any (m x y : Int) (hm : Word m) (hx : 0 ≤ x ∧ x < 256) (hy : 0 ≤ y ∧ y < 256) (w : World) :
    Calls Try.prog 91 #[.int .u64 m, .int .u8 x, .int .u8 y] w fun e w' => e = .returned (.int .u8 (pk m x y)) ∧ w' = w := by
  have H : Hid (bits .xor .u8 y (bits .and .u8 (bits .xor .u8 x y) (m % 256)) = pk m x y) := choose_u8 m x y hm hx hy
  go_enter Try.func91, Try.ntmps91
  go_wp2
  go_ret
  exact ⟨ret_int H.out, rfl⟩
/-- What stands in a row whose first k places have been picked from another. -/
def mix (m : Int) (k : Nat) (xs ys : List Int) : List Int := xs.mapIdx fun i x => if i < k then pk m (ys.getD i 0) x else x
theorem mix_length (m : Int) (k : Nat) (xs ys : List Int) : (mix m k xs ys).length = xs.length := by simp [mix]
theorem mix_getD (m : Int) (k : Nat) (xs ys : List Int) (i : Nat) (hi : i < xs.length) : (mix m k xs ys).getD i 0 = if i < k then pk m (ys.getD i 0) (xs.getD i 0) else xs.getD i 0 := by
  simp [mix, List.getD, hi]
theorem mix_zero (m : Int) (xs ys : List Int) : mix m 0 xs ys = xs := by
  apply List.ext_getElem?
  intro i
  simp [mix]
theorem mix_succ (m : Int) (k : Nat) (xs ys : List Int) (hk : k < xs.length) : mix m (k + 1) xs ys = (mix m k xs ys).set k (pk m (ys.getD k 0) (xs.getD k 0)) := by
  apply List.ext_getElem?
  intro i
  rw [List.getElem?_set]
  by_cases h : k = i
  · subst h; simp [mix, hk, List.getD]
  · simp only [if_neg h]
    simp only [mix, List.getElem?_mapIdx]
    have : (i < k + 1) ↔ (i < k) := by omega
    simp [this]
theorem mix_bytes (m : Int) (k : Nat) (xs ys : List Int) (hx : Bytes xs) (hy : Bytes ys) : Bytes (mix m k xs ys) := by
  intro z hz
  obtain ⟨i, hi, rfl⟩ := List.getElem_of_mem hz
  have hi' : i < xs.length := by simpa [mix] using hi
  have e : (mix m k xs ys)[i] = if i < k then pk m (ys.getD i 0) (xs.getD i 0) else xs.getD i 0 := by
    have := mix_getD m k xs ys i hi'
    simpa [List.getD, hi] using this
  rw [e]
  have b1 := hx.at i hi'
  split
  · refine pk_bd8 _ _ _ ?_ b1
    by_cases h : i < ys.length
    · exact hy.at i h
    · simp [List.getD, h]
  · exact b1

theorem mcopy_none (m : Int) (a b : Option Addr) (c c' : Nat) (w : World) :
    Calls Try.prog 60 #[.int .u64 m, .slice a 0 c, .slice b 0 c'] w fun e w' => e = .returned (.int .i64 0) ∧ w' = w := by
  go_enter Try.func60, Try.ntmps60
  go_wp2
  refine wp_loop_rounds 1 ?_
  rw [rounds_succ]
  go_wp2
  go_ret
  exact ⟨rfl, rfl⟩

theorem RowC.drew {w : World} {r cap : Nat} {zs : List Int} (h : RowC w r cap zs) : RowC w.drew r cap zs := h
theorem mix_no (n : Nat) (xs ys : List Int) (hx : Bytes xs) : mix 0 n xs ys = xs := by
  apply List.ext_getElem
  · simp [mix]
  · intro i h1 h2
    have b := hx.at i h2
    have e : xs.getD i 0 = xs[i] := by simp [List.getD, h2]
    rw [e] at b
    simp only [mix, List.getElem_mapIdx]
    split
    · exact pk_zero _ _ b.1
    · rfl
theorem mix_yes (xs ys : List Int) (hx : Bytes xs) (hy : Bytes ys) (hl : ys.length = xs.length) : mix 18446744073709551615 xs.length xs ys = ys := by
  apply List.ext_getElem
  · simp [mix, hl]
  · intro i h1 h2
    have h3 : i < xs.length := by omega
    have b := hx.at i h3
    have c := hy.at i h2
    have e : xs.getD i 0 = xs[i] := by simp [List.getD, h3]
    have e2 : ys.getD i 0 = ys[i] := by simp [List.getD, h2]
    rw [e] at b
    rw [e2] at c
    simp only [mix, List.getElem_mapIdx, if_pos h3, e2]
    exact pk_ones _ _ ⟨by omega, by omega⟩ ⟨by omega, by omega⟩
theorem mcopy_step {m : Int} {k g cg : Nat} {xs ys : List Int} {w wr : World} (hx : k < xs.length)
    (hg : RowC wr g cg (mix m k xs ys)) (hk : Kept (fun k => k = g) w wr) :
    let W := (wr.setCell ⟨g, k, none⟩ (.int .u8 (pk m (ys.getD k 0) (xs.getD k 0)))).drew
    RowC W g cg (mix m (k + 1) xs ys) ∧ Kept (fun k => k = g) w W := by
  refine ⟨?_, ?_⟩
  · rw [mix_succ m k xs ys hx]
    exact (hg.set k (by rw [mix_length]; exact hx) _).drew
  · exact (hk.setCell (by exact rfl) _).drew
set_option maxHeartbeats 1000000 in
theorem mcopy_any (m : Int) (hm : Word m) (g h o n cg ch : Nat) (xs ys : List Int) (hgh : h ≠ g) (hx : n ≤ xs.length) (hy : n ≤ ys.length) (hbx : Bytes xs) (hby : Bytes ys) (hn : n ≤ maxLen) (w : World) (hg : RowC w g cg xs)
    (hlt : h < w.heap.size) (hh : ∀ i, i < n → w.cell? ⟨h, o + i, none⟩ = some (.int .u8 (ys.getD i 0))) :
    Calls Try.prog 60 #[.int .u64 m, .slice (some ⟨g, 0, none⟩) n cg, .slice (some ⟨h, o, none⟩) n ch] w fun e w' =>
      e = .returned (.int .i64 0) ∧ RowC w' g cg (mix m n xs ys) ∧ Kept (fun k => k = g) w w' := by
  unfold maxLen at hn
  go_enter Try.func60, Try.ntmps60
  go_wp2
  go_loopw [15] (fun i wr => ∃ k : Nat, k ≤ n ∧ i = .int .i64 k ∧ RowC wr g cg (mix m k xs ys) ∧ Kept (fun k => k = g) w wr) (fun i _ => n - (intOf i).toNat)
  case atStart => exact ⟨0, Nat.zero_le _, rfl, by rw [mix_zero]; exact hg, Kept.refl _ _⟩
  case round =>
    obtain ⟨k, hk, rfl, hrg, hkept⟩ := hrel
    by_cases hlt : k < n
    · have R := mcopy_step (by omega) hrg hkept
      obtain ⟨X, hX⟩ : ∃ X, xs.getD k 0 = X := ⟨_, rfl⟩
      obtain ⟨Y, hY⟩ : ∃ Y, ys.getD k 0 = Y := ⟨_, rfl⟩
      rw [hX, hY] at R
      have c1 : wr.cell? ⟨g, k, none⟩ = some (.int .u8 X) := by rw [hrg.cell k (by rw [mix_length]; omega), mix_getD _ _ _ _ _ (by omega), if_neg (by omega), hX]
      have c2 : wr.cell? ⟨h, o + k, none⟩ = some (.int .u8 Y) := by rw [hkept.cell (by assumption) (by exact hgh), hh k hlt, hY]
      have f1 : wr.frozen? ⟨g, k, none⟩ = false := hrg.frozen k
      have bX : 0 ≤ X ∧ X < 256 := by rw [← hX]; exact hbx.at k (by omega)
      have bY : 0 ≤ Y ∧ Y < 256 := by rw [← hY]; exact hby.at k (by omega)
      have HR : Hid _ := R
      have i1 : (0 : Int) ≤ (k : Int) := by omega
      have i2 : (k : Int) < (n : Int) := by omega
      clear hX hY hrg hkept hg hh R hbx hby hx hy
      go_wp2
      go_region_with (go_at_call 91; refine (ch8_any _ _ _ hm bY bX _).mono ?_; rintro e w' ⟨rfl, rfl⟩)
      all_goals
        go_wp2
        go_roundw
        case rel => exact ⟨k + 1, by omega, by go_num, HR.out.1, HR.out.2⟩
        case measure => simp [intOf]; omega
    · have e : k = n := by omega
      subst e
      go_wp2
      go_ret
      exact ⟨rfl, hrg, hkept⟩
end Go.Proofs.Ytogplebajpdmoaa
