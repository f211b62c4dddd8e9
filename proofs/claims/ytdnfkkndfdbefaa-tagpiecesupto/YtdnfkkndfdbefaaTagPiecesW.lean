/- The walk of TagPieces. -/
import Derived.Test.YtdnfkkndfdbefaaDRows
import Derived.Test.YtdnfkkndfdbefaaTIsS
namespace Go.Proofs.Ytdnfkkndfdbefaa.tagPieces
open Go.RowKit
set_option linter.unusedVariables false
set_option linter.unusedSimpArgs false

/-- Lists of bytes with room enough. -/
def isL (n : Nat) (pss : List (List Int)) (v : Value) (w : World) : Prop := ∃ ao c, v = .slice ao n c ∧ SeenP w ao n pss
theorem isL_later (n : Nat) (pss : List (List Int)) : ∀ v w w', Below w.heap.size w w' → isL n pss v w → isL n pss v w' := fun _ _ _ hb ⟨b, c, h1, h2⟩ => ⟨b, c, h1, h2.later hb (Nat.le_refl _)⟩
set_option maxRecDepth 20000 in
set_option maxHeartbeats 4000000 in
theorem walk (key : List Int) (ao : Option Addr) (n c : Nat) (pss : List (List Int)) (ask : Bool) (w : World) (hkl : key.length = 32) (hkb : Bytes key) (hx : SeenP w ao n pss) (hn : n ≤ 1048576) (hm : pss.flatten.length ≤ 1048576) :
    Calls Try.prog 7 #[.agg (u8s key).toArray, .slice ao n c, .bool ask] w fun e w' => e = .returned (.bool true) ∧ Below w.heap.size w w' := by
  obtain ⟨m, hm0⟩ : ∃ m, pss.flatten = m := ⟨_, rfl⟩
  have HX : Hid (SeenP w ao n pss ∧ Bytes m ∧ key.length = 32 ∧ Bytes key) := ⟨hx, by have := seenP_bytes hx n (Nat.le_refl _); rw [List.take_of_length_le (by rw [hx.len]; exact Nat.le_refl _), hm0] at this; exact this, hkl, hkb⟩
  have HM : Hid (m.length ≤ 1048576 ∧ pss.length = n ∧ pss.flatten = m) := ⟨by rw [← hm0]; exact hm, hx.len, hm0⟩
  obtain ⟨A, hA⟩ : ∃ z, tagB key m = z := ⟨_, rfl⟩
  have HA : Hid (tagB key m = A ∧ A.length = 16 ∧ Bytes A) := by rw [← hA]; exact ⟨rfl, tagB_length _ _, tagB_bytes _ _⟩
  have heq : ∀ wx, (Op.equalIn 10000 28 (.agg (u8s A).toArray) (.agg (u8s A).toArray)).run Try.prog wx = .ok true wx := equal_self 9998 A HA.out.2.1
  have HU : Hid ((Try.prog.info? 24).map (·.size) = some (u8s key).length ∧ (Try.prog.info? 28).map (·.size) = some (u8s A).length) := ⟨by rw [u8s_length, HX.out.2.2.1]; exact sizeKey, by rw [u8s_length, HA.out.2.1]; exact sizeTag⟩
  clear hx hm hm0 hkl hkb hA
  go_enter Try.func7, Try.ntmps7
  go_wp2_with (first | (refine wpList_box_new rfl 24 (.tmp 0) rfl (u8s key) rfl ?_; intro w1 b1 s1 l1) | ((with_reducible show wpList _ _ _ _ _ w1); refine wpList_load_blk rfl 24 _ rfl w.heap.size rfl (u8s key) _ b1 Try.underlying24 rfl HU.out.1 ?_) | (go_at_call 19; refine (new_any key HX.out.2.2.1 HX.out.2.2.2 _).mono ?_; rintro e w2 ⟨G, rfl, hG, h2, l2⟩) | (go_at_call 9; refine (works_any _).mono ?_; rintro e w3 ⟨rfl, l3⟩; have X3 : Hid (Blk w3 w.heap.size 24 (u8s key) ∧ KHolds w3 G key [] ∧ Below w.heap.size w w3 ∧ w.heap.size < G) := ⟨(b1.later l2 (by omega)).later l3 (by have := l2.size; omega), PHolds.later h2 l3 (PHolds.lt h2), below_chain (below_chain l1 l2 (by omega)) l3 (by have := l2.size; omega), by omega⟩; clear b1 s1 l1 hG h2 l2 l3) | (go_at_call 13; refine (join_any ao n c pss _ (HX.out.1.later X3.out.2.2.1 (Nat.le_refl _)) (by omega) (by rw [HM.out.2.2]; have := HM.out.1; omega)).mono ?_; rintro e w4 ⟨v4, rfl, o4, l4⟩; rw [HM.out.2.2] at o4; obtain ⟨vo, vc, rfl, s4, hvc, _, hvb, _⟩ := own_data HX.out.2.1 (by have := HM.out.1; omega) o4; have X4 : Hid (Blk w4 w.heap.size 24 (u8s key) ∧ KHolds w4 G key [] ∧ Below w.heap.size w w4 ∧ w.heap.size < G ∧ Seen w4 vo m.length m ∧ m.length ≤ vc ∧ (∀ b o, vo = some ⟨b, o, none⟩ → b ≠ G)) := ⟨X3.out.1.later l4 X3.out.1.lt, PHolds.later X3.out.2.1 l4 (PHolds.lt X3.out.2.1), below_chain X3.out.2.2.1 l4 X3.out.2.2.1.size, X3.out.2.2.2, s4, hvc, fun b o e => by have := (hvb b o e).1; have := PHolds.lt X3.out.2.1; omega⟩; clear o4 l4 s4 hvc hvb X3) | ((with_reducible show wpList _ _ _ _ _ w4); refine wpList_load_blk rfl 24 _ rfl w.heap.size rfl (u8s key) _ X4.out.1 Try.underlying24 rfl HU.out.1 ?_) | (refine wpList_buildSlice rfl 25 1 _ rfl #[(0, .slice vo m.length vc)] (by simp [Act.eval]) _ _ (bs1 _ _ _ _) ?_) | (go_at_call 11; refine (tsum_any key HX.out.2.2.1 HX.out.2.2.2 _ 1 1 [m] _ (seenP1 w4 vo _ vc _ X4.out.2.2.2.2.1 X4.out.2.2.2.2.2.1) (by decide)).mono ?_; rintro e w6 ⟨rfl, l6⟩; rw [show ([m] : List (List Int)).flatten = m by simp, HA.out.1]) | ((with_reducible show wpList _ _ _ _ _ w6); refine wpList_alloc_new rfl 28 rfl 16 _ zeroTag ?_; intro w7 b7 s7 l7) | (refine wpList_store_blk rfl 28 28 _ _ rfl _ rfl _ (u8s A) rfl b7 (by rw [u8s_length, HA.out.2.1]; rfl) HU.out.2 (u8s_one _) ?_; intro w8 b8 s8 k8))
  obtain ⟨T, hT⟩ : ∃ T, w6.heap.size = T := ⟨_, rfl⟩
  have HB : Hid (Blk w8 w.heap.size 24 (u8s key) ∧ KHolds w8 G key [] ∧ Below w.heap.size w w8 ∧ w.heap.size < G ∧ Seen w8 vo m.length m ∧ m.length ≤ vc ∧ Blk w8 T 28 (u8s A) ∧ G < T ∧ (∀ b o, vo = some ⟨b, o, none⟩ → b ≠ G)) := by
    rw [hT] at b8 k8
    have la : Below w4.heap.size w4 (w4.alloc (.cells #[.slice vo m.length vc] 31)) := (Below.refl _ _).alloc (Nat.le_refl _) _
    have q6 := l6.size
    have qa : (w4.alloc (.cells #[.slice vo m.length vc] 31)).heap.size = w4.heap.size + 1 := by simp
    have lg := PHolds.lt X4.out.2.1
    have lk := X4.out.1.lt
    have lb := X4.out.2.2.1.size
    have L7 : Below w4.heap.size w4 w7 := below_chain (below_chain la l6 (by omega)) l7 (by omega)
    have B8 : Below w.heap.size w w8 := below_kept (below_chain X4.out.2.2.1 L7 (by omega)) k8 (by have := L7.size; omega) (fun j hj => by omega)
    refine ⟨(X4.out.1.later L7 lk).kept k8 (by omega), PHolds.kept (PHolds.later X4.out.2.1 L7 lg) k8 (by omega), B8, X4.out.2.2.2.1, ?_, X4.out.2.2.2.2.2.1, b8, by omega, X4.out.2.2.2.2.2.2⟩
    refine (X4.out.2.2.2.2.1.later L7 (Nat.le_refl _)).kept k8 (fun b o h0 e => ?_)
    have := X4.out.2.2.2.2.1.old (Nat.le_refl _) b o h0 e
    omega
  try simp only [hT]
  clear X4 l6 b7 s7 l7 b8 s8 k8 hT
  cases ask with
  | false =>
    go_loopw [10] (fun i wr => ∃ k : Nat, k ≤ n ∧ i = .int .i64 k ∧ KHolds wr G key (pss.take k).flatten ∧ Kept (fun b => b = G) w8 wr) (fun i _ => n - (intOf i).toNat)
    case atStart => exact ⟨0, Nat.zero_le _, rfl, HB.out.2.1, Kept.refl _ _⟩
    case round =>
      obtain ⟨k, hk, rfl, hh, hkp⟩ := hrel
      by_cases hlt : k < n
      · obtain ⟨b, o, so, cs, rfl, hb, hc, hs, hl⟩ := HX.out.1.cells k hlt
        have BW := HB.out.2.2.1
        have hGw := HB.out.2.2.2.1
        have cell8 : ∀ W, Kept (fun b => b = G) w8 W → W.cell? ⟨b, o + k, none⟩ = some (.slice so (pss.getD k []).length cs) := fun W hW => (hW.cell (p := ⟨b, o + k, none⟩) (Nat.lt_of_lt_of_le hb BW.size) (by show ¬ b = _; omega)).trans ((BW.cell (p := ⟨b, o + k, none⟩) hb).trans hc)
        have c1 := cell8 wr hkp
        have S1 : Hid (Seen wr so (pss.getD k []).length (pss.getD k [])) := (hs.later BW (Nat.le_refl _)).kept hkp (fun b' o' h0 e => by
          have := hs.old (Nat.le_refl _) b' o' h0 e
          omega)
        have E1 := flat_succ pss k (by have := HM.out.2.1; omega)
        obtain ⟨p, hp⟩ : ∃ p, pss.getD k [] = p := ⟨_, rfl⟩
        rw [hp] at c1 S1 E1
        have HH : Hid (KHolds wr G key (pss.take k).flatten ∧ Kept (fun b => b = G) w8 wr ∧ (pss.take (k + 1)).flatten = (pss.take k).flatten ++ p ∧ (∀ W, Kept (fun b => b = G) w8 W → W.cell? ⟨b, o + k, none⟩ = some (.slice so p.length cs)) ∧ Bytes p ∧ p.length ≤ 140737488355328) := ⟨hh, hkp, E1, by rw [← hp]; exact cell8, S1.out.bytes, S1.out.top⟩
        have i1 : (0 : Int) ≤ (k : Int) := by omega
        have i2 : (k : Int) < (n : Int) := by omega
        clear hs hl hc hh hkp BW hGw E1 hp cell8
        go_wp2_with (first | (go_at_call 21; refine (copyB_any so p.length cs p _ S1.out).mono ?_; rintro e w9 ⟨v9, rfl, o9, l9⟩; obtain ⟨vo9, c9, rfl, s9, hc9, _, hb9, _⟩ := own_data HH.out.2.2.2.2.1 HH.out.2.2.2.2.2 o9; have X9 : Hid (KHolds w9 G key (pss.take k).flatten ∧ Kept (fun b => b = G) w8 w9 ∧ Seen w9 vo9 p.length p ∧ p.length ≤ c9 ∧ (∀ b' o', 0 < p.length → vo9 = some ⟨b', o', none⟩ → b' ≠ G)) := ⟨PHolds.later HH.out.1 l9 (PHolds.lt HH.out.1), HH.out.2.1.trans (Kept.new _ l9), s9, hc9, fun b' o' _ e => by have := (hb9 b' o' e).1; have := PHolds.lt HH.out.1; omega⟩; clear o9 l9 s9 hc9 hb9) | (go_at_call 20; refine (write_any _ _ _ _ _ vo9 p.length c9 p _ X9.out.1 X9.out.2.2.1 X9.out.2.2.2.1 X9.out.2.2.2.2).mono ?_; rintro e wa ⟨rfl, ha, ka⟩; have XA : Hid (KHolds wa G key (pss.take (k + 1)).flatten ∧ Kept (fun b => b = G) w8 wa) := ⟨by rw [HH.out.2.2.1]; exact ha, X9.out.2.1.trans ka⟩; have ca := HH.out.2.2.2.1 wa XA.out.2; clear ha ka) | (go_at_call 22; refine (psum_key _ key (pss.take (k + 1)).flatten _ XA.out.1).mono ?_; rintro e wb ⟨rfl, lb⟩; have XB : Hid (KHolds wb G key (pss.take (k + 1)).flatten ∧ Kept (fun b => b = G) w8 wb) := ⟨PHolds.later XA.out.1 lb (PHolds.lt XA.out.1), XA.out.2.trans (Kept.new _ lb)⟩; clear lb))
        all_goals first | exact ⟨⟨k + 1, by omega, by go_num, XB.out⟩, by simp [intOf]; omega⟩ | exact ⟨⟨k + 1, by omega, by go_num, XA.out⟩, by simp [intOf]; omega⟩
      · obtain rfl : k = n := by omega
        rw [List.take_of_length_le (by have := HM.out.2.1; omega), HM.out.2.2] at hh
        have X0 : Hid (Blk wr w.heap.size 24 (u8s key) ∧ KHolds wr G key m ∧ Below w.heap.size w wr ∧ Seen wr vo m.length m ∧ m.length ≤ vc ∧ Blk wr T 28 (u8s A) ∧ SeenP wr ao k pss) := by
          obtain ⟨B1, B2, B3, B4, B5, B6, B7, B8, B9⟩ := HB.out
          have BB := below_kept B3 hkp B3.size (fun j hj => by omega)
          exact ⟨B1.kept hkp (by omega), hh, BB, B5.kept hkp (fun b o _ e => B9 b o e), B6, B7.kept hkp (by omega), HX.out.1.later BB (Nat.le_refl _)⟩
        clear hh hkp
        go_wp2_with fail
        try simp only [Act.put, List.setIfInBounds_toArray, List.set_cons_zero, List.set_cons_succ]
        refine region_invG ((.val (.pointer (some ⟨G, 0, none⟩))) :: (.val (.agg (u8s A).toArray)) :: (.val (.agg (u8s A).toArray)) :: (.val (.bool true)) :: (.val (.bool true)) :: (.val (.pointer (some ⟨G, 0, none⟩))) :: (.val (.agg (u8s A).toArray)) :: (.val (.agg (u8s A).toArray)) :: (.val (.bool true)) :: (.val (.bool true)) :: (.val (.bool true)) :: (.val (.agg (u8s key).toArray)) :: (.val (.slice ao k c)) :: (.any (isL k pss) (isL_later _ _)) :: (.val (.agg (u8s A).toArray)) :: (.val (.agg (u8s A).toArray)) :: (.val (.bool true)) :: (.val (.bool true)) :: (.val (.bool true)) :: (.val (.agg (u8s key).toArray)) :: (.val (.agg (u8s A).toArray)) :: (.val (.slice vo m.length vc)) :: (.any (isP 1 [m]) (isP_later _ _)) :: (.val (.bool true)) :: (.val (.bool true)) :: []) (by kernel_rfl) (by kernel_rfl) (by repeat (first | exact trivial | (refine ⟨by first | trivial | rfl, ?_⟩))) (by kernel_rfl) ?_ ?_
        · refine Steps'.cons ?_ (Steps'.cons ?_ (Steps'.cons ?_ (Steps'.cons ?_ (Steps'.cons ?_ (Steps'.cons ?_ (Steps'.cons ?_ (Steps'.cons ?_ (Steps'.cons ?_ (Steps'.cons ?_ (Steps'.cons ?_ (Steps'.cons ?_ (Steps'.cons ?_ (Steps'.cons ?_ (Steps'.cons ?_ (Steps'.cons ?_ (Steps'.cons ?_ (Steps'.cons ?_ (Steps'.cons ?_ (Steps'.cons ?_ (Steps'.cons ?_ (Steps'.cons ?_ (Steps'.cons ?_ (Steps'.cons ?_ (Steps'.cons ?_ (Steps'.one _ _ _ _ _ _ _)))))))))))))))))))))))))
          · intro ax wx hb hs hd
            have h7 : ax.tmps.getD 7 undef = (.pointer (some ⟨G, 0, none⟩)) := hs 7 (by kernel_rfl)
            refine Does.value (.pointer (some ⟨G, 0, none⟩)) ?_ rfl
            go_simp
          · intro ax wx hb hs hd
            have h57 : ax.tmps.getD 57 undef = (.pointer (some ⟨G, 0, none⟩)) := hd 0 57 rfl (by kernel_rfl) (by decide)
            refine Does.call 22 #[(.pointer (some ⟨G, 0, none⟩))] (by go_simp) ?_
            have q := psum_key G key m wx (PHolds.later X0.out.2.1 hb (PHolds.lt X0.out.2.1))
            rw [HA.out.1] at q
            refine q.mono ?_
            rintro e w' ⟨rfl, l⟩
            exact ⟨_, rfl, rfl, l⟩
          · intro ax wx hb hs hd
            have h9 : ax.tmps.getD 9 undef = (.pointer (some ⟨T, 0, none⟩)) := hs 9 (by kernel_rfl)
            exact Does.load 28 (.tmp 9) rfl T 0 h9 (u8s A) _ ((Blk.later X0.out.2.2.2.2.2.1 hb (Blk.lt X0.out.2.2.2.2.2.1)).whole) Try.underlying28 rfl HU.out.2
          · intro ax wx hb hs hd
            have h58 : ax.tmps.getD 58 undef = (.agg (u8s A).toArray) := hd 1 58 rfl (by kernel_rfl) (by decide)
            have h59 : ax.tmps.getD 59 undef = (.agg (u8s A).toArray) := hd 2 59 rfl (by kernel_rfl) (by decide)
            refine Does.value _ ?_ rfl
            go_simp
          · intro ax wx hb hs hd
            have h60 : ax.tmps.getD 60 undef = (.bool true) := hd 3 60 rfl (by kernel_rfl) (by decide)
            refine Does.value (.bool true) ?_ rfl
            go_simp
          · intro ax wx hb hs hd
            have h7 : ax.tmps.getD 7 undef = (.pointer (some ⟨G, 0, none⟩)) := hs 7 (by kernel_rfl)
            refine Does.value (.pointer (some ⟨G, 0, none⟩)) ?_ rfl
            go_simp
          · intro ax wx hb hs hd
            have h62 : ax.tmps.getD 62 undef = (.pointer (some ⟨G, 0, none⟩)) := hd 5 62 rfl (by kernel_rfl) (by decide)
            refine Does.call 22 #[(.pointer (some ⟨G, 0, none⟩))] (by go_simp) ?_
            have q := psum_key G key m wx (PHolds.later X0.out.2.1 hb (PHolds.lt X0.out.2.1))
            rw [HA.out.1] at q
            refine q.mono ?_
            rintro e w' ⟨rfl, l⟩
            exact ⟨_, rfl, rfl, l⟩
          · intro ax wx hb hs hd
            have h9 : ax.tmps.getD 9 undef = (.pointer (some ⟨T, 0, none⟩)) := hs 9 (by kernel_rfl)
            exact Does.load 28 (.tmp 9) rfl T 0 h9 (u8s A) _ ((Blk.later X0.out.2.2.2.2.2.1 hb (Blk.lt X0.out.2.2.2.2.2.1)).whole) Try.underlying28 rfl HU.out.2
          · intro ax wx hb hs hd
            have h63 : ax.tmps.getD 63 undef = (.agg (u8s A).toArray) := hd 6 63 rfl (by kernel_rfl) (by decide)
            have h64 : ax.tmps.getD 64 undef = (.agg (u8s A).toArray) := hd 7 64 rfl (by kernel_rfl) (by decide)
            refine Does.value _ ?_ rfl
            go_simp
          · intro ax wx hb hs hd
            have h61 : ax.tmps.getD 61 undef = (.bool true) := hd 4 61 rfl (by kernel_rfl) (by decide)
            have h65 : ax.tmps.getD 65 undef = (.bool true) := hd 8 65 rfl (by kernel_rfl) (by decide)
            refine Does.value _ ?_ rfl
            go_simp
          · intro ax wx hb hs hd
            have h66 : ax.tmps.getD 66 undef = (.bool true) := hd 9 66 rfl (by kernel_rfl) (by decide)
            refine Does.value (.bool true) ?_ rfl
            go_simp
          · intro ax wx hb hs hd
            have h3 : ax.tmps.getD 3 undef = (.pointer (some ⟨w.heap.size, 0, none⟩)) := hs 3 (by kernel_rfl)
            exact Does.load 24 (.tmp 3) rfl w.heap.size 0 h3 (u8s key) _ ((Blk.later X0.out.1 hb (Blk.lt X0.out.1)).whole) Try.underlying24 rfl HU.out.1
          · intro ax wx hb hs hd
            have h1 : ax.tmps.getD 1 undef = (.slice ao k c) := hs 1 (by kernel_rfl)
            refine Does.value (.slice ao k c) ?_ rfl
            go_simp
          · intro ax wx hb hs hd
            have h69 : ax.tmps.getD 69 undef = (.slice ao k c) := hd 12 69 rfl (by kernel_rfl) (by decide)
            refine Does.call 15 #[.slice ao k c] (by go_simp) ?_
            refine (copyR_any ao k c pss wx (X0.out.2.2.2.2.2.2.later hb (Nat.le_refl _)) hn).mono ?_
            rintro e w' ⟨vo', c', rfl, hs', _, l⟩
            exact ⟨_, rfl, ⟨vo', c', rfl, hs'⟩, l⟩
          · intro ax wx hb hs hd
            have h68 : ax.tmps.getD 68 undef = (.agg (u8s key).toArray) := hd 11 68 rfl (by kernel_rfl) (by decide)
            obtain ⟨bo, cc, h70, s70⟩ : isL k pss (ax.tmps.getD 70 undef) wx := hd 13 70 rfl (by kernel_rfl) (by decide)
            refine Does.call 11 #[(.agg (u8s key).toArray), .slice bo k cc] (by go_simp) ?_
            have q := tsum_any key HX.out.2.2.1 HX.out.2.2.2 bo k cc pss wx s70 (by omega)
            rw [HM.out.2.2, HA.out.1] at q
            refine q.mono ?_
            rintro e w' ⟨rfl, l⟩
            exact ⟨_, rfl, rfl, l⟩
          · intro ax wx hb hs hd
            have h9 : ax.tmps.getD 9 undef = (.pointer (some ⟨T, 0, none⟩)) := hs 9 (by kernel_rfl)
            exact Does.load 28 (.tmp 9) rfl T 0 h9 (u8s A) _ ((Blk.later X0.out.2.2.2.2.2.1 hb (Blk.lt X0.out.2.2.2.2.2.1)).whole) Try.underlying28 rfl HU.out.2
          · intro ax wx hb hs hd
            have h71 : ax.tmps.getD 71 undef = (.agg (u8s A).toArray) := hd 14 71 rfl (by kernel_rfl) (by decide)
            have h72 : ax.tmps.getD 72 undef = (.agg (u8s A).toArray) := hd 15 72 rfl (by kernel_rfl) (by decide)
            refine Does.value _ ?_ rfl
            go_simp
          · intro ax wx hb hs hd
            have h67 : ax.tmps.getD 67 undef = (.bool true) := hd 10 67 rfl (by kernel_rfl) (by decide)
            have h73 : ax.tmps.getD 73 undef = (.bool true) := hd 16 73 rfl (by kernel_rfl) (by decide)
            refine Does.value _ ?_ rfl
            go_simp
          · intro ax wx hb hs hd
            have h74 : ax.tmps.getD 74 undef = (.bool true) := hd 17 74 rfl (by kernel_rfl) (by decide)
            refine Does.value (.bool true) ?_ rfl
            go_simp
          · intro ax wx hb hs hd
            have h3 : ax.tmps.getD 3 undef = (.pointer (some ⟨w.heap.size, 0, none⟩)) := hs 3 (by kernel_rfl)
            exact Does.load 24 (.tmp 3) rfl w.heap.size 0 h3 (u8s key) _ ((Blk.later X0.out.1 hb (Blk.lt X0.out.1)).whole) Try.underlying24 rfl HU.out.1
          · intro ax wx hb hs hd
            have h9 : ax.tmps.getD 9 undef = (.pointer (some ⟨T, 0, none⟩)) := hs 9 (by kernel_rfl)
            exact Does.load 28 (.tmp 9) rfl T 0 h9 (u8s A) _ ((Blk.later X0.out.2.2.2.2.2.1 hb (Blk.lt X0.out.2.2.2.2.2.1)).whole) Try.underlying28 rfl HU.out.2
          · intro ax wx hb hs hd
            have h8 : ax.tmps.getD 8 undef = (.slice vo m.length vc) := hs 8 (by kernel_rfl)
            refine Does.value (.slice vo m.length vc) ?_ rfl
            go_simp
          · intro ax wx hb hs hd
            have h78 : ax.tmps.getD 78 undef = (.slice vo m.length vc) := hd 21 78 rfl (by kernel_rfl) (by decide)
            exact Does.rows1 _ rfl vo m.length vc m (by simp only [List.map_toArray, List.map_cons, List.map_nil, Act.eval, h78]) (X0.out.2.2.2.1.later hb (Nat.le_refl _)) X0.out.2.2.2.2.1
          · intro ax wx hb hs hd
            have h76 : ax.tmps.getD 76 undef = (.agg (u8s key).toArray) := hd 19 76 rfl (by kernel_rfl) (by decide)
            have h77 : ax.tmps.getD 77 undef = (.agg (u8s A).toArray) := hd 20 77 rfl (by kernel_rfl) (by decide)
            obtain ⟨b, cc, h79, s79⟩ : isP 1 [m] (ax.tmps.getD 79 undef) wx := hd 22 79 rfl (by kernel_rfl) (by decide)
            refine Does.call 16 #[(.agg (u8s key).toArray), (.agg (u8s A).toArray), .slice (some ⟨b, 0, none⟩) 1 cc] (by go_simp) ?_
            have q := check_any key A HX.out.2.2.1 HX.out.2.2.2 HA.out.2.1 HA.out.2.2 _ 1 cc _ wx s79 (by decide)
            rw [show ([m] : List (List Int)).flatten = m by simp, HA.out.1, decide_eq_true rfl] at q
            refine q.mono ?_
            rintro e w' ⟨rfl, l⟩
            exact ⟨_, rfl, rfl, l⟩
          · intro ax wx hb hs hd
            have h75 : ax.tmps.getD 75 undef = (.bool true) := hd 18 75 rfl (by kernel_rfl) (by decide)
            have h80 : ax.tmps.getD 80 undef = (.bool true) := hd 23 80 rfl (by kernel_rfl) (by decide)
            refine Does.value _ ?_ rfl
            go_simp
        · intro wx hb
          refine @Ends.val _ _ _ _ _ _ _ _ _ (.pointer (some ⟨G, 0, none⟩)) rfl ?_
          refine @Ends.val _ _ _ _ _ _ _ _ _ (.agg (u8s A).toArray) rfl ?_
          refine @Ends.val _ _ _ _ _ _ _ _ _ (.agg (u8s A).toArray) rfl ?_
          refine @Ends.val _ _ _ _ _ _ _ _ _ (.bool true) rfl ?_
          refine @Ends.val _ _ _ _ _ _ _ _ _ (.bool true) rfl ?_
          refine @Ends.val _ _ _ _ _ _ _ _ _ (.pointer (some ⟨G, 0, none⟩)) rfl ?_
          refine @Ends.val _ _ _ _ _ _ _ _ _ (.agg (u8s A).toArray) rfl ?_
          refine @Ends.val _ _ _ _ _ _ _ _ _ (.agg (u8s A).toArray) rfl ?_
          refine @Ends.val _ _ _ _ _ _ _ _ _ (.bool true) rfl ?_
          refine @Ends.val _ _ _ _ _ _ _ _ _ (.bool true) rfl ?_
          refine @Ends.val _ _ _ _ _ _ _ _ _ (.bool true) rfl ?_
          refine @Ends.val _ _ _ _ _ _ _ _ _ (.agg (u8s key).toArray) rfl ?_
          refine @Ends.val _ _ _ _ _ _ _ _ _ (.slice ao k c) rfl ?_
          refine @Ends.any _ _ _ _ _ _ _ _ _ (isL k pss) (isL_later _ _) rfl ?_
          intro v13 p13
          refine @Ends.val _ _ _ _ _ _ _ _ _ (.agg (u8s A).toArray) rfl ?_
          refine @Ends.val _ _ _ _ _ _ _ _ _ (.agg (u8s A).toArray) rfl ?_
          refine @Ends.val _ _ _ _ _ _ _ _ _ (.bool true) rfl ?_
          refine @Ends.val _ _ _ _ _ _ _ _ _ (.bool true) rfl ?_
          refine @Ends.val _ _ _ _ _ _ _ _ _ (.bool true) rfl ?_
          refine @Ends.val _ _ _ _ _ _ _ _ _ (.agg (u8s key).toArray) rfl ?_
          refine @Ends.val _ _ _ _ _ _ _ _ _ (.agg (u8s A).toArray) rfl ?_
          refine @Ends.val _ _ _ _ _ _ _ _ _ (.slice vo m.length vc) rfl ?_
          refine @Ends.any _ _ _ _ _ _ _ _ _ (isP 1 [m]) (isP_later _ _) rfl ?_
          intro v22 p22
          refine @Ends.val _ _ _ _ _ _ _ _ _ (.bool true) rfl ?_
          refine @Ends.val _ _ _ _ _ _ _ _ _ (.bool true) rfl ?_
          refine @Ends.one _ _ _ _ _ _ _ ?_
          simp only [Act.put, List.setIfInBounds_toArray, List.set_cons_zero, List.set_cons_succ]
          refine last_assign (.tmp 81) rfl (some 6) rfl _ rfl ?_
          simp only [Act.put, List.setIfInBounds_toArray, List.set_cons_zero, List.set_cons_succ]
          have XB : Hid (Below w.heap.size w wx) := below_chain X0.out.2.2.1 hb X0.out.2.2.1.size
          clear hb
          go_wp2_with fail
          go_ret
          exact ⟨rfl, XB.out⟩
  | true =>
    go_loopw [10] (fun i wr => ∃ k : Nat, k ≤ n ∧ i = .int .i64 k ∧ KHolds wr G key (pss.take k).flatten ∧ Kept (fun b => b = G) w8 wr) (fun i _ => n - (intOf i).toNat)
    case atStart => exact ⟨0, Nat.zero_le _, rfl, HB.out.2.1, Kept.refl _ _⟩
    case round =>
      obtain ⟨k, hk, rfl, hh, hkp⟩ := hrel
      by_cases hlt : k < n
      · obtain ⟨b, o, so, cs, rfl, hb, hc, hs, hl⟩ := HX.out.1.cells k hlt
        have BW := HB.out.2.2.1
        have hGw := HB.out.2.2.2.1
        have cell8 : ∀ W, Kept (fun b => b = G) w8 W → W.cell? ⟨b, o + k, none⟩ = some (.slice so (pss.getD k []).length cs) := fun W hW => (hW.cell (p := ⟨b, o + k, none⟩) (Nat.lt_of_lt_of_le hb BW.size) (by show ¬ b = _; omega)).trans ((BW.cell (p := ⟨b, o + k, none⟩) hb).trans hc)
        have c1 := cell8 wr hkp
        have S1 : Hid (Seen wr so (pss.getD k []).length (pss.getD k [])) := (hs.later BW (Nat.le_refl _)).kept hkp (fun b' o' h0 e => by
          have := hs.old (Nat.le_refl _) b' o' h0 e
          omega)
        have E1 := flat_succ pss k (by have := HM.out.2.1; omega)
        obtain ⟨p, hp⟩ : ∃ p, pss.getD k [] = p := ⟨_, rfl⟩
        rw [hp] at c1 S1 E1
        have HH : Hid (KHolds wr G key (pss.take k).flatten ∧ Kept (fun b => b = G) w8 wr ∧ (pss.take (k + 1)).flatten = (pss.take k).flatten ++ p ∧ (∀ W, Kept (fun b => b = G) w8 W → W.cell? ⟨b, o + k, none⟩ = some (.slice so p.length cs)) ∧ Bytes p ∧ p.length ≤ 140737488355328) := ⟨hh, hkp, E1, by rw [← hp]; exact cell8, S1.out.bytes, S1.out.top⟩
        have i1 : (0 : Int) ≤ (k : Int) := by omega
        have i2 : (k : Int) < (n : Int) := by omega
        clear hs hl hc hh hkp BW hGw E1 hp cell8
        go_wp2_with (first | (go_at_call 21; refine (copyB_any so p.length cs p _ S1.out).mono ?_; rintro e w9 ⟨v9, rfl, o9, l9⟩; obtain ⟨vo9, c9, rfl, s9, hc9, _, hb9, _⟩ := own_data HH.out.2.2.2.2.1 HH.out.2.2.2.2.2 o9; have X9 : Hid (KHolds w9 G key (pss.take k).flatten ∧ Kept (fun b => b = G) w8 w9 ∧ Seen w9 vo9 p.length p ∧ p.length ≤ c9 ∧ (∀ b' o', 0 < p.length → vo9 = some ⟨b', o', none⟩ → b' ≠ G)) := ⟨PHolds.later HH.out.1 l9 (PHolds.lt HH.out.1), HH.out.2.1.trans (Kept.new _ l9), s9, hc9, fun b' o' _ e => by have := (hb9 b' o' e).1; have := PHolds.lt HH.out.1; omega⟩; clear o9 l9 s9 hc9 hb9) | (go_at_call 20; refine (write_any _ _ _ _ _ vo9 p.length c9 p _ X9.out.1 X9.out.2.2.1 X9.out.2.2.2.1 X9.out.2.2.2.2).mono ?_; rintro e wa ⟨rfl, ha, ka⟩; have XA : Hid (KHolds wa G key (pss.take (k + 1)).flatten ∧ Kept (fun b => b = G) w8 wa) := ⟨by rw [HH.out.2.2.1]; exact ha, X9.out.2.1.trans ka⟩; have ca := HH.out.2.2.2.1 wa XA.out.2; clear ha ka) | (go_at_call 22; refine (psum_key _ key (pss.take (k + 1)).flatten _ XA.out.1).mono ?_; rintro e wb ⟨rfl, lb⟩; have XB : Hid (KHolds wb G key (pss.take (k + 1)).flatten ∧ Kept (fun b => b = G) w8 wb) := ⟨PHolds.later XA.out.1 lb (PHolds.lt XA.out.1), XA.out.2.trans (Kept.new _ lb)⟩; clear lb))
        all_goals first | exact ⟨⟨k + 1, by omega, by go_num, XB.out⟩, by simp [intOf]; omega⟩ | exact ⟨⟨k + 1, by omega, by go_num, XA.out⟩, by simp [intOf]; omega⟩
      · obtain rfl : k = n := by omega
        rw [List.take_of_length_le (by have := HM.out.2.1; omega), HM.out.2.2] at hh
        have X0 : Hid (Blk wr w.heap.size 24 (u8s key) ∧ KHolds wr G key m ∧ Below w.heap.size w wr ∧ Seen wr vo m.length m ∧ m.length ≤ vc ∧ Blk wr T 28 (u8s A) ∧ SeenP wr ao k pss) := by
          obtain ⟨B1, B2, B3, B4, B5, B6, B7, B8, B9⟩ := HB.out
          have BB := below_kept B3 hkp B3.size (fun j hj => by omega)
          exact ⟨B1.kept hkp (by omega), hh, BB, B5.kept hkp (fun b o _ e => B9 b o e), B6, B7.kept hkp (by omega), HX.out.1.later BB (Nat.le_refl _)⟩
        clear hh hkp
        go_wp2_with fail
        try simp only [Act.put, List.setIfInBounds_toArray, List.set_cons_zero, List.set_cons_succ]
        refine region_invG ((.val (.pointer (some ⟨G, 0, none⟩))) :: (.val (.agg (u8s A).toArray)) :: (.val (.agg (u8s A).toArray)) :: (.val (.bool true)) :: (.val (.bool true)) :: (.val (.pointer (some ⟨G, 0, none⟩))) :: (.val (.agg (u8s A).toArray)) :: (.val (.agg (u8s A).toArray)) :: (.val (.bool true)) :: (.val (.bool true)) :: (.val (.bool true)) :: (.val (.agg (u8s key).toArray)) :: (.val (.slice ao k c)) :: (.any (isL k pss) (isL_later _ _)) :: (.val (.agg (u8s A).toArray)) :: (.val (.agg (u8s A).toArray)) :: (.val (.bool true)) :: (.val (.bool true)) :: (.val (.bool true)) :: (.val (.agg (u8s key).toArray)) :: (.val (.agg (u8s A).toArray)) :: (.val (.slice vo m.length vc)) :: (.any (isP 1 [m]) (isP_later _ _)) :: (.val (.bool true)) :: (.val (.bool true)) :: []) (by kernel_rfl) (by kernel_rfl) (by repeat (first | exact trivial | (refine ⟨by first | trivial | rfl, ?_⟩))) (by kernel_rfl) ?_ ?_
        · refine Steps'.cons ?_ (Steps'.cons ?_ (Steps'.cons ?_ (Steps'.cons ?_ (Steps'.cons ?_ (Steps'.cons ?_ (Steps'.cons ?_ (Steps'.cons ?_ (Steps'.cons ?_ (Steps'.cons ?_ (Steps'.cons ?_ (Steps'.cons ?_ (Steps'.cons ?_ (Steps'.cons ?_ (Steps'.cons ?_ (Steps'.cons ?_ (Steps'.cons ?_ (Steps'.cons ?_ (Steps'.cons ?_ (Steps'.cons ?_ (Steps'.cons ?_ (Steps'.cons ?_ (Steps'.cons ?_ (Steps'.cons ?_ (Steps'.cons ?_ (Steps'.one _ _ _ _ _ _ _)))))))))))))))))))))))))
          · intro ax wx hb hs hd
            have h7 : ax.tmps.getD 7 undef = (.pointer (some ⟨G, 0, none⟩)) := hs 7 (by kernel_rfl)
            refine Does.value (.pointer (some ⟨G, 0, none⟩)) ?_ rfl
            go_simp
          · intro ax wx hb hs hd
            have h57 : ax.tmps.getD 57 undef = (.pointer (some ⟨G, 0, none⟩)) := hd 0 57 rfl (by kernel_rfl) (by decide)
            refine Does.call 22 #[(.pointer (some ⟨G, 0, none⟩))] (by go_simp) ?_
            have q := psum_key G key m wx (PHolds.later X0.out.2.1 hb (PHolds.lt X0.out.2.1))
            rw [HA.out.1] at q
            refine q.mono ?_
            rintro e w' ⟨rfl, l⟩
            exact ⟨_, rfl, rfl, l⟩
          · intro ax wx hb hs hd
            have h9 : ax.tmps.getD 9 undef = (.pointer (some ⟨T, 0, none⟩)) := hs 9 (by kernel_rfl)
            exact Does.load 28 (.tmp 9) rfl T 0 h9 (u8s A) _ ((Blk.later X0.out.2.2.2.2.2.1 hb (Blk.lt X0.out.2.2.2.2.2.1)).whole) Try.underlying28 rfl HU.out.2
          · intro ax wx hb hs hd
            have h58 : ax.tmps.getD 58 undef = (.agg (u8s A).toArray) := hd 1 58 rfl (by kernel_rfl) (by decide)
            have h59 : ax.tmps.getD 59 undef = (.agg (u8s A).toArray) := hd 2 59 rfl (by kernel_rfl) (by decide)
            refine Does.value _ ?_ rfl
            go_simp
          · intro ax wx hb hs hd
            have h60 : ax.tmps.getD 60 undef = (.bool true) := hd 3 60 rfl (by kernel_rfl) (by decide)
            refine Does.value (.bool true) ?_ rfl
            go_simp
          · intro ax wx hb hs hd
            have h7 : ax.tmps.getD 7 undef = (.pointer (some ⟨G, 0, none⟩)) := hs 7 (by kernel_rfl)
            refine Does.value (.pointer (some ⟨G, 0, none⟩)) ?_ rfl
            go_simp
          · intro ax wx hb hs hd
            have h62 : ax.tmps.getD 62 undef = (.pointer (some ⟨G, 0, none⟩)) := hd 5 62 rfl (by kernel_rfl) (by decide)
            refine Does.call 22 #[(.pointer (some ⟨G, 0, none⟩))] (by go_simp) ?_
            have q := psum_key G key m wx (PHolds.later X0.out.2.1 hb (PHolds.lt X0.out.2.1))
            rw [HA.out.1] at q
            refine q.mono ?_
            rintro e w' ⟨rfl, l⟩
            exact ⟨_, rfl, rfl, l⟩
          · intro ax wx hb hs hd
            have h9 : ax.tmps.getD 9 undef = (.pointer (some ⟨T, 0, none⟩)) := hs 9 (by kernel_rfl)
            exact Does.load 28 (.tmp 9) rfl T 0 h9 (u8s A) _ ((Blk.later X0.out.2.2.2.2.2.1 hb (Blk.lt X0.out.2.2.2.2.2.1)).whole) Try.underlying28 rfl HU.out.2
          · intro ax wx hb hs hd
            have h63 : ax.tmps.getD 63 undef = (.agg (u8s A).toArray) := hd 6 63 rfl (by kernel_rfl) (by decide)
            have h64 : ax.tmps.getD 64 undef = (.agg (u8s A).toArray) := hd 7 64 rfl (by kernel_rfl) (by decide)
            refine Does.value _ ?_ rfl
            go_simp
          · intro ax wx hb hs hd
            have h61 : ax.tmps.getD 61 undef = (.bool true) := hd 4 61 rfl (by kernel_rfl) (by decide)
            have h65 : ax.tmps.getD 65 undef = (.bool true) := hd 8 65 rfl (by kernel_rfl) (by decide)
            refine Does.value _ ?_ rfl
            go_simp
          · intro ax wx hb hs hd
            have h66 : ax.tmps.getD 66 undef = (.bool true) := hd 9 66 rfl (by kernel_rfl) (by decide)
            refine Does.value (.bool true) ?_ rfl
            go_simp
          · intro ax wx hb hs hd
            have h3 : ax.tmps.getD 3 undef = (.pointer (some ⟨w.heap.size, 0, none⟩)) := hs 3 (by kernel_rfl)
            exact Does.load 24 (.tmp 3) rfl w.heap.size 0 h3 (u8s key) _ ((Blk.later X0.out.1 hb (Blk.lt X0.out.1)).whole) Try.underlying24 rfl HU.out.1
          · intro ax wx hb hs hd
            have h1 : ax.tmps.getD 1 undef = (.slice ao k c) := hs 1 (by kernel_rfl)
            refine Does.value (.slice ao k c) ?_ rfl
            go_simp
          · intro ax wx hb hs hd
            have h69 : ax.tmps.getD 69 undef = (.slice ao k c) := hd 12 69 rfl (by kernel_rfl) (by decide)
            refine Does.call 15 #[.slice ao k c] (by go_simp) ?_
            refine (copyR_any ao k c pss wx (X0.out.2.2.2.2.2.2.later hb (Nat.le_refl _)) hn).mono ?_
            rintro e w' ⟨vo', c', rfl, hs', _, l⟩
            exact ⟨_, rfl, ⟨vo', c', rfl, hs'⟩, l⟩
          · intro ax wx hb hs hd
            have h68 : ax.tmps.getD 68 undef = (.agg (u8s key).toArray) := hd 11 68 rfl (by kernel_rfl) (by decide)
            obtain ⟨bo, cc, h70, s70⟩ : isL k pss (ax.tmps.getD 70 undef) wx := hd 13 70 rfl (by kernel_rfl) (by decide)
            refine Does.call 11 #[(.agg (u8s key).toArray), .slice bo k cc] (by go_simp) ?_
            have q := tsum_any key HX.out.2.2.1 HX.out.2.2.2 bo k cc pss wx s70 (by omega)
            rw [HM.out.2.2, HA.out.1] at q
            refine q.mono ?_
            rintro e w' ⟨rfl, l⟩
            exact ⟨_, rfl, rfl, l⟩
          · intro ax wx hb hs hd
            have h9 : ax.tmps.getD 9 undef = (.pointer (some ⟨T, 0, none⟩)) := hs 9 (by kernel_rfl)
            exact Does.load 28 (.tmp 9) rfl T 0 h9 (u8s A) _ ((Blk.later X0.out.2.2.2.2.2.1 hb (Blk.lt X0.out.2.2.2.2.2.1)).whole) Try.underlying28 rfl HU.out.2
          · intro ax wx hb hs hd
            have h71 : ax.tmps.getD 71 undef = (.agg (u8s A).toArray) := hd 14 71 rfl (by kernel_rfl) (by decide)
            have h72 : ax.tmps.getD 72 undef = (.agg (u8s A).toArray) := hd 15 72 rfl (by kernel_rfl) (by decide)
            refine Does.value _ ?_ rfl
            go_simp
          · intro ax wx hb hs hd
            have h67 : ax.tmps.getD 67 undef = (.bool true) := hd 10 67 rfl (by kernel_rfl) (by decide)
            have h73 : ax.tmps.getD 73 undef = (.bool true) := hd 16 73 rfl (by kernel_rfl) (by decide)
            refine Does.value _ ?_ rfl
            go_simp
          · intro ax wx hb hs hd
            have h74 : ax.tmps.getD 74 undef = (.bool true) := hd 17 74 rfl (by kernel_rfl) (by decide)
            refine Does.value (.bool true) ?_ rfl
            go_simp
          · intro ax wx hb hs hd
            have h3 : ax.tmps.getD 3 undef = (.pointer (some ⟨w.heap.size, 0, none⟩)) := hs 3 (by kernel_rfl)
            exact Does.load 24 (.tmp 3) rfl w.heap.size 0 h3 (u8s key) _ ((Blk.later X0.out.1 hb (Blk.lt X0.out.1)).whole) Try.underlying24 rfl HU.out.1
          · intro ax wx hb hs hd
            have h9 : ax.tmps.getD 9 undef = (.pointer (some ⟨T, 0, none⟩)) := hs 9 (by kernel_rfl)
            exact Does.load 28 (.tmp 9) rfl T 0 h9 (u8s A) _ ((Blk.later X0.out.2.2.2.2.2.1 hb (Blk.lt X0.out.2.2.2.2.2.1)).whole) Try.underlying28 rfl HU.out.2
          · intro ax wx hb hs hd
            have h8 : ax.tmps.getD 8 undef = (.slice vo m.length vc) := hs 8 (by kernel_rfl)
            refine Does.value (.slice vo m.length vc) ?_ rfl
            go_simp
          · intro ax wx hb hs hd
            have h78 : ax.tmps.getD 78 undef = (.slice vo m.length vc) := hd 21 78 rfl (by kernel_rfl) (by decide)
            exact Does.rows1 _ rfl vo m.length vc m (by simp only [List.map_toArray, List.map_cons, List.map_nil, Act.eval, h78]) (X0.out.2.2.2.1.later hb (Nat.le_refl _)) X0.out.2.2.2.2.1
          · intro ax wx hb hs hd
            have h76 : ax.tmps.getD 76 undef = (.agg (u8s key).toArray) := hd 19 76 rfl (by kernel_rfl) (by decide)
            have h77 : ax.tmps.getD 77 undef = (.agg (u8s A).toArray) := hd 20 77 rfl (by kernel_rfl) (by decide)
            obtain ⟨b, cc, h79, s79⟩ : isP 1 [m] (ax.tmps.getD 79 undef) wx := hd 22 79 rfl (by kernel_rfl) (by decide)
            refine Does.call 16 #[(.agg (u8s key).toArray), (.agg (u8s A).toArray), .slice (some ⟨b, 0, none⟩) 1 cc] (by go_simp) ?_
            have q := check_any key A HX.out.2.2.1 HX.out.2.2.2 HA.out.2.1 HA.out.2.2 _ 1 cc _ wx s79 (by decide)
            rw [show ([m] : List (List Int)).flatten = m by simp, HA.out.1, decide_eq_true rfl] at q
            refine q.mono ?_
            rintro e w' ⟨rfl, l⟩
            exact ⟨_, rfl, rfl, l⟩
          · intro ax wx hb hs hd
            have h75 : ax.tmps.getD 75 undef = (.bool true) := hd 18 75 rfl (by kernel_rfl) (by decide)
            have h80 : ax.tmps.getD 80 undef = (.bool true) := hd 23 80 rfl (by kernel_rfl) (by decide)
            refine Does.value _ ?_ rfl
            go_simp
        · intro wx hb
          refine @Ends.val _ _ _ _ _ _ _ _ _ (.pointer (some ⟨G, 0, none⟩)) rfl ?_
          refine @Ends.val _ _ _ _ _ _ _ _ _ (.agg (u8s A).toArray) rfl ?_
          refine @Ends.val _ _ _ _ _ _ _ _ _ (.agg (u8s A).toArray) rfl ?_
          refine @Ends.val _ _ _ _ _ _ _ _ _ (.bool true) rfl ?_
          refine @Ends.val _ _ _ _ _ _ _ _ _ (.bool true) rfl ?_
          refine @Ends.val _ _ _ _ _ _ _ _ _ (.pointer (some ⟨G, 0, none⟩)) rfl ?_
          refine @Ends.val _ _ _ _ _ _ _ _ _ (.agg (u8s A).toArray) rfl ?_
          refine @Ends.val _ _ _ _ _ _ _ _ _ (.agg (u8s A).toArray) rfl ?_
          refine @Ends.val _ _ _ _ _ _ _ _ _ (.bool true) rfl ?_
          refine @Ends.val _ _ _ _ _ _ _ _ _ (.bool true) rfl ?_
          refine @Ends.val _ _ _ _ _ _ _ _ _ (.bool true) rfl ?_
          refine @Ends.val _ _ _ _ _ _ _ _ _ (.agg (u8s key).toArray) rfl ?_
          refine @Ends.val _ _ _ _ _ _ _ _ _ (.slice ao k c) rfl ?_
          refine @Ends.any _ _ _ _ _ _ _ _ _ (isL k pss) (isL_later _ _) rfl ?_
          intro v13 p13
          refine @Ends.val _ _ _ _ _ _ _ _ _ (.agg (u8s A).toArray) rfl ?_
          refine @Ends.val _ _ _ _ _ _ _ _ _ (.agg (u8s A).toArray) rfl ?_
          refine @Ends.val _ _ _ _ _ _ _ _ _ (.bool true) rfl ?_
          refine @Ends.val _ _ _ _ _ _ _ _ _ (.bool true) rfl ?_
          refine @Ends.val _ _ _ _ _ _ _ _ _ (.bool true) rfl ?_
          refine @Ends.val _ _ _ _ _ _ _ _ _ (.agg (u8s key).toArray) rfl ?_
          refine @Ends.val _ _ _ _ _ _ _ _ _ (.agg (u8s A).toArray) rfl ?_
          refine @Ends.val _ _ _ _ _ _ _ _ _ (.slice vo m.length vc) rfl ?_
          refine @Ends.any _ _ _ _ _ _ _ _ _ (isP 1 [m]) (isP_later _ _) rfl ?_
          intro v22 p22
          refine @Ends.val _ _ _ _ _ _ _ _ _ (.bool true) rfl ?_
          refine @Ends.val _ _ _ _ _ _ _ _ _ (.bool true) rfl ?_
          refine @Ends.one _ _ _ _ _ _ _ ?_
          simp only [Act.put, List.setIfInBounds_toArray, List.set_cons_zero, List.set_cons_succ]
          refine last_assign (.tmp 81) rfl (some 6) rfl _ rfl ?_
          simp only [Act.put, List.setIfInBounds_toArray, List.set_cons_zero, List.set_cons_succ]
          have XB : Hid (Below w.heap.size w wx) := below_chain X0.out.2.2.1 hb X0.out.2.2.1.size
          clear hb
          go_wp2_with fail
          go_ret
          exact ⟨rfl, XB.out⟩
end Go.Proofs.Ytdnfkkndfdbefaa.tagPieces
