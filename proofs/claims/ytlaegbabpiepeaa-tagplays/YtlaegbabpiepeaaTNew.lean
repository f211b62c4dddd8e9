/- Layer tag: New. -/
import Derived.Test.YtlaegbabpiepeaaTWrite
namespace Go.Proofs.Ytlaegbabpiepeaa
open Go.RowKit
set_option linter.unusedVariables false
set_option linter.unusedSimpArgs false

theorem sizeKey : (Try.prog.info? 27).map (·.size) = some 32 := by kernel_rfl
theorem build_poly (a b c d : Int) (w : World) : (Instr.build 60 #[(0, .agg (u64s [a, b]).toArray), (1, .agg (u64s [c, d]).toArray)]).run Try.prog w = .ok (.agg (u64s [a, b] ++ (u64s [c, d] ++ (u64s [0, 0, 0] ++ (u8s (zs0 16) ++ [Value.int .i64 0])))).toArray) w := by kernel_rfl
set_option maxRecDepth 20000 in
set_option maxHeartbeats 2000000 in
theorem new_any (key : List Int) (hk : key.length = 32) (hb : Bytes key) (w : World) :
    Calls Try.prog 13 #[.agg (u8s key).toArray] w fun e w' => ∃ g, e = .returned (.pointer (some ⟨g, 0, none⟩)) ∧ w.heap.size ≤ g ∧ PHolds w' g (rLow key) (rHigh key) (sOf key) [] ∧ Below w.heap.size w w' := by
  have h1 : (key.take 16).length = 16 := by rw [List.length_take]; omega
  have h2 : ((key.drop 16).take 16).length = 16 := by rw [List.length_take, List.length_drop]; omega
  have p1 := pairOf_any (key.take 16) h1 (bytes_take hb _)
  have p2 := pairOf_any ((key.drop 16).take 16) h2 (bytes_take (bytes_drop hb _) _)
  rw [le_pr _ h1 (bytes_take hb _), show (key.take 16).take 8 = key.take 8 by rw [List.take_take]; rfl, show ((key.take 16).drop 8).take 8 = (key.drop 8).take 8 by rw [List.drop_take, List.take_take]; rfl] at p1
  obtain ⟨A, hA⟩ : ∃ z, le (key.take 8) = z := ⟨_, rfl⟩
  obtain ⟨B, hB⟩ : ∃ z, le ((key.drop 8).take 8) = z := ⟨_, rfl⟩
  obtain ⟨S, hS⟩ : ∃ z, le ((key.drop 16).take 16) = z := ⟨_, rfl⟩
  rw [hA, hB] at p1
  rw [hS] at p2
  have eR : rLow key = bits .and .u64 A 1152921487695413247 := by rw [rLow, hA]
  have eH : rHigh key = bits .and .u64 B 1152921487695413244 := by rw [rHigh, hB]
  have bR := rLow_bd key hb
  have bH := rHigh_bd key hb
  have bS := sOf_bd key hb
  have wA := le8_bd (key.take 8) (bytes_take hb _) (by rw [List.length_take]; omega)
  have wB := le8_bd ((key.drop 8).take 8) (bytes_take (bytes_drop hb _) _) (by rw [List.length_take]; omega)
  rw [hA] at wA
  rw [hB] at wB
  obtain ⟨R, hR⟩ : ∃ z, bits .and .u64 A 1152921487695413247 = z := ⟨_, rfl⟩
  obtain ⟨H, hH⟩ : ∃ z, bits .and .u64 B 1152921487695413244 = z := ⟨_, rfl⟩
  rw [eR, hR] at bR
  rw [eH, hH] at bH
  rw [eR, eH, hR, hH, show sOf key = S from hS]
  rw [show sOf key = S from hS] at bS
  have HS : Hid (key.length = 32 ∧ Bytes key ∧ (0 ≤ R ∧ R < 1152921504606846976) ∧ (0 ≤ H ∧ H < 1152921504606846976) ∧ (0 ≤ S ∧ S < 340282366920938463463374607431768211456) ∧ (key.take 16).length = 16 ∧ ((key.drop 16).take 16).length = 16) := ⟨hk, hb, bR, bH, bS, h1, h2⟩
  obtain ⟨K1, hK1⟩ : ∃ z, key.take 16 = z := ⟨_, rfl⟩
  obtain ⟨K2, hK2⟩ : ∃ z, (key.drop 16).take 16 = z := ⟨_, rfl⟩
  rw [hK1] at p1
  rw [hK2] at p2
  have HKK : Hid (key.take 16 = K1 ∧ (key.drop 16).take 16 = K2 ∧ K1.length = 16 ∧ K2.length = 16) := ⟨hK1, hK2, by rw [← hK1]; exact h1, by rw [← hK2]; exact h2⟩
  have CC : Hid ((∀ w, Calls Try.prog 27 #[.agg (u8s K1).toArray] w fun e w' => e = .returned (.agg (u64s [A, B]).toArray) ∧ Below w.heap.size w w') ∧ (∀ w, Calls Try.prog 27 #[.agg (u8s K2).toArray] w fun e w' => e = .returned (.agg (u64s (pr S)).toArray) ∧ Below w.heap.size w w')) := ⟨p1, p2⟩
  clear hk hb bR bH bS h1 h2 p1 p2 hK1 hK2 eR eH hA hB hS
  have harr := fun W => arr16 (some ⟨w.heap.size, 0, none⟩) 16 32 (Nat.le_refl _) W
  go_enter Try.func13, Try.ntmps13
  go_wp2_with (first | (refine wpList_box_new rfl 27 _ rfl (u8s key) rfl ?_; intro w1 b1 s1 l1; have R1 : Hid (w1.rangeAt w.heap.size 0 (u8s K1)) := (by have q := range_sub b1.whole 0 16; rw [u8s_sub, List.drop_zero, HKK.out.1] at q; exact q)) | (refine wpList_load_mid rfl 45 _ rfl w.heap.size 0 rfl (u8s K1) _ R1.out Try.underlying45 rfl (by rw [u8s_length, HKK.out.2.2.1]; exact size16) ?_) | (go_at_call 27; refine (CC.out.1 _).mono ?_; rintro e w2 ⟨rfl, l2⟩) | (refine wpList_alloc_new rfl 58 rfl 2 _ zeroPair ?_; intro w3 b3 s3 l3) | (refine wpList_store_blk rfl 58 58 _ _ rfl _ rfl _ (u64s [A, B]) rfl b3 rfl sizePair (u64s_one _) ?_; intro w4 b4 s4 k4))
  try simp only [Act.put, List.setIfInBounds_toArray, List.set_cons_zero, List.set_cons_succ]
  obtain ⟨G, hG⟩ : ∃ G, w2.heap.size = G := ⟨_, rfl⟩
  rw [hG] at b4 k4 ⊢
  have HB : Hid (Blk w4 w.heap.size 27 (u8s key) ∧ Blk w4 G 58 (u64s [A, B]) ∧ Below w.heap.size w w4) := by
    have q := l2.size
    exact ⟨((b1.later l2 (by omega)).later l3 (by omega)).kept k4 (by omega), b4, below_kept (below_chain (below_chain l1 l2 (by omega)) l3 (by omega)) k4 (by omega) (fun j hj => by omega)⟩
  clear b1 s1 l1 l2 b3 s3 l3 b4 s4 k4 hG R1
  refine region_inv [.val (.pointer (some ⟨G, 0, none⟩)), .val (.int .u64 A), .val (.int .u64 R), .val (.pointer (some ⟨G, 1, none⟩)), .val (.int .u64 B), .val (.int .u64 H), .val (.agg (u64s [R, H]).toArray), .val (.slice (some ⟨w.heap.size, 16, none⟩) 16 16), .val (.pointer (some ⟨w.heap.size, 16, none⟩)), .val (.agg (u8s K2).toArray), .val (.agg (u64s (pr S)).toArray), .val (.agg (u64s [R, H] ++ (u64s (pr S) ++ (u64s [0, 0, 0] ++ (u8s (zs0 16) ++ [Value.int .i64 0])))).toArray), .blk 60 (u64s [R, H] ++ (u64s (pr S) ++ (u64s [0, 0, 0] ++ (u8s (zs0 16) ++ [Value.int .i64 0]))))] (by kernel_rfl) (by kernel_rfl) (by kernel_rfl) ?_ ?_
  · refine Steps'.cons ?_ (Steps'.cons ?_ (Steps'.cons ?_ (Steps'.cons ?_ (Steps'.cons ?_ (Steps'.cons ?_ (Steps'.cons ?_ (Steps'.cons ?_ (Steps'.cons ?_ (Steps'.cons ?_ (Steps'.cons ?_ (Steps'.cons ?_ (Steps'.cons ?_ (Steps'.one _ _ _ _ _ _ _)))))))))))))
    · intro ax wx hb hs hd
      have h3 : ax.tmps.getD 3 undef = (.pointer (some ⟨G, 0, none⟩)) := hs 3 (by kernel_rfl)
      refine Does.value (.pointer (some ⟨G, 0, none⟩)) ?_ rfl
      go_simp
    · intro ax wx hb hs hd
      have h8 : ax.tmps.getD 8 undef = (.pointer (some ⟨G, 0, none⟩)) := hd 0 8 rfl (by kernel_rfl) (by decide)
      have cx : wx.cell? ⟨G, 0, none⟩ = some (.int .u64 A) := (Blk.later HB.out.2.1 hb (Blk.lt HB.out.2.1)).cell 0
      refine Does.value (.int .u64 A) ?_ rfl
      go_simp
    · intro ax wx hb hs hd
      have h9 : ax.tmps.getD 9 undef = (.int .u64 A) := hd 1 9 rfl (by kernel_rfl) (by decide)
      refine Does.value _ ?_ rfl
      go_simp
    · intro ax wx hb hs hd
      have h3 : ax.tmps.getD 3 undef = (.pointer (some ⟨G, 0, none⟩)) := hs 3 (by kernel_rfl)
      refine Does.value (.pointer (some ⟨G, 1, none⟩)) ?_ rfl
      go_simp
    · intro ax wx hb hs hd
      have h11 : ax.tmps.getD 11 undef = (.pointer (some ⟨G, 1, none⟩)) := hd 3 11 rfl (by kernel_rfl) (by decide)
      have cx : wx.cell? ⟨G, 1, none⟩ = some (.int .u64 B) := (Blk.later HB.out.2.1 hb (Blk.lt HB.out.2.1)).cell 1
      refine Does.value (.int .u64 B) ?_ rfl
      go_simp
    · intro ax wx hb hs hd
      have h12 : ax.tmps.getD 12 undef = (.int .u64 B) := hd 4 12 rfl (by kernel_rfl) (by decide)
      refine Does.value _ ?_ rfl
      go_simp
    · intro ax wx hb hs hd
      have h10 : ax.tmps.getD 10 undef = (.int .u64 R) := hd 2 10 rfl (by kernel_rfl) (by decide)
      have h13 : ax.tmps.getD 13 undef = (.int .u64 H) := hd 5 13 rfl (by kernel_rfl) (by decide)
      exact Does.build 58 _ rfl #[(0, .int .u64 R), (1, .int .u64 H)] (by simp only [List.map_toArray, List.map_cons, List.map_nil, Act.eval, h10, h13]) _ (build_pair _ _ _)
    · intro ax wx hb hs hd
      have h1 : ax.tmps.getD 1 undef = (.pointer (some ⟨w.heap.size, 0, none⟩)) := hs 1 (by kernel_rfl)
      refine Does.value _ ?_ rfl
      go_simp
    · intro ax wx hb hs hd
      have h15 : ax.tmps.getD 15 undef = (.slice (some ⟨w.heap.size, 16, none⟩) 16 16) := hd 7 15 rfl (by kernel_rfl) (by decide)
      refine Does.value _ ?_ rfl
      have harr := fun W => arr16 (some ⟨w.heap.size, 16, none⟩) 16 16 (Nat.le_refl _) W
      go_simp
    · intro ax wx hb hs hd
      have h16 : ax.tmps.getD 16 undef = (.pointer (some ⟨w.heap.size, 16, none⟩)) := hd 8 16 rfl (by kernel_rfl) (by decide)
      exact Does.load 45 (.tmp 16) rfl w.heap.size 16 h16 (u8s K2) _ (by have q := range_sub (Blk.later HB.out.1 hb (Blk.lt HB.out.1)).whole 16 16; rw [u8s_sub, HKK.out.2.1, Nat.zero_add] at q; exact q) Try.underlying45 rfl (by rw [u8s_length, HKK.out.2.2.2]; exact size16)
    · intro ax wx hb hs hd
      have h17 : ax.tmps.getD 17 undef = (.agg (u8s K2).toArray) := hd 9 17 rfl (by kernel_rfl) (by decide)
      refine Does.call 27 #[(.agg (u8s K2).toArray)] (by go_simp) ?_
      refine (CC.out.2 _).mono ?_
      rintro z w' ⟨rfl, l⟩
      exact ⟨_, rfl, rfl, l⟩
    · intro ax wx hb hs hd
      have h14 : ax.tmps.getD 14 undef = (.agg (u64s [R, H]).toArray) := hd 6 14 rfl (by kernel_rfl) (by decide)
      have h18 : ax.tmps.getD 18 undef = (.agg (u64s (pr S)).toArray) := hd 10 18 rfl (by kernel_rfl) (by decide)
      exact Does.build 60 _ rfl #[(0, .agg (u64s [R, H]).toArray), (1, .agg (u64s (pr S)).toArray)] (by simp only [List.map_toArray, List.map_cons, List.map_nil, Act.eval, h14, h18]) _ (build_poly _ _ _ _ _)
    · intro ax wx hb hs hd
      have h19 : ax.tmps.getD 19 undef = (.agg (u64s [R, H] ++ (u64s (pr S) ++ (u64s [0, 0, 0] ++ (u8s (zs0 16) ++ [Value.int .i64 0])))).toArray) := hd 11 19 rfl (by kernel_rfl) (by decide)
      exact Does.box 60 (.tmp 19) rfl (u64s [R, H] ++ (u64s (pr S) ++ (u64s [0, 0, 0] ++ (u8s (zs0 16) ++ [Value.int .i64 0])))) h19 hb.size
  · intro wx hb
    refine @Ends.val _ _ _ _ _ _ _ _ _ (.pointer (some ⟨G, 0, none⟩)) rfl ?_
    refine @Ends.val _ _ _ _ _ _ _ _ _ (.int .u64 A) rfl ?_
    refine @Ends.val _ _ _ _ _ _ _ _ _ (.int .u64 R) rfl ?_
    refine @Ends.val _ _ _ _ _ _ _ _ _ (.pointer (some ⟨G, 1, none⟩)) rfl ?_
    refine @Ends.val _ _ _ _ _ _ _ _ _ (.int .u64 B) rfl ?_
    refine @Ends.val _ _ _ _ _ _ _ _ _ (.int .u64 H) rfl ?_
    refine @Ends.val _ _ _ _ _ _ _ _ _ (.agg (u64s [R, H]).toArray) rfl ?_
    refine @Ends.val _ _ _ _ _ _ _ _ _ (.slice (some ⟨w.heap.size, 16, none⟩) 16 16) rfl ?_
    refine @Ends.val _ _ _ _ _ _ _ _ _ (.pointer (some ⟨w.heap.size, 16, none⟩)) rfl ?_
    refine @Ends.val _ _ _ _ _ _ _ _ _ (.agg (u8s K2).toArray) rfl ?_
    refine @Ends.val _ _ _ _ _ _ _ _ _ (.agg (u64s (pr S)).toArray) rfl ?_
    refine @Ends.val _ _ _ _ _ _ _ _ _ (.agg (u64s [R, H] ++ (u64s (pr S) ++ (u64s [0, 0, 0] ++ (u8s (zs0 16) ++ [Value.int .i64 0])))).toArray) rfl ?_
    refine @Ends.blk _ _ _ _ _ _ _ _ _ 60 (u64s [R, H] ++ (u64s (pr S) ++ (u64s [0, 0, 0] ++ (u8s (zs0 16) ++ [Value.int .i64 0])))) rfl ?_
    intro g12 hg12 bg12
    refine @Ends.one _ _ _ _ _ _ _ ?_
    simp only [Act.put, List.setIfInBounds_toArray, List.set_cons_zero, List.set_cons_succ]
    refine last_assign (.tmp 20) rfl (some 2) rfl _ rfl ?_
    simp only [Act.put, List.setIfInBounds_toArray, List.set_cons_zero, List.set_cons_succ]
    have HC : Hid (Blk wx g12 60 (pCells R H S (acc (R + 18446744073709551616 * H) []) (openB []) 0) ∧ Below w.heap.size w wx ∧ w.heap.size ≤ g12) := ⟨bg12, below_chain HB.out.2.2 hb (by have := HB.out.2.2.size; omega), by have := HB.out.2.2.size; omega⟩
    clear hb bg12 hg12
    go_wp2_with fail
    go_ret
    exact ⟨g12, rfl, HC.out.2.2, ⟨⟨HC.out.1, HS.out.2.2.1, HS.out.2.2.2.1, HS.out.2.2.2.2.1, (by show (0 : Int) ≤ 0 ∧ (0 : Int) < _; decide), rfl, zs0_bytes 16, by decide⟩, fun z hz => by cases hz⟩, HC.out.2.1⟩
end Go.Proofs.Ytlaegbabpiepeaa
