/- Layer tag: codes of one text under keys with one r are as far apart as their s: the walk. -/
import Derived.Test.YtdnfkkndfdbefaaTWorks
import Derived.Test.YtdnfkkndfdbefaaTMinus
namespace Go.Proofs.Ytdnfkkndfdbefaa
open Go.RowKit Go.Joins
set_option linter.unusedVariables false
set_option linter.unusedSimpArgs false

theorem equal_selfA (d : Nat) (zs : List Int) (hl : zs.length = 16) (w : World) : (Op.equalIn (d + 2) 27 (.agg (u8s zs).toArray) (.agg (u8s zs).toArray)).run Try.prog w = .ok true w := by
  have hsz : ∀ w, (sizeOf 5).run Try.prog w = .ok 1 w := fun w => by
    have h := infoByte
    cases hq : Try.prog.info? 5 with
    | none => simp [hq] at h
    | some i => simp [hq] at h; simp [sizeOf, typeInfo, hq, h.2]
  have ht := Try.underlying27
  have he := Try.underlying5
  rw [Op.equalIn]
  simp only [Sem.run_bind, run_underlying ht, Result.andThen_ok, hsz, Std.Legacy.Range.forIn_eq_forIn_range', Std.Legacy.Range.size, Nat.sub_zero, Nat.add_sub_cancel, Nat.div_one]
  have hlr : ∀ i ∈ List.range' 0 16 1, i < 16 := fun i hi => by simpa using (List.mem_range'_1.1 hi).2
  generalize List.range' 0 16 1 = l at hlr ⊢
  induction l with
  | nil => simp
  | cons i l ih =>
    have hi : i < 16 := hlr i (by simp)
    have px : (Go.part 5 (u8s zs).toArray (i * 1)).run Try.prog w = .ok (.int .u8 (zs.getD i 0)) w := by
      simp [Go.part, isAgg, run_underlying he, u8s, List.getD, List.getElem?_eq_getElem (show i < zs.length by omega)]
    have pe : (Op.equalIn (d + 1) 5 (.int .u8 (zs.getD i 0)) (.int .u8 (zs.getD i 0))).run Try.prog w = .ok true w := by
      rw [run_equalIn_int w d 5 .u8 .u8 _ _ he]; simp
    simp only [List.forIn_cons, Sem.run_bind, px, pe, Result.andThen_ok]
    simp only [Bool.not_true, Bool.false_eq_true, if_false, Sem.run_pure, Result.andThen_ok]
    exact ih fun j hj => hlr j (by simp [hj])
/-- A slice of these bytes, with room enough. -/
def isS (zs : List Int) (v : Value) (w : World) : Prop := ∃ vo n c, v = .slice vo n c ∧ Seen w vo n zs ∧ n ≤ c
theorem isS_later (zs : List Int) : ∀ v w w', Below w.heap.size w w' → isS zs v w → isS zs v w' := fun _ _ _ hb ⟨b, o, c, h1, h2, h3⟩ => ⟨b, o, c, h1, h2.later hb (Nat.le_refl _), h3⟩
theorem copyB_is (ao : Option Addr) (n c : Nat) (zs : List Int) (w : World) (hx : Seen w ao n zs) : Calls Try.prog 21 #[.slice ao n c] w fun e w' => ∃ v, e = .returned v ∧ isS zs v w' ∧ Below w.heap.size w w' := by
  refine (copyB_any ao n c zs w hx).mono ?_
  rintro e w' ⟨v, rfl, ho, hb⟩
  have hl := hx.len
  subst hl
  obtain ⟨vo, cap, rfl, hs, hc, _⟩ := own_data hx.bytes hx.top ho
  exact ⟨_, rfl, ⟨_, _, _, rfl, hs, hc⟩, hb⟩
theorem r_same (key other : List Int) (hk : key.length = 32) : rOf (key.take 16 ++ other.drop 16) = rOf key := by
  have h1 : (key.take 16 ++ other.drop 16).take 8 = key.take 8 := by
    rw [List.take_append_of_le_length (by rw [List.length_take]; omega), List.take_take]; rfl
  have h2 : ((key.take 16 ++ other.drop 16).drop 8).take 8 = (key.drop 8).take 8 := by
    rw [List.drop_append_of_le_length (by rw [List.length_take]; omega), List.take_append_of_le_length (by rw [List.length_drop, List.length_take]; omega), List.drop_take, List.take_take]; rfl
  rw [rOf, rLow, rHigh, h1, h2]; rfl
theorem le_codeB (r s : Int) (m : List Int) : le (codeB r s m) = codeN r s m := by
  rw [codeB, le_leB]
  have e : (256 : Int) ^ 16 = 340282366920938463463374607431768211456 := by decide
  rw [e, codeN]
  omega
theorem shift_far (key O m : List Int) (hr : rOf O = rOf key) : far (tagB key m) (tagB O m) = far ((key.drop 16).take 16) ((O.drop 16).take 16) := by
  rw [far, far, tagB, tagB, le_codeB, le_codeB, codeN, codeN, hr]
  show leB 16 _ = leB 16 ((sOf O - sOf key) % _)
  congr 1
  omega
theorem take_next_set (key other : List Int) (k : Nat) (hk : k < 16) (h1 : key.length = 32) (h2 : other.length = 32) : (key.take k ++ other.drop k).set k (key.getD k 0) = key.take (k + 1) ++ other.drop (k + 1) := by
  have hl : (key.take k).length = k := by rw [List.length_take]; omega
  rw [List.set_append_right _ _ (by omega), hl, Nat.sub_self, List.drop_eq_getElem_cons (by omega : k < other.length), List.set_cons_zero, List.take_succ_eq_append_getElem (by omega : k < key.length)]
  have e : key.getD k 0 = key[k]'(by omega) := by simp [List.getD, show k < key.length by omega]
  rw [e, List.append_assoc, List.singleton_append]
set_option maxRecDepth 20000 in
set_option maxHeartbeats 4000000 in
theorem shifts_walk (key other : List Int) (ao : Option Addr) (n c : Nat) (m : List Int) (w : World) (hk : key.length = 32) (hkb : Bytes key) (ho : other.length = 32) (hob : Bytes other) (hx : Seen w ao n m) :
    Calls Try.prog 8 #[.agg (u8s key).toArray, .agg (u8s other).toArray, .slice ao n c] w fun e w' => e = .returned (.bool true) ∧ Below w.heap.size w w' := by
  have HK : Hid (key.length = 32 ∧ Bytes key ∧ other.length = 32 ∧ Bytes other ∧ Seen w ao n m) := ⟨hk, hkb, ho, hob, hx⟩
  clear hk hkb ho hob hx
  go_enter Try.func8, Try.ntmps8
  go_wp2_with (first | (refine wpList_box_new rfl 24 (.tmp 0) rfl (u8s key) rfl ?_; intro w1 b1 s1 l1) | (refine wpList_box_new rfl 24 (.tmp 1) rfl (u8s other) rfl ?_; intro w2 b2 s2 l2) | (go_at_call 9; refine (works_any _).mono ?_; rintro e w3 ⟨rfl, l3⟩))
  have HB : Hid (Blk w3 w.heap.size 24 (u8s key) ∧ Blk w3 (w.heap.size + 1) 24 (u8s other) ∧ Below w.heap.size w w3) := by
    rw [s1] at b2
    exact ⟨(b1.later l2 (by omega)).later l3 (by omega), b2.later l3 (by omega), below_chain (below_chain l1 l2 (by omega)) l3 (by omega)⟩
  clear b1 s1 l1 b2 s2 l2 l3
  go_loopw [7] (fun i wr => ∃ k : Nat, k ≤ 16 ∧ i = .int .i64 k ∧ Blk wr (w.heap.size + 1) 24 (u8s (key.take k ++ other.drop k)) ∧ Kept (fun x => x = w.heap.size + 1) w3 wr) (fun i _ => 16 - (intOf i).toNat)
  case atStart => exact ⟨0, by omega, rfl, HB.out.2.1, Kept.refl _ _⟩
  case round =>
    obtain ⟨k, hk, rfl, hblk, hkp⟩ := hrel
    by_cases hlt : k < 16
    · have ca := u8s_cell (HB.out.1.kept hkp (by omega)) k (by rw [HK.out.1]; omega)
      have cg := u8s_cell hblk k (by rw [List.length_append, List.length_take, List.length_drop, HK.out.1, HK.out.2.2.1]; omega)
      have fg := hblk.frozen k
      have HQ : Hid (Blk wr (w.heap.size + 1) 24 (u8s (key.take k ++ other.drop k)) ∧ Kept (fun x => x = w.heap.size + 1) w3 wr ∧ (key.take k ++ other.drop k).set k (key.getD k 0) = key.take (k + 1) ++ other.drop (k + 1)) := ⟨hblk, hkp, take_next_set key other k hlt HK.out.1 HK.out.2.2.1⟩
      obtain ⟨X, hX⟩ : ∃ X, key.getD k 0 = X := ⟨_, rfl⟩
      obtain ⟨z0, hz0⟩ : ∃ z, (key.take k ++ other.drop k).getD k 0 = z := ⟨_, rfl⟩
      rw [hX] at ca HQ
      rw [hz0] at cg
      have i1 : (k : Int) < 16 := by omega
      have i3 : (0 : Int) ≤ (k : Int) := by omega
      clear hblk hkp hX hz0
      go_wp2_with fail
      go_roundw
      case rel =>
        have R := HQ.out.1.set k (.int .u8 X)
        rw [u8s_set, HQ.out.2.2] at R
        exact ⟨k + 1, by omega, by go_num, R, HQ.out.2.1.setCell rfl _⟩
      case measure => simp [intOf]; omega
    · obtain rfl : k = 16 := by omega
      obtain ⟨O, hO⟩ : ∃ z, key.take 16 ++ other.drop 16 = z := ⟨_, rfl⟩
      rw [hO] at hblk
      have HO : Hid (O.length = 32 ∧ Bytes O ∧ rOf O = rOf key) := by
        rw [← hO]
        exact ⟨by rw [List.length_append, List.length_take, List.length_drop, HK.out.1, HK.out.2.2.1]; rfl, bytes_app (bytes_take HK.out.2.1 _) (bytes_drop HK.out.2.2.2.1 _), r_same key other HK.out.1⟩
      have X0 : Hid (Blk wr w.heap.size 24 (u8s key) ∧ Blk wr (w.heap.size + 1) 24 (u8s O) ∧ Below w.heap.size w wr ∧ Seen wr ao n m) := by
        have B := below_kept HB.out.2.2 hkp HB.out.2.2.size (fun j hj => by omega)
        exact ⟨HB.out.1.kept hkp (by omega), hblk, B, HK.out.2.2.2.2.later B (Nat.le_refl _)⟩
      clear hblk hkp hO
      obtain ⟨A, hA⟩ : ∃ z, tagB key m = z := ⟨_, rfl⟩
      obtain ⟨B, hB⟩ : ∃ z, tagB O m = z := ⟨_, rfl⟩
      obtain ⟨D, hD⟩ : ∃ z, far A B = z := ⟨_, rfl⟩
      have HA : Hid (tagB key m = A ∧ tagB O m = B ∧ A.length = 16 ∧ B.length = 16 ∧ Bytes A ∧ Bytes B ∧ far A B = D ∧ far ((key.drop 16).take 16) ((O.drop 16).take 16) = D ∧ D.length = 16) := by
        rw [← hD, ← hA, ← hB]
        exact ⟨rfl, rfl, tagB_length _ _, tagB_length _ _, tagB_bytes _ _, tagB_bytes _ _, rfl, (shift_far key O m HO.out.2.2).symm, leB_length _ _⟩
      have hqD : ∀ W, (Op.equalIn 10000 27 (.agg (u8s D).toArray) (.agg (u8s D).toArray)).run Try.prog W = .ok true W := equal_selfA 9998 D HA.out.2.2.2.2.2.2.2.2
      have uA : (Try.prog.info? 28).map (·.size) = some (u8s A).length := by rw [u8s_length, HA.out.2.2.1]; exact sizeTag
      have uB : (Try.prog.info? 28).map (·.size) = some (u8s B).length := by rw [u8s_length, HA.out.2.2.2.1]; exact sizeTag
      have HU : Hid ((Try.prog.info? 28).map (·.size) = some (u8s A).length ∧ (Try.prog.info? 28).map (·.size) = some (u8s B).length ∧ (Try.prog.info? 24).map (·.size) = some (u8s key).length ∧ (Try.prog.info? 24).map (·.size) = some (u8s O).length) := ⟨uA, uB, by rw [u8s_length, HK.out.1]; exact sizeKey, by rw [u8s_length, HO.out.1]; exact sizeKey⟩
      clear hA hB hD uA uB
      go_wp2_with fail
      try simp only [Act.put, List.setIfInBounds_toArray, List.set_cons_zero, List.set_cons_succ]
      refine region_inv [.val (.agg (u8s key).toArray), .val (.slice ao n c), .any (isS m) (isS_later _), .any (isP 1 [m]) (isP_later _ _), .val (.agg (u8s A).toArray), .blk 28 (u8s (zs0 16))] (by kernel_rfl) (by kernel_rfl) (by kernel_rfl) ?_ ?_
      · refine Steps'.cons ?_ (Steps'.cons ?_ (Steps'.cons ?_ (Steps'.cons ?_ (Steps'.cons ?_ (Steps'.cons ?_ (Steps'.one _ _ _ _ _ _ _))))))
        · intro ax wx hb hs hd
          have h3 : ax.tmps.getD 3 undef = (.pointer (some ⟨w.heap.size, 0, none⟩)) := hs 3 (by kernel_rfl)
          exact Does.load 24 (.tmp 3) rfl w.heap.size 0 h3 (u8s key) _ ((Blk.later X0.out.1 hb (Blk.lt X0.out.1)).whole) Try.underlying24 rfl HU.out.2.2.1
        · intro ax wx hb hs hd
          have h2 : ax.tmps.getD 2 undef = (.slice ao n c) := hs 2 (by kernel_rfl)
          refine Does.value (.slice ao n c) ?_ rfl
          go_simp
        · intro ax wx hb hs hd
          have h22 : ax.tmps.getD 22 undef = (.slice ao n c) := hd 1 22 rfl (by kernel_rfl) (by decide)
          refine Does.call 21 #[.slice ao n c] (by go_simp) ?_
          exact copyB_is ao n c m wx (X0.out.2.2.2.later hb (Nat.le_refl _))
        · intro ax wx hb hs hd
          obtain ⟨vo, n1, c1, h23, s1, l1⟩ : isS m (ax.tmps.getD 23 undef) wx := hd 2 23 rfl (by kernel_rfl) (by decide)
          exact Does.rows1 _ rfl vo n1 c1 m (by simp only [List.map_toArray, List.map_cons, List.map_nil, Act.eval, h23]) s1 l1
        · intro ax wx hb hs hd
          have h21 : ax.tmps.getD 21 undef = (.agg (u8s key).toArray) := hd 0 21 rfl (by kernel_rfl) (by decide)
          obtain ⟨b, cc, h24, s2⟩ : isP 1 [m] (ax.tmps.getD 24 undef) wx := hd 3 24 rfl (by kernel_rfl) (by decide)
          refine Does.call 11 #[(.agg (u8s key).toArray), .slice (some ⟨b, 0, none⟩) 1 cc] (by go_simp) ?_
          have q := tsum_any key (show key.length = 32 ∧ Bytes key from ⟨HK.out.1, HK.out.2.1⟩).1 (show key.length = 32 ∧ Bytes key from ⟨HK.out.1, HK.out.2.1⟩).2 _ 1 cc _ wx s2 (by decide)
          rw [show ([m] : List (List Int)).flatten = m by simp, HA.out.1] at q
          refine q.mono ?_
          rintro e w' ⟨rfl, l⟩
          exact ⟨_, rfl, rfl, l⟩
        · intro ax wx hb hs hd
          exact Does.alloc 28 rfl 16 _ zeroTag hb.size
      · intro wx hb
        refine @Ends.val _ _ _ _ _ _ _ _ _ (.agg (u8s key).toArray) rfl ?_
        refine @Ends.val _ _ _ _ _ _ _ _ _ (.slice ao n c) rfl ?_
        refine @Ends.any _ _ _ _ _ _ _ _ _ (isS m) (isS_later _) rfl ?_
        intro v2 p2
        refine @Ends.any _ _ _ _ _ _ _ _ _ (isP 1 [m]) (isP_later _ _) rfl ?_
        intro v3 p3
        refine @Ends.val _ _ _ _ _ _ _ _ _ (.agg (u8s A).toArray) rfl ?_
        refine @Ends.blk _ _ _ _ _ _ _ _ _ 28 (u8s (zs0 16)) rfl ?_
        intro g5 hg5 bg5
        refine @Ends.one _ _ _ _ _ _ _ ?_
        simp only [Act.put, List.setIfInBounds_toArray, List.set_cons_zero, List.set_cons_succ]
        refine last_store 28 (.tmp 8) (.tmp 25) rfl rfl g5 rfl 28 _ (u8s A) rfl bg5 (by rw [u8s_length, HA.out.2.2.1]; rfl) HU.out.1 (u8s_one _) ?_
        intro w7 b7 s7 k7
        have X1 : Hid (Blk w7 w.heap.size 24 (u8s key) ∧ Blk w7 (w.heap.size + 1) 24 (u8s O) ∧ Below w.heap.size w w7 ∧ Seen w7 ao n m ∧ Blk w7 g5 28 (u8s A)) := by
          have q1 := X0.out.1.lt
          have q2 := X0.out.2.1.lt
          have q3 := hb.size
          have q4 := X0.out.2.2.1.size
          have B := below_kept (below_chain X0.out.2.2.1 hb (by omega)) k7 (by omega) (fun j hj => by omega)
          exact ⟨(X0.out.1.later hb q1).kept k7 (by omega), (X0.out.2.1.later hb q2).kept k7 (by omega), B, HK.out.2.2.2.2.later B (Nat.le_refl _), b7⟩
        clear b7 s7 k7 hb bg5 hg5
        go_wp2_with fail
        try simp only [Act.put, List.setIfInBounds_toArray, List.set_cons_zero, List.set_cons_succ]
        refine region_inv [.val (.agg (u8s O).toArray), .val (.slice ao n c), .any (isS m) (isS_later _), .any (isP 1 [m]) (isP_later _ _), .val (.agg (u8s B).toArray), .blk 28 (u8s (zs0 16))] (by kernel_rfl) (by kernel_rfl) (by kernel_rfl) ?_ ?_
        · refine Steps'.cons ?_ (Steps'.cons ?_ (Steps'.cons ?_ (Steps'.cons ?_ (Steps'.cons ?_ (Steps'.cons ?_ (Steps'.one _ _ _ _ _ _ _))))))
          · intro ax wx hb hs hd
            have h4 : ax.tmps.getD 4 undef = (.pointer (some ⟨(w.heap.size + 1), 0, none⟩)) := hs 4 (by kernel_rfl)
            exact Does.load 24 (.tmp 4) rfl (w.heap.size + 1) 0 h4 (u8s O) _ ((Blk.later X1.out.2.1 hb (Blk.lt X1.out.2.1)).whole) Try.underlying24 rfl HU.out.2.2.2
          · intro ax wx hb hs hd
            have h2 : ax.tmps.getD 2 undef = (.slice ao n c) := hs 2 (by kernel_rfl)
            refine Does.value (.slice ao n c) ?_ rfl
            go_simp
          · intro ax wx hb hs hd
            have h27 : ax.tmps.getD 27 undef = (.slice ao n c) := hd 1 27 rfl (by kernel_rfl) (by decide)
            refine Does.call 21 #[.slice ao n c] (by go_simp) ?_
            exact copyB_is ao n c m wx (X1.out.2.2.2.1.later hb (Nat.le_refl _))
          · intro ax wx hb hs hd
            obtain ⟨vo, n1, c1, h28, s1, l1⟩ : isS m (ax.tmps.getD 28 undef) wx := hd 2 28 rfl (by kernel_rfl) (by decide)
            exact Does.rows1 _ rfl vo n1 c1 m (by simp only [List.map_toArray, List.map_cons, List.map_nil, Act.eval, h28]) s1 l1
          · intro ax wx hb hs hd
            have h26 : ax.tmps.getD 26 undef = (.agg (u8s O).toArray) := hd 0 26 rfl (by kernel_rfl) (by decide)
            obtain ⟨b, cc, h29, s2⟩ : isP 1 [m] (ax.tmps.getD 29 undef) wx := hd 3 29 rfl (by kernel_rfl) (by decide)
            refine Does.call 11 #[(.agg (u8s O).toArray), .slice (some ⟨b, 0, none⟩) 1 cc] (by go_simp) ?_
            have q := tsum_any O (show O.length = 32 ∧ Bytes O from ⟨HO.out.1, HO.out.2.1⟩).1 (show O.length = 32 ∧ Bytes O from ⟨HO.out.1, HO.out.2.1⟩).2 _ 1 cc _ wx s2 (by decide)
            rw [show ([m] : List (List Int)).flatten = m by simp, HA.out.2.1] at q
            refine q.mono ?_
            rintro e w' ⟨rfl, l⟩
            exact ⟨_, rfl, rfl, l⟩
          · intro ax wx hb hs hd
            exact Does.alloc 28 rfl 16 _ zeroTag hb.size
        · intro wx hb
          refine @Ends.val _ _ _ _ _ _ _ _ _ (.agg (u8s O).toArray) rfl ?_
          refine @Ends.val _ _ _ _ _ _ _ _ _ (.slice ao n c) rfl ?_
          refine @Ends.any _ _ _ _ _ _ _ _ _ (isS m) (isS_later _) rfl ?_
          intro v2 p2
          refine @Ends.any _ _ _ _ _ _ _ _ _ (isP 1 [m]) (isP_later _ _) rfl ?_
          intro v3 p3
          refine @Ends.val _ _ _ _ _ _ _ _ _ (.agg (u8s B).toArray) rfl ?_
          refine @Ends.blk _ _ _ _ _ _ _ _ _ 28 (u8s (zs0 16)) rfl ?_
          intro g6 hg5 bg5
          refine @Ends.one _ _ _ _ _ _ _ ?_
          simp only [Act.put, List.setIfInBounds_toArray, List.set_cons_zero, List.set_cons_succ]
          refine last_store 28 (.tmp 9) (.tmp 30) rfl rfl _ rfl 28 _ (u8s B) rfl bg5 (by rw [u8s_length, HA.out.2.2.2.1]; rfl) HU.out.2.1 (u8s_one _) ?_
          intro w8 b8 s8 k8
          have X2 : Hid (Blk w8 w.heap.size 24 (u8s key) ∧ Blk w8 (w.heap.size + 1) 24 (u8s O) ∧ Below w.heap.size w w8 ∧ Blk w8 g5 28 (u8s A) ∧ Blk w8 g6 28 (u8s B)) := by
            have q1 := X1.out.1.lt
            have q2 := X1.out.2.1.lt
            have q3 := hb.size
            have q4 := X1.out.2.2.1.size
            have q5 := X1.out.2.2.2.2.lt
            have B := below_kept (below_chain X1.out.2.2.1 hb (by omega)) k8 (by omega) (fun j hj => by omega)
            exact ⟨(X1.out.1.later hb q1).kept k8 (by omega), (X1.out.2.1.later hb q2).kept k8 (by omega), B, (X1.out.2.2.2.2.later hb q5).kept k8 (by omega), b8⟩
          clear b8 s8 k8 hb bg5 hg5
          go_wp2_with fail
          try simp only [Act.put, List.setIfInBounds_toArray, List.set_cons_zero, List.set_cons_succ]
          refine region_inv [.val (.agg (u8s A).toArray), .val (.agg (u8s B).toArray), .val (.agg (u8s D).toArray), .val (.agg (u8s key).toArray), .val (.agg (u8s ((key.drop 16).take 16)).toArray), .val (.agg (u8s O).toArray), .val (.agg (u8s ((O.drop 16).take 16)).toArray), .val (.agg (u8s D).toArray), .val (.bool true)] (by kernel_rfl) (by kernel_rfl) (by kernel_rfl) ?_ ?_
          · refine Steps'.cons ?_ (Steps'.cons ?_ (Steps'.cons ?_ (Steps'.cons ?_ (Steps'.cons ?_ (Steps'.cons ?_ (Steps'.cons ?_ (Steps'.cons ?_ (Steps'.cons ?_ (Steps'.one _ _ _ _ _ _ _)))))))))
            · intro ax wx hb hs hd
              have h8 : ax.tmps.getD 8 undef = (.pointer (some ⟨g5, 0, none⟩)) := hs 8 (by kernel_rfl)
              exact Does.load 28 (.tmp 8) rfl g5 0 h8 (u8s A) _ ((Blk.later X2.out.2.2.2.1 hb (Blk.lt X2.out.2.2.2.1)).whole) Try.underlying28 rfl HU.out.1
            · intro ax wx hb hs hd
              have h9 : ax.tmps.getD 9 undef = (.pointer (some ⟨g6, 0, none⟩)) := hs 9 (by kernel_rfl)
              exact Does.load 28 (.tmp 9) rfl g6 0 h9 (u8s B) _ ((Blk.later X2.out.2.2.2.2 hb (Blk.lt X2.out.2.2.2.2)).whole) Try.underlying28 rfl HU.out.2.1
            · intro ax wx hb hs hd
              have h31 : ax.tmps.getD 31 undef = (.agg (u8s A).toArray) := hd 0 31 rfl (by kernel_rfl) (by decide)
              have h32 : ax.tmps.getD 32 undef = (.agg (u8s B).toArray) := hd 1 32 rfl (by kernel_rfl) (by decide)
              refine Does.call 23 #[(.agg (u8s A).toArray), (.agg (u8s B).toArray)] (by go_simp) ?_
              refine (minus_any A B HA.out.2.2.1 HA.out.2.2.2.1 HA.out.2.2.2.2.1 HA.out.2.2.2.2.2.1 wx).mono ?_
              rintro e w' ⟨rfl, l⟩
              exact ⟨_, rfl, by rw [HA.out.2.2.2.2.2.2.1]; rfl, l⟩
            · intro ax wx hb hs hd
              have h3 : ax.tmps.getD 3 undef = (.pointer (some ⟨w.heap.size, 0, none⟩)) := hs 3 (by kernel_rfl)
              exact Does.load 24 (.tmp 3) rfl w.heap.size 0 h3 (u8s key) _ ((Blk.later X2.out.1 hb (Blk.lt X2.out.1)).whole) Try.underlying24 rfl HU.out.2.2.1
            · intro ax wx hb hs hd
              have h34 : ax.tmps.getD 34 undef = (.agg (u8s key).toArray) := hd 3 34 rfl (by kernel_rfl) (by decide)
              refine Does.call 24 #[(.agg (u8s key).toArray)] (by go_simp) ?_
              refine (second_any key HK.out.1 wx).mono ?_
              rintro e w' ⟨rfl, l⟩
              exact ⟨_, rfl, rfl, l⟩
            · intro ax wx hb hs hd
              have h4 : ax.tmps.getD 4 undef = (.pointer (some ⟨w.heap.size + 1, 0, none⟩)) := hs 4 (by kernel_rfl)
              exact Does.load 24 (.tmp 4) rfl (w.heap.size + 1) 0 h4 (u8s O) _ ((Blk.later X2.out.2.1 hb (Blk.lt X2.out.2.1)).whole) Try.underlying24 rfl HU.out.2.2.2
            · intro ax wx hb hs hd
              have h36 : ax.tmps.getD 36 undef = (.agg (u8s O).toArray) := hd 5 36 rfl (by kernel_rfl) (by decide)
              refine Does.call 24 #[(.agg (u8s O).toArray)] (by go_simp) ?_
              refine (second_any O HO.out.1 wx).mono ?_
              rintro e w' ⟨rfl, l⟩
              exact ⟨_, rfl, rfl, l⟩
            · intro ax wx hb hs hd
              have h35 : ax.tmps.getD 35 undef = (.agg (u8s ((key.drop 16).take 16)).toArray) := hd 4 35 rfl (by kernel_rfl) (by decide)
              have h37 : ax.tmps.getD 37 undef = (.agg (u8s ((O.drop 16).take 16)).toArray) := hd 6 37 rfl (by kernel_rfl) (by decide)
              refine Does.call 23 #[(.agg (u8s ((key.drop 16).take 16)).toArray), (.agg (u8s ((O.drop 16).take 16)).toArray)] (by go_simp) ?_
              refine (minus_any ((key.drop 16).take 16) ((O.drop 16).take 16) (by rw [List.length_take, List.length_drop, HK.out.1]; rfl) (by rw [List.length_take, List.length_drop, HO.out.1]; rfl) (bytes_take (bytes_drop HK.out.2.1 _) _) (bytes_take (bytes_drop HO.out.2.1 _) _) wx).mono ?_
              rintro e w' ⟨rfl, l⟩
              exact ⟨_, rfl, by rw [HA.out.2.2.2.2.2.2.2.1]; rfl, l⟩
            · intro ax wx hb hs hd
              have h33 : ax.tmps.getD 33 undef = (.agg (u8s D).toArray) := hd 2 33 rfl (by kernel_rfl) (by decide)
              have h38 : ax.tmps.getD 38 undef = (.agg (u8s D).toArray) := hd 7 38 rfl (by kernel_rfl) (by decide)
              refine Does.value _ ?_ rfl
              go_simp
          · intro wx hb
            refine @Ends.val _ _ _ _ _ _ _ _ _ (.agg (u8s A).toArray) rfl ?_
            refine @Ends.val _ _ _ _ _ _ _ _ _ (.agg (u8s B).toArray) rfl ?_
            refine @Ends.val _ _ _ _ _ _ _ _ _ (.agg (u8s D).toArray) rfl ?_
            refine @Ends.val _ _ _ _ _ _ _ _ _ (.agg (u8s key).toArray) rfl ?_
            refine @Ends.val _ _ _ _ _ _ _ _ _ (.agg (u8s ((key.drop 16).take 16)).toArray) rfl ?_
            refine @Ends.val _ _ _ _ _ _ _ _ _ (.agg (u8s O).toArray) rfl ?_
            refine @Ends.val _ _ _ _ _ _ _ _ _ (.agg (u8s ((O.drop 16).take 16)).toArray) rfl ?_
            refine @Ends.val _ _ _ _ _ _ _ _ _ (.agg (u8s D).toArray) rfl ?_
            refine @Ends.val _ _ _ _ _ _ _ _ _ (.bool true) rfl ?_
            refine @Ends.one _ _ _ _ _ _ _ ?_
            simp only [Act.put, List.setIfInBounds_toArray, List.set_cons_zero, List.set_cons_succ]
            refine last_assign (.tmp 39) rfl (some 6) rfl _ rfl ?_
            simp only [Act.put, List.setIfInBounds_toArray, List.set_cons_zero, List.set_cons_succ]
            have XB : Hid (Below w.heap.size w wx) := below_chain X2.out.2.2.1 hb X2.out.2.2.1.size
            clear hb
            go_wp2_with fail
            go_ret
            exact ⟨rfl, XB.out⟩
end Go.Proofs.Ytdnfkkndfdbefaa
